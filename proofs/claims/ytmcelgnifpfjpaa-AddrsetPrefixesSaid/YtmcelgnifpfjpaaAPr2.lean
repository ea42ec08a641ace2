/- Contracts of the functions, part 2: IntRVal, AdrMath, AdrObj, AdrNext, SetMath, Elems, AdqObj, AdrBit, AdrWith, AdrPfx. -/
import Derived.BigQuiet
import Derived.Below
import Derived.Laws.StructEq
import Derived.Deep.QuietTactic
import Derived.OwnWalk
import Derived.Deep.AppendLies
import Derived.Laws.OwnMore
import Derived.Laws.AppendOwnNone
import Derived.Maps.AppendAt
import Derived.Deep.RegionHeld3
import Derived.Test.YtmcelgnifpfjpaaAPr1
/- Sets of spans told by a test; contract of the reference of layer 5: Valid. -/
namespace Go.Proofs.Ytmcelgnifpfjpaa
open Go.ChangeShapes Go.WideShapes Go.ChangeAt Go.RowKit
set_option linter.unusedVariables false

/-- Where the next span may begin. -/
def nxt : Int → List Spn → Int
  | c, [] => c
  | _, s :: r => nxt (s.hi + 2) r
theorem nxt_snoc (s : Spn) : ∀ (l : List Spn) (c : Int), nxt c (l ++ [s]) = s.hi + 2
  | [], c => rfl
  | x :: r, c => nxt_snoc s r (x.hi + 2)
theorem okL_snoc {M : Int} (s : Spn) : ∀ (l : List Spn) (c : Int), okL M c (l ++ [s]) ↔ okL M c l ∧ nxt c l ≤ s.lo ∧ s.lo ≤ s.hi ∧ s.hi ≤ M
  | [], c => by simp [okL, nxt]
  | x :: r, c => by
    have ih := okL_snoc (M := M) s r (x.hi + 2)
    simp only [List.cons_append, okL, nxt, ih]
    constructor
    · rintro ⟨h1, h2, h3, h4, h5⟩; exact ⟨⟨h1, h2, h3, h4⟩, h5⟩
    · rintro ⟨⟨h1, h2, h3, h4⟩, h5⟩; exact ⟨h1, h2, h3, h4, h5⟩
theorem okL_front {M : Int} : ∀ (a b : List Spn) (c : Int), okL M c (a ++ b) → okL M c a
  | [], _, _, _ => trivial
  | x :: r, b, c, ⟨h1, h2, h3, h4⟩ => ⟨h1, h2, h3, okL_front r b _ h4⟩
/-- Is a list of spans a set? -/
def okB (M : Int) : Int → List Spn → Bool
  | _, [] => true
  | c, s :: r => decide (c ≤ s.lo) && decide (s.lo ≤ s.hi) && decide (s.hi ≤ M) && okB M (s.hi + 2) r
theorem okB_iff {M : Int} : ∀ (l : List Spn) (c : Int), okB M c l = true ↔ okL M c l
  | [], c => by simp [okB, okL]
  | s :: r, c => by
    have ih := okB_iff (M := M) r (s.hi + 2)
    simp only [okB, okL, Bool.and_eq_true, decide_eq_true_eq, ih]
    constructor
    · rintro ⟨⟨⟨h1, h2⟩, h3⟩, h4⟩; exact ⟨h1, h2, h3, h4⟩
    · rintro ⟨h1, h2, h3, h4⟩; exact ⟨⟨⟨h1, h2⟩, h3⟩, h4⟩
/-- One span further: the list falls, or goes on. -/
theorem okB_fall {M : Int} {l : List Spn} {k : Nat} {s : Spn} (hs : l[k]? = some s) (h : ¬ (nxt 0 (l.take k) ≤ s.lo ∧ s.lo ≤ s.hi ∧ s.hi ≤ M)) : okB M 0 l = false := by
  cases hb : okB M 0 l with
  | false => rfl
  | true =>
    exfalso
    rw [okB_iff] at hb
    obtain ⟨hk, e⟩ := List.getElem?_eq_some_iff.1 hs
    have e2 : l.take (k + 1) = l.take k ++ [s] := by rw [List.take_succ_eq_append_getElem hk, e]
    rw [← List.take_append_drop (k + 1) l] at hb
    have h2 := okL_front _ _ _ hb
    rw [e2, okL_snoc] at h2
    exact h h2.2
theorem okL_go {M : Int} {l : List Spn} {k : Nat} {s : Spn} (hs : l[k]? = some s) (h0 : okL M 0 (l.take k)) (h : nxt 0 (l.take k) ≤ s.lo ∧ s.lo ≤ s.hi ∧ s.hi ≤ M) : okL M 0 (l.take (k + 1)) := by
  obtain ⟨hk, e⟩ := List.getElem?_eq_some_iff.1 hs
  rw [List.take_succ_eq_append_getElem hk, e, okL_snoc]
  exact ⟨h0, h⟩
theorem nxt_take {l : List Spn} {k : Nat} {s : Spn} (hs : l[k]? = some s) (c : Int) : nxt c (l.take (k + 1)) = s.hi + 2 := by
  obtain ⟨hk, e⟩ := List.getElem?_eq_some_iff.1 hs
  rw [List.take_succ_eq_append_getElem hk, e, nxt_snoc]
theorem okL_hi {M : Int} {l : List Spn} {k : Nat} {s : Spn} (hs : l[k]? = some s) (h0 : okL M 0 (l.take (k + 1))) : 0 ≤ s.hi ∧ s.hi ≤ M := by
  obtain ⟨hk, e⟩ := List.getElem?_eq_some_iff.1 hs
  rw [List.take_succ_eq_append_getElem hk, e, okL_snoc] at h0
  have hin : anyS (l.take k ++ [s]) s.hi = true := by
    rw [anyS_append, Bool.or_eq_true]
    right
    simp [anyS, inS]
    omega
  have := okL_ge ((okL_snoc s _ 0).2 h0) hin
  omega

theorem nxt_pos {M : Int} : ∀ {l : List Spn} {c : Int}, 0 ≤ c → okL M c l → 0 ≤ nxt c l
  | [], _, h, _ => h
  | x :: r, _, h, ⟨h1, h2, _, h4⟩ => nxt_pos (c := x.hi + 2) (by omega) h4
theorem below_drewN5 {w w' : World} {B : Nat} (h : Below B w w') (q : Nat) : Below B w (w'.drewN q) := ⟨h.os, h.tape, h.output, h.size, h.block⟩

end Go.Proofs.Ytmcelgnifpfjpaa

/- Plain mathematics of the texts of addresses of layer 6: no Go in sight. -/
namespace Go.Proofs.Ytmcelgnifpfjpaa
set_option linter.unusedVariables false

abbrev By := List UInt8
/-- A digit's byte, in decimal and in hexadecimal. -/
def dig (n : Nat) : UInt8 := UInt8.ofNat (48 + n)
def hexd (n : Nat) : UInt8 := if n < 10 then UInt8.ofNat (48 + n) else UInt8.ofNat (87 + n)
/-- A number in decimal. -/
def numL (n : Nat) : By := if n ≤ 9 then [dig n] else numL (n / 10) ++ [dig (n % 10)]
termination_by n
decreasing_by omega
/-- A group in hexadecimal. -/
def hexL (n : Nat) : By := if n ≤ 15 then [hexd n] else hexL (n / 16) ++ [hexd (n % 16)]
termination_by n
decreasing_by omega
/-- The number that digits denote, no more than most + 1. -/
def decGo (most : Nat) : Nat → By → Option Nat
  | n, [] => some n
  | n, c :: r => if 48 ≤ c.toNat ∧ c.toNat ≤ 57 then decGo most (min (10 * n + (c.toNat - 48)) (most + 1)) r else none
/-- .. as the reference answers: -1: malformed, -2: too great. -/
def decS (most : Nat) (s : By) : Int :=
  if s.length = 0 ∨ (1 < s.length ∧ s.head? = some 48) then -1
  else match decGo most 0 s with
    | none => -1
    | some n => if most < n then -2 else n
/-- A text divided at a byte; cur: the piece under way. -/
def splitGo (c : UInt8) : By → By → List By
  | cur, [] => [cur]
  | cur, x :: r => if x = c then cur :: splitGo c [] r else splitGo c (cur ++ [x]) r
def splitL (c : UInt8) (s : By) : List By := splitGo c [] s
/-- A hexadecimal digit's value. -/
def hexV (c : UInt8) : Option Nat :=
  if 48 ≤ c.toNat ∧ c.toNat ≤ 57 then some (c.toNat - 48)
  else if 97 ≤ c.toNat ∧ c.toNat ≤ 102 then some (c.toNat - 87)
  else if 65 ≤ c.toNat ∧ c.toNat ≤ 70 then some (c.toNat - 55) else none
def hexGo : Nat → By → Option Nat
  | n, [] => some n
  | n, c :: r => match hexV c with
    | some d => hexGo (16 * n + d) r
    | none => none
def grpS (s : By) : Option Nat := if s.length < 1 ∨ 4 < s.length then none else hexGo 0 s
def grpAll : List By → Option (List Nat)
  | [] => some []
  | s :: r => match grpS s with
    | none => none
    | some n => (grpAll r).map (n :: ·)
def groupsS (s : By) : Option (List Nat) := if s = [] then some [] else grpAll (splitL 58 s)
/-- A text divided at its first two colons. -/
def cutGap : By → Option (By × By)
  | [] => none
  | [_] => none
  | x :: y :: r => if x = 58 ∧ y = 58 then some ([], r) else (cutGap (y :: r)).map fun p => (x :: p.1, p.2)
/-- The eight groups of a text. -/
def parse6 (s : By) : Option (List Nat) :=
  match cutGap s with
  | none => match groupsS s with
    | some x => if x.length = 8 then some x else none
    | none => none
  | some (a, b) => match groupsS a, groupsS b with
    | some x, some y => if x.length + y.length ≤ 7 then some (x ++ List.replicate (8 - (x.length + y.length)) 0 ++ y) else none
    | _, _ => none
/-- The four bytes of a text. -/
def decAll : List By → Option (List Nat)
  | [] => some []
  | s :: r => match decS 255 s with
    | .ofNat n => (decAll r).map (n :: ·)
    | _ => none
def parse4 (s : By) : Option (List Nat) := if (splitL 46 s).length = 4 then decAll (splitL 46 s) else none
/-- A number out of its digits to a base. -/
def ofDigits (b : Nat) (l : List Nat) : Nat := l.foldl (fun n d => n * b + d) 0
/-- An address: its family, and its number of 32 or 128 bits. -/
structure Adr where
  v6 : Bool
  n : Nat
def width (v6 : Bool) : Nat := if v6 then 128 else 32
def Adr.ok (a : Adr) : Prop := a.n < 2 ^ width a.v6
def parseS (s : By) : Option Adr :=
  match parse4 s with
  | some l => some ⟨false, ofDigits 256 l⟩
  | none => match parse6 s with
    | some l => some ⟨true, ofDigits 65536 l⟩
    | none => none
/-- The digits of a number to a base, k of them. -/
def digitsOf (b n : Nat) : Nat → List Nat
  | 0 => []
  | k + 1 => digitsOf b (n / b) k ++ [n % b]
/-- Pieces with a byte between them. -/
def joinC (c : UInt8) : List By → By
  | [] => []
  | [p] => p
  | p :: q :: r => p ++ c :: joinC c (q :: r)
/-- How many zeros a list begins with. -/
def zeros : List Nat → Nat
  | 0 :: r => zeros r + 1
  | _ => 0
/-- The first longest run of zeros, of two or more: where it begins, how long it is. i: the index of the list's head; at, most: the best so far. -/
def bestGo : List Nat → Nat → Option Nat → Nat → Option Nat × Nat
  | [], _, at_, most => (at_, most)
  | x :: r, i, at_, most => if most < zeros (x :: r) then bestGo r (i + 1) (some i) (zeros (x :: r)) else bestGo r (i + 1) at_ most
def best (l : List Nat) : Option Nat × Nat := bestGo l 0 none 1
def fmt6 (l : List Nat) : By :=
  match best l with
  | (none, _) => joinC 58 (l.map hexL)
  | (some k, m) => joinC 58 ((l.take k).map hexL) ++ [58, 58] ++ joinC 58 ((l.drop (k + m)).map hexL)
def fmt4 (l : List Nat) : By := joinC 46 (l.map numL)
def fmtS (a : Adr) : By := if a.v6 then fmt6 (digitsOf 65536 a.n 8) else fmt4 (digitsOf 256 a.n 4)

/-! ### Decimal -/
theorem dig_toNat {n : Nat} (h : n ≤ 9) : (dig n).toNat = 48 + n := by
  unfold dig
  rw [UInt8.toNat_ofNat']
  omega
theorem decGo_append (most : Nat) : ∀ (a : By) (n : Nat) (b : By), decGo most n (a ++ b) = (decGo most n a).bind fun m => decGo most m b
  | [], n, b => rfl
  | c :: r, n, b => by
    rw [List.cons_append, decGo, decGo]
    split
    · exact decGo_append most r _ b
    · rfl
theorem decGo_num {most : Nat} : ∀ (n : Nat), n ≤ most → decGo most 0 (numL n) = some n := by
  intro n
  induction n using Nat.strongRecOn with
  | _ n ih =>
    intro h
    rw [numL]
    split
    · rename_i h9
      rw [decGo, dig_toNat h9, if_pos (by omega), decGo]
      congr 1
      omega
    · rw [decGo_append, ih (n / 10) (by omega) (by omega), Option.bind_some, decGo, dig_toNat (by omega), if_pos (by omega), decGo]
      congr 1
      omega
theorem num_ne (n : Nat) : 0 < (numL n).length := by
  rw [numL]
  split <;> simp
theorem num_head : ∀ (n : Nat), (numL n).head? = some 48 → n = 0 := by
  intro n
  induction n using Nat.strongRecOn with
  | _ n ih =>
    intro h
    rw [numL] at h
    split at h
    · rename_i h9
      simp only [List.head?_cons, Option.some.injEq] at h
      have h2 := congrArg UInt8.toNat h
      rw [dig_toNat h9] at h2
      simp at h2
      omega
    · have h2 : (numL (n / 10)).head? = some 48 := by
        have hp := num_ne (n / 10)
        cases hq : numL (n / 10) with
        | nil => rw [hq] at hp; simp at hp
        | cons y r => rw [hq] at h; simpa using h
      have := ih (n / 10) (by omega) h2
      omega
theorem num_zero : numL 0 = [48] := by rw [numL]; rfl
theorem decS_num {most n : Nat} (h : n ≤ most) : decS most (numL n) = n := by
  unfold decS
  rw [if_neg, decGo_num n h]
  · show (if most < n then (-2 : Int) else n) = n
    rw [if_neg (by omega)]
  · rintro (h1 | ⟨h1, h2⟩)
    · have := num_ne n; omega
    · have := num_head n h2
      subst this
      rw [num_zero] at h1
      simp at h1
theorem num_digits : ∀ (n : Nat), ∀ c ∈ numL n, 48 ≤ c.toNat ∧ c.toNat ≤ 57 := by
  intro n
  induction n using Nat.strongRecOn with
  | _ n ih =>
    intro c hc
    rw [numL] at hc
    split at hc
    · rename_i h9
      simp only [List.mem_singleton] at hc
      subst hc
      rw [dig_toNat h9]; omega
    · rw [List.mem_append] at hc
      rcases hc with hc | hc
      · exact ih (n / 10) (by omega) c hc
      · simp only [List.mem_singleton] at hc
        subst hc
        rw [dig_toNat (by omega)]; omega
theorem num_len {n : Nat} (h : n < 1000) : (numL n).length ≤ 3 := by
  rw [numL]
  split
  · simp
  · rw [numL]
    split
    · simp
    · rw [numL, if_pos (by omega)]; simp

theorem num_len_pow : ∀ (k n : Nat), n < 10 ^ (k + 1) → (numL n).length ≤ k + 1
  | 0, n, h => by rw [numL, if_pos (by omega)]; simp
  | k + 1, n, h => by
    rw [numL]
    split
    · simp
    · have := num_len_pow k (n / 10) (by rw [Nat.pow_succ] at h; omega)
      rw [List.length_append]; simp; omega

/-! ### Hexadecimal -/
theorem hexd_toNat {n : Nat} (h : n ≤ 15) : (hexd n).toNat = if n < 10 then 48 + n else 87 + n := by
  unfold hexd
  split <;> (rw [UInt8.toNat_ofNat']; omega)
theorem hexV_hexd {n : Nat} (h : n ≤ 15) : hexV (hexd n) = some n := by
  unfold hexV
  rw [hexd_toNat h]
  by_cases h9 : n < 10
  · rw [if_pos h9, if_pos (by omega)]
    congr 1; omega
  · rw [if_neg h9, if_neg (by omega), if_pos (by omega)]
    congr 1; omega
theorem hexGo_append : ∀ (a : By) (n : Nat) (b : By), hexGo n (a ++ b) = (hexGo n a).bind fun m => hexGo m b
  | [], n, b => rfl
  | c :: r, n, b => by
    rw [List.cons_append, hexGo, hexGo]
    cases hexV c with
    | none => rfl
    | some d => exact hexGo_append r _ b
theorem hexGo_hex : ∀ (n : Nat), hexGo 0 (hexL n) = some n := by
  intro n
  induction n using Nat.strongRecOn with
  | _ n ih =>
    rw [hexL]
    split
    · rename_i h
      rw [hexGo, hexV_hexd h]
      show hexGo _ [] = _
      rw [hexGo]; congr 1; omega
    · rw [hexGo_append, ih (n / 16) (by omega), Option.bind_some, hexGo, hexV_hexd (by omega)]
      show hexGo _ [] = _
      rw [hexGo]; congr 1; omega
theorem hex_ne (n : Nat) : 0 < (hexL n).length := by
  rw [hexL]
  split <;> simp
theorem hex_len {n : Nat} (h : n < 65536) : (hexL n).length ≤ 4 := by
  rw [hexL]
  split
  · simp
  · rw [hexL]
    split
    · simp
    · rw [hexL]
      split
      · simp
      · rw [hexL, if_pos (by omega)]; simp
theorem grpS_hex {n : Nat} (h : n < 65536) : grpS (hexL n) = some n := by
  unfold grpS
  rw [if_neg (by have := hex_ne n; have := hex_len h; omega), hexGo_hex]
/-- A hexadecimal digit is neither a point, nor a stroke, nor a colon. -/
theorem hex_digits : ∀ (n : Nat), ∀ c ∈ hexL n, (48 ≤ c.toNat ∧ c.toNat ≤ 57) ∨ (97 ≤ c.toNat ∧ c.toNat ≤ 102) := by
  intro n
  induction n using Nat.strongRecOn with
  | _ n ih =>
    intro c hc
    have key : ∀ d, d ≤ 15 → (48 ≤ (hexd d).toNat ∧ (hexd d).toNat ≤ 57) ∨ (97 ≤ (hexd d).toNat ∧ (hexd d).toNat ≤ 102) := fun d hd => by
      rw [hexd_toNat hd]
      split <;> omega
    rw [hexL] at hc
    split at hc
    · rename_i h9
      simp only [List.mem_singleton] at hc
      subst hc
      exact key _ h9
    · rw [List.mem_append] at hc
      rcases hc with hc | hc
      · exact ih (n / 16) (by omega) c hc
      · simp only [List.mem_singleton] at hc
        subst hc
        exact key _ (by omega)

theorem hex_len_pow : ∀ (k n : Nat), n < 16 ^ (k + 1) → (hexL n).length ≤ k + 1
  | 0, n, h => by rw [hexL, if_pos (by omega)]; simp
  | k + 1, n, h => by
    rw [hexL]
    split
    · simp
    · have := hex_len_pow k (n / 16) (by rw [Nat.pow_succ] at h; omega)
      rw [List.length_append]; simp; omega

/-! ### Dividing and joining -/
theorem splitGo_none {c : UInt8} : ∀ (p cur : By), (∀ x ∈ p, x ≠ c) → splitGo c cur p = [cur ++ p]
  | [], cur, _ => by simp [splitGo]
  | x :: r, cur, h => by
    rw [splitGo, if_neg (h x (by simp)), splitGo_none r _ (fun y hy => h y (by simp [hy]))]
    simp
theorem splitGo_at {c : UInt8} : ∀ (p cur r : By), (∀ x ∈ p, x ≠ c) → splitGo c cur (p ++ c :: r) = (cur ++ p) :: splitGo c [] r
  | [], cur, r, _ => by simp [splitGo]
  | x :: q, cur, r, h => by
    rw [List.cons_append, splitGo, if_neg (h x (by simp)), splitGo_at q _ r (fun y hy => h y (by simp [hy]))]
    simp
theorem split_join {c : UInt8} : ∀ (l : List By), l ≠ [] → (∀ p ∈ l, ∀ x ∈ p, x ≠ c) → splitL c (joinC c l) = l
  | [], h, _ => absurd rfl h
  | [p], _, h => by
    show splitGo c [] p = [p]
    rw [splitGo_none p [] (h p (by simp))]; rfl
  | p :: q :: r, _, h => by
    have ih := split_join (q :: r) (by simp) (fun y hy => h y (by simp only [List.mem_cons] at hy ⊢; exact .inr hy))
    show splitGo c [] (p ++ c :: joinC c (q :: r)) = _
    rw [splitGo_at p [] _ (h p (by simp))]
    unfold splitL at ih
    rw [ih]; rfl
theorem join_mem {c : UInt8} : ∀ (l : List By) (x : UInt8), x ∈ joinC c l → x = c ∨ ∃ p ∈ l, x ∈ p
  | [], x, h => by simp [joinC] at h
  | [p], x, h => .inr ⟨p, by simp, h⟩
  | p :: q :: r, x, h => by
    rw [joinC, List.mem_append, List.mem_cons] at h
    rcases h with h | h | h
    · exact .inr ⟨p, by simp, h⟩
    · exact .inl h
    · rcases join_mem (q :: r) x h with h | ⟨y, hy, h⟩
      · exact .inl h
      · exact .inr ⟨y, by simp only [List.mem_cons] at hy ⊢; exact .inr hy, h⟩

/-! ### The text of an IPv4 address -/
theorem decAll_num : ∀ (l : List Nat), (∀ n ∈ l, n ≤ 255) → decAll (l.map numL) = some l
  | [], _ => rfl
  | n :: r, h => by
    rw [List.map_cons, decAll, decS_num (h n (by simp))]
    show (decAll (r.map numL)).map (n :: ·) = _
    rw [decAll_num r (fun m hm => h m (by simp [hm]))]
    rfl
theorem num_no {c : UInt8} (hc : c.toNat < 48) {n : Nat} : ∀ x ∈ numL n, x ≠ c := fun x hx e => by
  have := num_digits n x hx
  rw [e] at this
  omega
theorem parse4_fmt4 {l : List Nat} (hl : l.length = 4) (h : ∀ n ∈ l, n ≤ 255) : parse4 (fmt4 l) = some l := by
  unfold parse4 fmt4
  have hs : splitL 46 (joinC 46 (l.map numL)) = l.map numL := split_join _ (by intro e; have := congrArg List.length e; simp [hl] at this) (fun p hp => by
    obtain ⟨n, _, rfl⟩ := List.mem_map.1 hp
    exact num_no (by decide))
  rw [hs, if_pos (by simp [hl]), decAll_num l h]
theorem digitsOf_len (b : Nat) : ∀ (k n : Nat), (digitsOf b n k).length = k
  | 0, n => rfl
  | k + 1, n => by rw [digitsOf, List.length_append, digitsOf_len b k]; rfl
theorem digitsOf_lt {b : Nat} (hb : 0 < b) : ∀ (k n : Nat), ∀ d ∈ digitsOf b n k, d < b
  | 0, n, d, h => by simp [digitsOf] at h
  | k + 1, n, d, h => by
    rw [digitsOf, List.mem_append] at h
    rcases h with h | h
    · exact digitsOf_lt hb k _ d h
    · simp only [List.mem_singleton] at h
      subst h
      exact Nat.mod_lt _ hb
theorem ofDigits_snoc (b : Nat) (l : List Nat) (d : Nat) : ofDigits b (l ++ [d]) = ofDigits b l * b + d := by
  unfold ofDigits
  rw [List.foldl_append]; rfl
theorem ofDigits_of {b : Nat} (hb : 0 < b) : ∀ (k n : Nat), n < b ^ k → ofDigits b (digitsOf b n k) = n
  | 0, n, h => by
    have : n = 0 := by simpa using h
    subst this
    rfl
  | k + 1, n, h => by
    rw [digitsOf, ofDigits_snoc, ofDigits_of hb k (n / b) (by rw [Nat.div_lt_iff_lt_mul hb]; rwa [Nat.pow_succ] at h)]
    exact Nat.div_add_mod' n b

/-! ### The text of an IPv6 address -/
theorem grpAll_hex : ∀ (l : List Nat), (∀ n ∈ l, n < 65536) → grpAll (l.map hexL) = some l
  | [], _ => rfl
  | n :: r, h => by
    rw [List.map_cons, grpAll, grpS_hex (h n (by simp))]
    show (grpAll (r.map hexL)).map (n :: ·) = _
    rw [grpAll_hex r (fun m hm => h m (by simp [hm]))]
    rfl
theorem hex_no {c : UInt8} (hc : c.toNat < 48 ∨ c.toNat = 58) {n : Nat} : ∀ x ∈ hexL n, x ≠ c := fun x hx e => by
  have := hex_digits n x hx
  rw [e] at this
  omega
theorem groups_join {l : List Nat} (h : ∀ n ∈ l, n < 65536) : groupsS (joinC 58 (l.map hexL)) = some l := by
  unfold groupsS
  cases l with
  | nil => rfl
  | cons n r =>
    have hne : joinC 58 ((n :: r).map hexL) ≠ [] := by
      intro e
      have hp := hex_ne n
      cases r with
      | nil =>
        have : hexL n = [] := e
        rw [this] at hp; simp at hp
      | cons m q =>
        have : hexL n ++ 58 :: joinC 58 ((m :: q).map hexL) = [] := e
        simp at this
    rw [if_neg hne, split_join _ (by simp) (fun p hp => by
      obtain ⟨m, _, rfl⟩ := List.mem_map.1 hp
      exact hex_no (.inr rfl)), grpAll_hex _ h]
/-- No text that ends with a digit, and has no two colons, is cut before its end. -/
def noGap : By → Prop
  | [] => True
  | [x] => x ≠ 58
  | x :: y :: r => ¬ (x = 58 ∧ y = 58) ∧ noGap (y :: r)
theorem cut_none : ∀ (s : By), noGap s → cutGap s = none
  | [], _ => rfl
  | [x], _ => rfl
  | x :: y :: r, h => by
    rw [cutGap, if_neg h.1, cut_none (y :: r) h.2]; rfl
theorem cut_some : ∀ (s r : By), noGap s → cutGap (s ++ 58 :: 58 :: r) = some (s, r)
  | [], r, _ => by simp [cutGap]
  | [x], r, h => by
    show cutGap (x :: 58 :: 58 :: r) = _
    rw [cutGap, if_neg (fun e => h e.1)]
    simp [cutGap]
  | x :: y :: q, r, h => by
    have ih := cut_some (y :: q) r h.2
    show cutGap (x :: y :: (q ++ 58 :: 58 :: r)) = _
    rw [cutGap, if_neg h.1]
    have ih' : cutGap (y :: (q ++ 58 :: 58 :: r)) = some (y :: q, r) := ih
    rw [ih']; rfl
theorem noGap_hex : ∀ (p q : By), 0 < p.length → (∀ x ∈ p, x ≠ 58) → (q = [] ∨ ∃ y r, q = 58 :: y :: r ∧ y ≠ 58 ∧ noGap (y :: r)) → noGap (p ++ q)
  | [], _, h, _, _ => by simp at h
  | [x], q, _, h, hq => by
    have hx := h x (by simp)
    rcases hq with rfl | ⟨y, r, rfl, hy, hn⟩
    · exact hx
    · exact ⟨fun e => hx e.1, fun e => hy e.2, hn⟩
  | x :: y :: r, q, _, h, hq => by
    have ih := noGap_hex (y :: r) q (by simp) (fun z hz => h z (by simp only [List.mem_cons] at hz ⊢; exact .inr hz)) hq
    exact ⟨fun e => h x (by simp) e.1, ih⟩
theorem noGap_join : ∀ (l : List Nat), noGap (joinC 58 (l.map hexL))
  | [] => trivial
  | [n] => by
    have := noGap_hex (hexL n) [] (hex_ne n) (hex_no (.inr rfl)) (.inl rfl)
    simpa [joinC] using this
  | n :: m :: r => by
    have ih := noGap_join (m :: r)
    show noGap (hexL n ++ 58 :: joinC 58 ((m :: r).map hexL))
    refine noGap_hex (hexL n) _ (hex_ne n) (hex_no (.inr rfl)) (.inr ?_)
    have hp := hex_ne m
    cases hq : hexL m with
    | nil => rw [hq] at hp; simp at hp
    | cons y z =>
      have hy : y ≠ 58 := hex_no (.inr rfl) (n := m) y (by rw [hq]; simp)
      cases r with
      | nil =>
        have e : joinC 58 ([m].map hexL) = y :: z := by show hexL m = _; exact hq
        rw [e] at ih ⊢
        exact ⟨y, z, rfl, hy, ih⟩
      | cons k w =>
        have e : joinC 58 ((m :: k :: w).map hexL) = y :: (z ++ 58 :: joinC 58 ((k :: w).map hexL)) := by show hexL m ++ _ = _; rw [hq]; rfl
        rw [e] at ih ⊢
        exact ⟨y, _, rfl, hy, ih⟩
theorem zeros_le : ∀ l : List Nat, zeros l ≤ l.length
  | [] => Nat.le_refl _
  | 0 :: r => by rw [zeros]; have := zeros_le r; simp; omega
  | (n + 1) :: r => by simp [zeros]
theorem zeros_spec : ∀ l : List Nat, l = List.replicate (zeros l) 0 ++ l.drop (zeros l)
  | [] => rfl
  | 0 :: r => by
    rw [zeros, List.replicate_succ, List.cons_append, List.drop_succ_cons, ← zeros_spec r]
  | (n + 1) :: r => by simp [zeros]
theorem bestGo_spec : ∀ (l : List Nat) (i : Nat) (at_ : Option Nat) (most : Nat), bestGo l i at_ most = (at_, most) ∨ ∃ j, j < l.length ∧ (bestGo l i at_ most).1 = some (i + j) ∧ (bestGo l i at_ most).2 = zeros (l.drop j) ∧ most < (bestGo l i at_ most).2
  | [], i, at_, most => .inl rfl
  | x :: r, i, at_, most => by
    rw [bestGo]
    split
    · rename_i h
      rcases bestGo_spec r (i + 1) (some i) (zeros (x :: r)) with h1 | ⟨j, h1, h2, h3, h4⟩
      · rw [h1]
        exact .inr ⟨0, by simp, by simp, rfl, h⟩
      · exact .inr ⟨j + 1, by simp; omega, by rw [h2]; congr 1; omega, by rw [h3]; rfl, by omega⟩
    · rcases bestGo_spec r (i + 1) at_ most with h1 | ⟨j, h1, h2, h3, h4⟩
      · exact .inl h1
      · exact .inr ⟨j + 1, by simp; omega, by rw [h2]; congr 1; omega, by rw [h3]; rfl, h4⟩
/-- What is left out: two or more zeros that stand there. -/
theorem best_spec (l : List Nat) : best l = (none, 1) ∨ ∃ k m, best l = (some k, m) ∧ 2 ≤ m ∧ k + m ≤ l.length ∧ l = l.take k ++ List.replicate m 0 ++ l.drop (k + m) := by
  rcases bestGo_spec l 0 none 1 with h | ⟨j, h1, h2, h3, h4⟩
  · exact .inl h
  · right
    have hz := zeros_spec (l.drop j)
    have hl := zeros_le (l.drop j)
    rw [List.length_drop] at hl
    refine ⟨j, zeros (l.drop j), ?_, by rw [h3] at h4; omega, by omega, ?_⟩
    · rw [Nat.zero_add] at h2
      show bestGo l 0 none 1 = _
      rw [← h3, ← h2]
    · rw [List.drop_drop] at hz
      rw [List.append_assoc, ← hz, List.take_append_drop]
theorem parse6_fmt6 {l : List Nat} (hl : l.length = 8) (h : ∀ n ∈ l, n < 65536) : parse6 (fmt6 l) = some l := by
  unfold fmt6
  rcases best_spec l with hb | ⟨k, m, hb, hm, hkm, hsp⟩
  · rw [hb]
    show parse6 (joinC 58 (l.map hexL)) = _
    unfold parse6
    rw [cut_none _ (noGap_join l), groups_join h]
    show (if l.length = 8 then some l else none) = _
    rw [if_pos hl]
  · rw [hb]
    show parse6 (joinC 58 ((l.take k).map hexL) ++ [58, 58] ++ joinC 58 ((l.drop (k + m)).map hexL)) = _
    unfold parse6
    rw [List.append_assoc]
    show (match cutGap (joinC 58 ((l.take k).map hexL) ++ 58 :: 58 :: joinC 58 ((l.drop (k + m)).map hexL)) with
      | none => _
      | some (a, b) => _) = _
    rw [cut_some _ _ (noGap_join _)]
    show (match groupsS (joinC 58 ((l.take k).map hexL)), groupsS (joinC 58 ((l.drop (k + m)).map hexL)) with
      | some x, some y => if x.length + y.length ≤ 7 then some (x ++ List.replicate (8 - (x.length + y.length)) 0 ++ y) else none
      | _, _ => none) = _
    rw [groups_join (fun n hn => h n (List.mem_of_mem_take hn)), groups_join (fun n hn => h n (List.mem_of_mem_drop hn))]
    show (if (l.take k).length + (l.drop (k + m)).length ≤ 7 then some (l.take k ++ List.replicate (8 - ((l.take k).length + (l.drop (k + m)).length)) 0 ++ l.drop (k + m)) else none) = _
    have e1 : (l.take k).length + (l.drop (k + m)).length = 8 - m := by
      rw [List.length_take, List.length_drop]; omega
    rw [e1, if_pos (by omega), show 8 - (8 - m) = m by omega, ← hsp]
theorem fmt6_mem (l : List Nat) (c : UInt8) (hc : c ∈ fmt6 l) : c = 58 ∨ (48 ≤ c.toNat ∧ c.toNat ≤ 57) ∨ (97 ≤ c.toNat ∧ c.toNat ≤ 102) := by
  have key : ∀ q : List Nat, c ∈ joinC 58 (q.map hexL) → c = 58 ∨ (48 ≤ c.toNat ∧ c.toNat ≤ 57) ∨ (97 ≤ c.toNat ∧ c.toNat ≤ 102) := fun q hq => by
    rcases join_mem _ _ hq with h | ⟨p, hp, h⟩
    · exact .inl h
    · obtain ⟨n, _, rfl⟩ := List.mem_map.1 hp
      exact .inr (hex_digits n c h)
  unfold fmt6 at hc
  split at hc
  · exact key _ hc
  · rw [List.mem_append, List.mem_append] at hc
    rcases hc with (hc | hc) | hc
    · exact key _ hc
    · simp at hc
      exact .inl hc
    · exact key _ hc
theorem fmt4_mem (l : List Nat) (c : UInt8) (hc : c ∈ fmt4 l) : c = 46 ∨ (48 ≤ c.toNat ∧ c.toNat ≤ 57) := by
  unfold fmt4 at hc
  rcases join_mem _ _ hc with h | ⟨p, hp, h⟩
  · exact .inl h
  · obtain ⟨n, _, rfl⟩ := List.mem_map.1 hp
    exact .inr (num_digits n c h)
theorem parse4_no (s : By) (h : ∀ x ∈ s, x ≠ 46) : parse4 s = none := by
  unfold parse4 splitL
  rw [splitGo_none s [] h]
  simp
/-- PARSING A PRINTED ADDRESS RETURNS IT. -/
theorem parse_fmt {a : Adr} (h : a.ok) : parseS (fmtS a) = some a := by
  obtain ⟨v6, n⟩ := a
  cases v6 with
  | false =>
    have hn : n < 256 ^ 4 := by
      have : n < 2 ^ width false := h
      simpa [width] using this
    show parseS (fmt4 (digitsOf 256 n 4)) = _
    unfold parseS
    rw [parse4_fmt4 (digitsOf_len _ _ _) (fun d hd => by have := digitsOf_lt (by omega) 4 n d hd; omega)]
    show some (Adr.mk false (ofDigits 256 (digitsOf 256 n 4))) = _
    rw [ofDigits_of (by omega) 4 n hn]
  | true =>
    have hn : n < 65536 ^ 8 := by
      have : n < 2 ^ width true := h
      simpa [width] using this
    show parseS (fmt6 (digitsOf 65536 n 8)) = _
    unfold parseS
    rw [parse4_no _ (fun x hx e => by
      subst e
      rcases fmt6_mem _ _ hx with h | h | h
      · exact absurd h (by decide)
      · exact absurd h.1 (by decide)
      · exact absurd h.1 (by decide)), parse6_fmt6 (digitsOf_len _ _ _) (digitsOf_lt (by omega) 8 n)]
    show some (Adr.mk true (ofDigits 65536 (digitsOf 65536 n 8))) = _
    rw [ofDigits_of (by omega) 8 n hn]
theorem join_len (c : UInt8) (k : Nat) : ∀ l : List By, (∀ p ∈ l, p.length ≤ k) → (joinC c l).length ≤ l.length * (k + 1)
  | [], _ => by simp [joinC]
  | [p], h => by have := h p (by simp); simp [joinC]; omega
  | p :: q :: r, h => by
    have ih := join_len c k (q :: r) (fun y hy => h y (by simp only [List.mem_cons] at hy ⊢; exact .inr hy))
    have := h p (by simp)
    rw [joinC, List.length_append, List.length_cons]
    simp only [List.length_cons] at ih ⊢
    rw [Nat.add_mul (r.length + 1) 1]
    omega
/-- No text of an address is longer than 42 bytes. -/
theorem fmt_len {a : Adr} (h : a.ok) : (fmtS a).length ≤ 42 := by
  obtain ⟨v6, n⟩ := a
  cases v6 with
  | false =>
    show (fmt4 (digitsOf 256 n 4)).length ≤ 42
    unfold fmt4
    have := join_len 46 3 ((digitsOf 256 n 4).map numL) (fun p hp => by
      obtain ⟨d, hd, rfl⟩ := List.mem_map.1 hp
      exact num_len (by have := digitsOf_lt (by omega) 4 n d hd; omega))
    rw [List.length_map, digitsOf_len] at this
    omega
  | true =>
    show (fmt6 (digitsOf 65536 n 8)).length ≤ 42
    have hl := digitsOf_len 65536 8 n
    have hd := digitsOf_lt (b := 65536) (by omega) 8 n
    generalize digitsOf 65536 n 8 = l at *
    have key : ∀ q : List Nat, (∀ d ∈ q, d < 65536) → (joinC 58 (q.map hexL)).length ≤ q.length * 5 := fun q hq => by
      have := join_len 58 4 (q.map hexL) (fun p hp => by
        obtain ⟨d, hd, rfl⟩ := List.mem_map.1 hp
        exact hex_len (hq d hd))
      rwa [List.length_map] at this
    unfold fmt6
    split
    · have := key l hd
      omega
    · rename_i k m _
      have h1 := key (l.take k) (fun d hd' => hd d (List.mem_of_mem_take hd'))
      have h2 := key (l.drop (k + m)) (fun d hd' => hd d (List.mem_of_mem_drop hd'))
      rw [List.length_take] at h1
      rw [List.length_drop] at h2
      rw [List.length_append, List.length_append]
      simp only [List.length_cons, List.length_nil]
      omega

/-! ### Prefixes -/
structure Pfx where
  a : Adr
  bits : Nat
/-- The first bits of a number of w bits, the others 0; the others 1. -/
def cutN (w bits n : Nat) : Nat := n / 2 ^ (w - bits) * 2 ^ (w - bits)
def fillN (w bits n : Nat) : Nat := cutN w bits n + (2 ^ (w - bits) - 1)
def Pfx.ok (p : Pfx) : Prop := p.a.ok ∧ p.bits ≤ width p.a.v6 ∧ cutN (width p.a.v6) p.bits p.a.n = p.a.n
def fmtP (p : Pfx) : By := fmtS p.a ++ 47 :: numL p.bits
/-- What a text of a prefix denotes: the address ahead of the first stroke, and the number behind it (-1, -2 as decS has it). -/
def cutAt (c : UInt8) : By → By × Option By
  | [] => ([], none)
  | x :: r => if x = c then ([], some r) else ((x :: (cutAt c r).1), (cutAt c r).2)
theorem cutAt_at {c : UInt8} : ∀ (p r : By), (∀ x ∈ p, x ≠ c) → cutAt c (p ++ c :: r) = (p, some r)
  | [], r, _ => by simp [cutAt]
  | x :: q, r, h => by
    rw [List.cons_append, cutAt, if_neg (h x (by simp)), cutAt_at q r (fun y hy => h y (by simp [hy]))]
theorem fmt_no47 (a : Adr) : ∀ x ∈ fmtS a, x ≠ 47 := fun x hx e => by
  subst e
  unfold fmtS at hx
  split at hx
  · rcases fmt6_mem _ _ hx with h | h | h
    · exact absurd h (by decide)
    · exact absurd h.1 (by decide)
    · exact absurd h.1 (by decide)
  · rcases fmt4_mem _ _ hx with h | h
    · exact absurd h (by decide)
    · exact absurd h.1 (by decide)
theorem cut_fmtP (p : Pfx) : cutAt 47 (fmtP p) = (fmtS p.a, some (numL p.bits)) := cutAt_at _ _ (fmt_no47 p.a)
theorem fmtP_len {p : Pfx} (h : p.ok) : (fmtP p).length ≤ 64 := by
  have h1 := fmt_len h.1
  have h2 : (numL p.bits).length ≤ 3 := num_len (by
    have := h.2.1
    unfold width at this
    split at this <;> omega)
  unfold fmtP
  rw [List.length_append, List.length_cons]
  omega
theorem cutN_le (w bits n : Nat) : cutN w bits n ≤ n := Nat.div_mul_le_self _ _
theorem cutN_cutN (w bits n : Nat) : cutN w bits (cutN w bits n) = cutN w bits n := by
  unfold cutN
  rw [Nat.mul_div_cancel _ (Nat.two_pow_pos _)]
theorem fillN_lt {w bits n : Nat} (hb : bits ≤ w) (h : n < 2 ^ w) : fillN w bits n < 2 ^ w := by
  unfold fillN cutN
  have h2 : 2 ^ w = 2 ^ bits * 2 ^ (w - bits) := by rw [← Nat.pow_add]; congr 1; omega
  have h3 := Nat.two_pow_pos (w - bits)
  have h4 : n / 2 ^ (w - bits) < 2 ^ bits := by rw [Nat.div_lt_iff_lt_mul h3, ← h2]; exact h
  have h5 := Nat.mul_le_mul_right (2 ^ (w - bits)) (show n / 2 ^ (w - bits) + 1 ≤ 2 ^ bits from h4)
  rw [Nat.add_mul, Nat.one_mul] at h5
  omega
/-- A PREFIX CONTAINS EXACTLY WHAT LIES BETWEEN ITS BOUNDS. -/
theorem cutN_between {w bits n m : Nat} : cutN w bits m = cutN w bits n ↔ cutN w bits n ≤ m ∧ m ≤ fillN w bits n := by
  unfold fillN cutN
  have h3 := Nat.two_pow_pos (w - bits)
  generalize 2 ^ (w - bits) = b at *
  constructor
  · intro h
    have h1 := Nat.div_mul_le_self m b
    have h2 := Nat.lt_div_mul_add h3 (a := m)
    omega
  · rintro ⟨h1, h2⟩
    have e : m / b = n / b := by
      apply Nat.div_eq_of_lt_le
      · exact h1
      · rw [Nat.add_mul, Nat.one_mul]; omega
    rw [e]
end Go.Proofs.Ytmcelgnifpfjpaa

/- Addresses in memory; contracts of the reference of layer 6: Valid, Width, Compare, Next, Previous. -/
namespace Go.Proofs.Ytmcelgnifpfjpaa
open Go.ChangeShapes Go.WideShapes Go.ChangeAt Go.RowKit
set_option linter.unusedVariables false

theorem below_alloc6 (w : World) (o : Obj) : Below w.heap.size w (w.alloc o) := (Below.refl _ w).alloc (Nat.le_refl _) _
theorem alloc_lt6 (w : World) (o : Obj) : w.heap.size < (w.alloc o).heap.size := (Array.getElem?_eq_some_iff.1 (heap_alloc_new w o)).1
theorem below_drewN6 {w w' : World} {B : Nat} (h : Below B w w') (q : Nat) : Below B w (w'.drewN q) := ⟨h.os, h.tape, h.output, h.size, h.block⟩
/-- An address in a box. -/
def AB (w : World) (g : Nat) (v6 : Bool) (hi lo : Nat) : Prop := Cells w g 25 #[.bool v6, .int .u64 hi, .int .u64 lo]
theorem ab_new (w : World) (v6 : Bool) (hi lo : Nat) : AB (w.alloc (.cells #[.bool v6, .int .u64 hi, .int .u64 lo] 25)) w.heap.size v6 hi lo := heap_alloc_new w _
theorem AB.kept {w w' : World} {g B : Nat} {v6 : Bool} {hi lo : Nat} (h : AB w g v6 hi lo) (hb : Below B w w') (hg : g < B) : AB w' g v6 hi lo := (hb.block _ hg).trans h
theorem AB.lt {w : World} {g : Nat} {v6 : Bool} {hi lo : Nat} (h : AB w g v6 hi lo) : g < w.heap.size := Cells.lt h
theorem AB.c0 {w : World} {g : Nat} {v6 : Bool} {hi lo : Nat} (h : AB w g v6 hi lo) : w.cell? ⟨g, 0, none⟩ = some (.bool v6) := (Cells.cell h 0).trans rfl
theorem AB.c1 {w : World} {g : Nat} {v6 : Bool} {hi lo : Nat} (h : AB w g v6 hi lo) : w.cell? ⟨g, 1, none⟩ = some (.int .u64 hi) := (Cells.cell h 1).trans rfl
theorem AB.c2 {w : World} {g : Nat} {v6 : Bool} {hi lo : Nat} (h : AB w g v6 hi lo) : w.cell? ⟨g, 2, none⟩ = some (.int .u64 lo) := (Cells.cell h 2).trans rfl
theorem AB.f {w : World} {g : Nat} {v6 : Bool} {hi lo : Nat} (h : AB w g v6 hi lo) (i : Nat) : w.frozen? ⟨g, i, none⟩ = false := Cells.frozen h i
theorem addr_size : (Try.prog.info? 25).map (·.size) = some 3 := by kernel_rfl
theorem res_addr2 {fn : Func} {p u : Tmp} (h : fn.results = #[.cell p 25, .tmp u]) (tmps : Array Value) (w : World) {g : Nat} {v6 : Bool} {hi lo : Nat} (hp : tmps.getD p undef = .pointer (some ⟨g, 0, none⟩)) (ht : AB w g v6 hi lo) :
    (results fn tmps).run Try.prog w = .ok (.tuple #[.agg #[.bool v6, .int .u64 hi, .int .u64 lo], tmps.getD u undef]) w := by
  have hp' : tmps[p]?.getD undef = .pointer (some ⟨g, 0, none⟩) := by simpa using hp
  simp [results, h, hp', asAddr, run_loadVar_row w g 25 25 _ (0, 0) _ ht Try.underlying25 rfl addr_size]
theorem res_addr1 {fn : Func} {p : Tmp} (h : fn.results = #[.cell p 25]) (tmps : Array Value) (w : World) {g : Nat} {v6 : Bool} {hi lo : Nat} (hp : tmps.getD p undef = .pointer (some ⟨g, 0, none⟩)) (ht : AB w g v6 hi lo) :
    (results fn tmps).run Try.prog w = .ok (.agg #[.bool v6, .int .u64 hi, .int .u64 lo]) w := by
  have hp' : tmps[p]?.getD undef = .pointer (some ⟨g, 0, none⟩) := by simpa using hp
  simp [results, h, hp', asAddr, run_loadVar_row w g 25 25 _ (0, 0) _ ht Try.underlying25 rfl addr_size]
/-- '==' of two addresses. -/
theorem addr_guard : Try.prog.eqGuardType Try.prog.depth 25 = false := by kernel_rfl
theorem addr_eql (b b' : Bool) (h h' l l' : Int) (W : World) :
    (binOp .eql 25 (.agg #[.bool b, .int .u64 h, .int .u64 l]) (.agg #[.bool b', .int .u64 h', .int .u64 l'])).run Try.prog W = .ok (.bool (b == b' && (h == h' && l == l'))) W := by
  have u3 := Try.underlying23
  have a3 := Try.isAgg23
  have z3 := Try.sizeOf23
  have u9 := Try.underlying4
  have a9 := Try.isAgg4
  have z9 := Try.sizeOf4
  have hS : Try.prog.underlying 25 = some (.struct (Try.prog.fieldsOf 25)) := by kernel_rfl
  have hp : Try.prog.stoodInHeld 25 = false := by kernel_rfl
  rw [run_eql_struct, show (10000 : Nat) = 9999 + 1 from rfl, run_equalIn_agg W 9999 25 _ _ hS hp]
  simp only [Program.fieldsOf, Try.underlying25]
  go_simp
  cases h1 : (b == b') <;> cases h2 : (h == h') <;> cases h3 : (l == l') <;> simp_all
theorem addr_neq (b b' : Bool) (h h' l l' : Int) (W : World) :
    (binOp .neq 25 (.agg #[.bool b, .int .u64 h, .int .u64 l]) (.agg #[.bool b', .int .u64 h', .int .u64 l'])).run Try.prog W = .ok (.bool (!(b == b' && (h == h' && l == l')))) W := by
  have u3 := Try.underlying23
  have a3 := Try.isAgg23
  have z3 := Try.sizeOf23
  have u9 := Try.underlying4
  have a9 := Try.isAgg4
  have z9 := Try.sizeOf4
  have hS : Try.prog.underlying 25 = some (.struct (Try.prog.fieldsOf 25)) := by kernel_rfl
  have hp : Try.prog.stoodInHeld 25 = false := by kernel_rfl
  rw [run_neq_struct, show (10000 : Nat) = 9999 + 1 from rfl, run_equalIn_agg W 9999 25 _ _ hS hp]
  simp only [Program.fieldsOf, Try.underlying25]
  go_simp
  cases h1 : (b == b') <;> cases h2 : (h == h') <;> cases h3 : (l == l') <;> simp_all
/-- Is a struct an address? -/
def vldA (v6 : Bool) (hi lo : Nat) : Bool := v6 || (hi == 0 && decide (lo < 4294967296))
/-- The order of addresses, by the tests of the reference: p, q: the upper halves ascend, are equal; r, s: the lower ones. -/
def cmpB (b1 b2 p q r s : Bool) : Int :=
  if (b1 == b2 && (q && s)) = true then 0
  else if (!b1 && b2 || (b1 == b2 && (p || (q && r)))) = true then -1 else 1
def cmpA (b1 : Bool) (h1 l1 : Nat) (b2 : Bool) (h2 l2 : Nat) : Int := cmpB b1 b2 (decide ((h1 : Int) < (h2 : Int))) ((h1 : Int) == (h2 : Int)) (decide ((l1 : Int) < (l2 : Int))) ((l1 : Int) == (l2 : Int))
end Go.Proofs.Ytmcelgnifpfjpaa

/- Contracts of the reference of layer 6: Next, Previous. -/
namespace Go.Proofs.Ytmcelgnifpfjpaa
open Go.ChangeShapes Go.WideShapes Go.ChangeAt Go.RowKit
set_option linter.unusedVariables false

/-- An address, or none, as a result with its flag. -/
def aRes : Option (Bool × Nat × Nat) → Value
  | some (v6, hi, lo) => .tuple #[.agg #[.bool v6, .int .u64 hi, .int .u64 lo], .bool true]
  | none => .tuple #[.agg #[.bool false, .int .u64 0, .int .u64 0], .bool false]
def nxtA (v6 : Bool) (hi lo : Nat) : Option (Bool × Nat × Nat) :=
  if lo + 1 < 18446744073709551616 then (if v6 = false ∧ lo + 1 = 4294967296 then none else some (v6, hi, lo + 1))
  else if v6 then (if hi + 1 < 18446744073709551616 then some (v6, hi + 1, 0) else none) else some (v6, hi, 0)
def prvA (v6 : Bool) (hi lo : Nat) : Option (Bool × Nat × Nat) :=
  if lo = 0 then (if hi = 0 then none else some (v6, hi - 1, 18446744073709551615)) else some (v6, hi, lo - 1)
theorem zero_addr (w : World) : AB (w.alloc (.cells #[.bool false, .int .u64 0, .int .u64 0] 25)) w.heap.size false 0 0 := ab_new w false 0 0
theorem ab2 (w : World) (o : Obj) (v6 : Bool) (hi lo : Nat) : AB ((w.alloc o).alloc (.cells #[.bool v6, .int .u64 hi, .int .u64 lo] 25)) (w.heap.size + 1) v6 hi lo := by
  have := ab_new (w.alloc o) v6 hi lo
  rwa [show (w.alloc o).heap.size = w.heap.size + 1 by simp] at this
theorem below2 (w : World) (a b : Obj) : Below w.heap.size w ((w.alloc a).alloc b) := (below_alloc6 w a).trans ((below_alloc6 _ b).mono (by simp))
theorem wrap_u64_up {n : Nat} (h : n + 1 = 18446744073709551616) : IntKind.u64.wrap ((n : Int) + 1) = 0 := by
  simp [IntKind.wrap, IntKind.bits, IntKind.signed]; omega
theorem wrap_u64_in {n : Int} (h0 : 0 ≤ n) (h : n < 18446744073709551616) : IntKind.u64.wrap n = n := by
  simp [IntKind.wrap, IntKind.bits, IntKind.signed]; omega
end Go.Proofs.Ytmcelgnifpfjpaa

/- Plain mathematics of the sets of addresses of layer 7: addresses as numbers, ranges as spans; no Go in sight. -/
namespace Go.Proofs.Ytmcelgnifpfjpaa
set_option linter.unusedVariables false

/-- An address; a range; numbers that fit into 64 bits. -/
structure Ad where
  v : Bool
  h : Nat
  l : Nat
structure Rg where
  lo : Ad
  hi : Ad
def Ad.fits (a : Ad) : Prop := a.h < 18446744073709551616 ∧ a.l < 18446744073709551616
def Rg.fits (r : Rg) : Prop := r.lo.fits ∧ r.hi.fits
/-- An address as a number: IPv4 first, then IPv6; the families do not touch. -/
def kA (a : Ad) : Int := (if a.v then 340282366920938463463374607431768211456 else 0) + (18446744073709551616 * (a.h : Int) + (a.l : Int))
def vA (a : Ad) : Bool := vldA a.v a.h a.l
def top7 : Int := 680564733841876926926749214863536422911
/-- Does a range denote an address? -/
def someR (r : Rg) : Bool := vA r.lo && (vA r.hi && (r.lo.v == r.hi.v && decide (kA r.lo ≤ kA r.hi)))
def spn (r : Rg) : Spn := ⟨kA r.lo, kA r.hi⟩
def spnL (l : List Rg) : List Spn := (l.filter someR).map spn
/-- A number that is an address. -/
def isU (m : Int) : Bool := (decide (0 ≤ m) && decide (m ≤ 4294967295)) || (decide (340282366920938463463374607431768211456 ≤ m) && decide (m ≤ top7))

theorem kA_v4 {a : Ad} (h : vA a = true) (hv : a.v = false) : 0 ≤ kA a ∧ kA a ≤ 4294967295 ∧ a.h = 0 ∧ kA a = a.l := by
  unfold vA vldA at h
  unfold kA
  rw [hv] at h ⊢
  simp only [Bool.false_or, Bool.and_eq_true, beq_iff_eq, decide_eq_true_eq] at h
  simp only [Bool.false_eq_true, if_false]
  omega
theorem kA_v6 {a : Ad} (hf : a.fits) (hv : a.v = true) : 340282366920938463463374607431768211456 ≤ kA a ∧ kA a ≤ top7 := by
  unfold kA top7
  obtain ⟨h1, h2⟩ := hf
  rw [hv]
  simp only [if_true]
  omega
theorem kA_low {a : Ad} (hf : a.fits) (hv : a.v = false) : kA a < 340282366920938463463374607431768211456 := by
  unfold kA
  obtain ⟨h1, h2⟩ := hf
  rw [hv]
  simp only [Bool.false_eq_true, if_false]
  omega
theorem kA_pos (a : Ad) : 0 ≤ kA a := by
  unfold kA
  split <;> omega
theorem kA_top {a : Ad} (hf : a.fits) : kA a ≤ top7 := by
  cases hv : a.v with
  | true => exact (kA_v6 hf hv).2
  | false => have := kA_low hf hv; unfold top7; omega
theorem kA_U {a : Ad} (hf : a.fits) (h : vA a = true) : isU (kA a) = true := by
  unfold isU
  cases hv : a.v with
  | true =>
    have := kA_v6 hf hv
    rw [Bool.or_eq_true, Bool.and_eq_true, Bool.and_eq_true, decide_eq_true_eq, decide_eq_true_eq, decide_eq_true_eq, decide_eq_true_eq]
    exact .inr this
  | false =>
    have := kA_v4 h hv
    rw [Bool.or_eq_true, Bool.and_eq_true, Bool.and_eq_true, decide_eq_true_eq, decide_eq_true_eq, decide_eq_true_eq, decide_eq_true_eq]
    exact .inl ⟨this.1, this.2.1⟩
theorem kA_inj {a b : Ad} (ha : a.fits) (hb : b.fits) (h : kA a = kA b) : a = b := by
  obtain ⟨av, ah, al⟩ := a
  obtain ⟨bv, bh, bl⟩ := b
  obtain ⟨a1, a2⟩ := ha
  obtain ⟨b1, b2⟩ := hb
  simp only at a1 a2 b1 b2
  unfold kA at h
  simp only at h
  cases av <;> cases bv <;> simp only [Bool.false_eq_true, if_false, if_true] at h
  · rw [show ah = bh by omega, show al = bl by omega]
  · omega
  · omega
  · rw [show ah = bh by omega, show al = bl by omega]
/-- The order by the program's and the reference's tests. -/
theorem cmp_lt (b1 : Bool) (h1 l1 : Nat) (b2 : Bool) (h2 l2 : Nat) : cmpA b1 h1 l1 b2 h2 l2 < 0 ↔ (b1 = false ∧ b2 = true) ∨ (b1 = b2 ∧ (h1 < h2 ∨ (h1 = h2 ∧ l1 < l2))) := by
  unfold cmpA cmpB
  by_cases p : h1 < h2 <;> by_cases q : h1 = h2 <;> by_cases r : l1 < l2 <;> by_cases s : l1 = l2 <;> cases b1 <;> cases b2 <;> simp [p, q, r, s] <;> omega
theorem lt_key {a b : Ad} (ha : a.fits) (hb : b.fits) : ((a.v = false ∧ b.v = true) ∨ (a.v = b.v ∧ (a.h < b.h ∨ (a.h = b.h ∧ a.l < b.l)))) ↔ kA a < kA b := by
  obtain ⟨av, ah, al⟩ := a
  obtain ⟨bv, bh, bl⟩ := b
  obtain ⟨a1, a2⟩ := ha
  obtain ⟨b1, b2⟩ := hb
  simp only at a1 a2 b1 b2
  unfold kA
  cases av <;> cases bv
  · simp only [Bool.false_eq_true, if_false, and_false, false_or, true_and]; omega
  · simp only [Bool.false_eq_true, if_false, if_true, true_and, true_or, true_iff]; omega
  · simp only [Bool.false_eq_true, Bool.true_eq_false, if_false, if_true, false_and, or_false, false_iff]; omega
  · simp only [if_true, Bool.true_eq_false, false_and, false_or, true_and]; omega
theorem cmp_key {a b : Ad} (ha : a.fits) (hb : b.fits) : decide (cmpA a.v a.h a.l b.v b.h b.l < 0) = decide (kA a < kA b) := by
  rw [decide_eq_decide, cmp_lt, lt_key ha hb]
/-- The address behind an address, and the one ahead of it. -/
theorem nxt_key {a : Ad} (hf : a.fits) (hv : vA a = true) : (nxtA a.v a.h a.l = none ∧ (kA a = 4294967295 ∨ kA a = top7)) ∨ ∃ b : Ad, nxtA a.v a.h a.l = some (b.v, b.h, b.l) ∧ b.v = a.v ∧ b.fits ∧ vA b = true ∧ kA b = kA a + 1 := by
  obtain ⟨v, h, l⟩ := a
  obtain ⟨h1, h2⟩ := hf
  simp only at h1 h2
  unfold vA vldA at hv
  unfold nxtA kA top7
  cases v with
  | true =>
    simp only [Bool.true_eq_false, false_and, if_false, if_true]
    by_cases c : l + 1 < 18446744073709551616
    · rw [if_pos c]
      exact .inr ⟨⟨true, h, l + 1⟩, rfl, rfl, ⟨h1, c⟩, rfl, by simp only [if_true]; omega⟩
    · rw [if_neg c]
      by_cases d : h + 1 < 18446744073709551616
      · rw [if_pos d]
        exact .inr ⟨⟨true, h + 1, 0⟩, rfl, rfl, ⟨d, by show (0 : Nat) < _; omega⟩, rfl, by simp only [if_true]; omega⟩
      · rw [if_neg d]
        exact .inl ⟨rfl, .inr (by omega)⟩
  | false =>
    simp only [Bool.false_or, Bool.and_eq_true, beq_iff_eq, decide_eq_true_eq] at hv
    dsimp only
    rw [if_pos (by omega)]
    simp only [true_and, Bool.false_eq_true, if_false]
    by_cases c : l + 1 = 4294967296
    · rw [if_pos c]
      exact .inl ⟨rfl, .inl (by omega)⟩
    · rw [if_neg c]
      refine .inr ⟨⟨false, h, l + 1⟩, rfl, rfl, ⟨h1, by show l + 1 < _; omega⟩, ?_, by simp only [Bool.false_eq_true, if_false]; omega⟩
      unfold vA vldA
      simp only [Bool.false_or, Bool.and_eq_true, beq_iff_eq, decide_eq_true_eq]
      omega
theorem prv_key {a : Ad} (hf : a.fits) (hv : vA a = true) : (prvA a.v a.h a.l = none ∧ (kA a = 0 ∨ kA a = 340282366920938463463374607431768211456)) ∨ ∃ b : Ad, prvA a.v a.h a.l = some (b.v, b.h, b.l) ∧ b.v = a.v ∧ b.fits ∧ vA b = true ∧ kA b = kA a - 1 := by
  obtain ⟨v, h, l⟩ := a
  obtain ⟨h1, h2⟩ := hf
  simp only at h1 h2
  unfold vA vldA at hv
  unfold prvA kA
  by_cases c : l = 0
  · simp only
    rw [if_pos c]
    by_cases d : h = 0
    · rw [if_pos d]
      subst c d
      cases v
      · exact .inl ⟨rfl, .inl rfl⟩
      · exact .inl ⟨rfl, .inr rfl⟩
    · rw [if_neg d]
      cases v with
      | true => exact .inr ⟨⟨true, h - 1, 18446744073709551615⟩, rfl, rfl, ⟨by show h - 1 < _; omega, by show 18446744073709551615 < _; omega⟩, rfl, by simp only [if_true]; omega⟩
      | false =>
        simp only [Bool.false_or, Bool.and_eq_true, beq_iff_eq, decide_eq_true_eq] at hv
        omega
  · simp only
    rw [if_neg c]
    refine .inr ⟨⟨v, h, l - 1⟩, rfl, rfl, ⟨h1, by show l - 1 < _; omega⟩, ?_, by simp only; omega⟩
    unfold vA vldA
    cases v with
    | true => rfl
    | false =>
      simp only [Bool.false_or, Bool.and_eq_true, beq_iff_eq, decide_eq_true_eq] at hv ⊢
      omega

theorem someR_iff {r : Rg} : someR r = true ↔ vA r.lo = true ∧ vA r.hi = true ∧ r.lo.v = r.hi.v ∧ kA r.lo ≤ kA r.hi := by
  unfold someR
  rw [Bool.and_eq_true, Bool.and_eq_true, Bool.and_eq_true, beq_iff_eq, decide_eq_true_eq]
/-- Valid addresses of one number's distance are of one family. -/
theorem near_v {a b : Ad} (ha : a.fits) (hb : b.fits) (va : vA a = true) (vb : vA b = true) (h1 : kA a ≤ kA b + 1) (h2 : kA b ≤ kA a + 1) : a.v = b.v := by
  cases hv : a.v with
  | true =>
    cases hw : b.v with
    | true => rfl
    | false => have := kA_v6 ha hv; have := kA_v4 vb hw; omega
  | false =>
    cases hw : b.v with
    | true => have := kA_v6 hb hw; have := kA_v4 va hv; omega
    | false => rfl
theorem between_v {a b c : Ad} (ha : a.fits) (hb : b.fits) (hc : c.fits) (e : a.v = c.v) (h1 : kA a ≤ kA b) (h2 : kA b ≤ kA c) : b.v = a.v := by
  cases hv : a.v with
  | true =>
    cases hw : b.v with
    | true => rfl
    | false => have := kA_v6 ha hv; have := kA_low hb hw; omega
  | false =>
    cases hw : b.v with
    | true => have := kA_v6 hb hw; have := kA_low hc (e ▸ hv); omega
    | false => rfl

/-- A set of addresses. -/
def GoodL (l : List Rg) : Prop := (∀ r ∈ l, someR r = true ∧ r.fits) ∧ okL top7 0 (l.map spn)
theorem spn_inj : ∀ {a b : List Rg}, (∀ r ∈ a, r.fits) → (∀ r ∈ b, r.fits) → a.map spn = b.map spn → a = b
  | [], [], _, _, _ => rfl
  | [], _ :: _, _, _, h => by simp at h
  | _ :: _, [], _, _, h => by simp at h
  | x :: a, y :: b, h1, h2, h => by
    rw [List.map_cons, List.map_cons] at h
    obtain ⟨e1, e2⟩ := List.cons.inj h
    have f1 := h1 x (by simp)
    have f2 := h2 y (by simp)
    have i1 : kA x.lo = kA y.lo := congrArg Spn.lo e1
    have i2 : kA x.hi = kA y.hi := congrArg Spn.hi e1
    rw [spn_inj (fun r hr => h1 r (by simp [hr])) (fun r hr => h2 r (by simp [hr])) e2]
    obtain ⟨x1, x2⟩ := x
    obtain ⟨y1, y2⟩ := y
    rw [show x1 = y1 from kA_inj f1.1 f2.1 i1, show x2 = y2 from kA_inj f1.2 f2.2 i2]
/-- TWO SETS WITH THE SAME ADDRESSES ARE EQUAL. -/
theorem good_uniq {a b : List Rg} (ha : GoodL a) (hb : GoodL b) (h : ∀ m, anyS (a.map spn) m = anyS (b.map spn) m) : a = b :=
  spn_inj (fun r hr => (ha.1 r hr).2) (fun r hr => (hb.1 r hr).2) (okL_uniq _ _ 0 0 ha.2 hb.2 h)
theorem good_nil : GoodL [] := ⟨fun r hr => by simp at hr, trivial⟩
theorem spnL_good {l : List Rg} (h : GoodL l) : spnL l = l.map spn := by
  unfold spnL
  rw [List.filter_eq_self.2 fun r hr => (h.1 r hr).1]
theorem spnL_cons (r : Rg) (l : List Rg) : spnL (r :: l) = (if someR r then [spn r] else []) ++ spnL l := by
  unfold spnL
  rw [List.filter_cons]
  cases someR r <;> simp
theorem spnL_append (a b : List Rg) : spnL (a ++ b) = spnL a ++ spnL b := by
  unfold spnL
  rw [List.filter_append, List.map_append]
theorem spnL_snoc (l : List Rg) (r : Rg) (m : Int) : anyS (spnL (l ++ [r])) m = (anyS (spnL l) m || (someR r && inS (spn r) m)) := by
  rw [spnL_append, anyS_append, spnL_cons]
  cases someR r <;> simp [spnL, anyS]
theorem inS_U {r : Rg} (hs : someR r = true) (hf : r.fits) {m : Int} (h : inS (spn r) m = true) : isU m = true := by
  rw [inS_iff] at h
  obtain ⟨h1, h2, h3, h4⟩ := someR_iff.1 hs
  simp only [spn] at h
  unfold isU
  rw [Bool.or_eq_true, Bool.and_eq_true, Bool.and_eq_true, decide_eq_true_eq, decide_eq_true_eq, decide_eq_true_eq, decide_eq_true_eq]
  cases hv : r.lo.v with
  | true =>
    have a := kA_v6 hf.1 hv
    have b := kA_v6 hf.2 (h3 ▸ hv)
    omega
  | false =>
    have a := kA_v4 h1 hv
    have b := kA_v4 h2 (h3 ▸ hv)
    omega
theorem any_U {l : List Rg} (hf : ∀ r ∈ l, r.fits) {m : Int} (h : anyS (spnL l) m = true) : isU m = true := by
  unfold anyS spnL at h
  rw [List.any_eq_true] at h
  obtain ⟨s, hs, h⟩ := h
  obtain ⟨r, hr, rfl⟩ := List.mem_map.1 hs
  obtain ⟨hr, h2⟩ := List.mem_filter.1 hr
  exact inS_U h2 (hf r hr) h

/-- Is a list of ranges a set? -/
def okR (l : List Rg) : Bool := l.all someR && okB top7 0 (l.map spn)
theorem okR_iff {l : List Rg} (hf : ∀ r ∈ l, r.fits) : okR l = true ↔ GoodL l := by
  unfold okR GoodL
  rw [Bool.and_eq_true, List.all_eq_true, okB_iff]
  constructor
  · rintro ⟨h1, h2⟩; exact ⟨fun r hr => ⟨h1 r hr, hf r hr⟩, h2⟩
  · rintro ⟨h1, h2⟩; exact ⟨fun r hr => (h1 r hr).1, h2⟩
theorem okR_none {l : List Rg} {r : Rg} (hr : r ∈ l) (h : someR r = false) : okR l = false := by
  cases ho : okR l with
  | false => rfl
  | true =>
    unfold okR at ho
    rw [Bool.and_eq_true, List.all_eq_true] at ho
    rw [ho.1 r hr] at h
    cases h
theorem someR_span {r : Rg} (hs : someR r = true) (hf : r.fits) : 0 ≤ kA r.lo ∧ kA r.lo ≤ kA r.hi ∧ kA r.hi ≤ top7 := ⟨kA_pos _, (someR_iff.1 hs).2.2.2, kA_top hf.2⟩
theorem okR_fall {l : List Rg} {k : Nat} {r : Rg} (hs : l[k]? = some r) (h : ¬ (nxt 0 ((l.take k).map spn) ≤ kA r.lo)) : okR l = false := by
  unfold okR
  have hm : (l.map spn)[k]? = some (spn r) := by simp [hs]
  rw [okB_fall hm (fun hh => h (by rw [List.map_take]; exact hh.1)), Bool.and_false]
theorem good_go {l : List Rg} {k : Nat} {r : Rg} (hs : l[k]? = some r) (h0 : GoodL (l.take k)) (hr : someR r = true) (hf : r.fits) (h : nxt 0 ((l.take k).map spn) ≤ kA r.lo) : GoodL (l.take (k + 1)) := by
  have hk := (List.getElem?_eq_some_iff.1 hs)
  obtain ⟨hk, e⟩ := hk
  rw [List.take_succ_eq_append_getElem hk, e]
  refine ⟨fun x hx => ?_, ?_⟩
  · rw [List.mem_append, List.mem_singleton] at hx
    rcases hx with hx | rfl
    · exact h0.1 x hx
    · exact ⟨hr, hf⟩
  · rw [List.map_append, List.map_singleton, okL_snoc]
    have := someR_span hr hf
    exact ⟨h0.2, h, this.2.1, this.2.2⟩
theorem nxt_takeR {l : List Rg} {k : Nat} {r : Rg} (hs : l[k]? = some r) : nxt 0 ((l.take (k + 1)).map spn) = kA r.hi + 2 := by
  obtain ⟨hk, e⟩ := List.getElem?_eq_some_iff.1 hs
  rw [List.take_succ_eq_append_getElem hk, e, List.map_append, List.map_singleton, nxt_snoc]
  rfl
end Go.Proofs.Ytmcelgnifpfjpaa

/- Slices of elements of any fixed number of cells: how they read, how they are appended to; for any element. -/
namespace Go.Proofs.Ytmcelgnifpfjpaa
open Go.ChangeShapes Go.WideShapes Go.ChangeAt Go.RowKit
set_option linter.unusedVariables false

/-- How an element lies: its cells. -/
structure Enc (α : Type) where
  k : Nat
  pos : 0 < k
  c : α → List Value
  len : ∀ x, (c x).length = k
  one : ∀ x, ∀ v ∈ c x, v.oneCell' = true
variable {α : Type}
def Enc.cells (E : Enc α) (l : List α) : List Value := l.flatMap E.c
theorem Enc.cells_nil (E : Enc α) : E.cells [] = [] := rfl
theorem Enc.cells_cons (E : Enc α) (x : α) (l : List α) : E.cells (x :: l) = E.c x ++ E.cells l := rfl
theorem Enc.cells_append (E : Enc α) (a b : List α) : E.cells (a ++ b) = E.cells a ++ E.cells b := by simp [Enc.cells]
theorem Enc.cells_one (E : Enc α) (x : α) : E.cells [x] = E.c x := by simp [Enc.cells]
theorem Enc.cells_snoc (E : Enc α) (l : List α) (x : α) : E.cells (l ++ [x]) = E.cells l ++ E.c x := by rw [E.cells_append, E.cells_one]
theorem Enc.cells_length (E : Enc α) (l : List α) : (E.cells l).length = l.length * E.k := by
  induction l with
  | nil => simp [Enc.cells]
  | cons x r ih => rw [E.cells_cons, List.length_append, ih, E.len, List.length_cons, Nat.add_mul, Nat.one_mul, Nat.add_comm]
theorem Enc.cells_get (E : Enc α) : ∀ (l : List α) (i : Nat) (x : α) (j : Nat), l[i]? = some x → j < E.k → (E.cells l)[i * E.k + j]? = (E.c x)[j]?
  | [], i, x, j, h, _ => by simp at h
  | y :: r, 0, x, j, h, hj => by
    simp only [List.getElem?_cons_zero, Option.some.injEq] at h
    subst h
    rw [E.cells_cons, Nat.zero_mul, Nat.zero_add, List.getElem?_append_left (by rw [E.len]; exact hj)]
  | y :: r, i + 1, x, j, h, hj => by
    rw [E.cells_cons, List.getElem?_append_right (by rw [E.len, Nat.add_mul]; omega), E.len, show (i + 1) * E.k + j - E.k = i * E.k + j by rw [Nat.add_mul]; omega]
    exact E.cells_get r i x j (by simpa using h) hj
theorem Enc.cells_one' (E : Enc α) (l : List α) : ∀ u ∈ E.cells l, u.oneCell' = true := by
  intro u hu
  unfold Enc.cells at hu
  obtain ⟨s, _, hs⟩ := List.mem_flatMap.1 hu
  exact E.one s u hs
theorem Enc.cells_take (E : Enc α) : ∀ (l : List α) (n : Nat), (E.cells l).take (n * E.k) = E.cells (l.take n)
  | [], n => by simp [Enc.cells]
  | x :: r, 0 => by simp [Enc.cells]
  | x :: r, n + 1 => by
    rw [E.cells_cons, List.take_succ_cons, E.cells_cons, ← E.cells_take r n, List.take_append, E.len, show (n + 1) * E.k - E.k = n * E.k by rw [Nat.add_mul]; omega, List.take_of_length_le (by rw [E.len, Nat.add_mul]; omega)]
theorem Enc.cells_at (E : Enc α) : ∀ (l : List α) (j : Nat) (u : Value), (E.cells l)[j]? = some u → ∃ i x t, l[i]? = some x ∧ t < E.k ∧ j = i * E.k + t ∧ (E.c x)[t]? = some u
  | [], j, u, h => by simp [Enc.cells] at h
  | y :: r, j, u, h => by
    rw [E.cells_cons] at h
    by_cases hj : j < E.k
    · rw [List.getElem?_append_left (by rw [E.len]; exact hj)] at h
      exact ⟨0, y, j, rfl, hj, by omega, h⟩
    · rw [List.getElem?_append_right (by rw [E.len]; omega), E.len] at h
      obtain ⟨i, x, t, h1, h2, h3, h4⟩ := E.cells_at r (j - E.k) u h
      exact ⟨i + 1, x, t, by simpa using h1, h2, by rw [Nat.add_mul]; omega, h4⟩
/-- A slice that reads as the elements l. -/
def RowL (E : Enc α) (w : World) (A : Option Addr) (l : List α) : Prop :=
  0 < l.length → ∃ g o, A = some ⟨g, o, none⟩ ∧ g < w.heap.size ∧ ∀ i x, l[i]? = some x → ∀ j v, (E.c x)[j]? = some v → w.cell? ⟨g, o + i * E.k + j, none⟩ = some v
variable {E : Enc α}
theorem RowL.nil (w : World) (A : Option Addr) : RowL E w A [] := fun h => absurd h (by simp)
theorem RowL.kept {w w' : World} {A : Option Addr} {l : List α} (h : RowL E w A l) (hb : Below w.heap.size w w') : RowL E w' A l := fun hp => by
  obtain ⟨g, o, e, hg, hc⟩ := h hp
  refine ⟨g, o, e, Nat.lt_of_lt_of_le hg hb.size, fun i x hx j v hv => ?_⟩
  rw [World.cell?_of_block (w := w) (w' := w') (a := ⟨g, o + i * E.k + j, none⟩) (hb.block g hg)]
  exact hc i x hx j v hv
theorem RowL.drewN {w : World} {A : Option Addr} {l : List α} (h : RowL E w A l) (q : Nat) : RowL E (w.drewN q) A l := h
theorem RowL.only {w w' : World} {A : Option Addr} {l : List α} {b : Option Nat} (h : RowL E w A l) (hg : w.grownBy w' b) (hne : ∀ a, A = some a → some a.block ≠ b) : RowL E w' A l := fun hp => by
  obtain ⟨g, o, e, hg1, hc⟩ := h hp
  refine ⟨g, o, e, Nat.lt_of_lt_of_le hg1 hg.size, fun i x hx j v hv => ?_⟩
  rw [World.cell?_of_block (w := w) (w' := w') (a := ⟨g, o + i * E.k + j, none⟩) (hg.block g hg1 (hne _ e))]
  exact hc i x hx j v hv
theorem RowL.tail {w : World} {g o : Nat} {x : α} {r : List α} (h : RowL E w (some ⟨g, o, none⟩) (x :: r)) : RowL E w (some ⟨g, o + E.k, none⟩) r := fun hp => by
  obtain ⟨g', o', e, hg, hc⟩ := h (by simp)
  obtain ⟨rfl, rfl⟩ : g = g' ∧ o = o' := by simp only [Option.some.injEq, Addr.mk.injEq] at e; exact ⟨e.1, e.2.1⟩
  refine ⟨g, o + E.k, rfl, hg, fun i t ht j v hv => ?_⟩
  have := hc (i + 1) t (by simpa using ht) j v hv
  rwa [show o + (i + 1) * E.k + j = o + E.k + i * E.k + j by rw [Nat.add_mul]; omega] at this
/-- One element's cells, in every later world. -/
theorem RowL.at_ {w w' : World} {g o : Nat} {l : List α} {i : Nat} {x : α} (h : RowL E w (some ⟨g, o, none⟩) l) (hx : l[i]? = some x) (hb : Below w.heap.size w w') : ∀ j v, (E.c x)[j]? = some v → w'.cell? ⟨g, o + i * E.k + j, none⟩ = some v := by
  obtain ⟨g', o', e, hg, hc⟩ := (h.kept hb) (Nat.lt_of_le_of_lt (Nat.zero_le _) (List.getElem?_eq_some_iff.1 hx).1)
  obtain ⟨rfl, rfl⟩ : g = g' ∧ o = o' := by simp only [Option.some.injEq, Addr.mk.injEq] at e; exact ⟨e.1, e.2.1⟩
  exact hc i x hx
theorem addr_add7 (g o j : Nat) : (⟨g, o, none⟩ : Addr).add j = ⟨g, o + j, none⟩ := by
  unfold Addr.add
  split
  · simp_all
  · rfl
theorem RowL.news {w : World} {ad : Addr} {l : List α} (h : RowL E w (some ad) l) : ∀ j u, (E.cells l)[j]? = some u → w.cell? (ad.add j) = some u := fun j u hu => by
  obtain ⟨i, x, t, hx, ht, rfl, hv⟩ := E.cells_at l j u hu
  obtain ⟨g, o, e, hg, hc⟩ := h (Nat.lt_of_le_of_lt (Nat.zero_le _) (List.getElem?_eq_some_iff.1 hx).1)
  obtain rfl := Option.some.inj e
  rw [addr_add7, ← Nat.add_assoc]
  exact hc i x hx t u hv
/-- A slice that the call owns reads so. -/
theorem rowl_of_own {w : World} {base : Nat} {e : TypeId} {A : Option Addr} {n cap : Nat} {l : List α} (h : w.ownsRow base e E.k (.slice A n cap) n (E.cells l)) (hn : n = l.length) : RowL E w A l := fun hp => by
  subst hn
  rcases h.2 with ⟨_, h0⟩ | ⟨g, c, cur, hv, hg, hh, hnc, hcm, hs, ht⟩
  · omega
  · simp only [Value.slice.injEq, true_and] at hv
    obtain ⟨rfl, rfl⟩ := hv
    refine ⟨g, 0, rfl, (Array.getElem?_eq_some_iff.1 hh).1, fun i x hx j v hv => ?_⟩
    have hj : j < E.k := by
      have := (List.getElem?_eq_some_iff.1 hv).1
      rwa [E.len] at this
    have hi := (List.getElem?_eq_some_iff.1 hx).1
    have hlt : i * E.k + j < l.length * E.k := by
      have : (i + 1) * E.k ≤ l.length * E.k := Nat.mul_le_mul_right _ hi
      rw [Nat.add_mul] at this
      omega
    rw [Nat.zero_add, h.cellAt _ hlt, E.cells_get l i x j hx hj]
    exact hv
theorem own_blocks {w w' : World} {base : Nat} {e : TypeId} {size : Nat} {v : Value} {n : Nat} {xs : List Value} (h : w.ownsRow base e size v n xs) (hb : ∀ b, base ≤ b → b < w.heap.size → w'.heap[b]? = w.heap[b]?) : w'.ownsRow base e size v n xs := by
  refine ⟨h.1, ?_⟩
  rcases h.2 with hn | ⟨g, cap, cur, hv, hg, hh, rest⟩
  · exact .inl hn
  · exact .inr ⟨g, cap, cur, hv, hg, (hb g hg (Array.getElem?_eq_some_iff.1 hh).1).trans hh, rest⟩
theorem own_kept {w w' : World} {base B : Nat} {e : TypeId} {size : Nat} {v : Value} {n : Nat} {xs : List Value} (h : w.ownsRow base e size v n xs) (hb : Below B w w') (hB : w.heap.size ≤ B) : w'.ownsRow base e size v n xs :=
  own_blocks h fun b _ hl => hb.block b (Nat.lt_of_lt_of_le hl hB)
/-- What another row's growing leaves. -/
theorem own_only {w w' : World} {base : Nat} {e : TypeId} {size : Nat} {v : Value} {n : Nat} {xs : List Value} {b : Option Nat} (h : w.ownsRow base e size v n xs) (hg : w.grownBy w' b) (hne : ∀ c, v.ownBlock = some c → some c ≠ b) : w'.ownsRow base e size v n xs := by
  refine ⟨h.1, ?_⟩
  rcases h.2 with hn | ⟨g, cap, cur, hv, hb, hh, rest⟩
  · exact .inl hn
  · exact .inr ⟨g, cap, cur, hv, hb, (hg.block g (Array.getElem?_eq_some_iff.1 hh).1 (hne g (by rw [hv]; rfl))).trans hh, rest⟩
theorem own_mono {w : World} {base base' : Nat} {e : TypeId} {size : Nat} {v : Value} {n : Nat} {xs : List Value} (h : w.ownsRow base e size v n xs) (hb : base' ≤ base) : w.ownsRow base' e size v n xs := by
  refine ⟨h.1, ?_⟩
  rcases h.2 with hn | ⟨g, cap, cur, hv, hg, rest⟩
  · exact .inl hn
  · exact .inr ⟨g, cap, cur, hv, Nat.le_trans hb hg, rest⟩
theorem own_shape {w : World} {base : Nat} {e : TypeId} {size : Nat} {v : Value} {n : Nat} {xs : List Value} (h : w.ownsRow base e size v n xs) : ∃ A c, v = .slice A n c := by
  rcases h.2 with ⟨h1, h2⟩ | ⟨g, c, cur, h1, _⟩
  · subst h2; exact ⟨_, _, h1⟩
  · exact ⟨_, _, h1⟩
theorem own_cap {w : World} {base : Nat} {e : TypeId} {size : Nat} {A : Option Addr} {n c : Nat} {xs : List Value} (h : w.ownsRow base e size (.slice A n c) n xs) : n ≤ c ∧ c ≤ maxLen := by
  rcases h.2 with ⟨h1, h2⟩ | ⟨g, c', cur, h1, _, _, h2, h3, _⟩
  · simp only [Value.slice.injEq] at h1
    obtain ⟨_, h3, h4⟩ := h1
    subst h3 h4
    exact ⟨Nat.le_refl _, Nat.zero_le _⟩
  · simp only [Value.slice.injEq, true_and] at h1
    obtain ⟨_, rfl⟩ := h1
    exact ⟨h2, h3⟩
theorem own_none {w : World} {base : Nat} {e : TypeId} {size : Nat} {n c : Nat} {xs : List Value} (h : w.ownsRow base e size (.slice none n c) n xs) : n = 0 ∧ c = 0 := by
  rcases h.2 with ⟨h1, h2⟩ | ⟨g, c', cur, h1, _⟩
  · simp only [Value.slice.injEq, true_and] at h1
    exact ⟨h2, h1.2⟩
  · simp at h1
theorem own_start {w : World} {base : Nat} {e : TypeId} {size : Nat} {g o : Nat} {pt : Option Nat} {n c : Nat} {xs : List Value} (h : w.ownsRow base e size (.slice (some ⟨g, o, none⟩) n c) n xs) : o = 0 ∧ base ≤ g ∧ g < w.heap.size := by
  rcases h.2 with ⟨h1, h2⟩ | ⟨g', c', cur, h1, hb, hh, _⟩
  · simp at h1
  · simp only [Value.slice.injEq, Option.some.injEq, Addr.mk.injEq, and_true, true_and] at h1
    obtain ⟨⟨rfl, rfl⟩, _⟩ := h1
    exact ⟨rfl, hb, (Array.getElem?_eq_some_iff.1 hh).1⟩
/-- The last elements cut off: still owned. -/
theorem own_cut {w : World} {base : Nat} {e : TypeId} {A : Option Addr} {n m c : Nat} {l : List α} (h : w.ownsRow base e E.k (.slice A n c) n (E.cells l)) (hn : n = l.length) (hm : m ≤ n) : w.ownsRow base e E.k (.slice A m c) m (E.cells (l.take m)) := by
  subst hn
  refine ⟨by rw [E.cells_length, List.length_take, Nat.min_eq_left hm], ?_⟩
  rcases h.2 with ⟨h1, h2⟩ | ⟨g, c', cur, h1, hb, hh, hnc, hcm, hs, ht⟩
  · simp only [Value.slice.injEq] at h1
    obtain ⟨rfl, _, rfl⟩ := h1
    obtain rfl : m = 0 := by omega
    exact .inl ⟨rfl, rfl⟩
  · simp only [Value.slice.injEq, true_and] at h1
    obtain ⟨rfl, rfl⟩ := h1
    refine .inr ⟨g, c, cur, rfl, hb, hh, by omega, hcm, hs, ?_⟩
    rw [← E.cells_take, ← ht, List.take_take, Nat.min_eq_left (Nat.mul_le_mul_right _ hm)]
/-- An empty slice literal. -/
theorem own_empty (E : Enc α) (w : World) (e : TypeId) {base : Nat} (h : base ≤ w.heap.size) : (w.alloc (.cells #[] e)).ownsRow base e E.k (.slice (some ⟨w.heap.size, 0, none⟩) 0 0) 0 (E.cells []) :=
  ⟨by simp [Enc.cells], .inr ⟨w.heap.size, 0, #[], rfl, h, heap_alloc_new w _, Nat.le_refl _, Nat.zero_le _, by simp, by simp [Enc.cells]⟩⟩
/-- A block of whole elements, as a literal or the arguments of a call lay it. -/
theorem rowl_block {w : World} {B : Nat} {cs : Array Value} {t : TypeId} {fr : Nat × Nat} {l : List α} (h : w.heap[B]? = some (.cells cs t fr)) (hc : cs.toList = E.cells l) : RowL E w (some ⟨B, 0, none⟩) l := fun hp =>
  ⟨B, 0, rfl, (Array.getElem?_eq_some_iff.1 h).1, fun i x hx j v hv => by
    have hj : j < E.k := by
      have := (List.getElem?_eq_some_iff.1 hv).1
      rwa [E.len] at this
    rw [Nat.zero_add, cell_of_row w B _ cs t fr h]
    have := E.cells_get l i x j hx hj
    rw [← hc] at this
    rw [← hv, ← this]
    simp⟩
theorem heap2 (w : World) (a b : Obj) : ((w.alloc a).alloc b).heap[w.heap.size + 1]? = some b := by
  have := heap_alloc_new (w.alloc a) b
  rwa [show (w.alloc a).heap.size = w.heap.size + 1 by simp] at this
/-- What the program says of the types of a slice and its elements. -/
structure ElemTy (t e : TypeId) (k bytes : Nat) : Prop where
  und : Try.prog.underlying t = some (.slice e)
  info : ∃ i z, Try.prog.info? e = some i ∧ i.zero = some z ∧ i.size = k ∧ i.bytes = bytes ∧ z.cells.size = k
/-- append(out, x, ..): elements that lie in a block of their own, onto a slice that the call owns. -/
theorem wpList_push {t e : TypeId} {bytes : Nat} {w : World} {ops : Array Oper} {rest : List Oper} {o : Oper} {a : Act} {Q : Exit → Act → World → Prop} (T : ElemTy t e E.k bytes) (hgd : o.guard = none) (s x : Operand)
    (ho : o.op = .call { callee := .builtin .append, args := #[s, x], argTypes := #[t, t] })
    (base : Nat) (v : Value) (n : Nat) (l ys : List α) (hs : a.eval s = v) (hown : w.ownsRow base e E.k v n (E.cells l))
    (B m c : Nat) (cs : Array Value) (fr : Nat × Nat) (hx : a.eval x = .slice (some ⟨B, 0, none⟩) m c) (hB : w.heap[B]? = some (.cells cs e fr)) (hcs : cs.toList = E.cells ys) (hm : m = ys.length) (hm0 : 0 < m) (hn : n + m ≤ 1000000) (hby : bytes ≤ 1000) (hbase : base ≤ w.heap.size)
    (h : ∀ g cap w', w'.ownsRow base e E.k (.slice (some ⟨g, 0, none⟩) (n + m) cap) (n + m) (E.cells (l ++ ys)) → w.grownBy w' v.ownBlock → (v.ownBlock = some g ∨ g = w.heap.size) → g < w'.heap.size → wpList Try.prog ops Q rest (a.put o.dst (.slice (some ⟨g, 0, none⟩) (n + m) cap)) w') : wpList Try.prog ops Q (o :: rest) a w := by
  obtain ⟨i, z, h1, h2, h3, h4, h5⟩ := T.info
  refine wpList_append_lies w hgd s x t ho base e i z E.k bytes T.und h1 h2 h3 h4 h5 E.pos v n (E.cells l) hs hown ⟨B, 0, none⟩ m c (E.cells ys) hx (by rw [E.cells_length, hm]) (fun j u hu => World.news_of_block hB j u (by rw [hcs]; exact hu)) (E.cells_one' ys) hm0 (by unfold maxLen; omega) ?_ hbase _ rfl ?_
  · have : (n + m) * bytes ≤ 1000000 * 1000 := Nat.mul_le_mul hn hby
    omega
  · intro g cap w' a1 a2 a3 a4
    rw [← E.cells_append] at a1
    exact h g cap w' a1 a2 a3 a4
/-- append(out, l...) of a slice that reads as a list. -/
theorem wpList_cat {t e : TypeId} {bytes : Nat} {w : World} {ops : Array Oper} {rest : List Oper} {o : Oper} {a : Act} {Q : Exit → Act → World → Prop} (T : ElemTy t e E.k bytes) (hgd : o.guard = none) (s x : Operand)
    (ho : o.op = .call { callee := .builtin .append, args := #[s, x], argTypes := #[t, t] })
    (base : Nat) (v : Value) (n : Nat) (xs l : List α) (hs : a.eval s = v) (hown : w.ownsRow base e E.k v n (E.cells xs))
    (A : Option Addr) (m c : Nat) (hx : a.eval x = .slice A m c) (hm : m = l.length) (hA : A = none → c = 0) (hl : RowL E w A l) (hn : n + m ≤ 1000000) (hby : bytes ≤ 1000) (hbase : base ≤ w.heap.size)
    (h : ∀ A' c' w', w'.ownsRow base e E.k (.slice A' (n + m) c') (n + m) (E.cells (xs ++ l)) → w.grownBy w' v.ownBlock → wpList Try.prog ops Q rest (a.put o.dst (.slice A' (n + m) c')) w') : wpList Try.prog ops Q (o :: rest) a w := by
  obtain ⟨i, z, h1, h2, h3, h4, h5⟩ := T.info
  cases A with
  | none =>
    have hl0 : l = [] := by
      cases l with
      | nil => rfl
      | cons y r =>
        obtain ⟨g, o, e, _⟩ := hl (by simp)
        cases e
    subst hl0
    obtain rfl := hA rfl
    have hm0 : m = 0 := by simpa using hm
    subst hm0
    obtain ⟨A', c', rfl⟩ := own_shape hown
    refine wpList_append_own_none hgd s x t ho base e i E.k T.und h1 _ n (E.cells xs) hs hown hx ?_
    refine h A' c' w ?_ ⟨rfl, rfl, rfl, Nat.le_refl _, fun _ _ _ => rfl⟩
    simpa using hown
  | some ad =>
    refine wpList_append_own_at w hgd s x t ho base e i z E.k bytes T.und h1 h2 h3 h4 h5 E.pos v n (E.cells xs) hs hown ad m c (E.cells l) hx (by rw [E.cells_length, hm]) hl.news (E.cells_one' l) (by unfold maxLen; omega) ?_ hbase ?_
    · have : (n + m) * bytes ≤ 1000000 * 1000 := Nat.mul_le_mul hn hby
      omega
    · intro v' w' hown' hgr _ _
      obtain ⟨A', c', rfl⟩ := own_shape hown'
      rw [← E.cells_append] at hown'
      exact h A' c' w' hown' hgr
end Go.Proofs.Ytmcelgnifpfjpaa

/- Contracts of the program's layer 6: Valid, width, first, isBefore, Compare. -/
namespace Go.Proofs.Ytmcelgnifpfjpaa
open Go.ChangeShapes Go.WideShapes Go.ChangeAt Go.RowKit
set_option linter.unusedVariables false

set_option maxRecDepth 20000 in
theorem qvalid_any (v6 : Bool) (hi lo : Nat) (w : World) :
    Calls Try.prog 44 #[.agg #[.bool v6, .int .u64 hi, .int .u64 lo]] w fun e w' => e = .returned (.bool (vldA v6 hi lo)) ∧ Below w.heap.size w w' := by
  have HB := Lib.hid (below_alloc6 w (.cells #[.bool v6, .int .u64 hi, .int .u64 lo] 25))
  obtain ⟨R, hR⟩ : ∃ R, R = vldA v6 hi lo := ⟨_, rfl⟩
  rw [← hR]
  unfold vldA at hR
  cases v6 with
  | true =>
    obtain rfl : R = true := by rw [hR]; rfl
    clear hR
    go_enter Try.func44, Try.ntmps44
    go_wp2_with fail
    go_ret
    exact ⟨rfl, HB.out⟩
  | false =>
    by_cases h0 : hi = 0
    · have d0 : ((hi : Int) == 0) = true := by simp; omega
      by_cases h1 : lo < 4294967296
      · obtain rfl : R = true := by rw [hR, h0]; simpa using h1
        have d1 : decide ((lo : Int) < 4294967296) = true := by simp; omega
        clear hR h0
        go_enter Try.func44, Try.ntmps44
        go_wp2_with fail
        go_ret
        exact ⟨rfl, HB.out⟩
      · obtain rfl : R = false := by rw [hR, h0]; simpa using h1
        have d1 : decide ((lo : Int) < 4294967296) = false := by simp; omega
        clear hR h0
        go_enter Try.func44, Try.ntmps44
        go_wp2_with fail
        go_ret
        exact ⟨rfl, HB.out⟩
    · obtain rfl : R = false := by rw [hR]; simp [h0]
      have d0 : ((hi : Int) == 0) = false := by simp; omega
      clear hR
      go_enter Try.func44, Try.ntmps44
      go_wp2_with fail
      go_ret
      exact ⟨rfl, HB.out⟩
theorem qwidth_any (v6 : Bool) (hi lo : Nat) (w : World) :
    Calls Try.prog 87 #[.agg #[.bool v6, .int .u64 hi, .int .u64 lo]] w fun e w' => e = .returned (.int .i64 (width v6 : Nat)) ∧ Below w.heap.size w w' := by
  have HB := Lib.hid (below_alloc6 w (.cells #[.bool v6, .int .u64 hi, .int .u64 lo] 25))
  cases v6 with
  | true =>
    go_enter Try.func87, Try.ntmps87
    go_wp2_with fail
    go_ret
    exact ⟨rfl, HB.out⟩
  | false =>
    go_enter Try.func87, Try.ntmps87
    go_wp2_with fail
    go_ret
    exact ⟨rfl, HB.out⟩
set_option maxRecDepth 20000 in
theorem qfirst_any (v6 : Bool) (w : World) :
    Calls Try.prog 68 #[.bool v6] w fun e w' => e = .returned (.agg #[.bool v6, .int .u64 0, .int .u64 0]) ∧ Below w.heap.size w w' := by
  go_enter Try.func68, Try.ntmps68
  go_wp2_with fail
  exact bodyPost_ret (res_addr1 rfl _ _ rfl (ab_new w v6 0 0)) rfl ⟨rfl, below_alloc6 w _⟩
/-- Is an address ahead of another? By the tests of the program. -/
def befB (b1 b2 p q r : Bool) : Bool := if b1 == b2 then (if q then r else p) else b2
set_option maxHeartbeats 1000000 in
set_option maxRecDepth 20000 in
theorem qbefore_any (b1 : Bool) (h1 l1 : Nat) (b2 : Bool) (h2 l2 : Nat) (w : World) :
    Calls Try.prog 63 #[.agg #[.bool b1, .int .u64 h1, .int .u64 l1], .agg #[.bool b2, .int .u64 h2, .int .u64 l2]] w fun e w' => e = .returned (.bool (befB b1 b2 (decide ((h1 : Int) < (h2 : Int))) ((h1 : Int) == (h2 : Int)) (decide ((l1 : Int) < (l2 : Int))))) ∧ Below w.heap.size w w' := by
  have HB := Lib.hid ((below_alloc6 w (.cells #[.bool b1, .int .u64 h1, .int .u64 l1] 25)).trans ((below_alloc6 (w.alloc (.cells #[.bool b1, .int .u64 h1, .int .u64 l1] 25)) (.cells #[.bool b2, .int .u64 h2, .int .u64 l2] 25)).mono (by simp)))
  obtain ⟨p, dp⟩ : ∃ p, decide ((h1 : Int) < (h2 : Int)) = p := ⟨_, rfl⟩
  obtain ⟨q, dq⟩ : ∃ p, ((h1 : Int) == (h2 : Int)) = p := ⟨_, rfl⟩
  obtain ⟨r, dr⟩ : ∃ p, decide ((l1 : Int) < (l2 : Int)) = p := ⟨_, rfl⟩
  rw [dp, dq, dr]
  have dp2 : decide (h1 < h2) = p := by rw [← dp]; simp
  have dr2 : decide (l1 < l2) = r := by rw [← dr]; simp
  cases b1 <;> cases b2
  case false.true =>
    clear dp dq dr dp2 dr2
    go_enter Try.func63, Try.ntmps63
    go_wp2_with fail
    go_ret
    exact ⟨rfl, HB.out⟩
  case true.false =>
    clear dp dq dr dp2 dr2
    go_enter Try.func63, Try.ntmps63
    go_wp2_with fail
    go_ret
    exact ⟨rfl, HB.out⟩
  all_goals
    cases q
    all_goals
      cases p <;> cases r
      all_goals
        go_enter Try.func63, Try.ntmps63
        go_wp2_with fail
        go_ret
        exact ⟨rfl, HB.out⟩
theorem cmpB_before (b1 b2 p q r s : Bool) (hp : ¬ (p = true ∧ q = true)) : cmpB b1 b2 p q r s = if (b1 == b2 && (q && s)) = true then 0 else if befB b1 b2 p q r = true then -1 else 1 := by
  cases b1 <;> cases b2 <;> cases p <;> cases q <;> cases r <;> cases s <;> first | rfl | (exact absurd ⟨rfl, rfl⟩ hp)
set_option maxHeartbeats 1000000 in
set_option maxRecDepth 20000 in
theorem qcmp_any (b1 : Bool) (h1 l1 : Nat) (b2 : Bool) (h2 l2 : Nat) (w : World) :
    Calls Try.prog 37 #[.agg #[.bool b1, .int .u64 h1, .int .u64 l1], .agg #[.bool b2, .int .u64 h2, .int .u64 l2]] w fun e w' => e = .returned (.int .i64 (cmpA b1 h1 l1 b2 h2 l2)) ∧ Below w.heap.size w w' := by
  have hm := addr_guard
  have HX := Lib.hid (ab_new w b1 h1 l1 |>.kept (below_alloc6 _ (.cells #[.bool b2, .int .u64 h2, .int .u64 l2] 25)) (alloc_lt6 w _))
  have HY := Lib.hid (ab2 w (.cells #[.bool b1, .int .u64 h1, .int .u64 l1] 25) b2 h2 l2)
  have HB := Lib.hid (below2 w (.cells #[.bool b1, .int .u64 h1, .int .u64 l1] 25) (.cells #[.bool b2, .int .u64 h2, .int .u64 l2] 25))
  have HBF := Lib.hid (fun W => qbefore_any b1 h1 l1 b2 h2 l2 W)
  have qe := fun W => addr_eql b1 b2 h1 h2 l1 l2 W
  unfold cmpA
  have hpq : ¬ (decide ((h1 : Int) < (h2 : Int)) = true ∧ ((h1 : Int) == (h2 : Int)) = true) := by simp; omega
  rw [cmpB_before _ _ _ _ _ _ hpq]
  clear hpq
  generalize befB b1 b2 (decide ((h1 : Int) < (h2 : Int))) ((h1 : Int) == (h2 : Int)) (decide ((l1 : Int) < (l2 : Int))) = z at *
  generalize (b1 == b2 && ((h1 : Int) == (h2 : Int) && (l1 : Int) == (l2 : Int))) = y at *
  cases y with
  | true =>
    clear HBF
    go_enter Try.func37, Try.ntmps37
    go_wp2_with fail
    go_ret
    exact ⟨rfl, HB.out⟩
  | false =>
    go_enter Try.func37, Try.ntmps37
    go_wp2_with fail
    refine (HBF.out _).mono ?_
    rintro e w3 ⟨rfl, hb⟩
    have HB3 := Lib.hid (HB.out.trans (hb.mono HB.out.size))
    clear hb
    cases z with
    | true =>
      go_wp2_with fail
      go_ret
      exact ⟨rfl, HB3.out⟩
    | false =>
      go_wp2_with fail
      go_ret
      exact ⟨rfl, HB3.out⟩
end Go.Proofs.Ytmcelgnifpfjpaa

/- Contracts of the reference of layer 6: Bit, with. -/
namespace Go.Proofs.Ytmcelgnifpfjpaa
open Go.ChangeShapes Go.WideShapes Go.ChangeAt Go.RowKit
set_option linter.unusedVariables false

theorem and1_u64 (n k : Nat) (h : n < 18446744073709551616) : (bits .and .u64 ((n : Int) / 2 ^ k) 1 == 1) = decide (n / 2 ^ k % 2 = 1) := by
  have e : ((n : Int) / 2 ^ k) = ((n / 2 ^ k : Nat) : Int) := by rw [Int.natCast_ediv]; simp
  have hl : n / 2 ^ k < 18446744073709551616 := Nat.lt_of_le_of_lt (Nat.div_le_self _ _) h
  rw [e, show (1 : Int) = ((1 : Nat) : Int) from rfl, u64_and_nat _ 1 hl (by decide), Nat.and_one_is_mod, Bool.eq_iff_iff]
  simp
  omega
/-- A bit of an address. -/
def bitA (v6 : Bool) (hi lo i : Nat) : Bool :=
  if v6 then (if i < 64 then decide (hi / 2 ^ (63 - i) % 2 = 1) else decide (lo / 2 ^ (127 - i) % 2 = 1)) else decide (lo / 2 ^ (31 - i) % 2 = 1)
end Go.Proofs.Ytmcelgnifpfjpaa

/- Contract of the reference of layer 6: with. -/
namespace Go.Proofs.Ytmcelgnifpfjpaa
open Go.ChangeShapes Go.WideShapes Go.ChangeAt Go.RowKit
set_option linter.unusedVariables false

/-- The bits under way: those behind the first 'from' of w, as far as i, are one. -/
def stepB (N w from_ i : Nat) (one : Bool) (t : Nat) : Bool := if w - from_ ≤ t then N.testBit t else if w - i ≤ t then one else N.testBit t
def numA (hi lo : Nat) : Nat := 2 ^ 64 * hi + lo
theorem numA_low {hi lo t : Nat} (h : lo < 2 ^ 64) (ht : t < 64) : (numA hi lo).testBit t = lo.testBit t := by
  unfold numA
  rw [Nat.testBit_two_pow_mul_add _ h, if_pos ht]
theorem numA_high {hi lo t : Nat} (h : lo < 2 ^ 64) : (numA hi lo).testBit (t + 64) = hi.testBit t := by
  unfold numA
  rw [Nat.testBit_two_pow_mul_add _ h, if_neg (by omega)]
  congr 1
/-- The state of the loop. -/
structure Wst (N w from_ i : Nat) (one : Bool) (hi lo : Nat) : Prop where
  h1 : hi < 18446744073709551616
  h2 : lo < 18446744073709551616
  lowb : ∀ t, t < 64 → lo.testBit t = stepB N w from_ i one t
  high : ∀ t, t < 64 → hi.testBit t = stepB N w from_ i one (t + 64)
theorem wst_start {hi lo w from_ : Nat} (one : Bool) (h1 : hi < 18446744073709551616) (h2 : lo < 18446744073709551616) : Wst (numA hi lo) w from_ from_ one hi lo := by
  have hs : ∀ t, stepB (numA hi lo) w from_ from_ one t = (numA hi lo).testBit t := fun t => by
    unfold stepB
    split
    · rfl
    · rfl
  exact ⟨h1, h2, fun t ht => by rw [hs, numA_low (by omega) ht], fun t ht => by rw [hs, numA_high (by omega)]⟩
theorem step_other {N w from_ i t : Nat} {one : Bool} (hi : i < w) (ht : t ≠ w - 1 - i) : stepB N w from_ (i + 1) one t = stepB N w from_ i one t := by
  unfold stepB
  split
  · rfl
  · by_cases h : w - i ≤ t
    · rw [if_pos h, if_pos (by omega)]
    · rw [if_neg h, if_neg (by omega)]
theorem step_here {N w from_ i : Nat} {one : Bool} (hi : i < w) (hf : from_ ≤ i) : stepB N w from_ (i + 1) one (w - 1 - i) = one ∧ stepB N w from_ i one (w - 1 - i) = N.testBit (w - 1 - i) := by
  unfold stepB
  rw [if_neg (by omega), if_pos (by omega), if_neg (by omega), if_neg (by omega)]
  exact ⟨rfl, rfl⟩
theorem tb_dec (n k : Nat) : decide (n / 2 ^ k % 2 = 1) = n.testBit k := by
  rw [Nat.testBit_eq_decide_div_mod_eq]
/-- The bit that the reference looks at. -/
theorem bit_of {N from_ i hi lo : Nat} {v6 one : Bool} (h : Wst N (width v6) from_ i one hi lo) (hi' : i < width v6) (hf : from_ ≤ i) : bitA v6 hi lo i = N.testBit (width v6 - 1 - i) := by
  have hs := (step_here (N := N) (one := one) hi' hf).2
  rw [← hs]
  unfold bitA
  cases v6 with
  | false =>
    rw [if_neg (by decide), tb_dec]
    exact h.lowb (31 - i) (by have : i < 32 := hi'; omega)
  | true =>
    have h3 : i < 128 := hi'
    rw [if_pos rfl]
    split
    · rw [tb_dec, h.high (63 - i) (by omega)]
      congr 1
      show 63 - i + 64 = 128 - 1 - i
      omega
    · rw [tb_dec, h.lowb (127 - i) (by omega)]
      rfl
theorem wst_stay {N w from_ i hi lo : Nat} {one : Bool} (h : Wst N w from_ i one hi lo) (hi' : i < w) (hf : from_ ≤ i) (hb : N.testBit (w - 1 - i) = one) : Wst N w from_ (i + 1) one hi lo := by
  have key : ∀ t, stepB N w from_ (i + 1) one t = stepB N w from_ i one t := fun t => by
    by_cases e : t = w - 1 - i
    · subst e
      rw [(step_here hi' hf).1, (step_here hi' hf).2, hb]
    · exact step_other hi' e
  exact ⟨h.h1, h.h2, fun t ht => by rw [key, h.lowb t ht], fun t ht => by rw [key, h.high t ht]⟩
theorem xor_tb (n j t : Nat) : (n ^^^ 2 ^ j).testBit t = (n.testBit t ^^ decide (j = t)) := by
  rw [Nat.testBit_xor, Nat.testBit_two_pow]
theorem xor_lt64 {n j : Nat} (h : n < 18446744073709551616) (hj : j < 64) : n ^^^ 2 ^ j < 18446744073709551616 :=
  Nat.xor_lt_two_pow (n := 64) h (Nat.pow_lt_pow_right (by omega) hj)
theorem wst_low {N w from_ i hi lo : Nat} {one : Bool} (h : Wst N w from_ i one hi lo) (hi' : i < w) (hf : from_ ≤ i) (hb : N.testBit (w - 1 - i) ≠ one) (hj : w - 1 - i < 64) : Wst N w from_ (i + 1) one hi (lo ^^^ 2 ^ (w - 1 - i)) := by
  refine ⟨h.h1, xor_lt64 h.h2 hj, fun t ht => ?_, fun t ht => ?_⟩
  · rw [xor_tb, h.lowb t ht]
    by_cases e : t = w - 1 - i
    · subst e
      rw [(step_here hi' hf).1, (step_here hi' hf).2]
      cases hx : N.testBit (w - 1 - i) <;> cases one <;> simp_all
    · rw [step_other hi' e, show decide (w - 1 - i = t) = false by simp; omega, Bool.xor_false]
  · rw [h.high t ht, step_other hi' (by omega)]
theorem wst_high {N w from_ i hi lo : Nat} {one : Bool} (h : Wst N w from_ i one hi lo) (hi' : i < w) (hf : from_ ≤ i) (hb : N.testBit (w - 1 - i) ≠ one) {j : Nat} (hj : j + 64 = w - 1 - i) (hj2 : j < 64) : Wst N w from_ (i + 1) one (hi ^^^ 2 ^ j) lo := by
  refine ⟨xor_lt64 h.h1 hj2, h.h2, fun t ht => ?_, fun t ht => ?_⟩
  · rw [h.lowb t ht, step_other hi' (by omega)]
  · rw [xor_tb, h.high t ht]
    by_cases e : t = j
    · subst e
      rw [hj, (step_here hi' hf).1, (step_here hi' hf).2]
      cases hx : N.testBit (w - 1 - i) <;> cases one <;> simp_all
    · rw [step_other hi' (by omega), show decide (j = t) = false by simp; omega, Bool.xor_false]
theorem wst_end {N w from_ hi lo : Nat} {one : Bool} (h : Wst N w from_ w one hi lo) (hN : N < 2 ^ 128) (hw : w - from_ ≤ 128) : numA hi lo = if one then fillN w from_ N else cutN w from_ N := by
  have hlo : lo < 2 ^ 64 := h.h2
  have hhi : hi < 2 ^ 64 := h.h1
  apply Nat.eq_of_testBit_eq
  intro t
  have hl : (numA hi lo).testBit t = if t < 128 then stepB N w from_ w one t else false := by
    by_cases h1 : t < 64
    · rw [numA_low hlo h1, h.lowb t h1, if_pos (by omega)]
    · obtain ⟨u, rfl⟩ : ∃ u, t = u + 64 := ⟨t - 64, by omega⟩
      rw [numA_high hlo]
      by_cases h2 : u < 64
      · rw [h.high u h2, if_pos (by omega)]
      · rw [if_neg (by omega), Nat.testBit_lt_two_pow (Nat.lt_of_lt_of_le hhi (Nat.pow_le_pow_right (by omega) (by omega)))]
  have hr : (if one then fillN w from_ N else cutN w from_ N).testBit t = if w - from_ ≤ t then N.testBit t else one := by
    have hc : cutN w from_ N = 2 ^ (w - from_) * (N / 2 ^ (w - from_)) := by unfold cutN; rw [Nat.mul_comm]
    cases one with
    | true =>
      rw [if_pos rfl]
      unfold fillN
      rw [hc, Nat.testBit_two_pow_mul_add _ (by have := Nat.two_pow_pos (w - from_); omega)]
      by_cases h2 : t < w - from_
      · rw [if_pos h2, if_neg (by omega), Nat.testBit_two_pow_sub_one]
        simpa using h2
      · rw [if_neg h2, if_pos (by omega), Nat.testBit_div_two_pow]
        congr 1; omega
    | false =>
      rw [if_neg (by decide), hc]
      have := Nat.testBit_two_pow_mul_add (N / 2 ^ (w - from_)) (Nat.two_pow_pos (w - from_)) t
      rw [Nat.add_zero] at this
      rw [this]
      by_cases h2 : t < w - from_
      · rw [if_pos h2, if_neg (by omega), Nat.zero_testBit]
      · rw [if_neg h2, if_pos (by omega), Nat.testBit_div_two_pow]
        congr 1; omega
  rw [hl, hr]
  unfold stepB
  by_cases h1 : t < 128
  · rw [if_pos h1]
    split
    · rfl
    · rw [if_pos (by omega)]
  · rw [if_neg h1, if_pos (by omega), Nat.testBit_lt_two_pow (Nat.lt_of_lt_of_le hN (Nat.pow_le_pow_right (by omega) (by omega)))]

theorem xor64 (n k : Nat) (h : n < 18446744073709551616) (hk : k < 64) : bits .xor .u64 (n : Int) (IntKind.u64.wrap (2 ^ k)) = ((n ^^^ 2 ^ k : Nat) : Int) := by
  have h2 : (2 : Nat) ^ k < 18446744073709551616 := Nat.pow_lt_pow_right (n := 64) (by omega) hk
  have e : ((2 : Int) ^ k) = ((2 ^ k : Nat) : Int) := by simp
  rw [e]
  generalize (2 : Nat) ^ k = p at *
  rw [wrap_u64_in (by omega) (by omega)]
  exact u64_xor_nat n p h h2
theorem AB.set2 {w : World} {g : Nat} {v6 : Bool} {hi lo : Nat} (h : AB w g v6 hi lo) (l : Nat) : AB (w.setCell ⟨g, 2, none⟩ (.int .u64 l)) g v6 hi l := Cells.set h 2 (.int .u64 l)
theorem AB.set1 {w : World} {g : Nat} {v6 : Bool} {hi lo : Nat} (h : AB w g v6 hi lo) (l : Nat) : AB (w.setCell ⟨g, 1, none⟩ (.int .u64 l)) g v6 l lo := Cells.set h 1 (.int .u64 l)
theorem AB.far {w : World} {g b i : Nat} {v6 : Bool} {hi lo : Nat} (h : AB w g v6 hi lo) (hne : g ≠ b) (u : Value) : AB (w.setCell ⟨b, i, none⟩ u) g v6 hi lo := (Below.heap_setCell w ⟨b, i, none⟩ u g hne).trans h
/-- The three stores of an address. -/
def aset (w : World) (g : Nat) (v6 : Bool) (hi lo : Nat) : World := ((w.setCell ⟨g, 0, none⟩ (.bool v6)).setCell ⟨g, 1, none⟩ (.int .u64 hi)).setCell ⟨g, 2, none⟩ (.int .u64 lo)
theorem AB.set {w : World} {g : Nat} {b : Bool} {x y : Nat} (h : AB w g b x y) (v6 : Bool) (hi lo : Nat) : AB (aset w g v6 hi lo) g v6 hi lo := by
  have h0 := Cells.set h 0 (.bool v6)
  have h1 := Cells.set h0 1 (.int .u64 hi)
  have h2 := Cells.set h1 2 (.int .u64 lo)
  exact h2
theorem aset_below {B : Nat} {a w : World} {g : Nat} (h : Below B a w) (hg : B ≤ g) (v6 : Bool) (hi lo : Nat) : Below B a (aset w g v6 hi lo) := ((h.setCell hg _).setCell hg _).setCell hg _
end Go.Proofs.Ytmcelgnifpfjpaa

/- Prefixes in memory; contracts of the reference of layer 6: MakePrefix, ValidPrefix, Contains, Bounds. -/
namespace Go.Proofs.Ytmcelgnifpfjpaa
open Go.ChangeShapes Go.WideShapes Go.ChangeAt Go.RowKit
set_option linter.unusedVariables false

/-- A prefix in a box. -/
def PB (w : World) (g : Nat) (v6 : Bool) (hi lo : Nat) (bits : Int) : Prop := Cells w g 37 #[.bool v6, .int .u64 hi, .int .u64 lo, .int .i64 bits]
theorem pb_new (w : World) (v6 : Bool) (hi lo : Nat) (bits : Int) : PB (w.alloc (.cells #[.bool v6, .int .u64 hi, .int .u64 lo, .int .i64 bits] 37)) w.heap.size v6 hi lo bits := heap_alloc_new w _
theorem PB.kept {w w' : World} {g B : Nat} {v6 : Bool} {hi lo : Nat} {bits : Int} (h : PB w g v6 hi lo bits) (hb : Below B w w') (hg : g < B) : PB w' g v6 hi lo bits := (hb.block _ hg).trans h
theorem PB.lt {w : World} {g : Nat} {v6 : Bool} {hi lo : Nat} {bits : Int} (h : PB w g v6 hi lo bits) : g < w.heap.size := Cells.lt h
theorem PB.c0 {w : World} {g : Nat} {v6 : Bool} {hi lo : Nat} {bits : Int} (h : PB w g v6 hi lo bits) : w.cell? ⟨g, 0, none⟩ = some (.bool v6) := (Cells.cell h 0).trans rfl
theorem PB.c1 {w : World} {g : Nat} {v6 : Bool} {hi lo : Nat} {bits : Int} (h : PB w g v6 hi lo bits) : w.cell? ⟨g, 1, none⟩ = some (.int .u64 hi) := (Cells.cell h 1).trans rfl
theorem PB.c2 {w : World} {g : Nat} {v6 : Bool} {hi lo : Nat} {bits : Int} (h : PB w g v6 hi lo bits) : w.cell? ⟨g, 2, none⟩ = some (.int .u64 lo) := (Cells.cell h 2).trans rfl
theorem PB.c3 {w : World} {g : Nat} {v6 : Bool} {hi lo : Nat} {bits : Int} (h : PB w g v6 hi lo bits) : w.cell? ⟨g, 3, none⟩ = some (.int .i64 bits) := (Cells.cell h 3).trans rfl
theorem PB.far {w : World} {g b i : Nat} {v6 : Bool} {hi lo : Nat} {bits : Int} (h : PB w g v6 hi lo bits) (hne : g ≠ b) (u : Value) : PB (w.setCell ⟨b, i, none⟩ u) g v6 hi lo bits := (Below.heap_setCell w ⟨b, i, none⟩ u g hne).trans h
theorem PB.f {w : World} {g : Nat} {v6 : Bool} {hi lo : Nat} {bits : Int} (h : PB w g v6 hi lo bits) (i : Nat) : w.frozen? ⟨g, i, none⟩ = false := Cells.frozen h i
theorem pfx_size : (Try.prog.info? 37).map (·.size) = some 4 := by kernel_rfl
theorem res_pfx2 {fn : Func} {p u : Tmp} (h : fn.results = #[.cell p 37, .tmp u]) (tmps : Array Value) (w : World) {g : Nat} {v6 : Bool} {hi lo : Nat} {bits : Int} (hp : tmps.getD p undef = .pointer (some ⟨g, 0, none⟩)) (ht : PB w g v6 hi lo bits) :
    (results fn tmps).run Try.prog w = .ok (.tuple #[.agg #[.bool v6, .int .u64 hi, .int .u64 lo, .int .i64 bits], tmps.getD u undef]) w := by
  have hp' : tmps[p]?.getD undef = .pointer (some ⟨g, 0, none⟩) := by simpa using hp
  simp [results, h, hp', asAddr, run_loadVar_row w g 37 37 _ (0, 0) _ ht Try.underlying37 rfl pfx_size]
theorem pb2 (w : World) (o : Obj) (v6 : Bool) (hi lo : Nat) (bits : Int) : PB ((w.alloc o).alloc (.cells #[.bool v6, .int .u64 hi, .int .u64 lo, .int .i64 bits] 37)) (w.heap.size + 1) v6 hi lo bits := by
  have := pb_new (w.alloc o) v6 hi lo bits
  rwa [show (w.alloc o).heap.size = w.heap.size + 1 by simp] at this
/-- The four stores of a prefix. -/
def pset (w : World) (g : Nat) (v6 : Bool) (hi lo : Nat) (bits : Int) : World := (((w.setCell ⟨g, 0, none⟩ (.bool v6)).setCell ⟨g, 1, none⟩ (.int .u64 hi)).setCell ⟨g, 2, none⟩ (.int .u64 lo)).setCell ⟨g, 3, none⟩ (.int .i64 bits)
theorem PB.set {w : World} {g : Nat} {b : Bool} {x y : Nat} {z : Int} (h : PB w g b x y z) (v6 : Bool) (hi lo : Nat) (bits : Int) : PB (pset w g v6 hi lo bits) g v6 hi lo bits := by
  have h0 := Cells.set h 0 (.bool v6)
  have h1 := Cells.set h0 1 (.int .u64 hi)
  have h2 := Cells.set h1 2 (.int .u64 lo)
  have h3 := Cells.set h2 3 (.int .i64 bits)
  exact h3
theorem pset_below {B : Nat} {a w : World} {g : Nat} (h : Below B a w) (hg : B ≤ g) (v6 : Bool) (hi lo : Nat) (bits : Int) : Below B a (pset w g v6 hi lo bits) := (((h.setCell hg _).setCell hg _).setCell hg _).setCell hg _
end Go.Proofs.Ytmcelgnifpfjpaa
