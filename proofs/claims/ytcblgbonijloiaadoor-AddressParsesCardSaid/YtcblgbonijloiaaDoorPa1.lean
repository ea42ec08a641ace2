/- Contracts of the functions, part 1: AdrMath, Plain, Nums, Mem, Mem2, Ref, AdrNum, AdrDec, AdrGap, AdrSplit. -/
import Derived.Below
import Derived.Test.YtcblgbonijloiaaDoorRows
import Derived.WalkKit
import Derived.LoopTactic
import Derived.ProofKit
import Derived.OpenShut
import Derived.ShutString
import Derived.ChangeOld
import Derived.Lib.Hide
import Derived.BigQuiet
import Derived.Outline
import Derived.IntWalk
import Derived.Deep.OwnRows
import Derived.Lib.SlBytesRow
import Derived.Laws.IdiomStrings
import Derived.RegionTactic
import Derived.WalkSmall
import Derived.Deep.DeepFit
import Derived.Laws.BitsAllLaws
import Derived.Laws.BitsLemmas
import Derived.WalkSpells
import Derived.Deep.RegionWith
import Derived.OwnWalk
import Derived.Deep.QuietTactic
import Derived.Deep.AppendLies
import Derived.Deep.RegionHeld3
import Derived.Laws.OwnMore
/- Plain mathematics of the texts of addresses of layer 6: no Go in sight. -/
namespace Go.Proofs.YtcblgbonijloiaaDoor
set_option linter.unusedVariables false

abbrev By := List UInt8
/-- A digit's byte, in decimal and in hexadecimal. -/
def dig (n : Nat) : UInt8 := UInt8.ofNat (48 + n)
def hexd (n : Nat) : UInt8 := if n < 10 then UInt8.ofNat (48 + n) else UInt8.ofNat (87 + n)
/-- A number in decimal. -/
def numL (n : Nat) : By := if n ≤ 9 then [dig n] else numL (n / 10) ++ [dig (n % 10)]
termination_by n
decreasing_by omega
/-- A group in hexadecimal. -/
def hexL (n : Nat) : By := if n ≤ 15 then [hexd n] else hexL (n / 16) ++ [hexd (n % 16)]
termination_by n
decreasing_by omega
/-- The number that digits denote, no more than most + 1. -/
def decGo (most : Nat) : Nat → By → Option Nat
  | n, [] => some n
  | n, c :: r => if 48 ≤ c.toNat ∧ c.toNat ≤ 57 then decGo most (min (10 * n + (c.toNat - 48)) (most + 1)) r else none
/-- .. as the reference answers: -1: malformed, -2: too great. -/
def decS (most : Nat) (s : By) : Int :=
  if s.length = 0 ∨ (1 < s.length ∧ s.head? = some 48) then -1
  else match decGo most 0 s with
    | none => -1
    | some n => if most < n then -2 else n
/-- A text divided at a byte; cur: the piece under way. -/
def splitGo (c : UInt8) : By → By → List By
  | cur, [] => [cur]
  | cur, x :: r => if x = c then cur :: splitGo c [] r else splitGo c (cur ++ [x]) r
def splitL (c : UInt8) (s : By) : List By := splitGo c [] s
/-- A hexadecimal digit's value. -/
def hexV (c : UInt8) : Option Nat :=
  if 48 ≤ c.toNat ∧ c.toNat ≤ 57 then some (c.toNat - 48)
  else if 97 ≤ c.toNat ∧ c.toNat ≤ 102 then some (c.toNat - 87)
  else if 65 ≤ c.toNat ∧ c.toNat ≤ 70 then some (c.toNat - 55) else none
def hexGo : Nat → By → Option Nat
  | n, [] => some n
  | n, c :: r => match hexV c with
    | some d => hexGo (16 * n + d) r
    | none => none
def grpS (s : By) : Option Nat := if s.length < 1 ∨ 4 < s.length then none else hexGo 0 s
def grpAll : List By → Option (List Nat)
  | [] => some []
  | s :: r => match grpS s with
    | none => none
    | some n => (grpAll r).map (n :: ·)
def groupsS (s : By) : Option (List Nat) := if s = [] then some [] else grpAll (splitL 58 s)
/-- A text divided at its first two colons. -/
def cutGap : By → Option (By × By)
  | [] => none
  | [_] => none
  | x :: y :: r => if x = 58 ∧ y = 58 then some ([], r) else (cutGap (y :: r)).map fun p => (x :: p.1, p.2)
/-- The eight groups of a text. -/
def parse6 (s : By) : Option (List Nat) :=
  match cutGap s with
  | none => match groupsS s with
    | some x => if x.length = 8 then some x else none
    | none => none
  | some (a, b) => match groupsS a, groupsS b with
    | some x, some y => if x.length + y.length ≤ 7 then some (x ++ List.replicate (8 - (x.length + y.length)) 0 ++ y) else none
    | _, _ => none
/-- The four bytes of a text. -/
def decAll : List By → Option (List Nat)
  | [] => some []
  | s :: r => match decS 255 s with
    | .ofNat n => (decAll r).map (n :: ·)
    | _ => none
def parse4 (s : By) : Option (List Nat) := if (splitL 46 s).length = 4 then decAll (splitL 46 s) else none
/-- A number out of its digits to a base. -/
def ofDigits (b : Nat) (l : List Nat) : Nat := l.foldl (fun n d => n * b + d) 0
/-- An address: its family, and its number of 32 or 128 bits. -/
structure Adr where
  v6 : Bool
  n : Nat
def width (v6 : Bool) : Nat := if v6 then 128 else 32
def Adr.ok (a : Adr) : Prop := a.n < 2 ^ width a.v6
def parseS (s : By) : Option Adr :=
  match parse4 s with
  | some l => some ⟨false, ofDigits 256 l⟩
  | none => match parse6 s with
    | some l => some ⟨true, ofDigits 65536 l⟩
    | none => none
/-- The digits of a number to a base, k of them. -/
def digitsOf (b n : Nat) : Nat → List Nat
  | 0 => []
  | k + 1 => digitsOf b (n / b) k ++ [n % b]
/-- Pieces with a byte between them. -/
def joinC (c : UInt8) : List By → By
  | [] => []
  | [p] => p
  | p :: q :: r => p ++ c :: joinC c (q :: r)
/-- How many zeros a list begins with. -/
def zeros : List Nat → Nat
  | 0 :: r => zeros r + 1
  | _ => 0
/-- The first longest run of zeros, of two or more: where it begins, how long it is. i: the index of the list's head; at, most: the best so far. -/
def bestGo : List Nat → Nat → Option Nat → Nat → Option Nat × Nat
  | [], _, at_, most => (at_, most)
  | x :: r, i, at_, most => if most < zeros (x :: r) then bestGo r (i + 1) (some i) (zeros (x :: r)) else bestGo r (i + 1) at_ most
def best (l : List Nat) : Option Nat × Nat := bestGo l 0 none 1
def fmt6 (l : List Nat) : By :=
  match best l with
  | (none, _) => joinC 58 (l.map hexL)
  | (some k, m) => joinC 58 ((l.take k).map hexL) ++ [58, 58] ++ joinC 58 ((l.drop (k + m)).map hexL)
def fmt4 (l : List Nat) : By := joinC 46 (l.map numL)
def fmtS (a : Adr) : By := if a.v6 then fmt6 (digitsOf 65536 a.n 8) else fmt4 (digitsOf 256 a.n 4)

/-! ### Decimal -/
theorem dig_toNat {n : Nat} (h : n ≤ 9) : (dig n).toNat = 48 + n := by
  unfold dig
  rw [UInt8.toNat_ofNat']
  omega
theorem decGo_append (most : Nat) : ∀ (a : By) (n : Nat) (b : By), decGo most n (a ++ b) = (decGo most n a).bind fun m => decGo most m b
  | [], n, b => rfl
  | c :: r, n, b => by
    rw [List.cons_append, decGo, decGo]
    split
    · exact decGo_append most r _ b
    · rfl
theorem decGo_num {most : Nat} : ∀ (n : Nat), n ≤ most → decGo most 0 (numL n) = some n := by
  intro n
  induction n using Nat.strongRecOn with
  | _ n ih =>
    intro h
    rw [numL]
    split
    · rename_i h9
      rw [decGo, dig_toNat h9, if_pos (by omega), decGo]
      congr 1
      omega
    · rw [decGo_append, ih (n / 10) (by omega) (by omega), Option.bind_some, decGo, dig_toNat (by omega), if_pos (by omega), decGo]
      congr 1
      omega
theorem num_ne (n : Nat) : 0 < (numL n).length := by
  rw [numL]
  split <;> simp
theorem num_head : ∀ (n : Nat), (numL n).head? = some 48 → n = 0 := by
  intro n
  induction n using Nat.strongRecOn with
  | _ n ih =>
    intro h
    rw [numL] at h
    split at h
    · rename_i h9
      simp only [List.head?_cons, Option.some.injEq] at h
      have h2 := congrArg UInt8.toNat h
      rw [dig_toNat h9] at h2
      simp at h2
      omega
    · have h2 : (numL (n / 10)).head? = some 48 := by
        have hp := num_ne (n / 10)
        cases hq : numL (n / 10) with
        | nil => rw [hq] at hp; simp at hp
        | cons y r => rw [hq] at h; simpa using h
      have := ih (n / 10) (by omega) h2
      omega
theorem num_zero : numL 0 = [48] := by rw [numL]; rfl
theorem decS_num {most n : Nat} (h : n ≤ most) : decS most (numL n) = n := by
  unfold decS
  rw [if_neg, decGo_num n h]
  · show (if most < n then (-2 : Int) else n) = n
    rw [if_neg (by omega)]
  · rintro (h1 | ⟨h1, h2⟩)
    · have := num_ne n; omega
    · have := num_head n h2
      subst this
      rw [num_zero] at h1
      simp at h1
theorem num_digits : ∀ (n : Nat), ∀ c ∈ numL n, 48 ≤ c.toNat ∧ c.toNat ≤ 57 := by
  intro n
  induction n using Nat.strongRecOn with
  | _ n ih =>
    intro c hc
    rw [numL] at hc
    split at hc
    · rename_i h9
      simp only [List.mem_singleton] at hc
      subst hc
      rw [dig_toNat h9]; omega
    · rw [List.mem_append] at hc
      rcases hc with hc | hc
      · exact ih (n / 10) (by omega) c hc
      · simp only [List.mem_singleton] at hc
        subst hc
        rw [dig_toNat (by omega)]; omega
theorem num_len {n : Nat} (h : n < 1000) : (numL n).length ≤ 3 := by
  rw [numL]
  split
  · simp
  · rw [numL]
    split
    · simp
    · rw [numL, if_pos (by omega)]; simp

theorem num_len_pow : ∀ (k n : Nat), n < 10 ^ (k + 1) → (numL n).length ≤ k + 1
  | 0, n, h => by rw [numL, if_pos (by omega)]; simp
  | k + 1, n, h => by
    rw [numL]
    split
    · simp
    · have := num_len_pow k (n / 10) (by rw [Nat.pow_succ] at h; omega)
      rw [List.length_append]; simp; omega

/-! ### Hexadecimal -/
theorem hexd_toNat {n : Nat} (h : n ≤ 15) : (hexd n).toNat = if n < 10 then 48 + n else 87 + n := by
  unfold hexd
  split <;> (rw [UInt8.toNat_ofNat']; omega)
theorem hexV_hexd {n : Nat} (h : n ≤ 15) : hexV (hexd n) = some n := by
  unfold hexV
  rw [hexd_toNat h]
  by_cases h9 : n < 10
  · rw [if_pos h9, if_pos (by omega)]
    congr 1; omega
  · rw [if_neg h9, if_neg (by omega), if_pos (by omega)]
    congr 1; omega
theorem hexGo_append : ∀ (a : By) (n : Nat) (b : By), hexGo n (a ++ b) = (hexGo n a).bind fun m => hexGo m b
  | [], n, b => rfl
  | c :: r, n, b => by
    rw [List.cons_append, hexGo, hexGo]
    cases hexV c with
    | none => rfl
    | some d => exact hexGo_append r _ b
theorem hexGo_hex : ∀ (n : Nat), hexGo 0 (hexL n) = some n := by
  intro n
  induction n using Nat.strongRecOn with
  | _ n ih =>
    rw [hexL]
    split
    · rename_i h
      rw [hexGo, hexV_hexd h]
      show hexGo _ [] = _
      rw [hexGo]; congr 1; omega
    · rw [hexGo_append, ih (n / 16) (by omega), Option.bind_some, hexGo, hexV_hexd (by omega)]
      show hexGo _ [] = _
      rw [hexGo]; congr 1; omega
theorem hex_ne (n : Nat) : 0 < (hexL n).length := by
  rw [hexL]
  split <;> simp
theorem hex_len {n : Nat} (h : n < 65536) : (hexL n).length ≤ 4 := by
  rw [hexL]
  split
  · simp
  · rw [hexL]
    split
    · simp
    · rw [hexL]
      split
      · simp
      · rw [hexL, if_pos (by omega)]; simp
theorem grpS_hex {n : Nat} (h : n < 65536) : grpS (hexL n) = some n := by
  unfold grpS
  rw [if_neg (by have := hex_ne n; have := hex_len h; omega), hexGo_hex]
/-- A hexadecimal digit is neither a point, nor a stroke, nor a colon. -/
theorem hex_digits : ∀ (n : Nat), ∀ c ∈ hexL n, (48 ≤ c.toNat ∧ c.toNat ≤ 57) ∨ (97 ≤ c.toNat ∧ c.toNat ≤ 102) := by
  intro n
  induction n using Nat.strongRecOn with
  | _ n ih =>
    intro c hc
    have key : ∀ d, d ≤ 15 → (48 ≤ (hexd d).toNat ∧ (hexd d).toNat ≤ 57) ∨ (97 ≤ (hexd d).toNat ∧ (hexd d).toNat ≤ 102) := fun d hd => by
      rw [hexd_toNat hd]
      split <;> omega
    rw [hexL] at hc
    split at hc
    · rename_i h9
      simp only [List.mem_singleton] at hc
      subst hc
      exact key _ h9
    · rw [List.mem_append] at hc
      rcases hc with hc | hc
      · exact ih (n / 16) (by omega) c hc
      · simp only [List.mem_singleton] at hc
        subst hc
        exact key _ (by omega)

theorem hex_len_pow : ∀ (k n : Nat), n < 16 ^ (k + 1) → (hexL n).length ≤ k + 1
  | 0, n, h => by rw [hexL, if_pos (by omega)]; simp
  | k + 1, n, h => by
    rw [hexL]
    split
    · simp
    · have := hex_len_pow k (n / 16) (by rw [Nat.pow_succ] at h; omega)
      rw [List.length_append]; simp; omega

/-! ### Dividing and joining -/
theorem splitGo_none {c : UInt8} : ∀ (p cur : By), (∀ x ∈ p, x ≠ c) → splitGo c cur p = [cur ++ p]
  | [], cur, _ => by simp [splitGo]
  | x :: r, cur, h => by
    rw [splitGo, if_neg (h x (by simp)), splitGo_none r _ (fun y hy => h y (by simp [hy]))]
    simp
theorem splitGo_at {c : UInt8} : ∀ (p cur r : By), (∀ x ∈ p, x ≠ c) → splitGo c cur (p ++ c :: r) = (cur ++ p) :: splitGo c [] r
  | [], cur, r, _ => by simp [splitGo]
  | x :: q, cur, r, h => by
    rw [List.cons_append, splitGo, if_neg (h x (by simp)), splitGo_at q _ r (fun y hy => h y (by simp [hy]))]
    simp
theorem split_join {c : UInt8} : ∀ (l : List By), l ≠ [] → (∀ p ∈ l, ∀ x ∈ p, x ≠ c) → splitL c (joinC c l) = l
  | [], h, _ => absurd rfl h
  | [p], _, h => by
    show splitGo c [] p = [p]
    rw [splitGo_none p [] (h p (by simp))]; rfl
  | p :: q :: r, _, h => by
    have ih := split_join (q :: r) (by simp) (fun y hy => h y (by simp only [List.mem_cons] at hy ⊢; exact .inr hy))
    show splitGo c [] (p ++ c :: joinC c (q :: r)) = _
    rw [splitGo_at p [] _ (h p (by simp))]
    unfold splitL at ih
    rw [ih]; rfl
theorem join_mem {c : UInt8} : ∀ (l : List By) (x : UInt8), x ∈ joinC c l → x = c ∨ ∃ p ∈ l, x ∈ p
  | [], x, h => by simp [joinC] at h
  | [p], x, h => .inr ⟨p, by simp, h⟩
  | p :: q :: r, x, h => by
    rw [joinC, List.mem_append, List.mem_cons] at h
    rcases h with h | h | h
    · exact .inr ⟨p, by simp, h⟩
    · exact .inl h
    · rcases join_mem (q :: r) x h with h | ⟨y, hy, h⟩
      · exact .inl h
      · exact .inr ⟨y, by simp only [List.mem_cons] at hy ⊢; exact .inr hy, h⟩

/-! ### The text of an IPv4 address -/
theorem decAll_num : ∀ (l : List Nat), (∀ n ∈ l, n ≤ 255) → decAll (l.map numL) = some l
  | [], _ => rfl
  | n :: r, h => by
    rw [List.map_cons, decAll, decS_num (h n (by simp))]
    show (decAll (r.map numL)).map (n :: ·) = _
    rw [decAll_num r (fun m hm => h m (by simp [hm]))]
    rfl
theorem num_no {c : UInt8} (hc : c.toNat < 48) {n : Nat} : ∀ x ∈ numL n, x ≠ c := fun x hx e => by
  have := num_digits n x hx
  rw [e] at this
  omega
theorem parse4_fmt4 {l : List Nat} (hl : l.length = 4) (h : ∀ n ∈ l, n ≤ 255) : parse4 (fmt4 l) = some l := by
  unfold parse4 fmt4
  have hs : splitL 46 (joinC 46 (l.map numL)) = l.map numL := split_join _ (by intro e; have := congrArg List.length e; simp [hl] at this) (fun p hp => by
    obtain ⟨n, _, rfl⟩ := List.mem_map.1 hp
    exact num_no (by decide))
  rw [hs, if_pos (by simp [hl]), decAll_num l h]
theorem digitsOf_len (b : Nat) : ∀ (k n : Nat), (digitsOf b n k).length = k
  | 0, n => rfl
  | k + 1, n => by rw [digitsOf, List.length_append, digitsOf_len b k]; rfl
theorem digitsOf_lt {b : Nat} (hb : 0 < b) : ∀ (k n : Nat), ∀ d ∈ digitsOf b n k, d < b
  | 0, n, d, h => by simp [digitsOf] at h
  | k + 1, n, d, h => by
    rw [digitsOf, List.mem_append] at h
    rcases h with h | h
    · exact digitsOf_lt hb k _ d h
    · simp only [List.mem_singleton] at h
      subst h
      exact Nat.mod_lt _ hb
theorem ofDigits_snoc (b : Nat) (l : List Nat) (d : Nat) : ofDigits b (l ++ [d]) = ofDigits b l * b + d := by
  unfold ofDigits
  rw [List.foldl_append]; rfl
theorem ofDigits_of {b : Nat} (hb : 0 < b) : ∀ (k n : Nat), n < b ^ k → ofDigits b (digitsOf b n k) = n
  | 0, n, h => by
    have : n = 0 := by simpa using h
    subst this
    rfl
  | k + 1, n, h => by
    rw [digitsOf, ofDigits_snoc, ofDigits_of hb k (n / b) (by rw [Nat.div_lt_iff_lt_mul hb]; rwa [Nat.pow_succ] at h)]
    exact Nat.div_add_mod' n b

/-! ### The text of an IPv6 address -/
theorem grpAll_hex : ∀ (l : List Nat), (∀ n ∈ l, n < 65536) → grpAll (l.map hexL) = some l
  | [], _ => rfl
  | n :: r, h => by
    rw [List.map_cons, grpAll, grpS_hex (h n (by simp))]
    show (grpAll (r.map hexL)).map (n :: ·) = _
    rw [grpAll_hex r (fun m hm => h m (by simp [hm]))]
    rfl
theorem hex_no {c : UInt8} (hc : c.toNat < 48 ∨ c.toNat = 58) {n : Nat} : ∀ x ∈ hexL n, x ≠ c := fun x hx e => by
  have := hex_digits n x hx
  rw [e] at this
  omega
theorem groups_join {l : List Nat} (h : ∀ n ∈ l, n < 65536) : groupsS (joinC 58 (l.map hexL)) = some l := by
  unfold groupsS
  cases l with
  | nil => rfl
  | cons n r =>
    have hne : joinC 58 ((n :: r).map hexL) ≠ [] := by
      intro e
      have hp := hex_ne n
      cases r with
      | nil =>
        have : hexL n = [] := e
        rw [this] at hp; simp at hp
      | cons m q =>
        have : hexL n ++ 58 :: joinC 58 ((m :: q).map hexL) = [] := e
        simp at this
    rw [if_neg hne, split_join _ (by simp) (fun p hp => by
      obtain ⟨m, _, rfl⟩ := List.mem_map.1 hp
      exact hex_no (.inr rfl)), grpAll_hex _ h]
/-- No text that ends with a digit, and has no two colons, is cut before its end. -/
def noGap : By → Prop
  | [] => True
  | [x] => x ≠ 58
  | x :: y :: r => ¬ (x = 58 ∧ y = 58) ∧ noGap (y :: r)
theorem cut_none : ∀ (s : By), noGap s → cutGap s = none
  | [], _ => rfl
  | [x], _ => rfl
  | x :: y :: r, h => by
    rw [cutGap, if_neg h.1, cut_none (y :: r) h.2]; rfl
theorem cut_some : ∀ (s r : By), noGap s → cutGap (s ++ 58 :: 58 :: r) = some (s, r)
  | [], r, _ => by simp [cutGap]
  | [x], r, h => by
    show cutGap (x :: 58 :: 58 :: r) = _
    rw [cutGap, if_neg (fun e => h e.1)]
    simp [cutGap]
  | x :: y :: q, r, h => by
    have ih := cut_some (y :: q) r h.2
    show cutGap (x :: y :: (q ++ 58 :: 58 :: r)) = _
    rw [cutGap, if_neg h.1]
    have ih' : cutGap (y :: (q ++ 58 :: 58 :: r)) = some (y :: q, r) := ih
    rw [ih']; rfl
theorem noGap_hex : ∀ (p q : By), 0 < p.length → (∀ x ∈ p, x ≠ 58) → (q = [] ∨ ∃ y r, q = 58 :: y :: r ∧ y ≠ 58 ∧ noGap (y :: r)) → noGap (p ++ q)
  | [], _, h, _, _ => by simp at h
  | [x], q, _, h, hq => by
    have hx := h x (by simp)
    rcases hq with rfl | ⟨y, r, rfl, hy, hn⟩
    · exact hx
    · exact ⟨fun e => hx e.1, fun e => hy e.2, hn⟩
  | x :: y :: r, q, _, h, hq => by
    have ih := noGap_hex (y :: r) q (by simp) (fun z hz => h z (by simp only [List.mem_cons] at hz ⊢; exact .inr hz)) hq
    exact ⟨fun e => h x (by simp) e.1, ih⟩
theorem noGap_join : ∀ (l : List Nat), noGap (joinC 58 (l.map hexL))
  | [] => trivial
  | [n] => by
    have := noGap_hex (hexL n) [] (hex_ne n) (hex_no (.inr rfl)) (.inl rfl)
    simpa [joinC] using this
  | n :: m :: r => by
    have ih := noGap_join (m :: r)
    show noGap (hexL n ++ 58 :: joinC 58 ((m :: r).map hexL))
    refine noGap_hex (hexL n) _ (hex_ne n) (hex_no (.inr rfl)) (.inr ?_)
    have hp := hex_ne m
    cases hq : hexL m with
    | nil => rw [hq] at hp; simp at hp
    | cons y z =>
      have hy : y ≠ 58 := hex_no (.inr rfl) (n := m) y (by rw [hq]; simp)
      cases r with
      | nil =>
        have e : joinC 58 ([m].map hexL) = y :: z := by show hexL m = _; exact hq
        rw [e] at ih ⊢
        exact ⟨y, z, rfl, hy, ih⟩
      | cons k w =>
        have e : joinC 58 ((m :: k :: w).map hexL) = y :: (z ++ 58 :: joinC 58 ((k :: w).map hexL)) := by show hexL m ++ _ = _; rw [hq]; rfl
        rw [e] at ih ⊢
        exact ⟨y, _, rfl, hy, ih⟩
theorem zeros_le : ∀ l : List Nat, zeros l ≤ l.length
  | [] => Nat.le_refl _
  | 0 :: r => by rw [zeros]; have := zeros_le r; simp; omega
  | (n + 1) :: r => by simp [zeros]
theorem zeros_spec : ∀ l : List Nat, l = List.replicate (zeros l) 0 ++ l.drop (zeros l)
  | [] => rfl
  | 0 :: r => by
    rw [zeros, List.replicate_succ, List.cons_append, List.drop_succ_cons, ← zeros_spec r]
  | (n + 1) :: r => by simp [zeros]
theorem bestGo_spec : ∀ (l : List Nat) (i : Nat) (at_ : Option Nat) (most : Nat), bestGo l i at_ most = (at_, most) ∨ ∃ j, j < l.length ∧ (bestGo l i at_ most).1 = some (i + j) ∧ (bestGo l i at_ most).2 = zeros (l.drop j) ∧ most < (bestGo l i at_ most).2
  | [], i, at_, most => .inl rfl
  | x :: r, i, at_, most => by
    rw [bestGo]
    split
    · rename_i h
      rcases bestGo_spec r (i + 1) (some i) (zeros (x :: r)) with h1 | ⟨j, h1, h2, h3, h4⟩
      · rw [h1]
        exact .inr ⟨0, by simp, by simp, rfl, h⟩
      · exact .inr ⟨j + 1, by simp; omega, by rw [h2]; congr 1; omega, by rw [h3]; rfl, by omega⟩
    · rcases bestGo_spec r (i + 1) at_ most with h1 | ⟨j, h1, h2, h3, h4⟩
      · exact .inl h1
      · exact .inr ⟨j + 1, by simp; omega, by rw [h2]; congr 1; omega, by rw [h3]; rfl, h4⟩
/-- What is left out: two or more zeros that stand there. -/
theorem best_spec (l : List Nat) : best l = (none, 1) ∨ ∃ k m, best l = (some k, m) ∧ 2 ≤ m ∧ k + m ≤ l.length ∧ l = l.take k ++ List.replicate m 0 ++ l.drop (k + m) := by
  rcases bestGo_spec l 0 none 1 with h | ⟨j, h1, h2, h3, h4⟩
  · exact .inl h
  · right
    have hz := zeros_spec (l.drop j)
    have hl := zeros_le (l.drop j)
    rw [List.length_drop] at hl
    refine ⟨j, zeros (l.drop j), ?_, by rw [h3] at h4; omega, by omega, ?_⟩
    · rw [Nat.zero_add] at h2
      show bestGo l 0 none 1 = _
      rw [← h3, ← h2]
    · rw [List.drop_drop] at hz
      rw [List.append_assoc, ← hz, List.take_append_drop]
theorem parse6_fmt6 {l : List Nat} (hl : l.length = 8) (h : ∀ n ∈ l, n < 65536) : parse6 (fmt6 l) = some l := by
  unfold fmt6
  rcases best_spec l with hb | ⟨k, m, hb, hm, hkm, hsp⟩
  · rw [hb]
    show parse6 (joinC 58 (l.map hexL)) = _
    unfold parse6
    rw [cut_none _ (noGap_join l), groups_join h]
    show (if l.length = 8 then some l else none) = _
    rw [if_pos hl]
  · rw [hb]
    show parse6 (joinC 58 ((l.take k).map hexL) ++ [58, 58] ++ joinC 58 ((l.drop (k + m)).map hexL)) = _
    unfold parse6
    rw [List.append_assoc]
    show (match cutGap (joinC 58 ((l.take k).map hexL) ++ 58 :: 58 :: joinC 58 ((l.drop (k + m)).map hexL)) with
      | none => _
      | some (a, b) => _) = _
    rw [cut_some _ _ (noGap_join _)]
    show (match groupsS (joinC 58 ((l.take k).map hexL)), groupsS (joinC 58 ((l.drop (k + m)).map hexL)) with
      | some x, some y => if x.length + y.length ≤ 7 then some (x ++ List.replicate (8 - (x.length + y.length)) 0 ++ y) else none
      | _, _ => none) = _
    rw [groups_join (fun n hn => h n (List.mem_of_mem_take hn)), groups_join (fun n hn => h n (List.mem_of_mem_drop hn))]
    show (if (l.take k).length + (l.drop (k + m)).length ≤ 7 then some (l.take k ++ List.replicate (8 - ((l.take k).length + (l.drop (k + m)).length)) 0 ++ l.drop (k + m)) else none) = _
    have e1 : (l.take k).length + (l.drop (k + m)).length = 8 - m := by
      rw [List.length_take, List.length_drop]; omega
    rw [e1, if_pos (by omega), show 8 - (8 - m) = m by omega, ← hsp]
theorem fmt6_mem (l : List Nat) (c : UInt8) (hc : c ∈ fmt6 l) : c = 58 ∨ (48 ≤ c.toNat ∧ c.toNat ≤ 57) ∨ (97 ≤ c.toNat ∧ c.toNat ≤ 102) := by
  have key : ∀ q : List Nat, c ∈ joinC 58 (q.map hexL) → c = 58 ∨ (48 ≤ c.toNat ∧ c.toNat ≤ 57) ∨ (97 ≤ c.toNat ∧ c.toNat ≤ 102) := fun q hq => by
    rcases join_mem _ _ hq with h | ⟨p, hp, h⟩
    · exact .inl h
    · obtain ⟨n, _, rfl⟩ := List.mem_map.1 hp
      exact .inr (hex_digits n c h)
  unfold fmt6 at hc
  split at hc
  · exact key _ hc
  · rw [List.mem_append, List.mem_append] at hc
    rcases hc with (hc | hc) | hc
    · exact key _ hc
    · simp at hc
      exact .inl hc
    · exact key _ hc
theorem fmt4_mem (l : List Nat) (c : UInt8) (hc : c ∈ fmt4 l) : c = 46 ∨ (48 ≤ c.toNat ∧ c.toNat ≤ 57) := by
  unfold fmt4 at hc
  rcases join_mem _ _ hc with h | ⟨p, hp, h⟩
  · exact .inl h
  · obtain ⟨n, _, rfl⟩ := List.mem_map.1 hp
    exact .inr (num_digits n c h)
theorem parse4_no (s : By) (h : ∀ x ∈ s, x ≠ 46) : parse4 s = none := by
  unfold parse4 splitL
  rw [splitGo_none s [] h]
  simp
/-- PARSING A PRINTED ADDRESS RETURNS IT. -/
theorem parse_fmt {a : Adr} (h : a.ok) : parseS (fmtS a) = some a := by
  obtain ⟨v6, n⟩ := a
  cases v6 with
  | false =>
    have hn : n < 256 ^ 4 := by
      have : n < 2 ^ width false := h
      simpa [width] using this
    show parseS (fmt4 (digitsOf 256 n 4)) = _
    unfold parseS
    rw [parse4_fmt4 (digitsOf_len _ _ _) (fun d hd => by have := digitsOf_lt (by omega) 4 n d hd; omega)]
    show some (Adr.mk false (ofDigits 256 (digitsOf 256 n 4))) = _
    rw [ofDigits_of (by omega) 4 n hn]
  | true =>
    have hn : n < 65536 ^ 8 := by
      have : n < 2 ^ width true := h
      simpa [width] using this
    show parseS (fmt6 (digitsOf 65536 n 8)) = _
    unfold parseS
    rw [parse4_no _ (fun x hx e => by
      subst e
      rcases fmt6_mem _ _ hx with h | h | h
      · exact absurd h (by decide)
      · exact absurd h.1 (by decide)
      · exact absurd h.1 (by decide)), parse6_fmt6 (digitsOf_len _ _ _) (digitsOf_lt (by omega) 8 n)]
    show some (Adr.mk true (ofDigits 65536 (digitsOf 65536 n 8))) = _
    rw [ofDigits_of (by omega) 8 n hn]
theorem join_len (c : UInt8) (k : Nat) : ∀ l : List By, (∀ p ∈ l, p.length ≤ k) → (joinC c l).length ≤ l.length * (k + 1)
  | [], _ => by simp [joinC]
  | [p], h => by have := h p (by simp); simp [joinC]; omega
  | p :: q :: r, h => by
    have ih := join_len c k (q :: r) (fun y hy => h y (by simp only [List.mem_cons] at hy ⊢; exact .inr hy))
    have := h p (by simp)
    rw [joinC, List.length_append, List.length_cons]
    simp only [List.length_cons] at ih ⊢
    rw [Nat.add_mul (r.length + 1) 1]
    omega
/-- No text of an address is longer than 42 bytes. -/
theorem fmt_len {a : Adr} (h : a.ok) : (fmtS a).length ≤ 42 := by
  obtain ⟨v6, n⟩ := a
  cases v6 with
  | false =>
    show (fmt4 (digitsOf 256 n 4)).length ≤ 42
    unfold fmt4
    have := join_len 46 3 ((digitsOf 256 n 4).map numL) (fun p hp => by
      obtain ⟨d, hd, rfl⟩ := List.mem_map.1 hp
      exact num_len (by have := digitsOf_lt (by omega) 4 n d hd; omega))
    rw [List.length_map, digitsOf_len] at this
    omega
  | true =>
    show (fmt6 (digitsOf 65536 n 8)).length ≤ 42
    have hl := digitsOf_len 65536 8 n
    have hd := digitsOf_lt (b := 65536) (by omega) 8 n
    generalize digitsOf 65536 n 8 = l at *
    have key : ∀ q : List Nat, (∀ d ∈ q, d < 65536) → (joinC 58 (q.map hexL)).length ≤ q.length * 5 := fun q hq => by
      have := join_len 58 4 (q.map hexL) (fun p hp => by
        obtain ⟨d, hd, rfl⟩ := List.mem_map.1 hp
        exact hex_len (hq d hd))
      rwa [List.length_map] at this
    unfold fmt6
    split
    · have := key l hd
      omega
    · rename_i k m _
      have h1 := key (l.take k) (fun d hd' => hd d (List.mem_of_mem_take hd'))
      have h2 := key (l.drop (k + m)) (fun d hd' => hd d (List.mem_of_mem_drop hd'))
      rw [List.length_take] at h1
      rw [List.length_drop] at h2
      rw [List.length_append, List.length_append]
      simp only [List.length_cons, List.length_nil]
      omega

/-! ### Prefixes -/
structure Pfx where
  a : Adr
  bits : Nat
/-- The first bits of a number of w bits, the others 0; the others 1. -/
def cutN (w bits n : Nat) : Nat := n / 2 ^ (w - bits) * 2 ^ (w - bits)
def fillN (w bits n : Nat) : Nat := cutN w bits n + (2 ^ (w - bits) - 1)
def Pfx.ok (p : Pfx) : Prop := p.a.ok ∧ p.bits ≤ width p.a.v6 ∧ cutN (width p.a.v6) p.bits p.a.n = p.a.n
def fmtP (p : Pfx) : By := fmtS p.a ++ 47 :: numL p.bits
/-- What a text of a prefix denotes: the address ahead of the first stroke, and the number behind it (-1, -2 as decS has it). -/
def cutAt (c : UInt8) : By → By × Option By
  | [] => ([], none)
  | x :: r => if x = c then ([], some r) else ((x :: (cutAt c r).1), (cutAt c r).2)
theorem cutAt_at {c : UInt8} : ∀ (p r : By), (∀ x ∈ p, x ≠ c) → cutAt c (p ++ c :: r) = (p, some r)
  | [], r, _ => by simp [cutAt]
  | x :: q, r, h => by
    rw [List.cons_append, cutAt, if_neg (h x (by simp)), cutAt_at q r (fun y hy => h y (by simp [hy]))]
theorem fmt_no47 (a : Adr) : ∀ x ∈ fmtS a, x ≠ 47 := fun x hx e => by
  subst e
  unfold fmtS at hx
  split at hx
  · rcases fmt6_mem _ _ hx with h | h | h
    · exact absurd h (by decide)
    · exact absurd h.1 (by decide)
    · exact absurd h.1 (by decide)
  · rcases fmt4_mem _ _ hx with h | h
    · exact absurd h (by decide)
    · exact absurd h.1 (by decide)
theorem cut_fmtP (p : Pfx) : cutAt 47 (fmtP p) = (fmtS p.a, some (numL p.bits)) := cutAt_at _ _ (fmt_no47 p.a)
theorem fmtP_len {p : Pfx} (h : p.ok) : (fmtP p).length ≤ 64 := by
  have h1 := fmt_len h.1
  have h2 : (numL p.bits).length ≤ 3 := num_len (by
    have := h.2.1
    unfold width at this
    split at this <;> omega)
  unfold fmtP
  rw [List.length_append, List.length_cons]
  omega
theorem cutN_le (w bits n : Nat) : cutN w bits n ≤ n := Nat.div_mul_le_self _ _
theorem cutN_cutN (w bits n : Nat) : cutN w bits (cutN w bits n) = cutN w bits n := by
  unfold cutN
  rw [Nat.mul_div_cancel _ (Nat.two_pow_pos _)]
theorem fillN_lt {w bits n : Nat} (hb : bits ≤ w) (h : n < 2 ^ w) : fillN w bits n < 2 ^ w := by
  unfold fillN cutN
  have h2 : 2 ^ w = 2 ^ bits * 2 ^ (w - bits) := by rw [← Nat.pow_add]; congr 1; omega
  have h3 := Nat.two_pow_pos (w - bits)
  have h4 : n / 2 ^ (w - bits) < 2 ^ bits := by rw [Nat.div_lt_iff_lt_mul h3, ← h2]; exact h
  have h5 := Nat.mul_le_mul_right (2 ^ (w - bits)) (show n / 2 ^ (w - bits) + 1 ≤ 2 ^ bits from h4)
  rw [Nat.add_mul, Nat.one_mul] at h5
  omega
/-- A PREFIX CONTAINS EXACTLY WHAT LIES BETWEEN ITS BOUNDS. -/
theorem cutN_between {w bits n m : Nat} : cutN w bits m = cutN w bits n ↔ cutN w bits n ≤ m ∧ m ≤ fillN w bits n := by
  unfold fillN cutN
  have h3 := Nat.two_pow_pos (w - bits)
  generalize 2 ^ (w - bits) = b at *
  constructor
  · intro h
    have h1 := Nat.div_mul_le_self m b
    have h2 := Nat.lt_div_mul_add h3 (a := m)
    omega
  · rintro ⟨h1, h2⟩
    have e : m / b = n / b := by
      apply Nat.div_eq_of_lt_le
      · exact h1
      · rw [Nat.add_mul, Nat.one_mul]; omega
    rw [e]
end Go.Proofs.YtcblgbonijloiaaDoor

/- Plain mathematics of byte strings and numbers for layer 1: no Go in sight. -/
namespace Go.Proofs.YtcblgbonijloiaaDoor

/-- The size bytes of n, least significant first. -/
def leL : Nat → Nat → List UInt8
  | 0, _ => []
  | k + 1, n => UInt8.ofNat (n % 256) :: leL k (n / 256)

theorem leL_length : ∀ k n, (leL k n).length = k
  | 0, _ => rfl
  | k + 1, n => by simp [leL, leL_length k]

theorem leL_get : ∀ k n j (h : j < (leL k n).length), (leL k n)[j] = UInt8.ofNat (n / 256 ^ j % 256)
  | 0, _, j, h => by simp [leL] at h
  | k + 1, n, 0, _ => by simp [leL]
  | k + 1, n, j + 1, h => by
    simp only [leL, List.getElem_cons_succ]
    rw [leL_get k (n / 256) j (by simpa [leL] using h), Nat.div_div_eq_div_mul, Nat.pow_succ, Nat.mul_comm]

theorem leL_snoc : ∀ k n, leL (k + 1) n = leL k n ++ [UInt8.ofNat (n / 256 ^ k % 256)]
  | 0, n => by simp [leL]
  | k + 1, n => by
    have h := leL_snoc k (n / 256)
    rw [leL, h]
    simp only [leL, List.cons_append]
    rw [Nat.div_div_eq_div_mul, Nat.pow_succ, Nat.mul_comm]

/-- What bytes denote, most significant first. -/
def num (l : List UInt8) : Nat := l.foldl (fun a c => a * 256 + c.toNat) 0

theorem num_nil : num [] = 0 := rfl
theorem num_snoc (l : List UInt8) (c : UInt8) : num (l ++ [c]) = num l * 256 + c.toNat := by simp [num]

theorem u8_lt (c : UInt8) : c.toNat < 256 := c.toNat_lt

theorem numFrom_lt : ∀ (l : List UInt8) (a : Nat), l.foldl (fun a c => a * 256 + c.toNat) a + 1 ≤ (a + 1) * 256 ^ l.length
  | [], a => by simp
  | c :: l, a => by
    have h := numFrom_lt l (a * 256 + c.toNat)
    have hc := u8_lt c
    have h2 : (a * 256 + c.toNat + 1) * 256 ^ l.length ≤ ((a + 1) * 256) * 256 ^ l.length := Nat.mul_le_mul_right _ (by omega)
    rw [List.foldl_cons, List.length_cons, Nat.pow_succ, Nat.mul_comm (256 ^ l.length) 256, ← Nat.mul_assoc]
    exact Nat.le_trans h h2

theorem num_lt (l : List UInt8) : num l < 256 ^ l.length := by
  have h := numFrom_lt l 0
  unfold num
  omega

theorem num_reverse_leL : ∀ k n, num (leL k n).reverse = n % 256 ^ k
  | 0, n => by simp [leL, num, Nat.mod_one]
  | k + 1, n => by
    rw [leL, List.reverse_cons, num_snoc, num_reverse_leL k, Nat.pow_succ, Nat.mul_comm (256 ^ k) 256, Nat.mod_mul]
    have : (UInt8.ofNat (n % 256)).toNat = n % 256 := by
      rw [UInt8.toNat_ofNat']
      omega
    rw [this]
    omega

theorem leL_num : ∀ l : List UInt8, leL l.length (num l.reverse) = l
  | [] => rfl
  | c :: l => by
    have hc := u8_lt c
    rw [List.reverse_cons, num_snoc, List.length_cons, leL]
    have h1 : (num l.reverse * 256 + c.toNat) % 256 = c.toNat := by omega
    have h2 : (num l.reverse * 256 + c.toNat) / 256 = num l.reverse := by omega
    rw [h1, h2, leL_num l]
    simp

theorem leL_reverse_num (l : List UInt8) : (leL l.length (num l)).reverse = l := by
  have h := leL_num l.reverse
  rw [List.reverse_reverse, List.length_reverse] at h
  rw [h, List.reverse_reverse]

/-- 256 to a size that fits. -/
theorem pow_le7 {k : Nat} (h : k ≤ 7) : 256 ^ k ≤ 72057594037927936 := by
  have : 256 ^ k ≤ 256 ^ 7 := Nat.pow_le_pow_right (by omega) h
  simpa using this

theorem num_le7 {l : List UInt8} (h : l.length ≤ 7) : num l < 72057594037927936 := Nat.lt_of_lt_of_le (num_lt l) (pow_le7 h)

/-- 256 to the k. -/
def pw (k : Nat) : Nat := 256 ^ k
theorem pw_zero : pw 0 = 1 := rfl
theorem pw_succ (k : Nat) : pw (k + 1) = pw k * 256 := Nat.pow_succ ..
theorem pw_le7 {k : Nat} (h : k ≤ 7) : pw k ≤ 72057594037927936 := pow_le7 h
theorem pw_le6 {k : Nat} (h : k < 7) : pw k ≤ 281474976710656 := by
  have : 256 ^ k ≤ 256 ^ 6 := Nat.pow_le_pow_right (by omega) (by omega)
  simpa [pw] using this
theorem num_lt6 {l : List UInt8} (h : l.length < 7) : num l < 281474976710656 := Nat.lt_of_lt_of_le (num_lt l) (pw_le6 h)
theorem pw_pos (k : Nat) : 0 < pw k := Nat.pow_pos (by omega)

theorem two_pow_eight (k : Nat) : (2 : Nat) ^ (8 * k) = pw k := by rw [Nat.pow_mul]; rfl
theorem two_pow_pw (k : Nat) : (2 : Int) ^ (8 * (k : Int)).toNat = (pw k : Int) := by
  have e : (8 * (k : Int)).toNat = 8 * k := by omega
  rw [e, ← two_pow_eight]
  simp
theorem two_pow_pw' (k : Nat) : (2 : Int) ^ (8 * k) = (pw k : Int) := by
  rw [← two_pow_eight]
  simp
theorem shr_pw' (n : Nat) (k : Nat) : (n : Int) / 2 ^ (8 * k) = ((n / pw k : Nat) : Int) := by
  rw [two_pow_pw']; simp
theorem shr_pw (n : Nat) (k : Nat) : (n : Int) / 2 ^ (8 * (k : Int)).toNat = ((n / pw k : Nat) : Int) := by
  rw [two_pow_pw]; simp

/-- Is a size valid? -/
def vld (size : Int) : Bool := decide (1 ≤ size ∧ size ≤ 7)
/-- Can n be written in size bytes? -/
def fits (n size : Int) : Bool := decide (1 ≤ size ∧ size ≤ 7 ∧ 0 ≤ n ∧ n < 256 ^ size.toNat)
/-- The bytes of n, least significant first, if it can be written. -/
def putLe (n size : Int) : List UInt8 := if fits n size then leL size.toNat n.toNat else []
/-- A string of bytes. -/
def str (l : List UInt8) : ByteArray := ⟨l.toArray⟩
theorem str_size (l : List UInt8) : (str l).size = l.length := by simp [str, ByteArray.size]
theorem str_toList (l : List UInt8) : (str l).data.toList = l := by simp [str]
theorem str_of (s : ByteArray) : str s.data.toList = s := by simp [str]

theorem str_append (a b : List UInt8) : str a ++ str b = str (a ++ b) := by
  apply ByteArray.ext
  simp [str]

theorem putLe_length_le (n size : Int) : (putLe n size).length ≤ 7 := by
  unfold putLe fits
  split
  · rename_i h
    have := of_decide_eq_true h
    rw [leL_length]
    omega
  · simp

/-- What a row holds when its first k and last k bytes have been exchanged. -/
def turned (l : List UInt8) (k x : Nat) : UInt8 := if x < k ∨ l.length ≤ x + k then l.getD (l.length - 1 - x) 0 else l.getD x 0
theorem turned_zero (l : List UInt8) (x : Nat) (hx : x < l.length) : turned l 0 x = l[x] := by
  unfold turned
  rw [if_neg (by omega)]
  simp [List.getD, hx]
theorem turned_q {l : List UInt8} {k q : Nat} (h : k + q + 1 = l.length) (hr : k < q) : turned l (k + 1) q = turned l k k := by
  unfold turned
  rw [if_pos (by omega), if_neg (by omega), show l.length - 1 - q = k by omega]
theorem turned_k {l : List UInt8} {k q : Nat} (h : k + q + 1 = l.length) (hr : k < q) : turned l (k + 1) k = turned l k q := by
  unfold turned
  rw [if_pos (by omega), if_neg (by omega), show l.length - 1 - k = q by omega]
theorem turned_far {l : List UInt8} {k q x : Nat} (h : k + q + 1 = l.length) (hk : x ≠ k) (hq : x ≠ q) : turned l (k + 1) x = turned l k x := by
  unfold turned
  by_cases c : x < k ∨ l.length ≤ x + k
  · rw [if_pos (by omega), if_pos c]
  · rw [if_neg (by omega), if_neg c]
theorem turned_done {l : List UInt8} {k q x : Nat} (h : k + q + 1 = l.length) (hr : ¬ k < q) (hx : x < l.reverse.length) : turned l k x = l.reverse[x] := by
  have hx' : x < l.length := by simpa using hx
  have e : l.reverse[x] = l.getD (l.length - 1 - x) 0 := by
    rw [List.getElem_reverse]
    simp [List.getD, show l.length - 1 - x < l.length by omega]
  rw [e]
  unfold turned
  by_cases c : x < k ∨ l.length ≤ x + k
  · rw [if_pos c]
  · rw [if_neg c, show l.length - 1 - x = x by omega]
end Go.Proofs.YtcblgbonijloiaaDoor

/- Contracts of the functions that only compute: validSize, Power, Value. -/
namespace Go.Proofs.YtcblgbonijloiaaDoor
open Go.ChangeShapes Go.WideShapes Go.ChangeAt Go.RowKit

theorem ret_int {k : IntKind} {a b : Int} (h : a = b) : Ending.returned (.int k a) = .returned (.int k b) := by rw [h]

end Go.Proofs.YtcblgbonijloiaaDoor

/- Contracts of the functions that make or read byte slices: little, Reverse, number, part. -/
namespace Go.Proofs.YtcblgbonijloiaaDoor
open Go.ChangeShapes Go.WideShapes Go.ChangeAt Go.RowKit

/-- A slice of bytes that reads as l, lies from block base on, and may be written. -/
def BS (w : World) (base : Nat) (v : Value) (l : List UInt8) : Prop :=
  ∃ A cap, v = .slice A l.length cap ∧ l.length ≤ cap ∧
    (0 < l.length → ∃ g o, A = some ⟨g, o, none⟩ ∧ base ≤ g ∧ g < w.heap.size ∧
      ∀ j (hj : j < l.length), w.cell? ⟨g, o + j, none⟩ = some (.int .u8 (l[j].toNat : Int)) ∧ w.frozen? ⟨g, o + j, none⟩ = false)

theorem cell_set_same {w : World} {a : Addr} {u : Value} (v : Value) (h : w.cell? a = some u) : (w.setCell a v).cell? a = some v := World.cell?_setCell_same' w a v (by simp [h])
theorem cell_set_far (w : World) (g x y : Nat) (v : Value) (h : x ≠ y) : (w.setCell ⟨g, x, none⟩ v).cell? ⟨g, y, none⟩ = w.cell? ⟨g, y, none⟩ :=
  World.cell?_setCell_other w ⟨g, x, none⟩ ⟨g, y, none⟩ v (by intro e; injection e with _ e; exact h (by omega))
theorem frozen_set (w : World) (a b : Addr) (v : Value) : (w.setCell a v).frozen? b = w.frozen? b := by simp
theorem size_set (w : World) (a : Addr) (v : Value) : (w.setCell a v).heap.size = w.heap.size := by simp [World.setCell]

theorem info5 : (Tryd.prog.info? 5).map (fun i => (i.zero, i.size, i.bytes)) = some (some (.int .u8 0), 1, 1) := by kernel_rfl

end Go.Proofs.YtcblgbonijloiaaDoor

/- Contracts: number, part, Put, PutLittle, Get, GetLittle of the program. -/
namespace Go.Proofs.YtcblgbonijloiaaDoor
open Go.ChangeShapes Go.WideShapes Go.ChangeAt Go.RowKit

/-- 'a<<8 | b': the wrap is none where a is small. -/
theorem or_byte (a b : Nat) (ha : a < 281474976710656) (hb : b < 256) : bits .or .i64 ((a : Int) * 256) (b : Int) = (a : Int) * 256 + b := by
  have nn : ∀ x : Nat, x < 2 ^ 63 → (BitVec.ofInt 64 (x : Int)).toNat = x := fun x hx => by
    rw [BitVec.ofInt_natCast, BitVec.toNat_ofNat]
    exact Nat.mod_eq_of_lt (by omega)
  have e : a * 256 ||| b = a * 256 + b := by
    have h := Nat.shiftLeft_add_eq_or_of_lt (i := 8) (b := b) (by omega) a
    rw [Nat.shiftLeft_eq, show 2 ^ 8 = 256 from rfl] at h
    omega
  rw [show ((a : Int) * 256) = ((a * 256 : Nat) : Int) by omega]
  show IntKind.i64.wrap ((BitVec.ofInt 64 ((a * 256 : Nat) : Int) ||| BitVec.ofInt 64 (b : Int)).toNat : Int) = _
  rw [BitVec.toNat_or, nn _ (by omega), nn _ (by omega), e, IntKind.wrap_i64]
  omega

theorem bs_nil (w : World) (base : Nat) : BS w base (.slice none 0 0) [] := ⟨none, 0, rfl, Nat.le_refl _, by simp⟩

theorem str_eq {l : List UInt8} {s : ByteArray} (h : s.data.toList = l) : s = str l := by rw [← h, str_of]

/-- 'string(b)'. -/
theorem bs_string {w : World} {base : Nat} {A : Option Addr} {cap : Nat} {l : List UInt8} (h : BS w base (.slice A l.length cap) l) :
    (convert 71 9 (.slice A l.length cap)).run Tryd.prog w = .ok (.string (str l)) w := by
  obtain ⟨A', cap', hv, hc, hb⟩ := h
  cases hv
  by_cases h0 : l.length = 0
  · have hnil : l = [] := List.eq_nil_of_length_eq_zero h0
    subst hnil
    rw [run_convert_bytes_string w 71 9 5 A _ cap Tryd.underlying71 Tryd.underlying5 Tryd.underlying9]
    cases A with
    | none => rfl
    | some a => simp [Conv.bytesToString, loadCells, loadCellsFrom, str]; rfl
  · obtain ⟨g, o, rfl, _, _, hcell⟩ := hb (by omega)
    refine run_convert_bytes_back w 71 9 5 ⟨g, o, none⟩ cap l Tryd.underlying71 Tryd.underlying5 Tryd.underlying9 (fun j hj => ?_)
    have := (hcell j hj).1
    unfold Addr.add
    split
    · subst_vars; simpa using this
    · exact this

/-- k bytes from a place on. -/
def sub (s : ByteArray) (a k : Nat) : List UInt8 := (s.data.toList.drop a).take k
theorem sub_length {s : ByteArray} {a k : Nat} (h : a + k ≤ s.size) : (sub s a k).length = k := by
  unfold sub
  rw [List.length_take, List.length_drop]
  have : s.data.toList.length = s.size := by simp
  omega

/-- '[]byte(s)'. -/
theorem bs_new (w : World) (s : ByteArray) (cap : Nat) (hcap : s.size ≤ cap) :
    BS (w.alloc (.cells (bytesRow s cap) 5 ((bytesRow s cap).size, (bytesRow s cap).size + 1))) w.heap.size (.slice (some ⟨w.heap.size, 0, none⟩) s.size cap) s.data.toList := by
  have hl : s.data.toList.length = s.size := by simp
  refine ⟨some ⟨w.heap.size, 0, none⟩, cap, by rw [hl], by rw [hl]; exact hcap, fun _ => ⟨w.heap.size, 0, rfl, Nat.le_refl _, by simp, fun j hj => ?_⟩⟩
  have hj' : j < s.data.size := by rw [hl] at hj; exact hj
  rw [Nat.zero_add]
  refine ⟨?_, ?_⟩
  · rw [World.cell?_alloc_mark, bytesRow_at s cap j hj']
    simp
  · rw [World.frozen?_alloc_mark]
    have : (bytesRow s cap).size = s.data.size + (cap - s.size) := by simp [bytesRow]
    simp
    intro
    omega

end Go.Proofs.YtcblgbonijloiaaDoor

/- Contracts of the reference: Put, Reverse, PutLittle, Get, GetLittle. -/
namespace Go.Proofs.YtcblgbonijloiaaDoor
open Go.ChangeShapes Go.WideShapes Go.ChangeAt Go.RowKit

/-- What lies below the heap's end reads on behind a step that keeps it. -/
theorem kept_cells {a b : World} (h : Below a.heap.size a b) (g o : Nat) (hg : g < a.heap.size) : b.cell? ⟨g, o, none⟩ = a.cell? ⟨g, o, none⟩ := h.cell (p := ⟨g, o, none⟩) hg

/-- 'string([]byte{b})'. -/
theorem one_string (W : World) (g : Nat) (b : Int) (h0 : 0 ≤ b) (h1 : b < 256) (hc : W.cell? ⟨g, 0, none⟩ = some (.int .u8 b)) :
    (convert 71 9 (.slice (some ⟨g, 0, none⟩) 1 1)).run Tryd.prog W = .ok (.string (str [UInt8.ofNat b.toNat])) W := by
  refine run_convert_bytes_back W 71 9 5 ⟨g, 0, none⟩ 1 [UInt8.ofNat b.toNat] Tryd.underlying71 Tryd.underlying5 Tryd.underlying9 (fun j hj => ?_)
  obtain rfl : j = 0 := by simpa using hj
  show W.cell? ⟨g, 0, none⟩ = _
  rw [hc]
  simp
  omega

end Go.Proofs.YtcblgbonijloiaaDoor

/- Contracts of the reference of layer 6: Number, hex, Decimal, group. -/
namespace Go.Proofs.YtcblgbonijloiaaDoor
open Go.ChangeShapes Go.WideShapes Go.ChangeAt Go.RowKit
set_option linter.unusedVariables false

set_option maxRecDepth 20000 in
theorem rnum6_any (n : Nat) (w : World) (hn : n ≤ 1000000000) :
    Calls Tryd.prog 55 #[.int .i64 n] w fun e w' => e = .returned (.string (str (numL n))) ∧ Below w.heap.size w w' := by
  obtain ⟨R, hR⟩ : ∃ R, R = numL n := ⟨_, rfl⟩
  rw [← hR]
  have HR := Lib.hid hR
  have hRl : R.length ≤ 10 := by rw [hR]; exact num_len_pow 9 n (by omega)
  have HB := Lib.hid (Below.refl w.heap.size w)
  clear hR
  go_enter Tryd.func55, Tryd.ntmps55
  go_wp2_with fail
  go_loopw [0, 3] (fun v0 v3 wr => ∃ k : Nat, ∃ q : By, v0 = .int .i64 k ∧ v3 = .string (str q) ∧ k ≤ 1000000000 ∧ Hid (numL k ++ q = R) ∧ Hid (Below w.heap.size w wr)) (fun v0 _ _ => (intOf v0).toNat)
  case atStart => exact ⟨n, [], rfl, rfl, hn, Lib.hid (by rw [HR.out]; simp), HB⟩
  case round =>
    clear HB
    obtain ⟨k, q, rfl, rfl, hk, HQ, HB⟩ := hrel
    have hq : q.length ≤ 10 := by
      have := congrArg List.length HQ.out
      rw [List.length_append] at this
      omega
    by_cases h9 : 9 < k
    · have d9 : decide ((9 : Int) < (k : Int)) = true := by simp; omega
      have hcv := fun W g => one_string W g (48 + (k : Int) % 10) (by omega) (by omega)
      rw [show (48 + (k : Int) % 10).toNat = 48 + k % 10 by omega] at hcv
      have hfin : str [UInt8.ofNat (48 + k % 10)] ++ str q = str (dig (k % 10) :: q) := str_append _ _
      have hcat : (9223372036854775807 < (str [UInt8.ofNat (48 + k % 10)]).size + (str q).size) = False := by
        rw [str_size, str_size]; simp; omega
      have HF := Lib.hid hfin
      have HQ2 := Lib.hid (show numL (k / 10) ++ (dig (k % 10) :: q) = R by
        rw [← HQ.out]
        rw [show numL k = numL (k / 10) ++ [dig (k % 10)] by rw [numL, if_neg (by omega)]]
        simp)
      have HB2 := Lib.hid (HB.out.alloc HB.out.size (.cells #[.int .u8 (48 + (k : Int) % 10)] 5))
      clear hfin
      generalize str q = S at *
      generalize str [UInt8.ofNat (48 + k % 10)] = U at *
      go_wp2_with fail
      go_roundw
      case rel => exact ⟨k / 10, dig (k % 10) :: q, by go_num, by rw [HF.out], by omega, HQ2, HB2⟩
      case measure => simp [intOf]; omega
    · have d9 : decide ((9 : Int) < (k : Int)) = false := by simp; omega
      have hcv := fun W g => one_string W g (48 + (k : Int)) (by omega) (by omega)
      rw [show (48 + (k : Int)).toNat = 48 + k by omega] at hcv
      have hfin : str [UInt8.ofNat (48 + k)] ++ str q = str R := by
        rw [str_append, ← HQ.out, numL, if_pos (by omega)]; rfl
      have hcat : (9223372036854775807 < (str [UInt8.ofNat (48 + k)]).size + (str q).size) = False := by
        rw [str_size, str_size]; simp; omega
      have HF := Lib.hid hfin
      have HB2 := Lib.hid (HB.out.alloc HB.out.size (.cells #[.int .u8 (48 + (k : Int))] 5))
      clear hfin
      generalize str q = S at *
      generalize str [UInt8.ofNat (48 + k)] = U at *
      go_wp2_with fail
      go_ret
      exact ⟨by rw [← HF.out]; rfl, HB2.out⟩
end Go.Proofs.YtcblgbonijloiaaDoor

/- Contract of the reference of layer 6: Decimal. -/
namespace Go.Proofs.YtcblgbonijloiaaDoor
open Go.ChangeShapes Go.WideShapes Go.ChangeAt Go.RowKit
set_option linter.unusedVariables false

theorem drop_at6 (s : ByteArray) (k : Nat) (h : k < s.size) : s.data.toList.drop k = s[k] :: s.data.toList.drop (k + 1) := by
  rw [List.drop_eq_getElem_cons (by simpa using h)]; rfl
set_option maxHeartbeats 400000 in
set_option maxRecDepth 20000 in
theorem rdec6_any (s : ByteArray) (most : Nat) (w : World) (hm : most ≤ 1000) (hs : s.size ≤ 1000) :
    Calls Tryd.prog 49 #[.string s, .int .i64 most] w fun e w' => e = .returned (.int .i64 (decS most s.data.toList)) ∧ w = w' := by
  obtain ⟨R, hR⟩ : ∃ R, R = decS most s.data.toList := ⟨_, rfl⟩
  rw [← hR]
  have hlen : s.data.toList.length = s.size := by show s.data.toList.length = s.data.size; simp only [Array.length_toList]
  by_cases c0 : s.size = 0
  · have e : R = -1 := by rw [hR, decS, if_pos (Or.inl (by rw [hlen, c0]))]
    subst e
    have d0 : ((s.size : Int) == 0) = true := by simp [c0]
    clear hR hlen c0
    go_enter Tryd.func49, Tryd.ntmps49
    go_wp2_with fail
    go_ret
    exact ⟨rfl, rfl⟩
  have h0 : 0 < s.size := Nat.pos_of_ne_zero c0
  have hd : s.data.toList.head? = some s[0] := by
    have := drop_at6 s 0 h0
    rw [List.drop_zero] at this
    rw [this]; rfl
  have d0 : ((s.size : Int) == 0) = false := by rw [beq_eq_false_iff_ne]; omega
  by_cases c1 : 1 < s.size ∧ s[0].toNat = 48
  · have hz : s[0] = 48 := UInt8.toNat_inj.mp (by rw [c1.2]; rfl)
    have e : R = -1 := by rw [hR, decS, if_pos (Or.inr ⟨by rw [hlen]; exact c1.1, by rw [hd, hz]⟩)]
    subst e
    have d1 : decide ((1 : Int) < (s.size : Int)) = true := by simp; omega
    have d2 : ((s[0].toNat : Int) == 48) = true := by simp; omega
    clear hR hlen hd hz
    go_enter Tryd.func49, Tryd.ntmps49
    go_wp2_with fail
    go_ret
    exact ⟨rfl, rfl⟩
  have hne : ¬ (s.data.toList.length = 0 ∨ (1 < s.data.toList.length ∧ s.data.toList.head? = some 48)) := by
    rintro (h | ⟨h, h'⟩)
    · omega
    · rw [hd] at h'
      have : s[0] = 48 := Option.some.inj h'
      exact c1 ⟨by omega, by rw [this]; rfl⟩
  rw [decS, if_neg hne] at hR
  obtain ⟨D, hD⟩ : ∃ D, D = decGo most 0 (s.data.toList.drop 0) := ⟨_, rfl⟩
  rw [List.drop_zero] at hD
  rw [← hD] at hR
  have HR := Lib.hid hR
  have HD := Lib.hid (show decGo most 0 (s.data.toList.drop 0) = D by rw [hD, List.drop_zero])
  have hguard : decide ((1 : Int) < (s.size : Int)) = false ∨ (decide ((1 : Int) < (s.size : Int)) = true ∧ ((s[0].toNat : Int) == 48) = false) := by
    by_cases h : 1 < s.size
    · exact Or.inr ⟨by simp; omega, by rw [beq_eq_false_iff_ne]; intro e; exact c1 ⟨h, by omega⟩⟩
    · exact Or.inl (by simp; omega)
  clear hR hD hlen hd hne c1
  go_enter Tryd.func49, Tryd.ntmps49
  rcases hguard with g1 | ⟨g1, g2⟩
  all_goals
  go_wp2_with fail
  go_loopw [5, 6] (fun v5 v6 wr => ∃ m k : Nat, v5 = .int .i64 m ∧ v6 = .int .i64 k ∧ k ≤ s.size ∧ m ≤ most + 1 ∧ Hid (decGo most m (s.data.toList.drop k) = D) ∧ w = wr) (fun _ v6 _ => s.size - (intOf v6).toNat)
  case atStart => exact ⟨0, 0, rfl, rfl, Nat.zero_le _, Nat.zero_le _, HD, rfl⟩
  case round =>
    obtain ⟨m, k, rfl, rfl, hk, hmm, HQ, rfl⟩ := hrel
    by_cases hlt : k < s.size
    · have hki : (k : Int) < (s.size : Int) := by omega
      have hki0 : (0 : Int) ≤ (k : Int) := by omega
      have hx8 := u8_lt s[k]
      have hq := HQ.out
      rw [drop_at6 s k hlt, decGo] at hq
      obtain ⟨k1, hk1⟩ : ∃ k1, k1 = k + 1 := ⟨_, rfl⟩
      have k1i : (k : Int) + 1 = (k1 : Int) := by omega
      have k1s : k1 ≤ s.size := by omega
      rw [← hk1] at hq
      have HK1 := Lib.hid hk1
      clear hk1
      by_cases hdg : 48 ≤ s[k].toNat ∧ s[k].toNat ≤ 57
      · rw [if_pos hdg] at hq
        obtain ⟨m1, hm1⟩ : ∃ m1, m1 = min (10 * m + (s[k].toNat - 48)) (most + 1) := ⟨_, rfl⟩
        rw [← hm1] at hq
        have hm1l : m1 ≤ most + 1 := by omega
        have em : min (10 * (m : Int) + (s[k].toNat : Int) - 48) ((most : Int) + 1) = (m1 : Int) := by omega
        have t1 : decide ((s[k].toNat : Int) < 48) = false := by simp; omega
        have t2 : decide ((57 : Int) < (s[k].toNat : Int)) = false := by simp; omega
        have HQ2 := Lib.hid hq
        clear hq hm1
        go_wp2_with fail
        go_roundw
        case rel => exact ⟨m1, k1, by rw [← em], by go_num, k1s, hm1l, HQ2, by first | trivial | rfl⟩
        case measure => have := HK1.out; simp [intOf]; omega
      · rw [if_neg hdg] at hq
        have e : R = -1 := by rw [HR.out, ← hq]
        by_cases hl : s[k].toNat < 48
        · have t1 : decide ((s[k].toNat : Int) < 48) = true := by simp; omega
          clear hq
          go_wp2_with fail
          go_ret
          exact ⟨by first | rfl | (rw [e]; rfl), rfl⟩
        · have t1 : decide ((s[k].toNat : Int) < 48) = false := by simp; omega
          have t2 : decide ((57 : Int) < (s[k].toNat : Int)) = true := by simp; omega
          clear hq
          go_wp2_with fail
          go_ret
          exact ⟨by first | rfl | (rw [e]; rfl), rfl⟩
    · have ek : k = s.size := by omega
      have hq := HQ.out
      rw [List.drop_of_length_le (by rw [ek]; show s.data.toList.length ≤ s.data.size; simp), decGo] at hq
      have e : R = if most < m then -2 else (m : Int) := by rw [HR.out, ← hq]
      have nlt : ¬ (k : Int) < (s.size : Int) := by omega
      have dlt : decide ((k : Int) < (s.size : Int)) = false := by simp; omega
      clear hq ek
      by_cases hmo : most < m
      · have t : decide ((most : Int) < (m : Int)) = true := by simp; omega
        rw [if_pos hmo] at e
        go_wp2_with fail
        go_ret
        exact ⟨by first | rfl | (rw [e]; rfl), rfl⟩
      · have t : decide ((most : Int) < (m : Int)) = false := by simp; omega
        rw [if_neg hmo] at e
        go_wp2_with fail
        go_ret
        exact ⟨by first | rfl | (rw [e]; rfl), rfl⟩
end Go.Proofs.YtcblgbonijloiaaDoor

/- Contract of the reference of layer 6: gap. -/
namespace Go.Proofs.YtcblgbonijloiaaDoor
open Go.ChangeShapes Go.WideShapes Go.ChangeAt Go.RowKit
set_option linter.unusedVariables false

/-- How far the first two adjacent colons lie. -/
def gapI (s : By) : Int := match cutGap s with
  | none => -1
  | some p => p.1.length
theorem cutGap_step (x y : UInt8) (r : By) (h : ¬ (x = 58 ∧ y = 58)) (k : Nat) {V : Int} (hV : (match cutGap (x :: y :: r) with | none => (-1 : Int) | some p => ((k + p.1.length : Nat) : Int)) = V) :
    (match cutGap (y :: r) with | none => (-1 : Int) | some p => ((k + 1 + p.1.length : Nat) : Int)) = V := by
  rw [cutGap, if_neg h] at hV
  cases hc : cutGap (y :: r) with
  | none => rw [hc] at hV; exact hV
  | some p =>
    rw [hc] at hV
    simp only [Option.map_some, List.length_cons] at hV
    rw [← hV]
    have e : k + 1 + p.1.length = k + (p.1.length + 1) := by omega
    show ((k + 1 + p.1.length : Nat) : Int) = ((k + (p.1.length + 1) : Nat) : Int)
    rw [e]
theorem cutGap_short (l : By) (h : l.length ≤ 1) : cutGap l = none := by
  match l, h with
  | [], _ => rfl
  | [_], _ => rfl
/-- The gap's offset, counted from k on. -/
def gapK (k : Nat) (s : By) : Int := match cutGap s with
  | none => -1
  | some p => ((k + p.1.length : Nat) : Int)
theorem gapK_zero (s : By) : gapK 0 s = gapI s := by
  unfold gapK gapI
  cases cutGap s with
  | none => rfl
  | some p => show ((0 + p.1.length : Nat) : Int) = _; rw [Nat.zero_add]
theorem gapK_step (x y : UInt8) (r : By) (h : ¬ (x = 58 ∧ y = 58)) (k : Nat) : gapK k (x :: y :: r) = gapK (k + 1) (y :: r) := (cutGap_step x y r h k rfl).symm
theorem gapK_at (r : By) (k : Nat) : gapK k (58 :: 58 :: r) = (k : Int) := by rw [gapK, cutGap, if_pos ⟨rfl, rfl⟩]; rfl
set_option maxHeartbeats 400000 in
set_option maxRecDepth 20000 in
theorem rgap6_any (s : ByteArray) (w : World) (hs0 : s.size ≤ 1000) :
    Calls Tryd.prog 67 #[.string s] w fun e w' => e = .returned (.int .i64 (gapI s.data.toList)) ∧ w = w' := by
  obtain ⟨R, hR⟩ : ∃ R, R = gapI s.data.toList := ⟨_, rfl⟩
  rw [← hR]
  have H0 := Lib.hid (show gapK 0 (s.data.toList.drop 0) = R by rw [List.drop_zero, gapK_zero, hR])
  clear hR
  go_enter Tryd.func67, Tryd.ntmps67
  go_wp2_with fail
  go_loopw [3] (fun v3 wr => ∃ k : Nat, v3 = .int .i64 k ∧ k ≤ s.size ∧ Hid (gapK k (s.data.toList.drop k) = R) ∧ w = wr) (fun v3 _ => s.size - (intOf v3).toNat)
  case atStart => exact ⟨0, rfl, Nat.zero_le _, H0, rfl⟩
  case round =>
    obtain ⟨k, rfl, hk, HQ, rfl⟩ := hrel
    obtain ⟨k1, hk1⟩ : ∃ k1, k1 = k + 1 := ⟨_, rfl⟩
    have k1i : (k : Int) + 1 = (k1 : Int) := by omega
    by_cases hlt : k1 < s.size
    · have hki : (k : Int) < (s.size : Int) := by omega
      have hk1l : (k1 : Int) < (s.size : Int) := by omega
      have dlt : decide ((k1 : Int) < (s.size : Int)) = true := by simp; omega
      have hltk : k < s.size := by omega
      have hq := HQ.out
      have ed : s.data.toList.drop (k + 1) = s[k1] :: s.data.toList.drop (k1 + 1) := by
        have := drop_at6 s k1 hlt
        rwa [← hk1]
      rw [drop_at6 s k hltk, ed] at hq
      have k1s : k1 ≤ s.size := by omega
      have hx8 := u8_lt s[k]
      have hy8 := u8_lt s[k1]
      by_cases hb : s[k] = 58 ∧ s[k1] = 58
      · rw [hb.1, hb.2, gapK_at] at hq
        have t1 : ((s[k].toNat : Int) == 58) = true := by rw [hb.1]; rfl
        have t2 : ((s[k1].toNat : Int) == 58) = true := by rw [hb.2]; rfl
        have HE := Lib.hid hq
        clear hq hb ed hk1
        go_wp2_with fail
        go_ret
        exact ⟨by rw [← HE.out]; rfl, rfl⟩
      · rw [gapK_step _ _ _ hb, ← ed, ← hk1] at hq
        have T : ((s[k].toNat : Int) == 58) = false ∨ (((s[k].toNat : Int) == 58) = true ∧ ((s[k1].toNat : Int) == 58) = false) := by
          by_cases h : s[k] = 58
          · refine Or.inr ⟨by rw [h]; rfl, ?_⟩
            rw [beq_eq_false_iff_ne]; intro e
            exact hb ⟨h, UInt8.toNat_inj.mp (by show s[k1].toNat = 58; omega)⟩
          · refine Or.inl ?_
            rw [beq_eq_false_iff_ne]; intro e
            exact h (UInt8.toNat_inj.mp (by show s[k].toNat = 58; omega))
        have HQ2 := Lib.hid hq
        have HK1 := Lib.hid hk1
        clear hq hb ed hk1
        rcases T with t1 | ⟨t1, t2⟩
        all_goals
        go_wp2_with fail
        go_roundw
        case rel => exact ⟨k1, by go_num, k1s, HQ2, by first | trivial | rfl⟩
        case measure => have := HK1.out; simp [intOf]; omega
    · have dlt : decide ((k1 : Int) < (s.size : Int)) = false := by simp; omega
      have nlt : ¬ (k1 : Int) < (s.size : Int) := by omega
      have hq := HQ.out
      rw [gapK, cutGap_short _ (by rw [List.length_drop]; have : s.data.toList.length = s.size := by { show s.data.toList.length = s.data.size; simp only [Array.length_toList] }; omega)] at hq
      have e : R = -1 := hq.symm
      clear hq hk1
      go_wp2_with fail
      go_ret
      exact ⟨by first | rfl | (rw [e]; rfl), rfl⟩
end Go.Proofs.YtcblgbonijloiaaDoor

/- Contract of the reference of layer 6: Split (a list of strings in memory). -/
namespace Go.Proofs.YtcblgbonijloiaaDoor
open Go.ChangeShapes Go.WideShapes Go.ChangeAt Go.RowKit
set_option linter.unusedVariables false

theorem extract_str6 (s : ByteArray) (a b : Nat) : s.extract a b = str ((s.data.toList.drop a).take (b - a)) := by
  apply ByteArray.ext
  apply Array.ext'
  rw [Lib.extract_data]
  simp [str]
theorem toList_length6 (s : ByteArray) : s.data.toList.length = s.size := by show s.data.toList.length = s.data.size; simp only [Array.length_toList]
def strC (L : List By) : List Value := L.map fun p => .string (str p)
theorem strC_snoc (L : List By) (p : By) : strC (L ++ [p]) = strC L ++ [.string (str p)] := by simp [strC]
theorem info_str6 : (Tryd.prog.info? 9).map (fun i => (i.zero, i.size, i.bytes)) = some (some (.string ⟨#[]⟩), 1, 16) := by kernel_rfl
/-- What is still to come at index k, the piece under way having begun at f. -/
def restS (c : UInt8) (s : By) (f k : Nat) : List By := if k ≤ s.length then splitGo c ((s.drop f).take (k - f)) (s.drop k) else []
theorem restS_zero (c : UInt8) (s : By) : restS c s 0 0 = splitL c s := by
  rw [restS, if_pos (Nat.zero_le _)]; rfl
theorem restS_end (c : UInt8) (s : By) (f k : Nat) (h : k = s.length) (k1 : Nat) (hk1 : k1 = k + 1) : restS c s f k = [(s.drop f).take (k - f)] ++ restS c s k1 k1 := by
  have hd : s.drop k = [] := List.drop_of_length_le (by omega)
  rw [restS, if_pos (by omega), hd, splitGo, restS, if_neg (by omega)]; rfl
theorem restS_at (c : UInt8) (s : By) (f k : Nat) (h : k < s.length) (hc : s[k] = c) (k1 : Nat) (hk1 : k1 = k + 1) : restS c s f k = [(s.drop f).take (k - f)] ++ restS c s k1 k1 := by
  rw [restS, if_pos (by omega), List.drop_eq_getElem_cons h, splitGo, if_pos hc, restS, if_pos (by omega), Nat.sub_self, List.take_zero, hk1]; rfl
theorem restS_on (c : UInt8) (s : By) (f k : Nat) (h : k < s.length) (hf : f ≤ k) (hc : s[k] ≠ c) (k1 : Nat) (hk1 : k1 = k + 1) : restS c s f k = restS c s f k1 := by
  rw [restS, if_pos (by omega), List.drop_eq_getElem_cons h, splitGo, if_neg hc, restS, if_pos (by omega), hk1]
  congr 1
  rw [show k + 1 - f = (k - f) + 1 by omega, List.take_succ_eq_append_getElem (by rw [List.length_drop]; omega), List.getElem_drop]
  congr 3; omega
theorem restS_over (c : UInt8) (s : By) (f k : Nat) (h : ¬ k ≤ s.length) : restS c s f k = [] := by rw [restS, if_neg h]
set_option maxHeartbeats 800000 in
set_option maxRecDepth 20000 in
theorem rsplit6_any (s : ByteArray) (c : UInt8) (w : World) (hs : s.size ≤ 1000) :
    Calls Tryd.prog 47 #[.string s, .int .u8 c.toNat] w fun e w' => ∃ A cap, e = .returned (.slice A (splitL c s.data.toList).length cap) ∧ w'.ownsRow w.heap.size 9 1 (.slice A (splitL c s.data.toList).length cap) (splitL c s.data.toList).length (strC (splitL c s.data.toList)) ∧ Below w.heap.size w w' := by
  obtain ⟨R, hR⟩ : ∃ R, R = splitL c s.data.toList := ⟨_, rfl⟩
  rw [← hR]
  have H0 := Lib.hid (show [] ++ restS c s.data.toList 0 0 = R by rw [restS_zero, hR]; rfl)
  have HB0 := Lib.hid (Below.refl w.heap.size w)
  have HO0 := Lib.hid (World.ownsRow_nil w w.heap.size 9 1)
  have hc8 := u8_lt c
  obtain ⟨i0, hinf, hz0, hz1, hz2⟩ := info_parts info_str6
  clear hR
  go_enter Tryd.func47, Tryd.ntmps47
  go_wp2_with fail
  go_loopw [5, 6, 7] (fun v5 v6 v7 wr => ∃ f k cap' : Nat, ∃ A' : Option Addr, ∃ out : List By, v5 = .slice A' out.length cap' ∧ v6 = .int .i64 f ∧ v7 = .int .i64 k ∧ f ≤ k ∧ k ≤ s.size + 1 ∧ out.length ≤ k ∧ Hid (out ++ restS c s.data.toList f k = R) ∧ Hid (Below w.heap.size w wr) ∧ Hid (wr.ownsRow w.heap.size 9 1 (.slice A' out.length cap') out.length (strC out))) (fun _ _ v7 _ => s.size + 1 - (intOf v7).toNat)
  case atStart => exact ⟨0, 0, 0, none, [], rfl, rfl, rfl, Nat.le_refl _, Nat.zero_le _, Nat.le_refl _, H0, HB0, HO0⟩
  case round =>
    clear H0 HB0 HO0
    obtain ⟨f, k, cap', A', out, rfl, rfl, rfl, hfk, hk, hol, HQ, HB, HO⟩ := hrel
    have hlen := toList_length6 s
    obtain ⟨k1, hk1⟩ : ∃ k1, k1 = k + 1 := ⟨_, rfl⟩
    have k1i : (k : Int) + 1 = (k1 : Int) := by omega
    by_cases hle : k ≤ s.size
    · have dle : decide ((k : Int) ≤ (s.size : Int)) = true := by simp; omega
      have hle' : (k : Int) ≤ (s.size : Int) := by omega
      have k1s : k1 ≤ s.size + 1 := by omega
      have hPs : s.extract f k = str ((s.data.toList.drop f).take (k - f)) := extract_str6 s f k
      obtain ⟨M, hM⟩ : ∃ M, M = out ++ [(s.data.toList.drop f).take (k - f)] := ⟨_, rfl⟩
      have HSN := Lib.hid (show strC out ++ [.string (s.extract f k)] = strC M by rw [hM, strC_snoc, hPs])
      have hMl : out.length + 1 = M.length := by rw [hM]; simp
      have hMk : M.length ≤ k1 := by omega
      have hsz := HB.out.size
      have HB1 := Lib.hid (HB.out.alloc hsz (.cells #[.string (s.extract f k)] 9))
      have HT : (s.size = k ∧ ((k : Int) == (s.size : Int)) = true ∨ ((k : Int) == (s.size : Int)) = false ∧ ∃ hk : k < s.size, True) := by
        by_cases e : k = s.size
        · exact Or.inl ⟨e.symm, by simp [e]⟩
        · exact Or.inr ⟨by rw [beq_eq_false_iff_ne]; omega, by omega, trivial⟩
      rcases HT with ⟨hke, tb⟩ | ⟨tb, hks, -⟩
      · have hq := HQ.out
        rw [restS_end _ _ _ _ (by omega) k1 hk1, ← List.append_assoc, ← hM] at hq
        have HQ2 := Lib.hid hq
        clear hq hPs hM HQ hle hlen
        go_wp2_with (at_builtin; refine wpList_append_lies _ rfl _ _ 57 rfl w.heap.size 9 i0 (.string ⟨#[]⟩) 1 16 Tryd.underlying57 hinf hz0 hz1 hz2 rfl (by omega) _ out.length (strC out) rfl (HO.out.alloc _) ⟨wr.heap.size, 0, none⟩ 1 1 [.string (s.extract f k)] rfl rfl ?c1 ?c2 (by omega) ?c3 ?c4 ?c5 _ rfl ?_)
        case c1 => exact World.news_of_block (cs := #[.string (s.extract f k)]) (t := 9) (fr := (0, 0)) (heap_alloc_new wr _)
        case c2 => simp [Value.oneCell']
        case c3 => unfold maxLen; omega
        case c4 => omega
        case c5 => simp; omega
        intro g2 cap2 w3 hown3 hgrow hat hlt2
        have hB3 := HB1.out.grown hgrow (by simp; omega) (fun j hj => (HO.out.lt j hj).1)
        rw [HSN.out] at hown3
        try rw [hMl] at hown3
        try rw [hMl]
        have HB3 := Lib.hid hB3
        have HO3 := Lib.hid hown3
        have HK1 := Lib.hid hk1
        clear hB3 hown3 hgrow hat hlt2 HB HO HB1 hMl hk1
        go_wp2_with fail
        go_roundw
        case rel => exact ⟨k1, k1, cap2, some ⟨g2, 0, none⟩, M, rfl, by go_num, by go_num, Nat.le_refl _, k1s, hMk, HQ2, HB3, HO3⟩
        case measure => have := HK1.out; simp [intOf]; omega
      · have hks' : (k : Int) < (s.size : Int) := by omega
        have ha : s.data.toList[k]'(by omega) = s[k] := rfl
        have hx8 := u8_lt s[k]
        by_cases hcc : s[k] = c
        · have tc : ((s[k].toNat : Int) == (c.toNat : Int)) = true := by rw [hcc]; simp
          have hq := HQ.out
          rw [restS_at _ _ _ _ (by omega) (by rw [ha]; exact hcc) k1 hk1, ← List.append_assoc, ← hM] at hq
          have HQ2 := Lib.hid hq
          clear hq hPs hM HQ hlen ha hcc
          go_wp2_with (at_builtin; refine wpList_append_lies _ rfl _ _ 57 rfl w.heap.size 9 i0 (.string ⟨#[]⟩) 1 16 Tryd.underlying57 hinf hz0 hz1 hz2 rfl (by omega) _ out.length (strC out) rfl (HO.out.alloc _) ⟨wr.heap.size, 0, none⟩ 1 1 [.string (s.extract f k)] rfl rfl ?c1 ?c2 (by omega) ?c3 ?c4 ?c5 _ rfl ?_)
          case c1 => exact World.news_of_block (cs := #[.string (s.extract f k)]) (t := 9) (fr := (0, 0)) (heap_alloc_new wr _)
          case c2 => simp [Value.oneCell']
          case c3 => unfold maxLen; omega
          case c4 => omega
          case c5 => simp; omega
          intro g2 cap2 w3 hown3 hgrow hat hlt2
          have hB3 := HB1.out.grown hgrow (by simp; omega) (fun j hj => (HO.out.lt j hj).1)
          rw [HSN.out] at hown3
          try rw [hMl] at hown3
          try rw [hMl]
          have HB3 := Lib.hid hB3
          have HO3 := Lib.hid hown3
          have HK1 := Lib.hid hk1
          clear hB3 hown3 hgrow hat hlt2 HB HO HB1 hMl hk1
          go_wp2_with fail
          go_roundw
          case rel => exact ⟨k1, k1, cap2, some ⟨g2, 0, none⟩, M, rfl, by go_num, by go_num, Nat.le_refl _, k1s, hMk, HQ2, HB3, HO3⟩
          case measure => have := HK1.out; simp [intOf]; omega
        · have tc : ((s[k].toNat : Int) == (c.toNat : Int)) = false := by
            rw [beq_eq_false_iff_ne]; intro e
            exact hcc (UInt8.toNat_inj.mp (by omega))
          have hq := HQ.out
          rw [restS_on _ _ _ _ (by omega) hfk (by rw [ha]; exact hcc) k1 hk1] at hq
          have HQ2 := Lib.hid hq
          have hok : out.length ≤ k1 := by omega
          have hfk1 : f ≤ k1 := by omega
          have HK1 := Lib.hid hk1
          clear hq hPs hM HQ hlen ha hcc HSN hMl hMk HB1 hk1
          go_wp2_with fail
          go_roundw
          case rel => exact ⟨f, k1, cap', A', out, rfl, rfl, by go_num, hfk1, k1s, hok, HQ2, HB, HO⟩
          case measure => have := HK1.out; simp [intOf]; omega
    · have dle : decide ((k : Int) ≤ (s.size : Int)) = false := by simp; omega
      have nle : ¬ (k : Int) ≤ (s.size : Int) := by omega
      have hq := HQ.out
      rw [restS_over _ _ _ _ (by omega), List.append_nil] at hq
      subst hq
      clear HQ hk1
      go_wp2_with fail
      go_ret
      exact ⟨A', cap', rfl, HO.out, HB.out⟩
end Go.Proofs.YtcblgbonijloiaaDoor
