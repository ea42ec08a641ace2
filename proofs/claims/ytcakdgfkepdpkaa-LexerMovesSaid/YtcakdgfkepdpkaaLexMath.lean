/- Plain mathematics of the lexer of layer 4: no Go in sight. Texts are lists of bytes. -/
import Derived.Below
namespace Go.Proofs.Ytcakdgfkepdpkaa

/-- Letters, digits, the bytes of words and of names; the bytes that follow a backslash. -/
def letB (c : UInt8) : Bool := (97 ≤ c.toNat && c.toNat ≤ 122) || (65 ≤ c.toNat && c.toNat ≤ 90)
def digB (c : UInt8) : Bool := 48 ≤ c.toNat && c.toNat ≤ 57
def wordB (c : UInt8) : Bool := letB c || digB c || c.toNat == 95 || c.toNat == 46 || c.toNat == 58 || c.toNat == 47
def nameB (c : UInt8) : Bool := letB c || digB c || c.toNat == 95
def specB (c : UInt8) : Bool := c.toNat == 34 || c.toNat == 92 || c.toNat == 124
def plainB (c : UInt8) : Bool := 32 ≤ c.toNat && c.toNat ≤ 126 && !specB c
/-- The value of a hexadecimal digit. -/
def hexV (c : UInt8) : Option Nat :=
  if digB c then some (c.toNat - 48) else if 97 ≤ c.toNat && c.toNat ≤ 102 then some (c.toNat - 87) else if 65 ≤ c.toNat && c.toNat ≤ 70 then some (c.toNat - 55) else none
/-- A name. -/
def isName (L : List UInt8) : Bool := match L with
  | [] => false
  | c :: _ => L.length ≤ 32 && letB c && L.all nameB
/-- A number: its value. -/
def numV (L : List UInt8) : Nat := L.foldl (fun n c => n * 10 + (c.toNat - 48)) 0
def isNum (L : List UInt8) : Bool := match L with
  | [] => false
  | c :: r => L.length ≤ 13 && !(c.toNat == 48 && !r.isEmpty) && L.all digB && numV L < 1099511627776

/-- The marks, the longest first. -/
def marks : List (List UInt8) := [[45, 62], [60, 62], [60, 61], [40], [41], [91], [93], [123], [125], [44], [59], [33], [61], [60], [62], [38], [43]]
def markOf (L : List UInt8) : List UInt8 := (marks.find? fun m => m.isPrefixOf L).getD []

/-- How many bytes of white space and comments L begins with (true: inside a comment). -/
def skp : Bool → List UInt8 → Nat
  | _, [] => 0
  | true, c :: r => if c.toNat = 10 then 1 + skp false r else 1 + skp true r
  | false, c :: r => if c.toNat = 35 then 1 + skp true r else if c.toNat = 32 || c.toNat = 9 || c.toNat = 10 || c.toNat = 13 then 1 + skp false r else 0

/-- What a string's content may end in: a value and the offset behind it, or an error (the api's numbers: 14 syntax, 5 name, 3 long) and its offset. -/
inductive Res (α : Type) where
  | ok (v : α) (n : Nat)
  | err (e : Nat) (n : Nat)
/-- Where the reader of a string stands. -/
inductive Md where
  | plain
  | esc
  | g1
  | g2 (h : Nat)
  | g3
/-- A string behind its first quote: out: what has been read; off: the offset; st: where the string begins. -/
def lit (st : Nat) : Md → List UInt8 → Nat → List UInt8 → Res (List UInt8)
  | _, _, off, [] => .err 14 off
  | .plain, out, off, c :: r =>
    if c.toNat = 34 then (if 256 < out.length then .err 3 st else .ok out (off + 1))
    else if c.toNat = 92 then lit st .esc out (off + 1) r
    else if c.toNat = 124 then lit st .g1 out (off + 1) r
    else if c.toNat < 32 ∨ 126 < c.toNat then .err 14 off
    else lit st .plain (out ++ [c]) (off + 1) r
  | .esc, out, off, c :: r => if specB c then lit st .plain (out ++ [c]) (off + 1) r else .err 14 off
  | .g1, out, off, c :: r => match hexV c with
    | some h => lit st (.g2 h) out (off + 1) r
    | none => .err 14 off
  | .g2 h, out, off, c :: r => match hexV c with
    | some l => lit st .g3 (out ++ [UInt8.ofNat (16 * h + l)]) (off + 1) r
    | none => .err 14 off
  | .g3, out, off, c :: r => if c.toNat = 124 then lit st .plain out (off + 1) r else if c.toNat = 32 then lit st .g1 out (off + 1) r else .err 14 off

/-- A token: kind (the api's numbers: 0 end, 1 word, 2 string, 3 variable, 4 mark), text, offset. -/
structure Tok where
  kind : Nat
  text : List UInt8
  at_ : Nat
/-- The token that L begins with, L at offset off. -/
def tokAt (L : List UInt8) (off : Nat) : Res Tok := match L with
  | [] => .err 14 off
  | c :: r =>
    if wordB c then
      let n := (L.takeWhile wordB).length
      if 80 < n then .err 3 off else .ok ⟨1, L.takeWhile wordB, off⟩ (off + n)
    else if c.toNat = 36 then
      let m := r.takeWhile nameB
      if isName m then .ok ⟨3, m, off⟩ (off + 1 + m.length) else .err 5 off
    else if c.toNat = 34 then match lit off .plain [] (off + 1) r with
      | .ok t n => .ok ⟨2, t, off⟩ n
      | .err e n => .err e n
    else match markOf L with
      | [] => .err 14 off
      | m => .ok ⟨4, m, off⟩ (off + m.length)
/-- The tokens from an offset on, L the whole text (fuel: one more than the tokens). -/
def scanL (L : List UInt8) : Nat → Nat → List Tok → Res (List Tok)
  | 0, off, _ => .err 14 off
  | f + 1, off, out =>
    let p := off + skp false (L.drop off)
    if p < L.length then match tokAt (L.drop p) p with
      | .ok t n => scanL L f n (out ++ [t])
      | .err e n => .err e n
    else .ok (out ++ [⟨0, [], L.length⟩]) 0

/-- A quoted string, behind its first quote and ahead of its last (true: a group is open). -/
def hexD (n : Nat) : UInt8 := [48, 49, 50, 51, 52, 53, 54, 55, 56, 57, 97, 98, 99, 100, 101, 102].getD n 0
def quo : Bool → List UInt8 → List UInt8
  | true, [] => [124]
  | false, [] => []
  | b, c :: r => if plainB c then (if b then [124, c] else [c]) ++ quo false r else (if b then 32 else 124) :: hexD (c.toNat / 16) :: hexD (c.toNat % 16) :: quo true r
def quoteL (s : List UInt8) : List UInt8 := 34 :: quo false s ++ [34]

theorem hexV_hexD : ∀ n : Fin 16, hexV (hexD n.1) = some n.1 := by decide +kernel
theorem plain_facts : ∀ n : Fin 256, plainB (UInt8.ofNat n.1) = true → n.1 ≠ 34 ∧ n.1 ≠ 92 ∧ n.1 ≠ 124 ∧ 32 ≤ n.1 ∧ n.1 ≤ 126 := by decide +kernel
theorem plain_of {c : UInt8} (h : plainB c = true) : c.toNat ≠ 34 ∧ c.toNat ≠ 92 ∧ c.toNat ≠ 124 ∧ 32 ≤ c.toNat ∧ c.toNat ≤ 126 := by
  have := plain_facts ⟨c.toNat, c.toNat_lt⟩
  rw [show UInt8.ofNat (⟨c.toNat, c.toNat_lt⟩ : Fin 256).1 = c by simp] at this
  exact this h

/-- Reading what was quoted. -/
theorem lit_quo (st : Nat) (R : List UInt8) : ∀ (s : List UInt8) (out : List UInt8) (off : Nat),
    lit st .plain out off (quo false s ++ 34 :: R) = (if 256 < (out ++ s).length then .err 3 st else .ok (out ++ s) (off + (quo false s).length + 1)) ∧
    lit st .g3 out off (quo true s ++ 34 :: R) = (if 256 < (out ++ s).length then .err 3 st else .ok (out ++ s) (off + (quo true s).length + 1))
  | [], out, off => by
    constructor
    · simp [quo, lit]
    · simp [quo, lit]
  | c :: r, out, off => by
    have h16 : c.toNat / 16 < 16 := by have := c.toNat_lt; omega
    have l16 : c.toNat % 16 < 16 := by omega
    have e1 := hexV_hexD ⟨_, h16⟩
    have e2 := hexV_hexD ⟨_, l16⟩
    simp only at e1 e2
    have ec : UInt8.ofNat (16 * (c.toNat / 16) + c.toNat % 16) = c := by rw [Nat.div_add_mod]; simp
    have hout : out ++ [c] ++ r = out ++ c :: r := by simp
    by_cases hp : plainB c = true
    · obtain ⟨p1, p2, p3, p4, p5⟩ := plain_of hp
      have ih := (lit_quo st R r (out ++ [c]) (off + 1)).1
      have ih2 := (lit_quo st R r (out ++ [c]) (off + 1 + 1)).1
      rw [hout] at ih ih2
      constructor
      · simp only [quo, hp, if_true, Bool.false_eq_true, if_false, List.cons_append, List.nil_append, lit]
        rw [if_neg p1, if_neg p2, if_neg p3, if_neg (by omega), ih]
        simp only [List.length_cons, List.length_append]
        split <;> simp; omega
      · simp only [quo, hp, if_true, List.cons_append, List.nil_append, lit]
        rw [if_pos (by decide), if_neg p1, if_neg p2, if_neg p3, if_neg (by omega), ih2]
        simp only [List.length_cons, List.length_append]
        split <;> simp; omega
    · have ih := (lit_quo st R r (out ++ [c]) (off + 1 + 1 + 1)).2
      rw [hout] at ih
      constructor
      · simp only [quo, if_neg hp, Bool.false_eq_true, if_false, List.cons_append, lit]
        rw [if_neg (by decide), if_neg (by decide), if_pos (by decide)]
        simp only [e1, e2, ec]
        rw [ih]
        simp only [List.length_cons, List.length_append]
        split <;> simp; omega
      · simp only [quo, if_neg hp, if_true, List.cons_append, lit]
        rw [if_neg (by decide), if_pos (by decide)]
        simp only [e1, e2, ec]
        rw [ih]
        simp only [List.length_cons, List.length_append]
        split <;> simp; omega

/-- What follows a printed token: nothing, or a space. -/
def Sp (R : List UInt8) : Prop := R = [] ∨ ∃ R', R = 32 :: R'
theorem quote_reads (s R : List UInt8) (off : Nat) (h : s.length ≤ 256) : lit off .plain [] (off + 1) (quo false s ++ 34 :: R) = .ok s (off + (quoteL s).length) := by
  rw [(lit_quo off R s [] (off + 1)).1, List.nil_append, if_neg (by omega)]
  simp only [quoteL, List.length_cons, List.length_append, List.length_nil]
  congr 1
  omega
theorem quote_long (s R : List UInt8) (off : Nat) (h : 256 < s.length) : lit off .plain [] (off + 1) (quo false s ++ 34 :: R) = .err 3 off := by
  rw [(lit_quo off R s [] (off + 1)).1, List.nil_append, if_pos h]

/-- A token's own text; can it occur? -/
def tokText (k : Nat) (t : List UInt8) : List UInt8 := if k = 2 then quoteL t else if k = 3 then 36 :: t else t
def validT (k : Nat) (t : List UInt8) : Bool :=
  if k = 2 then decide (t.length ≤ 256) else if k = 3 then isName t else if k = 4 then !t.isEmpty && markOf t == t else k == 1 && !t.isEmpty && decide (t.length ≤ 80) && t.all wordB

theorem take_all {p : UInt8 → Bool} {t R : List UInt8} (h : t.all p = true) (hR : ∀ c R', R = c :: R' → p c = false) : (t ++ R).takeWhile p = t := by
  induction t with
  | nil =>
    cases R with
    | nil => rfl
    | cons c R' => simp [hR c R' rfl]
  | cons c t ih =>
    simp only [List.all_cons, Bool.and_eq_true] at h
    simp [h.1, ih h.2]
theorem sp_no {p : UInt8 → Bool} (hp : p 32 = false) {R : List UInt8} (h : Sp R) : ∀ c R', R = c :: R' → p c = false := by
  rintro c R' rfl
  rcases h with h | ⟨R2, h⟩
  · cases h
  · injection h with h1 _
    rw [h1]; exact hp
theorem mark_mem {t : List UInt8} (h : markOf t = t) (hne : t ≠ []) : t ∈ marks := by
  unfold markOf at h
  cases hf : marks.find? (fun m => m.isPrefixOf t) with
  | none => rw [hf] at h; exact absurd h.symm hne
  | some m =>
    rw [hf] at h
    have := List.mem_of_find?_eq_some hf
    simp only [Option.getD_some] at h
    rw [← h]; exact this
theorem mark_sp {t R : List UInt8} (h : t ∈ marks) (hR : Sp R) : markOf (t ++ R) = t ∧ ∃ c r, t = c :: r ∧ wordB c = false ∧ c.toNat ≠ 36 ∧ c.toNat ≠ 34 ∧ c.toNat ≠ 35 ∧ c.toNat ≠ 32 ∧ c.toNat ≠ 9 ∧ c.toNat ≠ 10 ∧ c.toNat ≠ 13 := by
  rcases hR with rfl | ⟨R', rfl⟩ <;> simp only [marks, List.mem_cons, List.not_mem_nil, or_false] at h <;>
    rcases h with rfl | rfl | rfl | rfl | rfl | rfl | rfl | rfl | rfl | rfl | rfl | rfl | rfl | rfl | rfl | rfl | rfl <;>
    exact ⟨by simp [markOf, marks, List.find?, List.isPrefixOf], _, _, rfl, by decide, by decide, by decide, by decide, by decide, by decide, by decide, by decide⟩

theorem word_first : ∀ n : Fin 256, wordB (UInt8.ofNat n.1) = true → n.1 ≠ 35 ∧ n.1 ≠ 32 ∧ n.1 ≠ 9 ∧ n.1 ≠ 10 ∧ n.1 ≠ 13 := by decide +kernel
theorem word_first_of {c : UInt8} (h : wordB c = true) : c.toNat ≠ 35 ∧ c.toNat ≠ 32 ∧ c.toNat ≠ 9 ∧ c.toNat ≠ 10 ∧ c.toNat ≠ 13 := by
  have := word_first ⟨c.toNat, c.toNat_lt⟩
  rw [show UInt8.ofNat (⟨c.toNat, c.toNat_lt⟩ : Fin 256).1 = c by simp] at this
  exact this h
theorem name_all {t : List UInt8} (h : isName t = true) : t.all nameB = true := by
  unfold isName at h
  split at h
  · cases h
  · simp only [Bool.and_eq_true] at h
    exact h.2

/-- A printed token is read as itself. -/
theorem tok_print {k : Nat} {t R : List UInt8} (h : validT k t = true) (hR : Sp R) (off : Nat) :
    tokAt (tokText k t ++ R) off = .ok ⟨k, t, off⟩ (off + (tokText k t).length) ∧ skp false (tokText k t ++ R) = 0 ∧ 0 < (tokText k t).length := by
  unfold validT at h
  unfold tokText
  by_cases h3 : k = 2
  · subst h3
    rw [if_pos rfl] at h ⊢
    have hlen := of_decide_eq_true h
    have e : quoteL t ++ R = 34 :: (quo false t ++ 34 :: R) := by simp [quoteL]
    rw [e]
    refine ⟨?_, ?_, by simp [quoteL]⟩
    · unfold tokAt
      simp only
      rw [if_neg (by decide), if_neg (by decide), if_pos (by decide), quote_reads t R off hlen]
    · simp [skp]
  · rw [if_neg h3] at h ⊢
    by_cases h2 : k = 3
    · subst h2
      rw [if_pos rfl] at h ⊢
      have ht := take_all (name_all h) (sp_no (p := nameB) (by decide) hR)
      refine ⟨?_, ?_, by simp⟩
      · rw [List.cons_append]
        unfold tokAt
        simp only
        rw [if_neg (by decide), if_pos (by decide), ht, if_pos h]
        simp only [List.length_cons]
        congr 1
        omega
      · simp [skp]
    · rw [if_neg h2] at h ⊢
      by_cases h4 : k = 4
      · subst h4
        rw [if_pos rfl] at h
        simp only [Bool.and_eq_true, Bool.not_eq_true', List.isEmpty_eq_false_iff, beq_iff_eq] at h
        obtain ⟨hm, c, r, rfl, f1, f2, f3, f4, f5, f6, f7, f8⟩ := mark_sp (mark_mem h.2 h.1) hR
        refine ⟨?_, ?_, by simp⟩
        · rw [List.cons_append] at hm ⊢
          unfold tokAt
          simp only
          rw [if_neg (by rw [f1]; decide), if_neg f2, if_neg f3, hm]
        · rw [List.cons_append]
          simp [skp, f4, f5, f6, f7, f8]
      · rw [if_neg h4] at h
        simp only [Bool.and_eq_true, Bool.not_eq_true', beq_iff_eq, decide_eq_true_eq, List.isEmpty_eq_false_iff] at h
        obtain ⟨⟨⟨rfl, hne⟩, h80⟩, hall⟩ := h
        have ht := take_all hall (sp_no (p := wordB) (by decide) hR)
        cases t with
        | nil => exact absurd rfl hne
        | cons c r =>
          have hc : wordB c = true := by simp only [List.all_cons, Bool.and_eq_true] at hall; exact hall.1
          obtain ⟨f4, f5, f6, f7, f8⟩ := word_first_of hc
          refine ⟨?_, ?_, by simp⟩
          · rw [List.cons_append] at ht ⊢
            unfold tokAt
            simp only
            rw [if_pos hc, ht, if_neg (by omega)]
          · rw [List.cons_append]
            simp [skp, f4, f5, f6, f7, f8]

/-- Tokens in a row, each behind a space; where they come to stand. -/
def tailT : List (Nat × List UInt8) → List UInt8
  | [] => []
  | x :: xs => 32 :: tokText x.1 x.2 ++ tailT xs
def joinT : List (Nat × List UInt8) → List UInt8
  | [] => []
  | x :: xs => tokText x.1 x.2 ++ tailT xs
def place : Nat → List (Nat × List UInt8) → List Tok
  | _, [] => []
  | off, x :: xs => ⟨x.1, x.2, off + 1⟩ :: place (off + 1 + (tokText x.1 x.2).length) xs
def placeJ : List (Nat × List UInt8) → List Tok
  | [] => []
  | x :: xs => ⟨x.1, x.2, 0⟩ :: place (tokText x.1 x.2).length xs
theorem tailT_sp : ∀ xs, Sp (tailT xs)
  | [] => .inl rfl
  | _ :: _ => .inr ⟨_, rfl⟩

theorem scan_tail : ∀ (xs : List (Nat × List UInt8)), (∀ x ∈ xs, validT x.1 x.2 = true) → ∀ (P : List UInt8) (out : List Tok) (f : Nat), xs.length + 1 ≤ f →
    scanL (P ++ tailT xs) f P.length out = .ok (out ++ place P.length xs ++ [⟨0, [], (P ++ tailT xs).length⟩]) 0
  | [], _, P, out, f, hf => by
    obtain ⟨g, rfl⟩ : ∃ g, f = g + 1 := ⟨f - 1, by simp at hf; omega⟩
    simp [scanL, tailT, skp, place]
  | x :: xs, hv, P, out, f, hf => by
    obtain ⟨g, rfl⟩ : ∃ g, f = g + 1 := ⟨f - 1, by simp at hf; omega⟩
    have hx := hv x (by simp)
    obtain ⟨h1, h2, h3⟩ := tok_print hx (tailT_sp xs) (P.length + 1)
    have e1 : (P ++ tailT (x :: xs)).drop P.length = 32 :: (tokText x.1 x.2 ++ tailT xs) := by simp [tailT]
    have e2 : (P ++ tailT (x :: xs)).drop (P.length + 1) = tokText x.1 x.2 ++ tailT xs := by
      rw [← List.drop_drop, e1]; rfl
    have e3 : P ++ tailT (x :: xs) = (P ++ 32 :: tokText x.1 x.2) ++ tailT xs := by simp [tailT]
    have e4 : (P ++ 32 :: tokText x.1 x.2).length = P.length + 1 + (tokText x.1 x.2).length := by simp; omega
    have hs : skp false (32 :: (tokText x.1 x.2 ++ tailT xs)) = 1 := by
      rw [skp, if_neg (by decide), if_pos (by decide), h2]
    have hlt : P.length + 1 < (P ++ tailT (x :: xs)).length := by rw [e3]; simp; omega
    rw [scanL]
    simp only [e1, hs]
    rw [if_pos hlt, e2, h1]
    simp only
    rw [e3, ← e4, scan_tail xs (fun y hy => hv y (by simp [hy])) (P ++ 32 :: tokText x.1 x.2) (out ++ [(⟨x.1, x.2, P.length + 1⟩ : Tok)]) g (by simp at hf; omega)]
    simp [place, e4]

/-- THE ROUND TRIP. -/
theorem scan_join (xs : List (Nat × List UInt8)) (hv : ∀ x ∈ xs, validT x.1 x.2 = true) (f : Nat) (hf : xs.length + 1 ≤ f) :
    scanL (joinT xs) f 0 [] = .ok (placeJ xs ++ [⟨0, [], (joinT xs).length⟩]) 0 := by
  cases xs with
  | nil =>
    obtain ⟨g, rfl⟩ : ∃ g, f = g + 1 := ⟨f - 1, by simp at hf; omega⟩
    simp [scanL, joinT, skp, placeJ]
  | cons x xs =>
    obtain ⟨g, rfl⟩ : ∃ g, f = g + 1 := ⟨f - 1, by simp at hf; omega⟩
    have hx := hv x (by simp)
    obtain ⟨h1, h2, h3⟩ := tok_print hx (tailT_sp xs) 0
    have e1 : joinT (x :: xs) = tokText x.1 x.2 ++ tailT xs := rfl
    have hlt : 0 < (joinT (x :: xs)).length := by rw [e1]; simp; omega
    rw [scanL]
    simp only [List.drop_zero]
    rw [e1, h2]
    simp only [Nat.zero_add, List.drop_zero]
    rw [if_pos (by rw [← e1]; exact hlt), h1]
    simp only [Nat.zero_add, List.nil_append]
    rw [scan_tail xs (fun y hy => hv y (by simp [hy])) (tokText x.1 x.2) [(⟨x.1, x.2, 0⟩ : Tok)] g (by simp at hf; omega)]
    simp [placeJ]

/-- The offsets ascend; kinds and texts are those that were printed. -/
theorem place_above : ∀ (xs : List (Nat × List UInt8)) (off : Nat), ∀ t ∈ place off xs, off < t.at_
  | [], _, t, h => by simp [place] at h
  | x :: xs, off, t, h => by
    simp only [place, List.mem_cons] at h
    rcases h with rfl | h
    · exact Nat.lt_succ_self _
    · have := place_above xs _ t h
      omega
theorem place_asc : ∀ (xs : List (Nat × List UInt8)) (off : Nat), (place off xs).Pairwise (fun a b => a.at_ < b.at_)
  | [], _ => by simp [place]
  | x :: xs, off => by
    simp only [place, List.pairwise_cons]
    exact ⟨fun t h => by have := place_above xs _ t h; omega, place_asc xs _⟩
theorem placeJ_asc (xs : List (Nat × List UInt8)) (hv : ∀ x ∈ xs, 0 < (tokText x.1 x.2).length) : (placeJ xs).Pairwise (fun a b => a.at_ < b.at_) := by
  cases xs with
  | nil => simp [placeJ]
  | cons x xs =>
    simp only [placeJ, List.pairwise_cons]
    exact ⟨fun t h => by have := place_above xs _ t h; have := hv x (by simp); omega, place_asc xs _⟩
theorem place_map : ∀ (xs : List (Nat × List UInt8)) (off : Nat), (place off xs).map (fun t => (t.kind, t.text)) = xs
  | [], _ => rfl
  | x :: xs, off => by simp [place, place_map xs]
theorem placeJ_map (xs : List (Nat × List UInt8)) : (placeJ xs).map (fun t => (t.kind, t.text)) = xs := by
  cases xs with
  | nil => rfl
  | cons x xs => simp [placeJ, place_map]
theorem placeJ_length (xs : List (Nat × List UInt8)) : (placeJ xs).length = xs.length := by
  have := congrArg List.length (placeJ_map xs)
  simpa using this
/-- A quoted string is one token, or too long. -/
theorem scan_quote (s : List UInt8) (h : s.length ≤ 256) : scanL (quoteL s) 2 0 [] = .ok [⟨2, s, 0⟩, ⟨0, [], (quoteL s).length⟩] 0 := by
  have := scan_join [(2, s)] (by simp [validT, h]) 2 (by simp)
  simpa [joinT, tailT, tokText, placeJ, place] using this
theorem scan_quote_long (s : List UInt8) (h : 256 < s.length) (f : Nat) : scanL (quoteL s) (f + 1) 0 [] = .err 3 0 := by
  have e : quoteL s = 34 :: (quo false s ++ 34 :: []) := by simp [quoteL]
  have hs : skp false (quoteL s) = 0 := by rw [e, skp, if_neg (by decide), if_neg (by decide)]
  rw [scanL]
  simp only [List.drop_zero, hs, Nat.zero_add]
  rw [if_pos (by rw [e]; simp)]
  have ht : tokAt (quoteL s) 0 = .err 3 0 := by
    rw [e]
    unfold tokAt
    simp only
    rw [if_neg (by decide), if_neg (by decide), if_pos (by decide), quote_long s [] 0 h]
  rw [ht]
end Go.Proofs.Ytcakdgfkepdpkaa
