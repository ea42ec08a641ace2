/- Contracts of the functions, part 4: PrtNorm, PrtFmt, PrtREval, Elems, Elems3, PrtPEval, AdrObj, AdrNext, AdqObj, AdrBit. -/
import Derived.Deep.QuietTactic
import Derived.Deep.AppendLies
import Derived.OwnWalk
import Derived.Laws.OwnMore
import Derived.Laws.AppendOwnNone
import Derived.Maps.AppendAt
import Derived.Laws.CopyOwn
import Derived.Laws.StructEq
import Derived.BigQuiet
import Derived.Test.YtepbmnpjpkmmfaaGreatDoorPA1
import Derived.Test.YtepbmnpjpkmmfaaGreatDoorPA2
import Derived.Test.YtepbmnpjpkmmfaaGreatDoorPA3
/- Plain mathematics: a set has no more spans than any list that denotes it; the ports of a list. -/
namespace Go.Proofs.YtepbmnpjpkmmfaaGreatDoor
set_option linter.unusedVariables false

/-- A set has no more spans than any list with the same numbers. -/
theorem okL_short {M : Int} : ∀ (L : List Spn) (c : Int) (l : List Spn), okL M c L → (∀ n, anyS L n = anyS l n) → L.length ≤ l.length
  | [], c, l, _, _ => Nat.zero_le _
  | x :: r, c, l, h, ha => by
    obtain ⟨h1, h2, h3, h4⟩ := h
    have hx : anyS l x.lo = true := by
      rw [← ha, anyS_cons, (inS_iff x x.lo).2 ⟨Int.le_refl _, h2⟩]; rfl
    have hno : anyS l (x.hi + 1) = false := by
      rw [← ha, anyS_cons]
      have e1 : inS x (x.hi + 1) = false := by
        cases hc : inS x (x.hi + 1) with
        | false => rfl
        | true => rw [inS_iff] at hc; omega
      rw [e1, Bool.false_or]
      cases hc : anyS r (x.hi + 1) with
      | false => rfl
      | true => have := okL_ge h4 hc; omega
    obtain ⟨t, ht, ht1, ht2⟩ := (anyS_iff l x.lo).1 hx
    have hlt : (l.filter fun s => decide (x.hi < s.lo)).length < l.length := by
      rw [List.length_filter_lt_length_iff_exists]
      exact ⟨t, ht, by simp; omega⟩
    have key : ∀ n, anyS r n = anyS (l.filter fun s => decide (x.hi < s.lo)) n := by
      intro n
      rw [Bool.eq_iff_iff]
      constructor
      · intro hr
        have hge := okL_ge h4 hr
        have : anyS l n = true := by rw [← ha, anyS_cons, hr, Bool.or_true]
        obtain ⟨s, hs, hs1, hs2⟩ := (anyS_iff l n).1 this
        refine (anyS_iff _ n).2 ⟨s, List.mem_filter.2 ⟨hs, ?_⟩, hs1, hs2⟩
        rw [decide_eq_true_eq]
        apply Decidable.byContradiction
        intro hn
        have : anyS l (x.hi + 1) = true := (anyS_iff l _).2 ⟨s, hs, by omega, by omega⟩
        rw [hno] at this
        cases this
      · intro hf
        obtain ⟨s, hs, hs1, hs2⟩ := (anyS_iff _ n).1 hf
        obtain ⟨hs0, hs3⟩ := List.mem_filter.1 hs
        rw [decide_eq_true_eq] at hs3
        have hl : anyS l n = true := (anyS_iff l n).2 ⟨s, hs0, hs1, hs2⟩
        rw [← ha, anyS_cons, Bool.or_eq_true] at hl
        rcases hl with h | h
        · rw [inS_iff] at h; omega
        · exact h
    have ih := okL_short r (x.hi + 2) (l.filter fun s => decide (x.hi < s.lo)) h4 key
    rw [List.length_cons]; omega
theorem cutAll_len (M : Int) : ∀ l : List Spn, (cutAll M l).length ≤ l.length
  | [] => Nat.le_refl _
  | s :: r => by
    have ih := cutAll_len M r
    unfold cutAll at ih ⊢
    rw [List.flatMap_cons, List.length_append, List.length_cons]
    split
    · simp only [List.length_singleton]; omega
    · simp only [List.length_nil]; omega
/-- The ports of a list. -/
def prtF (l : List Spn) (m : Int) : Bool := inPort m && anyS l m
theorem prtF_cut (l : List Spn) (m : Int) : prtF l m = anyS (cutAll 65535 l) m := (cutAll_any 65535 l m).symm
theorem prtF_len {M : Int} {L l : List Spn} (h : okL M 0 L) (ha : ∀ m, anyS L m = prtF l m) : L.length ≤ l.length :=
  Nat.le_trans (okL_short L 0 (cutAll 65535 l) h (fun n => (ha n).trans (prtF_cut l n))) (cutAll_len 65535 l)
theorem okL_narrow {M N : Int} : ∀ {L : List Spn} {c : Int}, okL M c L → (∀ m, anyS L m = true → m ≤ N) → okL N c L
  | [], c, _, _ => trivial
  | x :: r, c, h, ha => by
    obtain ⟨h1, h2, h3, h4⟩ := h
    refine ⟨h1, h2, ha x.hi ?_, okL_narrow h4 (fun m hm => ha m ?_)⟩
    · rw [anyS_cons, (inS_iff x x.hi).2 ⟨h2, Int.le_refl _⟩]; rfl
    · rw [anyS_cons, hm, Bool.or_true]
theorem okL_widen {M N : Int} (hMN : M ≤ N) : ∀ {L : List Spn} {c : Int}, okL M c L → okL N c L
  | [], c, _ => trivial
  | x :: r, c, h => by
    obtain ⟨h1, h2, h3, h4⟩ := h
    exact ⟨h1, h2, Int.le_trans h3 hMN, okL_widen hMN h4⟩
theorem okL_prt {L l : List Spn} {M : Int} (h : okL M 0 L) (ha : ∀ m, anyS L m = prtF l m) : okL 65535 0 L :=
  okL_narrow h (fun m hm => by
    rw [ha m] at hm
    unfold prtF at hm
    rw [Bool.and_eq_true, inPort_iff] at hm
    exact hm.1.2)
theorem inPort_all (m : Int) : anyS [⟨0, 65535⟩] m = inPort m := by
  unfold anyS inPort inS
  simp
theorem memS_all (m : Int) : memS 4294967296 [⟨0, 65535⟩] m = inPort m := by
  unfold memS
  rw [inPort_all, Bool.eq_iff_iff, Bool.and_eq_true, Bool.and_eq_true, inPort_iff, decide_eq_true_eq, decide_eq_true_eq]
  omega
theorem memS_prt (l : List Spn) (m : Int) : (memS 4294967296 l m && inPort m) = prtF l m := by
  unfold memS prtF
  cases h : inPort m with
  | false => rw [Bool.and_false, Bool.false_and]
  | true =>
    have h1 := (inPort_iff m).1 h
    rw [show decide (0 ≤ m) = true by simp; omega, show decide (m ≤ 4294967296) = true by simp; omega]
    simp
theorem portF_nil (o : List Spn) (m : Int) : portF [] o m = (inPort m && !memS 4294967296 o m) := by
  unfold portF memS
  cases h : inPort m with
  | false => rfl
  | true =>
    have h1 := (inPort_iff m).1 h
    rw [show decide (0 ≤ m) = true by simp; omega, show decide (m ≤ 4294967296) = true by simp; omega]
    simp
theorem portF_some {l : List Spn} (hl : l ≠ []) (o : List Spn) (m : Int) : portF l o m = (prtF l m && !memS 4294967296 o m) := by
  unfold portF memS prtF
  rw [show l.isEmpty = false by simpa using hl]
  cases h : inPort m with
  | false => rfl
  | true =>
    have h1 := (inPort_iff m).1 h
    rw [show decide (0 ≤ m) = true by simp; omega, show decide (m ≤ 4294967296) = true by simp; omega]
    simp
/-- Spans whose ends are capped. -/
def capS (s : Spn) : Spn := ⟨s.lo, min s.hi 65535⟩
theorem cap_mem (l : List Spn) (m : Int) : memS 4294967296 (l.map capS) m = prtF l m := by
  unfold memS prtF inPort
  rw [Bool.eq_iff_iff]
  simp only [Bool.and_eq_true, decide_eq_true_eq, anyS_iff, List.mem_map]
  constructor
  · rintro ⟨⟨h1, h2⟩, s, ⟨t, ht, rfl⟩, h3, h4⟩
    simp only [capS] at h3 h4
    exact ⟨⟨h1, by omega⟩, t, ht, h3, by omega⟩
  · rintro ⟨⟨h1, h2⟩, t, ht, h3, h4⟩
    refine ⟨⟨h1, by omega⟩, capS t, ⟨t, ht, rfl⟩, ?_, ?_⟩
    · exact h3
    · show m ≤ min t.hi 65535
      omega
/-! ### Items -/
theorem splitGo_len1 (c : UInt8) : ∀ (s cur : By), (splitGo c cur s).length = s.countP (fun x => decide (x = c)) + 1
  | [], cur => by simp [splitGo]
  | x :: r, cur => by
    rw [splitGo]
    by_cases h : x = c
    · rw [if_pos h, List.length_cons, splitGo_len1 c r [], List.countP_cons_of_pos (by simpa using h)]
    · rw [if_neg h, splitGo_len1 c r, List.countP_cons_of_neg (by simpa using h)]
theorem splitGo_nil1 (c : UInt8) : ∀ (s cur : By), splitGo c cur s = [[]] → cur = []
  | [], cur, h => by simpa [splitGo] using h
  | x :: r, cur, h => by
    rw [splitGo] at h
    by_cases hx : x = c
    · rw [if_pos hx] at h
      simp only [List.cons.injEq] at h
      exact h.1
    · rw [if_neg hx] at h
      have := splitGo_nil1 c r _ h
      simp at this
theorem splitGo_nil2 (c : UInt8) : ∀ (s cur : By), splitGo c cur s = [[], []] → cur = [] ∧ s = [c]
  | [], cur, h => by simp [splitGo] at h
  | x :: r, cur, h => by
    rw [splitGo] at h
    by_cases hx : x = c
    · rw [if_pos hx] at h
      simp only [List.cons.injEq] at h
      obtain ⟨h1, h2⟩ := h
      subst h1 hx
      cases r with
      | nil => exact ⟨rfl, rfl⟩
      | cons y q =>
        rw [splitGo] at h2
        by_cases hy : y = x
        · rw [if_pos hy] at h2
          simp only [List.cons.injEq] at h2
          obtain ⟨_, h3⟩ := h2
          have := splitGo_len1 x q []
          rw [h3] at this
          simp at this
        · rw [if_neg hy] at h2
          have := splitGo_nil1 x q _ h2
          simp at this
    · rw [if_neg hx] at h
      have := (splitGo_nil2 c r _ h).1
      simp at this
/-- A lone colon. -/
theorem split_colon {s : By} : splitL 58 s = [[], []] ↔ s = [58] :=
  ⟨fun h => (splitGo_nil2 58 s [] h).2, fun h => by subst h; rfl⟩
end Go.Proofs.YtepbmnpjpkmmfaaGreatDoor

/- Plain mathematics of a set's text as the walks build it. -/
namespace Go.Proofs.YtepbmnpjpkmmfaaGreatDoor
set_option linter.unusedVariables false

theorem numL_inj {a b : Nat} (ha : a ≤ 65535) (hb : b ≤ 65535) (h : numL a = numL b) : a = b := by
  have h1 := decGo_num (most := 65535) a ha
  have h2 := decGo_num (most := 65535) b hb
  rw [h, h2] at h1
  exact (Option.some.inj h1).symm
theorem numL_len5 {n : Nat} (h : n ≤ 65535) : (numL n).length ≤ 5 := num_len_pow 4 n (by omega)
theorem joinC_snoc (c : UInt8) (p : By) : ∀ l : List By, l ≠ [] → joinC c (l ++ [p]) = joinC c l ++ c :: p
  | [], h => absurd rfl h
  | [a], _ => rfl
  | a :: b :: r, _ => by
    have ih := joinC_snoc c p (b :: r) (by simp)
    show a ++ c :: joinC c (b :: r ++ [p]) = (a ++ c :: joinC c (b :: r)) ++ c :: p
    rw [ih]
    simp
/-- The text of the first k spans. -/
def preL (L : List Spn) (k : Nat) : By := joinC 44 ((L.take k).map fmtSp)
theorem preL_zero (L : List Spn) : preL L 0 = [] := rfl
theorem preL_all (L : List Spn) : preL L L.length = joinC 44 (L.map fmtSp) := by unfold preL; rw [List.take_length]
theorem preL_first {L : List Spn} {s : Spn} (h : L[0]? = some s) : preL L 1 = fmtSp s := by
  cases L with
  | nil => cases h
  | cons x r =>
    obtain rfl : x = s := by simpa using h
    rfl
theorem preL_next {L : List Spn} {k : Nat} {s : Spn} (h : L[k]? = some s) (hk : 0 < k) : preL L (k + 1) = preL L k ++ 44 :: fmtSp s := by
  obtain ⟨hl, e⟩ := List.getElem?_eq_some_iff.1 h
  unfold preL
  rw [List.take_succ_eq_append_getElem hl, List.map_append, List.map_cons, List.map_nil, joinC_snoc, e]
  intro hn
  have := congrArg List.length hn
  rw [List.length_map, List.length_take, List.length_nil] at this
  omega
theorem fmtSp_nat {lo hi : Nat} : fmtSp ⟨lo, hi⟩ = if lo = hi then numL lo else numL lo ++ 58 :: numL hi := by
  unfold fmtSp
  by_cases h : lo = hi
  · rw [if_pos h, if_pos (by exact congrArg Nat.cast h)]
    simp
  · rw [if_neg h, if_neg (by show ¬ ((lo : Int) = (hi : Int)); omega)]
    rfl
theorem fmtSp_len {lo hi : Nat} (h1 : lo ≤ 65535) (h2 : hi ≤ 65535) : (fmtSp ⟨lo, hi⟩).length ≤ 11 := by
  have a := numL_len5 h1
  have b := numL_len5 h2
  rw [fmtSp_nat]
  split
  · omega
  · rw [List.length_append, List.length_cons]; omega
theorem okL_nat {L : List Spn} (h : okL 65535 0 L) {k : Nat} {s : Spn} (hs : L[k]? = some s) : ∃ lo hi : Nat, s = ⟨lo, hi⟩ ∧ lo ≤ hi ∧ hi ≤ 65535 := by
  obtain ⟨h0, h1, h2⟩ := okL_each (Int.le_refl 0) h s (List.mem_of_getElem? hs)
  obtain ⟨lo, hlo⟩ := Int.eq_ofNat_of_zero_le h0
  obtain ⟨hi, hhi⟩ := Int.eq_ofNat_of_zero_le (a := s.hi) (by omega)
  refine ⟨lo, hi, ?_, by omega, by omega⟩
  obtain ⟨x, y⟩ := s
  simp only at hlo hhi
  rw [hlo, hhi]
theorem preL_len {L : List Spn} (h : okL 65535 0 L) : ∀ k, k ≤ L.length → (preL L k).length ≤ 12 * k
  | 0, _ => by rw [preL_zero]; simp
  | k + 1, hk => by
    have ih := preL_len h k (by omega)
    have hg : L[k]? = some (L[k]'(by omega)) := List.getElem?_eq_getElem _
    obtain ⟨lo, hi, e, h1, h2⟩ := okL_nat h hg
    rw [e] at hg
    have hf := fmtSp_len (lo := lo) (hi := hi) (by omega) h2
    by_cases h0 : k = 0
    · subst h0
      rw [preL_first hg]
      omega
    · rw [preL_next hg (by omega), List.length_append, List.length_cons]
      omega
theorem fmtL_nil : fmtL [] = noneT := rfl
theorem fmtL_any {s : Spn} {r : List Spn} (h : s.lo = 0 ∧ s.hi = 65535) : fmtL (s :: r) = anyT := by
  unfold fmtL isAll
  rw [if_neg (by simp), if_pos (by simp [h])]
theorem fmtL_join {L : List Spn} {s : Spn} (hs : L[0]? = some s) (h : ¬ (s.lo = 0 ∧ s.hi = 65535)) : fmtL L = joinC 44 (L.map fmtSp) := by
  cases L with
  | nil => cases hs
  | cons x r =>
    obtain rfl : x = s := by simpa using hs
    unfold fmtL isAll
    rw [if_neg (by simp), if_neg (by simpa using h)]
end Go.Proofs.YtepbmnpjpkmmfaaGreatDoor

/- Contracts of the reference of layer 8: All, ports, Eval. -/
namespace Go.Proofs.YtepbmnpjpkmmfaaGreatDoor
open Go.ChangeShapes Go.WideShapes Go.ChangeAt Go.RowKit
set_option linter.unusedVariables false

theorem own_lit8 (w : World) (lo hi : Int) : (w.alloc (.cells #[.int .i64 lo, .int .i64 hi] 34)).ownsRow w.heap.size 34 2 (.slice (some ⟨w.heap.size, 0, none⟩) 1 1) 1 (spCells [⟨lo, hi⟩]) :=
  ⟨by simp [spCells, spC], .inr ⟨w.heap.size, 1, #[.int .i64 lo, .int .i64 hi], rfl, Nat.le_refl _, heap_alloc_new w _, Nat.le_refl _, by unfold maxLen; omega, by simp, by simp [spCells, spC]⟩⟩
theorem SetP.short {w : World} {f : Int → Bool} {b b' : Nat} {e : Ending} {w' : World} (h : SetP w f b e w') (hb : ∀ L : List Spn, okL 4294967296 0 L → (∀ m, anyS L m = f m) → L.length ≤ b') : SetP w f b' e w' := by
  obtain ⟨L, A, cap, h1, h2, h3, h4, h5, h6⟩ := h
  exact ⟨L, A, cap, h1, h2, hb L h1 h2, h4, h5, h6⟩
set_option maxRecDepth 20000 in
theorem rall8_any (w : World) : Calls Tryz.prog 28 #[] w (SetP w inPort 1) := by
  have HO := Lib.hid (own_lit8 w 0 65535)
  have HB := Lib.hid (below_alloc5 w (.cells #[.int .i64 0, .int .i64 65535] 34))
  have HE := Lib.hid inPort_all
  go_enter Tryz.func28, Tryz.ntmps28
  go_wp2_with fail
  go_ret
  exact ⟨[⟨0, 65535⟩], _, _, by simp [okL], HE.out, Nat.le_refl _, rfl, HO.out, HB.out⟩
set_option maxRecDepth 20000 in
theorem rports8_any (A : Option Addr) (cap : Nat) (l : List Spn) (w : World) (h : SpL w A l) (hl : l.length ≤ 900) :
    Calls Tryz.prog 35 #[.slice A l.length cap] w (SetP w (prtF l) l.length) := by
  have HA := Lib.hid (rall8_any w)
  have HI := Lib.hid (fun (w1 : World) (B : Option Addr) (c : Nat) (L : List Spn) (hb : Below w.heap.size w w1) (hL : SpL w1 B L) (hl2 : L.length ≤ 900) => rinter_any A B cap c l L w1 (h.kept hb) hL hl hl2)
  have HS := Lib.hid (fun (L : List Spn) (h1 : okL 4294967296 0 L) (h2 : ∀ m, anyS L m = prtF l m) => (prtF_len h1 h2 : L.length ≤ l.length))
  have HM := Lib.hid (memS_prt l)
  generalize l.length = ll at *
  clear h hl
  go_enter Tryz.func35, Tryz.ntmps35
  go_wp2_with fail
  refine HA.out.mono ?_
  rintro e w1 ⟨L, A2, c2, ok, any, le, rfl, own, hb⟩
  have HB := Lib.hid hb
  have HF := Lib.hid (show ∀ m, (memS 4294967296 l m && memS 4294967296 L m) = prtF l m from fun m => by rw [okL_mem ok, any]; exact HM.out m)
  have HI2 := Lib.hid (HI.out w1 A2 c2 L hb (spl_of_own own) (by omega))
  obtain ⟨nl, hnl⟩ : ∃ n, n = L.length := ⟨_, rfl⟩
  rw [← hnl] at HI2 ⊢
  clear HI HA ok any le own hb hnl
  go_wp2_with fail
  refine HI2.out.mono ?_
  intro e w5 hset
  obtain ⟨L2, A5, c5, g1, g2, g3, rfl, g5, g6⟩ := (SetP.back HB.out hset HF.out (Nat.le_refl _)).short HS.out
  go_wp2_with fail
  go_ret
  exact ⟨L2, A5, c5, g1, g2, g3, rfl, g5, g6⟩
set_option maxRecDepth 20000 in
theorem reval8_any (A1 A2 : Option Addr) (c1 c2 : Nat) (a b : List Spn) (w : World) (h1 : SpL w A1 a) (h2 : SpL w A2 b) (hl1 : a.length ≤ 899) (hl2 : b.length ≤ 899) :
    Calls Tryz.prog 17 #[.slice A1 a.length c1, .slice A2 b.length c2] w (SetP w (portF a b) 810000) := by
  have HA := Lib.hid (rall8_any w)
  have HP := Lib.hid (fun (w1 : World) (B : Option Addr) (c : Nat) (L : List Spn) (hL : SpL w1 B L) (hl : L.length ≤ 900) => rports8_any B c L w1 hL hl)
  have HP1 := Lib.hid (rports8_any A1 c1 a w h1 (by omega))
  have HI := Lib.hid (fun (w1 : World) (B : Option Addr) (c : Nat) (L : List Spn) (hb : Below w.heap.size w w1) (hL : SpL w1 B L) (hl : L.length ≤ 900) => rminus_any B A2 c c2 L b w1 hL (h2.kept hb) hl hl2)
  by_cases ha : a = []
  · subst ha
    have HF := Lib.hid (portF_nil b)
    have HE := Lib.hid inPort_all
    clear h1 hl1 HP1 h2
    rw [show ([] : List Spn).length = 0 from rfl]
    generalize b.length = lb at *
    go_enter Tryz.func17, Tryz.ntmps17
    go_wp2_with fail
    refine HA.out.mono ?_
    rintro e w1 ⟨L, B, c, ok, any, le, rfl, own, hb⟩
    have HP2 := Lib.hid (HP.out w1 B c L (spl_of_own own) (by omega))
    have HF2 := Lib.hid (show ∀ m, prtF L m = inPort m from fun m => by unfold prtF; rw [any]; cases inPort m <;> rfl)
    have HB1 := Lib.hid hb
    generalize L.length = ll at *
    clear hb own any ok HA HP
    go_wp2_with fail
    refine HP2.out.mono ?_
    rintro e w2 ⟨L2, B2, k2, ok2, any2, le2, rfl, own2, hb2⟩
    have HB2 := Lib.hid (HB1.out.trans (hb2.mono HB1.out.size))
    have HI2 := Lib.hid (HI.out w2 B2 k2 L2 HB2.out (spl_of_own own2) (by omega))
    have HG := Lib.hid (show ∀ m, (memS 4294967296 L2 m && !memS 4294967296 b m) = portF [] b m from fun m => by rw [okL_mem ok2, any2, HF2.out, HF.out])
    generalize L2.length = ll2 at *
    clear hb2 own2 any2 ok2 HI HP2 HB1
    go_wp2_with fail
    refine HI2.out.mono ?_
    intro e w5 hset
    obtain ⟨L3, A5, c5, g1, g2, g3, rfl, g5, g6⟩ := SetP.back HB2.out hset HG.out (Nat.le_refl _)
    go_wp2_with fail
    go_ret
    exact ⟨L3, A5, c5, g1, g2, g3, rfl, g5, g6⟩
  · have HF := Lib.hid (portF_some ha b)
    have hpos : 0 < a.length := List.length_pos_iff.2 ha
    have d0 : ((a.length : Int) == 0) = false := by rw [beq_eq_false_iff_ne]; omega
    clear h1 h2 HA HP ha
    generalize a.length = la at *
    generalize b.length = lb at *
    go_enter Tryz.func17, Tryz.ntmps17
    go_wp2_with fail
    refine HP1.out.mono ?_
    rintro e w2 ⟨L2, B2, k2, ok2, any2, le2, rfl, own2, hb2⟩
    have HB2 := Lib.hid hb2
    have HI2 := Lib.hid (HI.out w2 B2 k2 L2 HB2.out (spl_of_own own2) (by omega))
    have HG := Lib.hid (show ∀ m, (memS 4294967296 L2 m && !memS 4294967296 b m) = portF a b m from fun m => by rw [okL_mem ok2, any2, HF.out])
    generalize L2.length = ll2 at *
    clear hb2 own2 any2 ok2 HI HP1
    go_wp2_with fail
    refine HI2.out.mono ?_
    intro e w5 hset
    obtain ⟨L3, A5, c5, g1, g2, g3, rfl, g5, g6⟩ := SetP.back HB2.out hset HG.out (Nat.le_refl _)
    go_wp2_with fail
    go_ret
    exact ⟨L3, A5, c5, g1, g2, g3, rfl, g5, g6⟩
end Go.Proofs.YtepbmnpjpkmmfaaGreatDoor

/- Slices of elements of any fixed number of cells: how they read, how they are appended to; for any element. -/
namespace Go.Proofs.YtepbmnpjpkmmfaaGreatDoor
open Go.ChangeShapes Go.WideShapes Go.ChangeAt Go.RowKit
set_option linter.unusedVariables false

/-- How an element lies: its cells. -/
structure Enc (α : Type) where
  k : Nat
  pos : 0 < k
  c : α → List Value
  len : ∀ x, (c x).length = k
  one : ∀ x, ∀ v ∈ c x, v.oneCell' = true
variable {α : Type}
def Enc.cells (E : Enc α) (l : List α) : List Value := l.flatMap E.c
theorem Enc.cells_nil (E : Enc α) : E.cells [] = [] := rfl
theorem Enc.cells_cons (E : Enc α) (x : α) (l : List α) : E.cells (x :: l) = E.c x ++ E.cells l := rfl
theorem Enc.cells_append (E : Enc α) (a b : List α) : E.cells (a ++ b) = E.cells a ++ E.cells b := by simp [Enc.cells]
theorem Enc.cells_one (E : Enc α) (x : α) : E.cells [x] = E.c x := by simp [Enc.cells]
theorem Enc.cells_snoc (E : Enc α) (l : List α) (x : α) : E.cells (l ++ [x]) = E.cells l ++ E.c x := by rw [E.cells_append, E.cells_one]
theorem Enc.cells_length (E : Enc α) (l : List α) : (E.cells l).length = l.length * E.k := by
  induction l with
  | nil => simp [Enc.cells]
  | cons x r ih => rw [E.cells_cons, List.length_append, ih, E.len, List.length_cons, Nat.add_mul, Nat.one_mul, Nat.add_comm]
theorem Enc.cells_get (E : Enc α) : ∀ (l : List α) (i : Nat) (x : α) (j : Nat), l[i]? = some x → j < E.k → (E.cells l)[i * E.k + j]? = (E.c x)[j]?
  | [], i, x, j, h, _ => by simp at h
  | y :: r, 0, x, j, h, hj => by
    simp only [List.getElem?_cons_zero, Option.some.injEq] at h
    subst h
    rw [E.cells_cons, Nat.zero_mul, Nat.zero_add, List.getElem?_append_left (by rw [E.len]; exact hj)]
  | y :: r, i + 1, x, j, h, hj => by
    rw [E.cells_cons, List.getElem?_append_right (by rw [E.len, Nat.add_mul]; omega), E.len, show (i + 1) * E.k + j - E.k = i * E.k + j by rw [Nat.add_mul]; omega]
    exact E.cells_get r i x j (by simpa using h) hj
theorem Enc.cells_one' (E : Enc α) (l : List α) : ∀ u ∈ E.cells l, u.oneCell' = true := by
  intro u hu
  unfold Enc.cells at hu
  obtain ⟨s, _, hs⟩ := List.mem_flatMap.1 hu
  exact E.one s u hs
theorem Enc.cells_take (E : Enc α) : ∀ (l : List α) (n : Nat), (E.cells l).take (n * E.k) = E.cells (l.take n)
  | [], n => by simp [Enc.cells]
  | x :: r, 0 => by simp [Enc.cells]
  | x :: r, n + 1 => by
    rw [E.cells_cons, List.take_succ_cons, E.cells_cons, ← E.cells_take r n, List.take_append, E.len, show (n + 1) * E.k - E.k = n * E.k by rw [Nat.add_mul]; omega, List.take_of_length_le (by rw [E.len, Nat.add_mul]; omega)]
theorem Enc.cells_at (E : Enc α) : ∀ (l : List α) (j : Nat) (u : Value), (E.cells l)[j]? = some u → ∃ i x t, l[i]? = some x ∧ t < E.k ∧ j = i * E.k + t ∧ (E.c x)[t]? = some u
  | [], j, u, h => by simp [Enc.cells] at h
  | y :: r, j, u, h => by
    rw [E.cells_cons] at h
    by_cases hj : j < E.k
    · rw [List.getElem?_append_left (by rw [E.len]; exact hj)] at h
      exact ⟨0, y, j, rfl, hj, by omega, h⟩
    · rw [List.getElem?_append_right (by rw [E.len]; omega), E.len] at h
      obtain ⟨i, x, t, h1, h2, h3, h4⟩ := E.cells_at r (j - E.k) u h
      exact ⟨i + 1, x, t, by simpa using h1, h2, by rw [Nat.add_mul]; omega, h4⟩
/-- A slice that reads as the elements l. -/
def RowL (E : Enc α) (w : World) (A : Option Addr) (l : List α) : Prop :=
  0 < l.length → ∃ g o, A = some ⟨g, o, none⟩ ∧ g < w.heap.size ∧ ∀ i x, l[i]? = some x → ∀ j v, (E.c x)[j]? = some v → w.cell? ⟨g, o + i * E.k + j, none⟩ = some v
variable {E : Enc α}
theorem RowL.nil (w : World) (A : Option Addr) : RowL E w A [] := fun h => absurd h (by simp)
theorem RowL.kept {w w' : World} {A : Option Addr} {l : List α} (h : RowL E w A l) (hb : Below w.heap.size w w') : RowL E w' A l := fun hp => by
  obtain ⟨g, o, e, hg, hc⟩ := h hp
  refine ⟨g, o, e, Nat.lt_of_lt_of_le hg hb.size, fun i x hx j v hv => ?_⟩
  rw [World.cell?_of_block (w := w) (w' := w') (a := ⟨g, o + i * E.k + j, none⟩) (hb.block g hg)]
  exact hc i x hx j v hv
theorem RowL.drewN {w : World} {A : Option Addr} {l : List α} (h : RowL E w A l) (q : Nat) : RowL E (w.drewN q) A l := h
theorem RowL.only {w w' : World} {A : Option Addr} {l : List α} {b : Option Nat} (h : RowL E w A l) (hg : w.grownBy w' b) (hne : ∀ a, A = some a → some a.block ≠ b) : RowL E w' A l := fun hp => by
  obtain ⟨g, o, e, hg1, hc⟩ := h hp
  refine ⟨g, o, e, Nat.lt_of_lt_of_le hg1 hg.size, fun i x hx j v hv => ?_⟩
  rw [World.cell?_of_block (w := w) (w' := w') (a := ⟨g, o + i * E.k + j, none⟩) (hg.block g hg1 (hne _ e))]
  exact hc i x hx j v hv
theorem RowL.tail {w : World} {g o : Nat} {x : α} {r : List α} (h : RowL E w (some ⟨g, o, none⟩) (x :: r)) : RowL E w (some ⟨g, o + E.k, none⟩) r := fun hp => by
  obtain ⟨g', o', e, hg, hc⟩ := h (by simp)
  obtain ⟨rfl, rfl⟩ : g = g' ∧ o = o' := by simp only [Option.some.injEq, Addr.mk.injEq] at e; exact ⟨e.1, e.2.1⟩
  refine ⟨g, o + E.k, rfl, hg, fun i t ht j v hv => ?_⟩
  have := hc (i + 1) t (by simpa using ht) j v hv
  rwa [show o + (i + 1) * E.k + j = o + E.k + i * E.k + j by rw [Nat.add_mul]; omega] at this
/-- One element's cells, in every later world. -/
theorem RowL.at_ {w w' : World} {g o : Nat} {l : List α} {i : Nat} {x : α} (h : RowL E w (some ⟨g, o, none⟩) l) (hx : l[i]? = some x) (hb : Below w.heap.size w w') : ∀ j v, (E.c x)[j]? = some v → w'.cell? ⟨g, o + i * E.k + j, none⟩ = some v := by
  obtain ⟨g', o', e, hg, hc⟩ := (h.kept hb) (Nat.lt_of_le_of_lt (Nat.zero_le _) (List.getElem?_eq_some_iff.1 hx).1)
  obtain ⟨rfl, rfl⟩ : g = g' ∧ o = o' := by simp only [Option.some.injEq, Addr.mk.injEq] at e; exact ⟨e.1, e.2.1⟩
  exact hc i x hx
theorem addr_add7 (g o j : Nat) : (⟨g, o, none⟩ : Addr).add j = ⟨g, o + j, none⟩ := by
  unfold Addr.add
  split
  · simp_all
  · rfl
theorem RowL.news {w : World} {ad : Addr} {l : List α} (h : RowL E w (some ad) l) : ∀ j u, (E.cells l)[j]? = some u → w.cell? (ad.add j) = some u := fun j u hu => by
  obtain ⟨i, x, t, hx, ht, rfl, hv⟩ := E.cells_at l j u hu
  obtain ⟨g, o, e, hg, hc⟩ := h (Nat.lt_of_le_of_lt (Nat.zero_le _) (List.getElem?_eq_some_iff.1 hx).1)
  obtain rfl := Option.some.inj e
  rw [addr_add7, ← Nat.add_assoc]
  exact hc i x hx t u hv
/-- A slice that the call owns reads so. -/
theorem rowl_of_own {w : World} {base : Nat} {e : TypeId} {A : Option Addr} {n cap : Nat} {l : List α} (h : w.ownsRow base e E.k (.slice A n cap) n (E.cells l)) (hn : n = l.length) : RowL E w A l := fun hp => by
  subst hn
  rcases h.2 with ⟨_, h0⟩ | ⟨g, c, cur, hv, hg, hh, hnc, hcm, hs, ht⟩
  · omega
  · simp only [Value.slice.injEq, true_and] at hv
    obtain ⟨rfl, rfl⟩ := hv
    refine ⟨g, 0, rfl, (Array.getElem?_eq_some_iff.1 hh).1, fun i x hx j v hv => ?_⟩
    have hj : j < E.k := by
      have := (List.getElem?_eq_some_iff.1 hv).1
      rwa [E.len] at this
    have hi := (List.getElem?_eq_some_iff.1 hx).1
    have hlt : i * E.k + j < l.length * E.k := by
      have : (i + 1) * E.k ≤ l.length * E.k := Nat.mul_le_mul_right _ hi
      rw [Nat.add_mul] at this
      omega
    rw [Nat.zero_add, h.cellAt _ hlt, E.cells_get l i x j hx hj]
    exact hv
theorem own_blocks {w w' : World} {base : Nat} {e : TypeId} {size : Nat} {v : Value} {n : Nat} {xs : List Value} (h : w.ownsRow base e size v n xs) (hb : ∀ b, base ≤ b → b < w.heap.size → w'.heap[b]? = w.heap[b]?) : w'.ownsRow base e size v n xs := by
  refine ⟨h.1, ?_⟩
  rcases h.2 with hn | ⟨g, cap, cur, hv, hg, hh, rest⟩
  · exact .inl hn
  · exact .inr ⟨g, cap, cur, hv, hg, (hb g hg (Array.getElem?_eq_some_iff.1 hh).1).trans hh, rest⟩
theorem own_kept {w w' : World} {base B : Nat} {e : TypeId} {size : Nat} {v : Value} {n : Nat} {xs : List Value} (h : w.ownsRow base e size v n xs) (hb : Below B w w') (hB : w.heap.size ≤ B) : w'.ownsRow base e size v n xs :=
  own_blocks h fun b _ hl => hb.block b (Nat.lt_of_lt_of_le hl hB)
/-- What another row's growing leaves. -/
theorem own_only {w w' : World} {base : Nat} {e : TypeId} {size : Nat} {v : Value} {n : Nat} {xs : List Value} {b : Option Nat} (h : w.ownsRow base e size v n xs) (hg : w.grownBy w' b) (hne : ∀ c, v.ownBlock = some c → some c ≠ b) : w'.ownsRow base e size v n xs := by
  refine ⟨h.1, ?_⟩
  rcases h.2 with hn | ⟨g, cap, cur, hv, hb, hh, rest⟩
  · exact .inl hn
  · exact .inr ⟨g, cap, cur, hv, hb, (hg.block g (Array.getElem?_eq_some_iff.1 hh).1 (hne g (by rw [hv]; rfl))).trans hh, rest⟩
theorem own_mono {w : World} {base base' : Nat} {e : TypeId} {size : Nat} {v : Value} {n : Nat} {xs : List Value} (h : w.ownsRow base e size v n xs) (hb : base' ≤ base) : w.ownsRow base' e size v n xs := by
  refine ⟨h.1, ?_⟩
  rcases h.2 with hn | ⟨g, cap, cur, hv, hg, rest⟩
  · exact .inl hn
  · exact .inr ⟨g, cap, cur, hv, Nat.le_trans hb hg, rest⟩
theorem own_shape {w : World} {base : Nat} {e : TypeId} {size : Nat} {v : Value} {n : Nat} {xs : List Value} (h : w.ownsRow base e size v n xs) : ∃ A c, v = .slice A n c := by
  rcases h.2 with ⟨h1, h2⟩ | ⟨g, c, cur, h1, _⟩
  · subst h2; exact ⟨_, _, h1⟩
  · exact ⟨_, _, h1⟩
theorem own_cap {w : World} {base : Nat} {e : TypeId} {size : Nat} {A : Option Addr} {n c : Nat} {xs : List Value} (h : w.ownsRow base e size (.slice A n c) n xs) : n ≤ c ∧ c ≤ maxLen := by
  rcases h.2 with ⟨h1, h2⟩ | ⟨g, c', cur, h1, _, _, h2, h3, _⟩
  · simp only [Value.slice.injEq] at h1
    obtain ⟨_, h3, h4⟩ := h1
    subst h3 h4
    exact ⟨Nat.le_refl _, Nat.zero_le _⟩
  · simp only [Value.slice.injEq, true_and] at h1
    obtain ⟨_, rfl⟩ := h1
    exact ⟨h2, h3⟩
theorem own_none {w : World} {base : Nat} {e : TypeId} {size : Nat} {n c : Nat} {xs : List Value} (h : w.ownsRow base e size (.slice none n c) n xs) : n = 0 ∧ c = 0 := by
  rcases h.2 with ⟨h1, h2⟩ | ⟨g, c', cur, h1, _⟩
  · simp only [Value.slice.injEq, true_and] at h1
    exact ⟨h2, h1.2⟩
  · simp at h1
theorem own_start {w : World} {base : Nat} {e : TypeId} {size : Nat} {g o : Nat} {pt : Option Nat} {n c : Nat} {xs : List Value} (h : w.ownsRow base e size (.slice (some ⟨g, o, none⟩) n c) n xs) : o = 0 ∧ base ≤ g ∧ g < w.heap.size := by
  rcases h.2 with ⟨h1, h2⟩ | ⟨g', c', cur, h1, hb, hh, _⟩
  · simp at h1
  · simp only [Value.slice.injEq, Option.some.injEq, Addr.mk.injEq, and_true, true_and] at h1
    obtain ⟨⟨rfl, rfl⟩, _⟩ := h1
    exact ⟨rfl, hb, (Array.getElem?_eq_some_iff.1 hh).1⟩
/-- The last elements cut off: still owned. -/
theorem own_cut {w : World} {base : Nat} {e : TypeId} {A : Option Addr} {n m c : Nat} {l : List α} (h : w.ownsRow base e E.k (.slice A n c) n (E.cells l)) (hn : n = l.length) (hm : m ≤ n) : w.ownsRow base e E.k (.slice A m c) m (E.cells (l.take m)) := by
  subst hn
  refine ⟨by rw [E.cells_length, List.length_take, Nat.min_eq_left hm], ?_⟩
  rcases h.2 with ⟨h1, h2⟩ | ⟨g, c', cur, h1, hb, hh, hnc, hcm, hs, ht⟩
  · simp only [Value.slice.injEq] at h1
    obtain ⟨rfl, _, rfl⟩ := h1
    obtain rfl : m = 0 := by omega
    exact .inl ⟨rfl, rfl⟩
  · simp only [Value.slice.injEq, true_and] at h1
    obtain ⟨rfl, rfl⟩ := h1
    refine .inr ⟨g, c, cur, rfl, hb, hh, by omega, hcm, hs, ?_⟩
    rw [← E.cells_take, ← ht, List.take_take, Nat.min_eq_left (Nat.mul_le_mul_right _ hm)]
/-- An empty slice literal. -/
theorem own_empty (E : Enc α) (w : World) (e : TypeId) {base : Nat} (h : base ≤ w.heap.size) : (w.alloc (.cells #[] e)).ownsRow base e E.k (.slice (some ⟨w.heap.size, 0, none⟩) 0 0) 0 (E.cells []) :=
  ⟨by simp [Enc.cells], .inr ⟨w.heap.size, 0, #[], rfl, h, heap_alloc_new w _, Nat.le_refl _, Nat.zero_le _, by simp, by simp [Enc.cells]⟩⟩
/-- A block of whole elements, as a literal or the arguments of a call lay it. -/
theorem rowl_block {w : World} {B : Nat} {cs : Array Value} {t : TypeId} {fr : Nat × Nat} {l : List α} (h : w.heap[B]? = some (.cells cs t fr)) (hc : cs.toList = E.cells l) : RowL E w (some ⟨B, 0, none⟩) l := fun hp =>
  ⟨B, 0, rfl, (Array.getElem?_eq_some_iff.1 h).1, fun i x hx j v hv => by
    have hj : j < E.k := by
      have := (List.getElem?_eq_some_iff.1 hv).1
      rwa [E.len] at this
    rw [Nat.zero_add, cell_of_row w B _ cs t fr h]
    have := E.cells_get l i x j hx hj
    rw [← hc] at this
    rw [← hv, ← this]
    simp⟩
theorem heap2 (w : World) (a b : Obj) : ((w.alloc a).alloc b).heap[w.heap.size + 1]? = some b := by
  have := heap_alloc_new (w.alloc a) b
  rwa [show (w.alloc a).heap.size = w.heap.size + 1 by simp] at this
/-- What the program says of the types of a slice and its elements. -/
structure ElemTy (t e : TypeId) (k bytes : Nat) : Prop where
  und : Tryz.prog.underlying t = some (.slice e)
  info : ∃ i z, Tryz.prog.info? e = some i ∧ i.zero = some z ∧ i.size = k ∧ i.bytes = bytes ∧ z.cells.size = k
/-- append(out, x, ..): elements that lie in a block of their own, onto a slice that the call owns. -/
theorem wpList_push {t e : TypeId} {bytes : Nat} {w : World} {ops : Array Oper} {rest : List Oper} {o : Oper} {a : Act} {Q : Exit → Act → World → Prop} (T : ElemTy t e E.k bytes) (hgd : o.guard = none) (s x : Operand)
    (ho : o.op = .call { callee := .builtin .append, args := #[s, x], argTypes := #[t, t] })
    (base : Nat) (v : Value) (n : Nat) (l ys : List α) (hs : a.eval s = v) (hown : w.ownsRow base e E.k v n (E.cells l))
    (B m c : Nat) (cs : Array Value) (fr : Nat × Nat) (hx : a.eval x = .slice (some ⟨B, 0, none⟩) m c) (hB : w.heap[B]? = some (.cells cs e fr)) (hcs : cs.toList = E.cells ys) (hm : m = ys.length) (hm0 : 0 < m) (hn : n + m ≤ 1000000) (hby : bytes ≤ 1000) (hbase : base ≤ w.heap.size)
    (h : ∀ g cap w', w'.ownsRow base e E.k (.slice (some ⟨g, 0, none⟩) (n + m) cap) (n + m) (E.cells (l ++ ys)) → w.grownBy w' v.ownBlock → (v.ownBlock = some g ∨ g = w.heap.size) → g < w'.heap.size → wpList Tryz.prog ops Q rest (a.put o.dst (.slice (some ⟨g, 0, none⟩) (n + m) cap)) w') : wpList Tryz.prog ops Q (o :: rest) a w := by
  obtain ⟨i, z, h1, h2, h3, h4, h5⟩ := T.info
  refine wpList_append_lies w hgd s x t ho base e i z E.k bytes T.und h1 h2 h3 h4 h5 E.pos v n (E.cells l) hs hown ⟨B, 0, none⟩ m c (E.cells ys) hx (by rw [E.cells_length, hm]) (fun j u hu => World.news_of_block hB j u (by rw [hcs]; exact hu)) (E.cells_one' ys) hm0 (by unfold maxLen; omega) ?_ hbase _ rfl ?_
  · have : (n + m) * bytes ≤ 1000000 * 1000 := Nat.mul_le_mul hn hby
    omega
  · intro g cap w' a1 a2 a3 a4
    rw [← E.cells_append] at a1
    exact h g cap w' a1 a2 a3 a4
/-- append(out, l...) of a slice that reads as a list. -/
theorem wpList_cat {t e : TypeId} {bytes : Nat} {w : World} {ops : Array Oper} {rest : List Oper} {o : Oper} {a : Act} {Q : Exit → Act → World → Prop} (T : ElemTy t e E.k bytes) (hgd : o.guard = none) (s x : Operand)
    (ho : o.op = .call { callee := .builtin .append, args := #[s, x], argTypes := #[t, t] })
    (base : Nat) (v : Value) (n : Nat) (xs l : List α) (hs : a.eval s = v) (hown : w.ownsRow base e E.k v n (E.cells xs))
    (A : Option Addr) (m c : Nat) (hx : a.eval x = .slice A m c) (hm : m = l.length) (hA : A = none → c = 0) (hl : RowL E w A l) (hn : n + m ≤ 1000000) (hby : bytes ≤ 1000) (hbase : base ≤ w.heap.size)
    (h : ∀ A' c' w', w'.ownsRow base e E.k (.slice A' (n + m) c') (n + m) (E.cells (xs ++ l)) → w.grownBy w' v.ownBlock → wpList Tryz.prog ops Q rest (a.put o.dst (.slice A' (n + m) c')) w') : wpList Tryz.prog ops Q (o :: rest) a w := by
  obtain ⟨i, z, h1, h2, h3, h4, h5⟩ := T.info
  cases A with
  | none =>
    have hl0 : l = [] := by
      cases l with
      | nil => rfl
      | cons y r =>
        obtain ⟨g, o, e, _⟩ := hl (by simp)
        cases e
    subst hl0
    obtain rfl := hA rfl
    have hm0 : m = 0 := by simpa using hm
    subst hm0
    obtain ⟨A', c', rfl⟩ := own_shape hown
    refine wpList_append_own_none hgd s x t ho base e i E.k T.und h1 _ n (E.cells xs) hs hown hx ?_
    refine h A' c' w ?_ ⟨rfl, rfl, rfl, Nat.le_refl _, fun _ _ _ => rfl⟩
    simpa using hown
  | some ad =>
    refine wpList_append_own_at w hgd s x t ho base e i z E.k bytes T.und h1 h2 h3 h4 h5 E.pos v n (E.cells xs) hs hown ad m c (E.cells l) hx (by rw [E.cells_length, hm]) hl.news (E.cells_one' l) (by unfold maxLen; omega) ?_ hbase ?_
    · have : (n + m) * bytes ≤ 1000000 * 1000 := Nat.mul_le_mul hn hby
      omega
    · intro v' w' hown' hgr _ _
      obtain ⟨A', c', rfl⟩ := own_shape hown'
      rw [← E.cells_append] at hown'
      exact h A' c' w' hown' hgr
end Go.Proofs.YtepbmnpjpkmmfaaGreatDoor

/- copy(dst, src) of a whole slice into a slice of the same length that the call owns: elements of any fixed number of cells. -/
namespace Go.Proofs.YtepbmnpjpkmmfaaGreatDoor
open Go.ChangeShapes Go.WideShapes Go.ChangeAt Go.RowKit
set_option linter.unusedVariables false
variable {α : Type} {E : Enc α}

theorem run_copy_rowk {P : Program} (w : World) (dT sT ty elem : TypeId) (k g dLen dCap : Nat) (a : Addr) (sLen sCap : Nat) (cur : Array Value) (t : TypeId) (cs : List Value)
    (hu : P.underlying dT = some (.slice elem)) (hs : (P.info? elem).map (·.size) = some k)
    (hg : w.heap[g]? = some (.cells cur t (0, 0))) (hn : cs.length = Nat.min sLen dLen * k)
    (hsrc : ∀ j v, cs[j]? = some v → w.cell? (a.add j) = some v) (hfit : cs.length ≤ cur.size) (h1 : ∀ v ∈ cs, v.oneCell' = true) :
    (Builtin.copy_ #[dT, sT] ty #[.slice (some ⟨g, 0, none⟩) dLen dCap, .slice (some a) sLen sCap]).run P w =
      .ok (goInt (Nat.min sLen dLen)) (w.setRow g (cs ++ cur.toList.drop cs.length).toArray) := by
  have hl := run_loadCells_list (P := P) w a cs hsrc
  have hst := run_storeCells_at P g 0 t cs 0 cur w hg (by simpa using hfit) h1
  cases hq : P.info? elem with
  | none => simp [hq] at hs
  | some i =>
    have hi : i.size = k := by simpa [hq] using hs
    simp [Builtin.copy_, run_underlying hu, Builtin.lenOf, Builtin.firstCells, sizeOf, typeInfo, hq, hi, ← hn, hl, hst]
theorem run_copy_nonek {P : Program} (w : World) (dT sT ty elem : TypeId) (d : Option Addr) (dLen dCap sLen sCap : Nat) (hu : P.underlying dT = some (.slice elem)) (hs : ((P.info? elem).map (·.size)).isSome = true) (h0 : Nat.min sLen dLen = 0) :
    (Builtin.copy_ #[dT, sT] ty #[.slice d dLen dCap, .slice none sLen sCap]).run P w = .ok (goInt 0) w := by
  cases hq : P.info? elem with
  | none => simp [hq] at hs
  | some i => cases d <;> simp [Builtin.copy_, run_underlying hu, Builtin.lenOf, Builtin.firstCells, sizeOf, typeInfo, hq, storeCells, h0]
/-- copy(own, src): all elements: what it runs to. -/
theorem run_copy_all {t e : TypeId} {bytes : Nat} {w : World} (T : ElemTy t e E.k bytes)
    (base g n c : Nat) (xs : List Value) (hown : w.ownsRow base e E.k (.slice (some ⟨g, 0, none⟩) n c) n xs)
    (A : Option Addr) (cap : Nat) (l : List α) (hm : n = l.length) (hl : RowL E w A l) :
    ∃ w', (∀ ty, (Builtin.copy_ #[t, t] ty #[.slice (some ⟨g, 0, none⟩) n c, .slice A n cap]).run Tryz.prog w = .ok (.int .i64 (n : Int)) w') ∧ w'.ownsRow base e E.k (.slice (some ⟨g, 0, none⟩) n c) n (E.cells l) ∧ w.grownBy w' (some g) := by
  obtain ⟨i, z, h1, h2, h3, h4, h5⟩ := T.info
  have hsz : (Tryz.prog.info? e).map (·.size) = some E.k := by rw [h1]; simp [h3]
  cases A with
  | none =>
    have hl0 : l = [] := by
      cases l with
      | nil => rfl
      | cons y r =>
        obtain ⟨g, o, e, _⟩ := hl (by simp)
        cases e
    subst hl0
    have hm0 : n = 0 := by simpa using hm
    subst hm0
    refine ⟨w, fun ty => run_copy_nonek (P := Tryz.prog) w t t ty e (some ⟨g, 0, none⟩) 0 c 0 cap T.und (by rw [hsz]; rfl) rfl, ?_, rfl, rfl, rfl, Nat.le_refl _, fun _ _ _ => rfl⟩
    have := hown.1
    have hx : xs = [] := List.eq_nil_of_length_eq_zero (by rw [this]; simp)
    rw [hx] at hown
    exact hown
  | some ad =>
    rcases hown.2 with ⟨h1, _⟩ | ⟨g', c', cur, hv, hbg, hh, hnc, hcm, hcs, ht⟩
    · cases h1
    · simp only [Value.slice.injEq, Option.some.injEq, Addr.mk.injEq, true_and, and_true] at hv
      obtain ⟨rfl, rfl⟩ := hv
      have hcl : (E.cells l).length = n * E.k := by rw [E.cells_length, hm]
      have hfit : (E.cells l).length ≤ cur.size := by rw [hcl, hcs]; exact Nat.mul_le_mul_right _ hnc
      have hrun := fun ty => run_copy_rowk (P := Tryz.prog) w t t ty e E.k g n c ad n cap cur e (E.cells l) T.und hsz hh (by rw [hcl]; show _ = min n n * E.k; rw [Nat.min_self]) hl.news hfit (E.cells_one' l)
      have hmm : Nat.min n n = n := Nat.min_self n
      rw [hmm] at hrun
      refine ⟨_, hrun, ⟨hcl, .inr ⟨g, c, (E.cells l ++ cur.toList.drop (E.cells l).length).toArray, rfl, hbg, setRow_heap w g cur _ e (0, 0) hh, hnc, hcm, ?_, ?_⟩⟩, rfl, rfl, rfl, by simp [World.setRow], fun k _ hk => setRow_other w g k _ (fun e => hk (by rw [e]))⟩
      · simp only [List.size_toArray, List.length_append, List.length_drop, Array.length_toList]
        omega
      · show ((E.cells l ++ cur.toList.drop (E.cells l).length).take (n * E.k)) = _
        rw [← hcl, List.take_left']
        rfl
end Go.Proofs.YtepbmnpjpkmmfaaGreatDoor

/- Contracts of the program of layer 8: everyPort, All, portsOf, Eval. -/
namespace Go.Proofs.YtepbmnpjpkmmfaaGreatDoor
open Go.ChangeShapes Go.WideShapes Go.ChangeAt Go.RowKit
set_option linter.unusedVariables false

/-- A span as an element: two cells. -/
def ES : Enc Spn := ⟨2, by decide, spC, fun _ => rfl, fun s v hv => by
  simp only [spC, List.mem_cons, List.not_mem_nil, or_false] at hv
  rcases hv with rfl | rfl <;> rfl⟩
theorem spTy : ElemTy 23 34 2 16 :=
  ⟨Tryz.underlying23, by
    obtain ⟨i, h1, h2, h3, h4⟩ := info_parts info_span
    exact ⟨i, _, h1, h2, h3, h4, rfl⟩⟩
theorem rowl_spl {w : World} {A : Option Addr} {l : List Spn} (h : SpL w A l) : RowL ES w A l := fun hp => by
  obtain ⟨g, o, e, hg, hc⟩ := h hp
  refine ⟨g, o, e, hg, fun i s hs j v hv => ?_⟩
  obtain ⟨h0, h1⟩ := hc i s hs
  match j, hv with
  | 0, hv =>
    have : some (Value.int .i64 s.lo) = some v := hv
    rw [← this]
    exact h0
  | 1, hv =>
    have : some (Value.int .i64 s.hi) = some v := hv
    rw [← this]
    exact h1
theorem res_span1 {fn : Func} {p : Tmp} (h : fn.results = #[.cell p 34]) (tmps : Array Value) (w : World) {g : Nat} {lo hi : Int} (hp : tmps.getD p undef = .pointer (some ⟨g, 0, none⟩)) (ht : SB2 w g lo hi) :
    (results fn tmps).run Tryz.prog w = .ok (.agg #[.int .i64 lo, .int .i64 hi]) w := by
  have hp' : tmps[p]?.getD undef = .pointer (some ⟨g, 0, none⟩) := by simpa using hp
  simp [results, h, hp', asAddr, run_loadVar_row w g 34 34 _ (0, 0) _ ht Tryz.underlying34 rfl span_info]
set_option maxRecDepth 20000 in
theorem pevery8_any (w : World) : Calls Tryz.prog 33 #[] w fun e w' => e = .returned (.agg #[.int .i64 0, .int .i64 65535]) ∧ Below w.heap.size w w' := by
  have HX := Lib.hid (sb2_new w 0 65535)
  have HB := Lib.hid (below_alloc5 w (.cells #[.int .i64 0, .int .i64 65535] 34))
  go_enter Tryz.func33, Tryz.ntmps33
  go_wp2_with fail
  exact bodyPost_ret (res_span1 rfl _ _ rfl HX.out) rfl ⟨rfl, HB.out⟩
set_option maxRecDepth 20000 in
theorem pall8_any (w : World) : Calls Tryz.prog 19 #[] w (SetP w inPort 1) := by
  have HV := Lib.hid (pevery8_any w)
  have HE := Lib.hid inPort_all
  go_enter Tryz.func19, Tryz.ntmps19
  go_wp2_with fail
  refine HV.out.mono ?_
  rintro e w1 ⟨rfl, hb⟩
  have HO := Lib.hid (own_mono5 (own_lit8 w1 0 65535) hb.size)
  have HB := Lib.hid (hb.alloc hb.size (.cells #[.int .i64 0, .int .i64 65535] 34))
  clear hb HV
  go_wp2_with fail
  go_ret
  exact ⟨[⟨0, 65535⟩], _, _, by simp [okL], HE.out, Nat.le_refl _, rfl, HO.out, HB.out⟩
/-- The first k spans capped, the others as they were. -/
def capL (P : List Spn) (k : Nat) : List Spn := (P.take k).map capS ++ P.drop k
theorem capL_len (P : List Spn) (k : Nat) : (capL P k).length = P.length := by
  unfold capL
  rw [List.length_append, List.length_map, List.length_take, List.length_drop]
  omega
theorem capL_zero (P : List Spn) : capL P 0 = P := by simp [capL]
theorem capL_all (P : List Spn) : capL P P.length = P.map capS := by simp [capL]
theorem capL_get {P : List Spn} {k : Nat} {s : Spn} (hs : P[k]? = some s) : (capL P k)[k]? = some s := by
  obtain ⟨hk, e⟩ := List.getElem?_eq_some_iff.1 hs
  unfold capL
  rw [List.getElem?_append_right (by simp; omega)]
  simp only [List.length_map, List.length_take]
  rw [show k - min k P.length = 0 by omega, List.getElem?_drop, Nat.add_zero]
  exact hs
theorem capL_go {P : List Spn} {k : Nat} {s : Spn} (hs : P[k]? = some s) : capL P (k + 1) = (capL P k).set k (capS s) := by
  obtain ⟨hk, e⟩ := List.getElem?_eq_some_iff.1 hs
  unfold capL
  rw [List.take_succ_eq_append_getElem hk, List.map_append, List.set_append_right _ _ (by simp; omega)]
  simp only [List.length_map, List.length_take]
  rw [show k - min k P.length = 0 by omega, List.drop_eq_getElem_cons hk, List.set_cons_zero, e]
  simp
set_option maxHeartbeats 1000000 in
set_option maxRecDepth 20000 in
theorem pports8_any (A : Option Addr) (cap : Nat) (l : List Spn) (w : World) (h : SpL w A l) (hl : l.length ≤ 100000) :
    Calls Tryz.prog 31 #[.slice A l.length cap] w (SetP w (prtF l) l.length) := by
  have HS := Lib.hid (fun (L : List Spn) (h1 : okL 4294967296 0 L) (h2 : ∀ m, anyS L m = prtF l m) => (prtF_len h1 h2 : L.length ≤ l.length))
  have HM := Lib.hid (cap_mem l)
  obtain ⟨n, hn⟩ : ∃ n, n = l.length := ⟨_, rfl⟩
  have hn6 : n ≤ 100000 := by omega
  rw [← hn] at HS ⊢
  obtain ⟨i0, hinf, hz0, hz1, hz2⟩ := info_parts info_span
  have H := Lib.hid h
  have HN := Lib.hid hn
  clear h hn hl
  go_enter Tryz.func31, Tryz.ntmps31
  go_wp2_with (at_make; refine wpList_make_full _ rfl _ _ 23 rfl w.heap.size 34 i0 (.agg #[.int .i64 0, .int .i64 0]) 2 Tryz.underlying23 hinf hz0 hz1 .i64 .i64 _ _ n rfl rfl (by rfl) (by rfl) (by rw [hz2]; omega) (by unfold maxLen; omega) (Nat.le_refl _) ?_; intro w0 hown0 hgrow0)
  have hb0 : Below w.heap.size w w0 := (Below.refl _ _).grown hgrow0 (Nat.le_refl _) (fun k hk => by cases hk)
  have H0 := Lib.hid (rowl_spl (H.out.kept hb0))
  have HO0 := Lib.hid hown0
  have HB0 := Lib.hid hb0
  obtain ⟨g, hg⟩ : ∃ g, g = w.heap.size := ⟨_, rfl⟩
  rw [show (Value.slice (some ⟨w.heap.size, 0, none⟩) n n) = .slice (some ⟨g, 0, none⟩) n n by rw [hg]] at HO0 ⊢
  have HG := Lib.hid (show w.heap.size ≤ g by rw [hg]; exact Nat.le_refl _)
  clear hown0 hgrow0 hb0 hg
  obtain ⟨w1, hcp, hown1, hgrow1⟩ := run_copy_all (E := ES) spTy w.heap.size g n n _ HO0.out A cap l HN.out H0.out
  rw [hcp]
  simp only [Result.andThen]
  rw [Oper.upon_value]
  clear hcp
  have HB := Lib.hid (HB0.out.grown hgrow1 HB0.out.size (fun j hj => by obtain rfl := Option.some.inj hj; exact HG.out))
  have HO := Lib.hid (show w1.ownsRow w.heap.size 34 2 (.slice (some ⟨g, 0, none⟩) n n) n (spCells (capL l 0)) by rw [capL_zero]; exact hown1)
  clear hown1 hgrow1 HB0 HO0 H0
  go_wp2_with fail
  go_loopw [13] (fun v13 wr => ∃ k : Nat, k ≤ n ∧ v13 = .int .i64 k ∧ Hid (Below w.heap.size w wr) ∧ Hid (wr.ownsRow w.heap.size 34 2 (.slice (some ⟨g, 0, none⟩) n n) n (spCells (capL l k)))) (fun v13 _ => n - (intOf v13).toNat)
  case atStart => exact ⟨0, by omega, rfl, HB, HO⟩
  case round =>
    clear HB HO
    obtain ⟨k, hk, rfl, HB, HO⟩ := hrel
    by_cases hlt : k < n
    · obtain ⟨s, hget⟩ : ∃ s, l[k]? = some s := ⟨l[k]'(by have := HN.out; omega), List.getElem?_eq_getElem _⟩
      have hki : (k : Int) < (n : Int) := by omega
      have hki0 : (0 : Int) ≤ (k : Int) := by omega
      have hmg := spCells_get _ k s (capL_get hget)
      have c0 : wr.cell? ⟨g, k * 2, none⟩ = some (.int .i64 s.lo) := (HO.out.cellAt (k * 2) (by omega)).trans hmg.1
      have c1 : wr.cell? ⟨g, k * 2 + 1, none⟩ = some (.int .i64 s.hi) := (HO.out.cellAt (k * 2 + 1) (by omega)).trans hmg.2
      have f1 := HO.out.frozenAt (k * 2 + 1)
      have hgo := capL_go hget
      have hsc := spCells_set1 (capL l k) k (capS s) s (capL_get hget) rfl
      rw [← hgo] at hsc
      obtain ⟨slo, shi⟩ := s
      simp only [capS] at c0 c1 hsc
      obtain ⟨q, hq⟩ : ∃ q, q = min shi 65535 := ⟨_, rfl⟩
      rw [← hq] at hsc
      have hq' : min shi 65535 = q := hq.symm
      have ho2 := (HO.out.stored (k * 2 + 1) (.int .i64 q)).1
      rw [hsc] at ho2
      have HO2 := Lib.hid ho2
      have HB2 := Lib.hid (HB.out.setCell (p := ⟨g, k * 2 + 1, none⟩) HG.out (.int .i64 q))
      clear hget hmg hgo hsc ho2 hq
      go_wp2_with fail
      try rw [hq']
      go_roundw
      case rel => exact ⟨k + 1, by omega, by go_num, HB2, HO2⟩
      case measure => simp [intOf]; omega
    · have hkn : k = l.length := by have := HN.out; omega
      obtain ⟨D, hD⟩ : ∃ D, D = l.map capS := ⟨_, rfl⟩
      have hDl : n = D.length := by rw [hD, List.length_map]; exact HN.out
      have ho := HO.out
      rw [hkn, capL_all, ← hD, hDl] at ho
      rw [← hD] at HM
      have HC := Lib.hid (pnormal_any (some ⟨g, 0, none⟩) D.length D wr (spl_of_own ho) (by omega))
      rw [← hDl] at HC
      have hd : decide ((k : Int) < (n : Int)) = false := by simp; omega
      clear hkn hD hDl ho HO HN
      go_wp2_with fail
      refine HC.out.mono ?_
      intro e w5 hset
      obtain ⟨L, A5, c5, g1, g2, g3, rfl, g5, g6⟩ := (SetP.back HB.out hset HM.out (Nat.le_refl _)).short HS.out
      go_wp2_with fail
      go_ret
      exact ⟨L, A5, c5, g1, g2, g3, rfl, g5, g6⟩
set_option maxRecDepth 20000 in
theorem peval8_any (A1 A2 : Option Addr) (c1 c2 : Nat) (a b : List Spn) (w : World) (h1 : SpL w A1 a) (h2 : SpL w A2 b) (hl1 : a.length ≤ 900) (hl2 : b.length ≤ 900) :
    Calls Tryz.prog 16 #[.slice A1 a.length c1, .slice A2 b.length c2] w (SetP w (portF a b) 4000) := by
  have HA := Lib.hid (pall8_any w)
  have HP := Lib.hid (fun (w1 : World) (hb : Below w.heap.size w w1) => pports8_any A1 c1 a w1 (h1.kept hb) (by omega))
  have HI := Lib.hid (fun (w1 : World) (B : Option Addr) (c : Nat) (L : List Spn) (hb : Below w.heap.size w w1) (hL : SpL w1 B L) (hl : L.length ≤ 1000) => (pminus_any B A2 c c2 L b w1 hL (h2.kept hb) (by omega) (by omega)))
  by_cases ha : a = []
  · subst ha
    have HF := Lib.hid (portF_nil b)
    clear h1 hl1 HP h2
    rw [show ([] : List Spn).length = 0 from rfl]
    generalize b.length = lb at *
    go_enter Tryz.func16, Tryz.ntmps16
    go_wp2_with fail
    refine HA.out.mono ?_
    rintro e w2 ⟨L2, B2, k2, ok2, any2, le2, rfl, own2, hb2⟩
    have HB2 := Lib.hid hb2
    have HI2 := Lib.hid (HI.out w2 B2 k2 L2 HB2.out (spl_of_own own2) (by omega))
    have HG := Lib.hid (show ∀ m, (memS 4294967296 L2 m && !memS 4294967296 b m) = portF [] b m from fun m => by rw [okL_mem ok2, any2, HF.out])
    generalize L2.length = ll2 at *
    clear hb2 own2 any2 ok2 HI HA
    go_wp2_with fail
    refine HI2.out.mono ?_
    intro e w5 hset
    obtain ⟨L3, A5, c5, g1, g2, g3, rfl, g5, g6⟩ := SetP.back (b' := 4000) HB2.out hset HG.out (by omega)
    go_wp2_with fail
    go_ret
    exact ⟨L3, A5, c5, g1, g2, g3, rfl, g5, g6⟩
  · have HF := Lib.hid (portF_some ha b)
    have hpos : 0 < a.length := List.length_pos_iff.2 ha
    have d0 : decide ((0 : Int) < (a.length : Int)) = true := by simp; omega
    clear h1 h2 ha
    generalize a.length = la at *
    generalize b.length = lb at *
    go_enter Tryz.func16, Tryz.ntmps16
    go_wp2_with fail
    refine HA.out.mono ?_
    rintro e w1 ⟨L1, B1, k1, ok1, any1, le1, rfl, own1, hb1⟩
    have HB1 := Lib.hid hb1
    have HP1 := Lib.hid (HP.out w1 hb1)
    generalize L1.length = ll1 at *
    clear ok1 any1 own1 hb1 HA HP
    go_wp2_with fail
    refine HP1.out.mono ?_
    rintro e w2 ⟨L2, B2, k2, ok2, any2, le2, rfl, own2, hb2⟩
    have HB2 := Lib.hid (HB1.out.trans (hb2.mono HB1.out.size))
    have HI2 := Lib.hid (HI.out w2 B2 k2 L2 HB2.out (spl_of_own own2) (by omega))
    have HG := Lib.hid (show ∀ m, (memS 4294967296 L2 m && !memS 4294967296 b m) = portF a b m from fun m => by rw [okL_mem ok2, any2, HF.out])
    generalize L2.length = ll2 at *
    clear hb2 own2 any2 ok2 HI HP1 HB1
    go_wp2_with fail
    refine HI2.out.mono ?_
    intro e w5 hset
    obtain ⟨L3, A5, c5, g1, g2, g3, rfl, g5, g6⟩ := SetP.back (b' := 4000) HB2.out hset HG.out (by omega)
    go_wp2_with fail
    go_ret
    exact ⟨L3, A5, c5, g1, g2, g3, rfl, g5, g6⟩
end Go.Proofs.YtepbmnpjpkmmfaaGreatDoor

/- Addresses in memory; contracts of the reference of layer 6: Valid, Width, Compare, Next, Previous. -/
namespace Go.Proofs.YtepbmnpjpkmmfaaGreatDoor
open Go.ChangeShapes Go.WideShapes Go.ChangeAt Go.RowKit
set_option linter.unusedVariables false

theorem below_alloc6 (w : World) (o : Obj) : Below w.heap.size w (w.alloc o) := (Below.refl _ w).alloc (Nat.le_refl _) _
theorem alloc_lt6 (w : World) (o : Obj) : w.heap.size < (w.alloc o).heap.size := (Array.getElem?_eq_some_iff.1 (heap_alloc_new w o)).1
theorem below_drewN6 {w w' : World} {B : Nat} (h : Below B w w') (q : Nat) : Below B w (w'.drewN q) := ⟨h.os, h.tape, h.output, h.size, h.block⟩
/-- Is a struct an address? -/
def vldA (v6 : Bool) (hi lo : Nat) : Bool := v6 || (hi == 0 && decide (lo < 4294967296))
/-- The order of addresses, by the tests of the reference: p, q: the upper halves ascend, are equal; r, s: the lower ones. -/
def cmpB (b1 b2 p q r s : Bool) : Int :=
  if (b1 == b2 && (q && s)) = true then 0
  else if (!b1 && b2 || (b1 == b2 && (p || (q && r)))) = true then -1 else 1
def cmpA (b1 : Bool) (h1 l1 : Nat) (b2 : Bool) (h2 l2 : Nat) : Int := cmpB b1 b2 (decide ((h1 : Int) < (h2 : Int))) ((h1 : Int) == (h2 : Int)) (decide ((l1 : Int) < (l2 : Int))) ((l1 : Int) == (l2 : Int))
end Go.Proofs.YtepbmnpjpkmmfaaGreatDoor

/- Contracts of the reference of layer 6: Next, Previous. -/
namespace Go.Proofs.YtepbmnpjpkmmfaaGreatDoor
open Go.ChangeShapes Go.WideShapes Go.ChangeAt Go.RowKit
set_option linter.unusedVariables false

/-- An address, or none, as a result with its flag. -/
def aRes : Option (Bool × Nat × Nat) → Value
  | some (v6, hi, lo) => .tuple #[.agg #[.bool v6, .int .u64 hi, .int .u64 lo], .bool true]
  | none => .tuple #[.agg #[.bool false, .int .u64 0, .int .u64 0], .bool false]
def nxtA (v6 : Bool) (hi lo : Nat) : Option (Bool × Nat × Nat) :=
  if lo + 1 < 18446744073709551616 then (if v6 = false ∧ lo + 1 = 4294967296 then none else some (v6, hi, lo + 1))
  else if v6 then (if hi + 1 < 18446744073709551616 then some (v6, hi + 1, 0) else none) else some (v6, hi, 0)
def prvA (v6 : Bool) (hi lo : Nat) : Option (Bool × Nat × Nat) :=
  if lo = 0 then (if hi = 0 then none else some (v6, hi - 1, 18446744073709551615)) else some (v6, hi, lo - 1)
theorem below2 (w : World) (a b : Obj) : Below w.heap.size w ((w.alloc a).alloc b) := (below_alloc6 w a).trans ((below_alloc6 _ b).mono (by simp))
theorem wrap_u64_up {n : Nat} (h : n + 1 = 18446744073709551616) : IntKind.u64.wrap ((n : Int) + 1) = 0 := by
  simp [IntKind.wrap, IntKind.bits, IntKind.signed]; omega
theorem wrap_u64_in {n : Int} (h0 : 0 ≤ n) (h : n < 18446744073709551616) : IntKind.u64.wrap n = n := by
  simp [IntKind.wrap, IntKind.bits, IntKind.signed]; omega
end Go.Proofs.YtepbmnpjpkmmfaaGreatDoor

/- Contracts of the program's layer 6: Valid, width, first, isBefore, Compare. -/
namespace Go.Proofs.YtepbmnpjpkmmfaaGreatDoor
open Go.ChangeShapes Go.WideShapes Go.ChangeAt Go.RowKit
set_option linter.unusedVariables false

/-- Is an address ahead of another? By the tests of the program. -/
def befB (b1 b2 p q r : Bool) : Bool := if b1 == b2 then (if q then r else p) else b2
theorem cmpB_before (b1 b2 p q r s : Bool) (hp : ¬ (p = true ∧ q = true)) : cmpB b1 b2 p q r s = if (b1 == b2 && (q && s)) = true then 0 else if befB b1 b2 p q r = true then -1 else 1 := by
  cases b1 <;> cases b2 <;> cases p <;> cases q <;> cases r <;> cases s <;> first | rfl | (exact absurd ⟨rfl, rfl⟩ hp)
end Go.Proofs.YtepbmnpjpkmmfaaGreatDoor

/- Contracts of the reference of layer 6: Bit, with. -/
namespace Go.Proofs.YtepbmnpjpkmmfaaGreatDoor
open Go.ChangeShapes Go.WideShapes Go.ChangeAt Go.RowKit
set_option linter.unusedVariables false

theorem and1_u64 (n k : Nat) (h : n < 18446744073709551616) : (bits .and .u64 ((n : Int) / 2 ^ k) 1 == 1) = decide (n / 2 ^ k % 2 = 1) := by
  have e : ((n : Int) / 2 ^ k) = ((n / 2 ^ k : Nat) : Int) := by rw [Int.natCast_ediv]; simp
  have hl : n / 2 ^ k < 18446744073709551616 := Nat.lt_of_le_of_lt (Nat.div_le_self _ _) h
  rw [e, show (1 : Int) = ((1 : Nat) : Int) from rfl, u64_and_nat _ 1 hl (by decide), Nat.and_one_is_mod, Bool.eq_iff_iff]
  simp
  omega
/-- A bit of an address. -/
def bitA (v6 : Bool) (hi lo i : Nat) : Bool :=
  if v6 then (if i < 64 then decide (hi / 2 ^ (63 - i) % 2 = 1) else decide (lo / 2 ^ (127 - i) % 2 = 1)) else decide (lo / 2 ^ (31 - i) % 2 = 1)
end Go.Proofs.YtepbmnpjpkmmfaaGreatDoor
