/- Contract of the program of layer 5: Normal. -/
import Derived.Test.YtlmjfbgigfmdhaaIntPSort
import Derived.Test.YtlmjfbgigfmdhaaIntPSel
import Derived.BigQuiet
namespace Go.Proofs.Ytlmjfbgigfmdhaa
open Go.ChangeShapes Go.WideShapes Go.ChangeAt Go.RowKit
set_option linter.unusedVariables false

/-- A span cut to the numbers from 0 to M. -/
def clipS (M : Int) (s : Spn) : Spn := ⟨max s.lo 0, min s.hi M⟩
theorem clip_any (M : Int) (l : List Spn) (m : Int) : anyS ((l.filter (hasN M)).map (clipS M)) m = memS M l m := by
  unfold memS
  rw [Bool.eq_iff_iff, anyS_iff, Bool.and_eq_true, Bool.and_eq_true, decide_eq_true_eq, decide_eq_true_eq, anyS_iff]
  constructor
  · rintro ⟨t, ht, h1, h2⟩
    obtain ⟨s, hs, rfl⟩ := List.mem_map.1 ht
    obtain ⟨hs, _⟩ := List.mem_filter.1 hs
    simp only [clipS] at h1 h2
    exact ⟨⟨by omega, by omega⟩, s, hs, by omega, by omega⟩
  · rintro ⟨⟨h0, hM⟩, s, hs, h1, h2⟩
    refine ⟨clipS M s, List.mem_map.2 ⟨s, List.mem_filter.2 ⟨hs, ?_⟩, rfl⟩, ?_, ?_⟩
    · unfold hasN
      simp only [Bool.and_eq_true, decide_eq_true_eq]
      omega
    · simp only [clipS]; omega
    · simp only [clipS]; omega
theorem clip_good (M : Int) (hM : 0 ≤ M) (l : List Spn) : good M ((l.filter (hasN M)).map (clipS M)) := fun t ht => by
  obtain ⟨s, hs, rfl⟩ := List.mem_map.1 ht
  have h := (List.mem_filter.1 hs).2
  unfold hasN at h
  simp only [Bool.and_eq_true, decide_eq_true_eq] at h
  simp only [clipS]
  omega
/-- The first k spans cut, the others as they were. -/
def mixL (M : Int) (P : List Spn) (k : Nat) : List Spn := (P.take k).map (clipS M) ++ P.drop k
theorem mix_len (M : Int) (P : List Spn) (k : Nat) : (mixL M P k).length = P.length := by
  unfold mixL
  rw [List.length_append, List.length_map, List.length_take, List.length_drop]
  omega
theorem mix_zero (M : Int) (P : List Spn) : mixL M P 0 = P := by simp [mixL]
theorem mix_all (M : Int) (P : List Spn) : mixL M P P.length = P.map (clipS M) := by simp [mixL]
theorem mix_get {M : Int} {P : List Spn} {k : Nat} {s : Spn} (hs : P[k]? = some s) : (mixL M P k)[k]? = some s := by
  obtain ⟨hk, e⟩ := List.getElem?_eq_some_iff.1 hs
  unfold mixL
  rw [List.getElem?_append_right (by simp; omega)]
  simp only [List.length_map, List.length_take]
  rw [show k - min k P.length = 0 by omega, List.getElem?_drop, Nat.add_zero]
  exact hs
theorem mix_go {M : Int} {P : List Spn} {k : Nat} {s : Spn} (hs : P[k]? = some s) : mixL M P (k + 1) = (mixL M P k).set k (clipS M s) := by
  obtain ⟨hk, e⟩ := List.getElem?_eq_some_iff.1 hs
  unfold mixL
  rw [List.take_succ_eq_append_getElem hk, List.map_append, List.set_append_right _ _ (by simp; omega)]
  simp only [List.length_map, List.length_take]
  rw [show k - min k P.length = 0 by omega, List.drop_eq_getElem_cons hk, List.set_cons_zero, e]
  simp
theorem spCells_set : ∀ (l : List Spn) (k : Nat) (s : Spn), k < l.length → ((spCells l).set (k * 2) (.int .i64 s.lo)).set (k * 2 + 1) (.int .i64 s.hi) = spCells (l.set k s)
  | [], k, s, h => by simp at h
  | x :: r, 0, s, h => rfl
  | x :: r, k + 1, s, h => by
    have ih := spCells_set r k s (by simpa using h)
    have e : spCells (x :: r) = .int .i64 x.lo :: .int .i64 x.hi :: spCells r := rfl
    have e2 : spCells ((x :: r).set (k + 1) s) = .int .i64 x.lo :: .int .i64 x.hi :: spCells (r.set k s) := rfl
    rw [e, e2, show (k + 1) * 2 + 1 = (k * 2 + 1) + 2 by omega, show (k + 1) * 2 = k * 2 + 2 by omega]
    simp only [List.set_cons_succ]
    rw [ih]
theorem spCells_set1 : ∀ (l : List Spn) (k : Nat) (s t : Spn), l[k]? = some t → t.lo = s.lo → (spCells l).set (k * 2 + 1) (.int .i64 s.hi) = spCells (l.set k s)
  | [], k, s, t, h, _ => by simp at h
  | x :: r, 0, s, t, h, h2 => by
    simp at h
    subst h
    show Value.int .i64 x.lo :: Value.int .i64 s.hi :: spCells r = Value.int .i64 s.lo :: Value.int .i64 s.hi :: spCells r
    rw [h2]
  | x :: r, k + 1, s, t, h, h2 => by
    have ih := spCells_set1 r k s t (by simpa using h) h2
    have e : spCells (x :: r) = .int .i64 x.lo :: .int .i64 x.hi :: spCells r := rfl
    have e2 : spCells ((x :: r).set (k + 1) s) = .int .i64 x.lo :: .int .i64 x.hi :: spCells (r.set k s) := rfl
    rw [e, e2, show (k + 1) * 2 + 1 = (k * 2 + 1) + 2 by omega]
    simp only [List.set_cons_succ]
    rw [ih]

/-- The merging of sorted spans under way: out from the first k of D. -/
structure Mrg (M : Int) (D out : List Spn) (k : Nat) : Prop where
  ok : okL M 0 out
  any : ∀ m, anyS out m = anyS (D.take k) m
  low : ∀ x, out.getLast? = some x → ∀ s ∈ D.drop k, x.lo ≤ s.lo
  len : out.length ≤ k
theorem mrg_start (M : Int) (D : List Spn) : Mrg M D [] 0 := ⟨trivial, fun m => by simp [anyS], fun x h => by simp at h, Nat.le_refl _⟩
theorem drop_mem {D : List Spn} {k : Nat} {s : Spn} (hs : D[k]? = some s) : s ∈ D.drop k ∧ ∀ t ∈ D.drop (k + 1), t ∈ D.drop k := by
  obtain ⟨hk, e⟩ := List.getElem?_eq_some_iff.1 hs
  rw [List.drop_eq_getElem_cons hk, e]
  exact ⟨by simp, fun t ht => by simp [ht]⟩
theorem take_any {D : List Spn} {k : Nat} {s : Spn} (hs : D[k]? = some s) (m : Int) : anyS (D.take (k + 1)) m = (anyS (D.take k) m || inS s m) := by
  obtain ⟨hk, e⟩ := List.getElem?_eq_some_iff.1 hs
  rw [List.take_succ_eq_append_getElem hk, anyS_append, e]
  simp [anyS]
theorem sorted_drop {D : List Spn} {k : Nat} {s : Spn} (h : sortedS D) (hs : D[k]? = some s) : ∀ t ∈ D.drop (k + 1), s.lo ≤ t.lo := fun t ht => by
  obtain ⟨j, hj, e⟩ := List.getElem_of_mem ht
  have h2 : D[k + 1 + j]? = some t := by rw [← List.getElem?_drop, List.getElem?_eq_getElem hj, e]
  exact h k (k + 1 + j) s t (by omega) hs h2
theorem mrg_append {M : Int} {D out : List Spn} {k : Nat} {s : Spn} (h : Mrg M D out k) (hD : sortedS D) (hG : good M D) (hs : D[k]? = some s) (hl : ∀ x, out.getLast? = some x → x.hi + 1 < s.lo) : Mrg M D (out ++ [s]) (k + 1) := by
  have hg := hG s (List.mem_of_getElem? hs)
  refine ⟨?_, fun m => ?_, fun x hx => ?_, ?_⟩
  · rw [okL_snoc]
    refine ⟨h.ok, ?_, hg.2.1, hg.2.2⟩
    rcases List.eq_nil_or_concat out with rfl | ⟨i, x, rfl⟩
    · exact hg.1
    · rw [List.concat_eq_append, nxt_snoc]
      have := hl x (by simp)
      omega
  · rw [anyS_append, h.any, take_any hs]
    simp [anyS]
  · simp at hx
    subst hx
    exact sorted_drop hD hs
  · have := h.len; simp; omega
theorem mrg_grow {M : Int} {D i : List Spn} {x : Spn} {k : Nat} {s : Spn} (h : Mrg M D (i ++ [x]) k) (hD : sortedS D) (hG : good M D) (hs : D[k]? = some s) (hl : s.lo ≤ x.hi + 1) : Mrg M D (i ++ [⟨x.lo, max x.hi s.hi⟩]) (k + 1) := by
  have hg := hG s (List.mem_of_getElem? hs)
  have hx := (okL_snoc x i 0).1 h.ok
  have hlo := h.low x (by simp) s (drop_mem hs).1
  refine ⟨?_, fun m => ?_, fun y hy => ?_, ?_⟩
  · rw [okL_snoc]
    exact ⟨hx.1, hx.2.1, by simp only; omega, by simp only; omega⟩
  · have ha := h.any m
    rw [take_any hs, ← ha, anyS_append, anyS_append, Bool.or_assoc]
    congr 1
    simp only [anyS, List.any_cons, List.any_nil, Bool.or_false]
    rw [Bool.eq_iff_iff, Bool.or_eq_true, inS_iff, inS_iff, inS_iff]
    simp only
    omega
  · simp at hy
    subst hy
    exact fun t ht => h.low x (by simp) t ((drop_mem hs).2 t ht)
  · have := h.len; simp at this ⊢; omega
end Go.Proofs.Ytlmjfbgigfmdhaa
