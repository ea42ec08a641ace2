/- Plain mathematics of combine: sets put together along their edges. -/
import Derived.Test.YtlmjfbgigfmdhaaIntEdg
import Derived.Test.YtlmjfbgigfmdhaaIntFol
namespace Go.Proofs.Ytlmjfbgigfmdhaa
set_option linter.unusedVariables false

theorem any_nxt {M : Int} : ∀ {l : List Spn} {c m : Int}, okL M c l → anyS l m = true → m + 2 ≤ nxt c l
  | [], _, _, _, h => by simp [anyS] at h
  | s :: r, c, m, ⟨h1, h2, h3, h4⟩, h => by
    rw [anyS_cons, Bool.or_eq_true, inS_iff] at h
    have hn : s.hi + 2 ≤ nxt (s.hi + 2) r := by
      have : ∀ (l : List Spn) (c : Int), okL M c l → c ≤ nxt c l := by
        intro l
        induction l with
        | nil => intro c _; exact Int.le_refl _
        | cons x q ih =>
          intro c hx
          have := ih (x.hi + 2) hx.2.2.2
          have h5 := hx.1
          have h6 := hx.2.1
          show c ≤ nxt (x.hi + 2) q
          omega
      exact this r _ h4
    show m + 2 ≤ nxt (s.hi + 2) r
    rcases h with h | h
    · omega
    · exact any_nxt h4 h
theorem any_above {M : Int} {C : List Spn} {q m : Int} (h : okL M 0 C) (hn : nxt 0 C ≤ q + 1) (hm : q ≤ m) : anyS C m = false := by
  cases ha : anyS C m with
  | false => rfl
  | true => have := any_nxt h ha; omega
/-- Is a span open, that begins at m or below? -/
def openB : Option Int → Int → Bool
  | some p, m => decide (p ≤ m)
  | none, _ => false
/-- What lies in memory: the spans that are closed, and the open one. -/
def memL (C : List Spn) : Option Int → List Spn
  | none => C
  | some p => C ++ [⟨p, 0⟩]
structure Cmb (M : Int) (f : Int → Bool) (C : List Spn) (o : Option Int) (q : Int) : Prop where
  ok : okL M 0 C
  fo : f q = o.isSome
  nx : nxt 0 C ≤ q + 1
  op : ∀ p, o = some p → nxt 0 C ≤ p ∧ p ≤ q
  any : ∀ m, m ≤ q → f m = (anyS C m || openB o m)
theorem cmb_start (M : Int) {f : Int → Bool} (h : ∀ m, m < 0 → f m = false) : Cmb M f [] none (-1) :=
  ⟨trivial, h _ (by omega), by simp [nxt], fun p hp => by simp at hp, fun m hm => by rw [h m (by omega)]; rfl⟩
theorem cmb_open {M : Int} {f : Int → Bool} {C : List Spn} {q n : Int} (h : Cmb M f C none q) (hq : q ≤ n) (hc : ∀ m, q ≤ m → m < n → f m = f q) (hn : f n = true) : Cmb M f C (some n) n := by
  have hfq : f q = false := h.fo
  have hne : q ≠ n := fun e => by rw [e, hn] at hfq; simp at hfq
  have hnx := h.nx
  refine ⟨h.ok, hn, by omega, fun p hp => ?_, fun m hm => ?_⟩
  · simp at hp; subst hp; exact ⟨by omega, Int.le_refl _⟩
  · by_cases e : m = n
    · subst e
      rw [hn]; simp [openB]
    · rw [show openB (some n) m = false by simp [openB]; omega, Bool.or_false]
      by_cases h2 : m ≤ q
      · rw [h.any m h2]; simp [openB]
      · rw [hc m (by omega) (by omega), hfq, any_above h.ok h.nx (by omega)]
theorem cmb_close {M : Int} {f : Int → Bool} {C : List Spn} {q n p : Int} (h : Cmb M f C (some p) q) (hq : q ≤ n) (hM : n ≤ M + 1) (hc : ∀ m, q ≤ m → m < n → f m = f q) (hn : f n = false) : Cmb M f (C ++ [⟨p, n - 1⟩]) none n := by
  have hfq : f q = true := h.fo
  have hne : q ≠ n := fun e => by rw [e, hn] at hfq; simp at hfq
  obtain ⟨h1, h2⟩ := h.op p rfl
  refine ⟨?_, hn, ?_, fun p hp => by simp at hp, fun m hm => ?_⟩
  · rw [okL_snoc]
    exact ⟨h.ok, h1, by simp only; omega, by simp only; omega⟩
  · rw [nxt_snoc]; simp only; omega
  · rw [anyS_append, show openB none m = false from rfl, Bool.or_false, show anyS [⟨p, n - 1⟩] m = (decide (p ≤ m) && decide (m ≤ n - 1)) by simp [anyS, inS]]
    by_cases h3 : m ≤ q
    · rw [h.any m h3, show decide (m ≤ n - 1) = true by simp; omega, Bool.and_true]; rfl
    · have ha : anyS C m = false := any_above h.ok h.nx (by omega)
      rw [ha, Bool.false_or]
      by_cases e : m = n
      · subst e
        rw [hn, show decide (m ≤ m - 1) = false by simp; omega, Bool.and_false]
      · rw [hc m (by omega) (by omega), hfq, show decide (p ≤ m) = true by simp; omega, show decide (m ≤ n - 1) = true by simp; omega]; rfl
theorem cmb_stay {M : Int} {f : Int → Bool} {C : List Spn} {o : Option Int} {q n : Int} (h : Cmb M f C o q) (hq : q ≤ n) (hc : ∀ m, q ≤ m → m < n → f m = f q) (hn : f n = f q) : Cmb M f C o n := by
  have hnx := h.nx
  refine ⟨h.ok, hn.trans h.fo, by omega, fun p hp => ⟨(h.op p hp).1, by have := (h.op p hp).2; omega⟩, fun m hm => ?_⟩
  by_cases h2 : m ≤ q
  · exact h.any m h2
  · have hfm : f m = f q := by
      by_cases e : m = n
      · rw [e, hn]
      · exact hc m (by omega) (by omega)
    rw [hfm, h.fo, any_above h.ok h.nx (by omega), Bool.false_or]
    cases o with
    | none => rfl
    | some p =>
      have := (h.op p rfl).2
      simp [openB]; omega
theorem cmb_end {M : Int} {f : Int → Bool} {C : List Spn} {o : Option Int} {q : Int} (h : Cmb M f C o q) (hf : ∀ m, q ≤ m → f m = false) : o = none ∧ ∀ m, anyS C m = f m := by
  have ho : o = none := by
    have h1 := h.fo
    rw [hf q (Int.le_refl _)] at h1
    cases o with
    | none => rfl
    | some p => simp at h1
  subst ho
  refine ⟨rfl, fun m => ?_⟩
  by_cases h2 : m ≤ q
  · rw [h.any m h2]; simp [openB]
  · rw [hf m (by omega), any_above h.ok h.nx (by omega)]
/-- Between two edges nothing changes. -/
theorem edg_const {l : List Spn} {q m : Int} (hq : q ≤ m) (h : ∀ e ∈ edgL l, e ≤ q ∨ m < e) : anyS l m = anyS l q := by
  rw [Bool.eq_iff_iff, anyS_iff, anyS_iff]
  have key : ∀ s ∈ l, (s.lo ≤ q ∨ m < s.lo) ∧ (s.hi + 1 ≤ q ∨ m < s.hi + 1) := fun s hs =>
    ⟨h _ (List.mem_flatMap.2 ⟨s, hs, by simp⟩), h _ (List.mem_flatMap.2 ⟨s, hs, by simp⟩)⟩
  constructor
  · rintro ⟨s, hs, h1, h2⟩
    have := key s hs
    exact ⟨s, hs, by omega, by omega⟩
  · rintro ⟨s, hs, h1, h2⟩
    have := key s hs
    exact ⟨s, hs, by omega, by omega⟩
theorem edg_last {l : List Spn} {q m : Int} (hq : q ≤ m) (h : ∀ e ∈ edgL l, e ≤ q) : anyS l m = false := by
  cases ha : anyS l m with
  | false => rfl
  | true =>
    rw [anyS_iff] at ha
    obtain ⟨s, hs, h1, h2⟩ := ha
    have := h (s.hi + 1) (List.mem_flatMap.2 ⟨s, hs, by simp⟩)
    omega
theorem edg_range {M : Int} {l : List Spn} (h : good5 M l) : ∀ e ∈ edgL l, 0 ≤ e ∧ e ≤ M + 1 := by
  intro e he
  obtain ⟨s, hs, h1⟩ := List.mem_flatMap.1 he
  have := h s hs
  simp at h1
  rcases h1 with rfl | rfl <;> omega
theorem edges_mem {a b : List Spn} {e : Int} : e ∈ edgesS a b ↔ e ∈ edgL a ∨ e ∈ edgL b := by
  unfold edgesS
  rw [(List.mergeSort_perm _ _).mem_iff, List.mem_append]
theorem edges_sorted (a b : List Spn) : (edgesS a b).Pairwise (fun x y => x ≤ y) := by
  unfold edgesS
  have := List.pairwise_mergeSort (le := fun x y : Int => decide (x ≤ y)) (fun x y z h1 h2 => by simp at *; omega) (fun x y => by simp; omega) (edgL a ++ edgL b)
  exact this.imp (fun h => by simpa using h)
/-- q lies behind the first k edges and ahead of the others. -/
structure Pre (ES : List Int) (k : Nat) (q : Int) : Prop where
  le : ∀ e ∈ ES.take k, e ≤ q
  ge : ∀ e ∈ ES.drop k, q ≤ e
theorem pre_go {ES : List Int} {k : Nat} {q n : Int} (h : Pre ES k q) (hS : ES.Pairwise (fun x y => x ≤ y)) (hn : ES[k]? = some n) : q ≤ n ∧ Pre ES (k + 1) n ∧ ∀ m, q ≤ m → m < n → ∀ e ∈ ES, e ≤ q ∨ m < e := by
  obtain ⟨hk, e0⟩ := List.getElem?_eq_some_iff.1 hn
  have hd : ES.drop k = n :: ES.drop (k + 1) := by rw [List.drop_eq_getElem_cons hk, e0]
  have hge := h.ge
  rw [hd] at hge
  have hqn := hge n (by simp)
  have hrest : ∀ e ∈ ES.drop (k + 1), n ≤ e := by
    have h2 : (ES.drop k).Pairwise (fun x y => x ≤ y) := hS.drop
    rw [hd, List.pairwise_cons] at h2
    exact h2.1
  refine ⟨hqn, ⟨fun e he => ?_, hrest⟩, fun m h1 h2 e he => ?_⟩
  · rw [List.take_succ_eq_append_getElem hk, List.mem_append, e0] at he
    rcases he with he | he
    · have := h.le e he; omega
    · simp at he; omega
  · rw [← List.take_append_drop k ES, List.mem_append, hd] at he
    rcases he with he | he
    · exact .inl (h.le e he)
    · rw [List.mem_cons] at he
      rcases he with rfl | he
      · exact .inr h2
      · have := hrest e he
        exact .inr (by omega)
end Go.Proofs.Ytlmjfbgigfmdhaa
