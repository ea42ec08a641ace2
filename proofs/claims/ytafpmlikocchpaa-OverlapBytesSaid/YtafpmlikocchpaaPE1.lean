/- Contracts of the functions, further part 1: IntMath, IntMem, VWit, VMod, VByt. -/
import Derived.Below
import Derived.Deep.QuietTactic
import Derived.Deep.AppendLies
import Derived.OwnWalk
import Derived.Deep.OwnRows
import Derived.Deep.Cut
import Derived.Deep.WholeRow
import Derived.Test.YtafpmlikocchpaaPA14
import Derived.Test.YtafpmlikocchpaaPA2
import Derived.Test.YtafpmlikocchpaaPA21
import Derived.Test.YtafpmlikocchpaaPA22
import Derived.Test.YtafpmlikocchpaaPA3
import Derived.Test.YtafpmlikocchpaaPA6
/- Plain mathematics of the sets of integers of layer 5: no Go in sight. -/
namespace Go.Proofs.Ytafpmlikocchpaa
set_option linter.unusedVariables false

/-- A span; does it hold a number; do spans. -/
structure Spn where
  lo : Int
  hi : Int
def inS (s : Spn) (n : Int) : Bool := decide (s.lo ≤ n) && decide (n ≤ s.hi)
def anyS (l : List Spn) (n : Int) : Bool := l.any fun s => inS s n
/-- Is n one of the numbers of a list, up to M? -/
def memS (M : Int) (l : List Spn) (n : Int) : Bool := decide (0 ≤ n) && decide (n ≤ M) && anyS l n
/-- A set whose first span begins at c or behind it. -/
def okL (M : Int) : Int → List Spn → Prop
  | _, [] => True
  | c, s :: r => c ≤ s.lo ∧ s.lo ≤ s.hi ∧ s.hi ≤ M ∧ okL M (s.hi + 2) r

theorem inS_iff (s : Spn) (n : Int) : inS s n = true ↔ s.lo ≤ n ∧ n ≤ s.hi := by simp [inS]
theorem anyS_iff (l : List Spn) (n : Int) : anyS l n = true ↔ ∃ s ∈ l, s.lo ≤ n ∧ n ≤ s.hi := by
  unfold anyS
  rw [List.any_eq_true]
  constructor
  · rintro ⟨s, hs, h⟩; exact ⟨s, hs, (inS_iff s n).1 h⟩
  · rintro ⟨s, hs, h⟩; exact ⟨s, hs, (inS_iff s n).2 h⟩
theorem anyS_cons (s : Spn) (r : List Spn) (n : Int) : anyS (s :: r) n = (inS s n || anyS r n) := rfl
theorem anyS_append (a b : List Spn) (n : Int) : anyS (a ++ b) n = (anyS a n || anyS b n) := by simp [anyS]
theorem okL_mono {M : Int} : ∀ {l : List Spn} {c d : Int}, d ≤ c → okL M c l → okL M d l
  | [], _, _, _, _ => trivial
  | s :: r, c, d, h, ⟨h1, h2, h3, h4⟩ => ⟨by omega, h2, h3, h4⟩
theorem okL_ge {M : Int} : ∀ {l : List Spn} {c : Int} {n : Int}, okL M c l → anyS l n = true → c ≤ n
  | [], _, _, _, h => by simp [anyS] at h
  | s :: r, c, n, ⟨h1, h2, _, h4⟩, h => by
    rw [anyS_cons, Bool.or_eq_true, inS_iff] at h
    rcases h with h | h
    · omega
    · have := okL_ge h4 h; omega
theorem okL_le {M : Int} : ∀ {l : List Spn} {c : Int} {n : Int}, okL M c l → anyS l n = true → n ≤ M
  | [], _, _, _, h => by simp [anyS] at h
  | s :: r, c, n, ⟨_, _, h3, h4⟩, h => by
    rw [anyS_cons, Bool.or_eq_true, inS_iff] at h
    rcases h with h | h
    · omega
    · exact okL_le h4 h
/-- The numbers of a set are its members as they stand. -/
theorem okL_mem {M : Int} {l : List Spn} (h : okL M 0 l) (n : Int) : memS M l n = anyS l n := by
  unfold memS
  cases ha : anyS l n with
  | false => simp
  | true =>
    have h1 := okL_ge h ha
    have h2 := okL_le h ha
    simp [h1, h2]

/-- TWO SETS WITH THE SAME NUMBERS ARE EQUAL. -/
theorem okL_uniq {M : Int} : ∀ (a b : List Spn) (c d : Int), okL M c a → okL M d b → (∀ n, anyS a n = anyS b n) → a = b
  | [], [], _, _, _, _, _ => rfl
  | [], t :: q, c, d, _, ⟨_, h2, _, _⟩, h => by
    have := h t.lo
    rw [anyS_cons, show inS t t.lo = true by rw [inS_iff]; omega] at this
    simp [anyS] at this
  | s :: r, [], c, d, ⟨_, h2, _, _⟩, _, h => by
    have := h s.lo
    rw [anyS_cons, show inS s s.lo = true by rw [inS_iff]; omega] at this
    simp [anyS] at this
  | s :: r, t :: q, c, d, ⟨a1, a2, a3, a4⟩, ⟨b1, b2, b3, b4⟩, h => by
    have hlo1 : t.lo ≤ s.lo := by
      have e := h s.lo
      rw [anyS_cons, show inS s s.lo = true by rw [inS_iff]; omega, Bool.true_or] at e
      have e2 := e.symm
      rw [anyS_cons, Bool.or_eq_true, inS_iff] at e2
      rcases e2 with e2 | e2
      · exact e2.1
      · have := okL_ge b4 e2; omega
    have hlo2 : s.lo ≤ t.lo := by
      have e := h t.lo
      rw [anyS_cons (s := t), show inS t t.lo = true by rw [inS_iff]; omega, Bool.true_or] at e
      rw [anyS_cons, Bool.or_eq_true, inS_iff] at e
      rcases e with e | e
      · exact e.1
      · have := okL_ge a4 e; omega
    have hlo : s.lo = t.lo := by omega
    have hhi1 : t.hi ≤ s.hi := by
      by_cases hc : t.hi ≤ s.hi
      · exact hc
      · exfalso
        have e := h (s.hi + 1)
        rw [anyS_cons (s := t), show inS t (s.hi + 1) = true by rw [inS_iff]; omega, Bool.true_or] at e
        rw [anyS_cons, Bool.or_eq_true, inS_iff] at e
        rcases e with e | e
        · omega
        · have := okL_ge a4 e; omega
    have hhi2 : s.hi ≤ t.hi := by
      by_cases hc : s.hi ≤ t.hi
      · exact hc
      · exfalso
        have e := h (t.hi + 1)
        rw [anyS_cons (s := s), show inS s (t.hi + 1) = true by rw [inS_iff]; omega, Bool.true_or] at e
        have e2 := e.symm
        rw [anyS_cons, Bool.or_eq_true, inS_iff] at e2
        rcases e2 with e2 | e2
        · omega
        · have := okL_ge b4 e2; omega
    have hhi : s.hi = t.hi := by omega
    have hst : s = t := by
      cases s; cases t
      simp only at hlo hhi
      rw [hlo, hhi]
    subst hst
    rw [okL_uniq r q (s.hi + 2) (s.hi + 2) a4 b4 (fun n => by
      have e := h n
      rw [anyS_cons, anyS_cons] at e
      cases hs : inS s n with
      | false => rw [hs, Bool.false_or, Bool.false_or] at e; exact e
      | true =>
        rw [inS_iff] at hs
        have h1 : anyS r n = false := by
          cases hr : anyS r n with
          | false => rfl
          | true => have := okL_ge a4 hr; omega
        have h2 : anyS q n = false := by
          cases hr : anyS q n with
          | false => rfl
          | true => have := okL_ge b4 hr; omega
        rw [h1, h2])]
/-- A set is what its numbers are. -/
theorem set_eq {M : Int} {a b : List Spn} (ha : okL M 0 a) (hb : okL M 0 b) (h : ∀ n, memS M a n = memS M b n) : a = b :=
  okL_uniq a b 0 0 ha hb fun n => by
    have := h n
    rwa [okL_mem ha, okL_mem hb] at this

/-- How many numbers below N have a property. -/
def card (N : Nat) (p : Nat → Bool) : Nat := (List.range N).countP p
theorem card_succ (N : Nat) (p : Nat → Bool) : card (N + 1) p = card N p + if p N = true then 1 else 0 := by
  unfold card
  rw [List.range_succ, List.countP_append]
  simp [List.countP_cons]
theorem card_congr {N : Nat} {p q : Nat → Bool} (h : ∀ n, n < N → p n = q n) : card N p = card N q := by
  induction N with
  | zero => rfl
  | succ N ih => rw [card_succ, card_succ, ih (fun n hn => h n (by omega)), h N (by omega)]
/-- INCLUSION AND EXCLUSION. -/
theorem card_or_and (N : Nat) (p q : Nat → Bool) : card N (fun n => p n || q n) + card N (fun n => p n && q n) = card N p + card N q := by
  induction N with
  | zero => rfl
  | succ N ih =>
    simp only [card_succ]
    cases p N <;> cases q N <;> simp <;> omega
theorem card_minus (N : Nat) (p q : Nat → Bool) : card N (fun n => p n && !q n) + card N (fun n => p n && q n) = card N p := by
  induction N with
  | zero => rfl
  | succ N ih =>
    simp only [card_succ]
    cases p N <;> cases q N <;> simp <;> omega
theorem card_le (N : Nat) (p : Nat → Bool) : card N p ≤ N := by
  induction N with
  | zero => exact Nat.le_refl _
  | succ N ih =>
    rw [card_succ]
    split <;> omega
theorem card_none {N : Nat} {p : Nat → Bool} (h : ∀ n, n < N → p n = false) : card N p = 0 := by
  induction N with
  | zero => rfl
  | succ N ih => rw [card_succ, ih (fun n hn => h n (by omega)), h N (by omega)]; rfl
theorem card_zero {N : Nat} {p : Nat → Bool} (h : card N p = 0) : ∀ n, n < N → p n = false := by
  induction N with
  | zero => intro n hn; omega
  | succ N ih =>
    intro n hn
    rw [card_succ] at h
    by_cases e : n = N
    · subst e
      cases hp : p n with
      | false => rfl
      | true => rw [hp] at h; simp at h
    · exact ih (by omega) n (by omega)
theorem card_span (N : Nat) (lo hi : Int) (h0 : 0 ≤ lo) (h1 : lo ≤ hi + 1) (h2 : hi < N) : (card N (fun n => inS ⟨lo, hi⟩ (n : Int)) : Int) = hi - lo + 1 := by
  induction N generalizing hi with
  | zero =>
    simp only [card, List.range_zero, List.countP_nil]
    omega
  | succ N ih =>
    rw [card_succ]
    by_cases e : hi = (N : Int)
    · by_cases e2 : lo ≤ hi
      · have hin : inS ⟨lo, hi⟩ (N : Int) = true := by rw [inS_iff]; simp only; omega
        rw [if_pos hin]
        have hc : card N (fun n => inS ⟨lo, hi⟩ (n : Int)) = card N (fun n => inS ⟨lo, hi - 1⟩ (n : Int)) := card_congr fun n hn => by
          rw [Bool.eq_iff_iff, inS_iff, inS_iff]; simp only; omega
        rw [hc]
        have := ih (hi - 1) (by omega) (by omega)
        omega
      · have hin : inS ⟨lo, hi⟩ (N : Int) = false := by
          cases hh : inS ⟨lo, hi⟩ (N : Int) with
          | false => rfl
          | true => rw [inS_iff] at hh; simp only at hh; omega
        rw [if_neg (by rw [hin]; decide), card_none (fun n hn => by
          cases hh : inS ⟨lo, hi⟩ (n : Int) with
          | false => rfl
          | true => rw [inS_iff] at hh; simp only at hh; omega)]
        omega
    · have hin : inS ⟨lo, hi⟩ (N : Int) = false := by
        cases hh : inS ⟨lo, hi⟩ (N : Int) with
        | false => rfl
        | true => rw [inS_iff] at hh; simp only at hh; omega
      rw [if_neg (by rw [hin]; decide)]
      have := ih hi h1 (by omega)
      omega
/-- How many numbers a set has. -/
def cntL : List Spn → Int
  | [] => 0
  | s :: r => s.hi - s.lo + 1 + cntL r
theorem cnt_card {M : Int} : ∀ (l : List Spn) (c : Int), 0 ≤ c → okL M c l → cntL l = card (M + 1).toNat (fun n => anyS l (n : Int))
  | [], _, _, _ => by
    rw [card_none (p := fun n => anyS [] (n : Int)) (fun n _ => rfl)]; rfl
  | s :: r, c, hc, ⟨h1, h2, h3, h4⟩ => by
    have ih := cnt_card r (s.hi + 2) (by omega) h4
    have hs := card_span (M + 1).toNat s.lo s.hi (by omega) (by omega) (by omega)
    have hor := card_or_and (M + 1).toNat (fun n => inS s (n : Int)) (fun n => anyS r (n : Int))
    have hand : card (M + 1).toNat (fun n => inS s (n : Int) && anyS r (n : Int)) = 0 := card_none fun n _ => by
      cases hh : inS s (n : Int) with
      | false => rfl
      | true =>
        rw [inS_iff] at hh
        cases hr : anyS r (n : Int) with
        | false => rfl
        | true => have := okL_ge h4 hr; omega
    have he : card (M + 1).toNat (fun n => anyS (s :: r) (n : Int)) = card (M + 1).toNat (fun n => inS s (n : Int) || anyS r (n : Int)) := card_congr fun n _ => anyS_cons s r n
    rw [he]
    show s.hi - s.lo + 1 + cntL r = _
    have hs' : (card (M + 1).toNat (fun n => inS s (n : Int)) : Int) = s.hi - s.lo + 1 := hs
    omega
/-- The laws of the numbers: u, i, m the union, the intersection, the difference of the sets a and b. -/
theorem cnt_laws {M : Int} {a b u i m : List Spn} (ha : okL M 0 a) (hb : okL M 0 b) (hu : okL M 0 u) (hi : okL M 0 i) (hm : okL M 0 m)
    (eu : ∀ n, anyS u n = (anyS a n || anyS b n)) (ei : ∀ n, anyS i n = (anyS a n && anyS b n)) (em : ∀ n, anyS m n = (anyS a n && !anyS b n)) :
    cntL u + cntL i = cntL a + cntL b ∧ cntL m = cntL a - cntL i := by
  rw [cnt_card a 0 (Int.le_refl _) ha, cnt_card b 0 (Int.le_refl _) hb, cnt_card u 0 (Int.le_refl _) hu, cnt_card i 0 (Int.le_refl _) hi, cnt_card m 0 (Int.le_refl _) hm]
  rw [card_congr (fun n _ => eu (n : Int)), card_congr (fun n _ => ei (n : Int)), card_congr (p := fun n => anyS m (n : Int)) (fun n _ => em (n : Int))]
  have h1 := card_or_and (M + 1).toNat (fun n => anyS a (n : Int)) (fun n => anyS b (n : Int))
  have h2 := card_minus (M + 1).toNat (fun n => anyS a (n : Int)) (fun n => anyS b (n : Int))
  constructor <;> omega
theorem cnt_bounds {M : Int} {a : List Spn} (hM : 0 ≤ M) (ha : okL M 0 a) : 0 ≤ cntL a ∧ cntL a ≤ M + 1 := by
  rw [cnt_card a 0 (Int.le_refl _) ha]
  have := card_le (M + 1).toNat (fun n => anyS a (n : Int))
  omega
/-- A subset is one whose intersection has as many numbers. -/
theorem sub_iff_cnt {M : Int} {a b i : List Spn} (hM : 0 ≤ M) (ha : okL M 0 a) (hi : okL M 0 i) (ei : ∀ n, anyS i n = (anyS a n && anyS b n)) :
    cntL i = cntL a ↔ ∀ n, anyS a n = true → anyS b n = true := by
  rw [cnt_card a 0 (Int.le_refl _) ha, cnt_card i 0 (Int.le_refl _) hi, card_congr (fun n _ => ei (n : Int))]
  have h2 := card_minus (M + 1).toNat (fun n => anyS a (n : Int)) (fun n => anyS b (n : Int))
  constructor
  · intro h n hn
    have h1 := okL_ge ha hn
    have h3 := okL_le ha hn
    have hz := card_zero (N := (M + 1).toNat) (p := fun n => anyS a (n : Int) && !anyS b (n : Int)) (by omega) n.toNat (by omega)
    rw [show ((n.toNat : Nat) : Int) = n by omega, hn] at hz
    simpa using hz
  · intro h
    have hz : card (M + 1).toNat (fun n => anyS a (n : Int) && !anyS b (n : Int)) = 0 := card_none fun n _ => by
      cases hA : anyS a (n : Int) with
      | false => rfl
      | true => rw [h _ hA]; rfl
    omega

/-- What lies in a list of spans cut to the numbers from 0 to M, as the reference cuts it. -/
def cutS (s : Spn) (lo hi : Int) : Spn := ⟨max s.lo lo, min s.hi hi⟩
theorem cutS_in (s : Spn) (lo hi n : Int) : inS (cutS s lo hi) n = (inS s n && (decide (lo ≤ n) && decide (n ≤ hi))) := by
  rw [Bool.eq_iff_iff]
  simp only [cutS, inS, Bool.and_eq_true, decide_eq_true_eq, Int.max_le, Int.le_min]
  constructor
  · rintro ⟨⟨h1, h2⟩, h3, h4⟩
    exact ⟨⟨h1, h3⟩, h2, h4⟩
  · rintro ⟨⟨h1, h3⟩, h2, h4⟩
    exact ⟨⟨h1, h2⟩, h3, h4⟩
/-- One round of the reference's normal form: x the least span grown as far as it goes, work all spans. -/
structure Least (work : List Spn) (x : Spn) : Prop where
  low : ∀ s ∈ work, x.lo ≤ s.lo
  far : ∀ s ∈ work, s.hi ≤ x.hi ∨ x.hi + 2 ≤ s.lo
  cov : ∀ n, x.lo ≤ n → n ≤ x.hi → anyS work n = true
  ne : x.lo ≤ x.hi
theorem least_any {work : List Spn} {x : Spn} (h : Least work x) (n : Int) : anyS work n = (inS x n || anyS (work.filter fun s => decide (x.hi < s.lo)) n) := by
  rw [Bool.eq_iff_iff, Bool.or_eq_true, inS_iff, anyS_iff, anyS_iff]
  constructor
  · rintro ⟨s, hs, h1, h2⟩
    rcases h.far s hs with hf | hf
    · have := h.low s hs
      exact .inl (by omega)
    · exact .inr ⟨s, by simp [hs]; omega, h1, h2⟩
  · rintro (⟨h1, h2⟩ | ⟨s, hs, h1, h2⟩)
    · have := h.cov n h1 h2
      rwa [anyS_iff] at this
    · rw [List.mem_filter] at hs
      exact ⟨s, hs.1, h1, h2⟩
theorem least_rest {work : List Spn} {x : Spn} (h : Least work x) : ∀ s ∈ work.filter (fun s => decide (x.hi < s.lo)), x.hi + 2 ≤ s.lo ∨ s.hi ≤ x.hi := by
  intro s hs
  rw [List.mem_filter] at hs
  rcases h.far s hs.1 with hf | hf
  · exact .inr hf
  · exact .inl hf
/-- x grows by a span that it touches. -/
theorem least_grow {work : List Spn} {x s : Spn} (hs : s ∈ work) (hc : ∀ n, x.lo ≤ n → n ≤ x.hi → anyS work n = true) (h1 : s.lo ≤ x.hi + 1) (h2 : x.hi < s.hi) : ∀ n, x.lo ≤ n → n ≤ s.hi → anyS work n = true := by
  intro n hn1 hn2
  by_cases h : n ≤ x.hi
  · exact hc n hn1 h
  · rw [anyS_iff]
    exact ⟨s, hs, by omega, hn2⟩

/-- What a set leaves of the numbers from lo to hi, as the reference goes through it. -/
def comp : List Spn → Int → Int → List Spn
  | [], lo, hi => if lo ≤ hi then [⟨lo, hi⟩] else []
  | s :: r, lo, hi => if lo ≤ hi then (if lo ≤ min hi (s.lo - 1) then [⟨lo, min hi (s.lo - 1)⟩] else []) ++ comp r (max lo (s.hi + 1)) hi else []
theorem comp_none : ∀ (l : List Spn) {lo hi : Int}, hi < lo → comp l lo hi = []
  | [], lo, hi, h => by rw [comp, if_neg (by omega)]
  | s :: r, lo, hi, h => by rw [comp, if_neg (by omega)]
theorem comp_ok {M : Int} : ∀ (l : List Spn) (c lo hi : Int), okL M c l → hi ≤ M → okL M lo (comp l lo hi)
  | [], c, lo, hi, _, hM => by
    rw [comp]
    split
    · exact ⟨Int.le_refl _, by assumption, hM, trivial⟩
    · trivial
  | s :: r, c, lo, hi, ⟨h1, h2, h3, h4⟩, hM => by
    rw [comp]
    split
    · have ih := comp_ok r (s.hi + 2) (max lo (s.hi + 1)) hi h4 hM
      split
      · refine ⟨Int.le_refl _, by assumption, by simp only; omega, ?_⟩
        exact okL_mono (by simp only; omega) ih
      · rw [List.nil_append]
        exact okL_mono (by omega) ih
    · trivial
theorem comp_any {M : Int} : ∀ (l : List Spn) (c lo hi n : Int), okL M c l → anyS (comp l lo hi) n = (decide (lo ≤ n) && decide (n ≤ hi) && !anyS l n)
  | [], c, lo, hi, n, _ => by
    rw [comp]
    split
    · simp [anyS, inS]
    · have : (decide (lo ≤ n) && decide (n ≤ hi)) = false := by
        rw [Bool.and_eq_false_iff]; simp; omega
      rw [this]; rfl
  | s :: r, c, lo, hi, n, ⟨h1, h2, h3, h4⟩ => by
    rw [comp]
    split
    · have ih := comp_any r (s.hi + 2) (max lo (s.hi + 1)) hi n h4
      have hge : anyS r n = true → s.hi + 2 ≤ n := fun h => okL_ge h4 h
      rw [anyS_append, ih, anyS_cons]
      have hx : anyS (if lo ≤ min hi (s.lo - 1) then [(⟨lo, min hi (s.lo - 1)⟩ : Spn)] else []) n = (decide (lo ≤ n) && decide (n ≤ min hi (s.lo - 1))) := by
        split
        · simp [anyS, inS]
        · have : (decide (lo ≤ n) && decide (n ≤ min hi (s.lo - 1))) = false := by
            rw [Bool.and_eq_false_iff]; simp only [decide_eq_false_iff_not]; omega
          rw [this]; rfl
      rw [hx, Bool.eq_iff_iff]
      cases hr : anyS r n with
      | true =>
        have := hge hr
        simp only [inS, Bool.or_eq_true, Bool.and_eq_true, decide_eq_true_eq, Bool.not_true, Bool.or_true, Bool.and_false, Bool.false_eq_true, or_false, iff_false]
        omega
      | false =>
        simp only [inS, Bool.or_eq_true, Bool.and_eq_true, decide_eq_true_eq, Bool.not_false, Bool.or_false, Bool.and_true, Bool.not_eq_true', Bool.and_eq_false_iff, decide_eq_false_iff_not]
        omega
    · have : (decide (lo ≤ n) && decide (n ≤ hi)) = false := by
        rw [Bool.and_eq_false_iff]; simp; omega
      rw [this]; rfl

/-- All spans that two lists have in common, pair by pair. -/
def pairsS (a b : List Spn) : List Spn := a.flatMap fun s => b.flatMap fun t => if (cutS s t.lo t.hi).lo ≤ (cutS s t.lo t.hi).hi then [cutS s t.lo t.hi] else []
theorem anyS_flatMap {α : Type} (l : List α) (f : α → List Spn) (n : Int) : anyS (l.flatMap f) n = l.any fun x => anyS (f x) n := by
  induction l with
  | nil => rfl
  | cons x r ih => rw [List.flatMap_cons, anyS_append, ih]; rfl
theorem pairs_any (a b : List Spn) (n : Int) : anyS (pairsS a b) n = (anyS a n && anyS b n) := by
  unfold pairsS
  rw [anyS_flatMap, Bool.eq_iff_iff, List.any_eq_true, Bool.and_eq_true, anyS_iff, anyS_iff]
  constructor
  · rintro ⟨s, hs, h⟩
    rw [anyS_flatMap, List.any_eq_true] at h
    obtain ⟨t, ht, h⟩ := h
    split at h
    · simp only [anyS, List.any_cons, List.any_nil, Bool.or_false] at h
      rw [cutS_in, Bool.and_eq_true, inS_iff, Bool.and_eq_true, decide_eq_true_eq, decide_eq_true_eq] at h
      exact ⟨⟨s, hs, h.1⟩, t, ht, h.2⟩
    · simp [anyS] at h
  · rintro ⟨⟨s, hs, h1⟩, t, ht, h2⟩
    refine ⟨s, hs, ?_⟩
    rw [anyS_flatMap, List.any_eq_true]
    refine ⟨t, ht, ?_⟩
    have hc : inS (cutS s t.lo t.hi) n = true := by
      rw [cutS_in, Bool.and_eq_true, inS_iff, Bool.and_eq_true, decide_eq_true_eq, decide_eq_true_eq]
      exact ⟨h1, h2⟩
    have hc2 := (inS_iff _ _).1 hc
    rw [if_pos (by omega)]
    simp [anyS, hc]
/-- Spans cut to the numbers from 0 to M, the empty ones left out. -/
def cutAll (M : Int) (l : List Spn) : List Spn := l.flatMap fun s => if (cutS s 0 M).lo ≤ (cutS s 0 M).hi then [cutS s 0 M] else []
theorem cutAll_any (M : Int) (l : List Spn) (n : Int) : anyS (cutAll M l) n = memS M l n := by
  unfold cutAll memS
  rw [anyS_flatMap, Bool.eq_iff_iff, List.any_eq_true, Bool.and_eq_true, Bool.and_eq_true, decide_eq_true_eq, decide_eq_true_eq, anyS_iff]
  constructor
  · rintro ⟨s, hs, h⟩
    split at h
    · simp only [anyS, List.any_cons, List.any_nil, Bool.or_false] at h
      rw [cutS_in, Bool.and_eq_true, inS_iff, Bool.and_eq_true, decide_eq_true_eq, decide_eq_true_eq] at h
      exact ⟨h.2, s, hs, h.1⟩
    · simp [anyS] at h
  · rintro ⟨h0, s, hs, h1⟩
    refine ⟨s, hs, ?_⟩
    have hc : inS (cutS s 0 M) n = true := by
      rw [cutS_in, Bool.and_eq_true, inS_iff, Bool.and_eq_true, decide_eq_true_eq, decide_eq_true_eq]
      exact ⟨h1, h0⟩
    have hc2 := (inS_iff _ _).1 hc
    rw [if_pos (by omega)]
    simp [anyS, hc]
end Go.Proofs.Ytafpmlikocchpaa

/- Lists of spans in memory; contracts of the reference of layer 5: cut, Contains. -/
namespace Go.Proofs.Ytafpmlikocchpaa
open Go.ChangeShapes Go.WideShapes Go.ChangeAt Go.RowKit
set_option linter.unusedVariables false

/-- A slice that reads as the spans l. -/
def SpL (w : World) (A : Option Addr) (l : List Spn) : Prop :=
  0 < l.length → ∃ g o, A = some ⟨g, o, none⟩ ∧ g < w.heap.size ∧ ∀ i s, l[i]? = some s → w.cell? ⟨g, o + i * 2, none⟩ = some (.int .i64 s.lo) ∧ w.cell? ⟨g, o + i * 2 + 1, none⟩ = some (.int .i64 s.hi)
theorem SpL.kept {w w' : World} {A : Option Addr} {l : List Spn} (h : SpL w A l) (hb : Below w.heap.size w w') : SpL w' A l := fun hp => by
  obtain ⟨g, o, e, hg, hc⟩ := h hp
  have hB := hb.block g hg
  refine ⟨g, o, e, Nat.lt_of_lt_of_le hg hb.size, fun i s hs => ?_⟩
  rw [World.cell?_of_block (w := w) (w' := w') (a := ⟨g, o + i * 2, none⟩) hB, World.cell?_of_block (w := w) (w' := w') (a := ⟨g, o + i * 2 + 1, none⟩) hB]
  exact hc i s hs
theorem SpL.drewN {w : World} {A : Option Addr} {l : List Spn} (h : SpL w A l) (q : Nat) : SpL (w.drewN q) A l := h
/-- Spans as cells. -/
def spC (s : Spn) : List Value := [.int .i64 s.lo, .int .i64 s.hi]
def spCells (l : List Spn) : List Value := l.flatMap spC
theorem spCells_length (l : List Spn) : (spCells l).length = l.length * 2 := by
  unfold spCells
  induction l with
  | nil => rfl
  | cons t r ih => rw [List.flatMap_cons, List.length_append, ih]; simp [spC]; omega
theorem spCells_snoc (l : List Spn) (s : Spn) : spCells (l ++ [s]) = spCells l ++ spC s := by simp [spCells]
theorem spCells_get : ∀ (l : List Spn) (i : Nat) (s : Spn), l[i]? = some s → (spCells l)[i * 2]? = some (.int .i64 s.lo) ∧ (spCells l)[i * 2 + 1]? = some (.int .i64 s.hi)
  | [], i, s, h => by simp at h
  | x :: r, 0, s, h => by
    simp at h
    subst h
    exact ⟨rfl, rfl⟩
  | x :: r, i + 1, s, h => by
    have ih := spCells_get r i s (by simpa using h)
    have e : spCells (x :: r) = spC x ++ spCells r := rfl
    rw [e, show (i + 1) * 2 + 1 = (i * 2 + 1) + 2 by omega, show (i + 1) * 2 = i * 2 + 2 by omega]
    exact ih
theorem below_alloc5 (w : World) (o : Obj) : Below w.heap.size w (w.alloc o) := (Below.refl _ w).alloc (Nat.le_refl _) _
theorem alloc_lt5 (w : World) (o : Obj) : w.heap.size < (w.alloc o).heap.size := (Array.getElem?_eq_some_iff.1 (heap_alloc_new w o)).1

end Go.Proofs.Ytafpmlikocchpaa

/- The law package of layer 15: within. -/
namespace Go.Proofs.Ytafpmlikocchpaa
open Go.ChangeShapes Go.WideShapes Go.ChangeAt Go.RowKit
set_option linter.unusedVariables false
set_option maxRecDepth 100000

instance decInR (x : PcR) : Decidable (inR x) := inferInstanceAs (Decidable (_ ∧ _ ∧ _))
/-- What within says. -/
def wthB (l : List PcR) : Bool := (l.take 13).all (fun x => decide (inR x)) && decide (l.length ≤ 12)
theorem wthB_true {l : List PcR} (h : wthB l = true) : l.length ≤ 12 ∧ ∀ x ∈ l, inR x := by
  unfold wthB at h
  rw [Bool.and_eq_true, decide_eq_true_iff] at h
  refine ⟨h.2, fun x hx => ?_⟩
  have h1 := h.1
  rw [List.take_of_length_le (by have := h.2; omega)] at h1
  exact of_decide_eq_true (List.all_eq_true.1 h1 x hx)
theorem wth_false {l : List PcR} {k : Nat} {x : PcR} (hx : l[k]? = some x) (hk : k < 13) (hr : ¬ inR x) : wthB l = false := by
  rw [← Bool.not_eq_true]
  intro h
  unfold wthB at h
  rw [Bool.and_eq_true] at h
  have := List.all_eq_true.1 h.1 x (List.mem_of_getElem? (i := k) (by rw [List.getElem?_take, if_pos hk, hx]))
  exact hr (of_decide_eq_true this)
theorem all_next15 {l : List PcR} {k : Nat} {x : PcR} (h : (l.take k).all (fun x => decide (inR x)) = true) (hx : l[k]? = some x) (hr : inR x) : (l.take (k + 1)).all (fun x => decide (inR x)) = true := by
  obtain ⟨hk, e⟩ := List.getElem?_eq_some_iff.1 hx
  rw [List.take_succ_eq_append_getElem hk, e, List.all_append, h]
  simp [hr]
set_option maxHeartbeats 8000000 in
theorem within15_any (l : List PcR) (A : Option Addr) (c : Nat) (w : World) (h : RowL EPc w A l) (hl : l.length ≤ maxLen) :
    Calls Try.prog 25 #[.slice A l.length c] w fun e w' => e = .returned (.bool (wthB l)) ∧ w = w' := by
  obtain ⟨n, hn⟩ : ∃ n, n = l.length := ⟨_, rfl⟩
  obtain ⟨Q, hQ⟩ : ∃ Q, Q = wthB l := ⟨_, rfl⟩
  rw [← hn, ← hQ]
  have HQ := Lib.hid hQ
  have HN := Lib.hid hn
  have HS := Lib.hid h
  have hn9 : n ≤ 9223372036854775807 := by unfold maxLen at hl; omega
  clear hn hQ h hl
  go_enter Try.func25, Try.ntmps25
  go_wp2_with fail
  go_loop [3] (fun i => ∃ k : Nat, i = .int .i64 (k : Int) ∧ k ≤ n ∧ k ≤ 13 ∧ Hid ((l.take k).all (fun x => decide (inR x)) = true)) (fun i => n - (intOf i).toNat)
  case atStart => exact ⟨0, rfl, Nat.zero_le _, Nat.zero_le _, Lib.hid (by simp)⟩
  case round =>
    obtain ⟨k, rfl, hk, hk13, HK⟩ := hrel
    by_cases hlt : k < n
    · have hki : (k : Int) < (n : Int) := by omega
      have hki0 : (0 : Int) ≤ (k : Int) := by omega
      have dlt : decide ((k : Int) < (n : Int)) = true := by simp; omega
      by_cases h13 : k < 13
      · have d13 : decide ((k : Int) < 13) = true := by simp; omega
        have n13 : (k : Int) < 13 := by omega
        obtain ⟨x, hget⟩ : ∃ x, l[k]? = some x := ⟨l[k]'(by have := HN.out; omega), List.getElem?_eq_getElem _⟩
        obtain ⟨g, ob, rfl, hg⟩ := HS.out.shapeA (by have := HN.out; omega)
        obtain ⟨c0, c1, c2, c3⟩ := pc_at HS.out hget (Below.refl _ _)
        have HG := Lib.hid hget
        obtain ⟨y, hy⟩ : ∃ y, y = x.dat.length := ⟨_, rfl⟩
        have hsz : (str x.dat).size = y := by rw [str_size, hy]
        have HY := Lib.hid hy
        clear hget hy c2 c3
        by_cases r1 : x.at_ < 0
        · have d1 : decide (x.at_ < 0) = true := decide_eq_true r1
          have HF := Lib.hid (show Q = false from by rw [HQ.out]; exact wth_false HG.out h13 (fun q => by have := q.1; omega))
          generalize str x.dat = D at *
          generalize x.at_ = xa at *
          go_wp2_with fail
          go_ret
          exact ⟨by rw [HF.out]; rfl, rfl⟩
        have d1 : decide (x.at_ < 0) = false := decide_eq_false r1
        by_cases r2 : 150 < x.at_
        · have d2 : decide (150 < x.at_) = true := decide_eq_true r2
          have HF := Lib.hid (show Q = false from by rw [HQ.out]; exact wth_false HG.out h13 (fun q => by have := q.2.1; omega))
          generalize str x.dat = D at *
          generalize x.at_ = xa at *
          go_wp2_with fail
          go_ret
          exact ⟨by rw [HF.out]; rfl, rfl⟩
        have d2 : decide (150 < x.at_) = false := decide_eq_false r2
        by_cases r3 : 50 < y
        · have d3 : decide ((50 : Int) < (y : Int)) = true := by simp; omega
          have n3 : (50 : Int) < (y : Int) := by omega
          have HF := Lib.hid (show Q = false from by rw [HQ.out]; exact wth_false HG.out h13 (fun q => by have := q.2.2; have := HY.out; omega))
          generalize str x.dat = D at *
          generalize x.at_ = xa at *
          clear r3
          go_wp2_with fail
          go_ret
          exact ⟨by rw [HF.out]; rfl, rfl⟩
        have d3 : decide ((50 : Int) < (y : Int)) = false := by simp; omega
        have n3 : ¬ (50 : Int) < (y : Int) := by omega
        have HK1 := Lib.hid (all_next15 HK.out HG.out ⟨by omega, by omega, by have := HY.out; omega⟩)
        generalize str x.dat = D at *
        generalize x.at_ = xa at *
        clear r3
        go_wp2_with fail
        go_round
        case rel => exact ⟨k + 1, by go_num, by omega, by omega, HK1⟩
        case measure => simp [intOf]; omega
      · have d13 : decide ((k : Int) < 13) = false := by simp; omega
        have n13 : ¬ (k : Int) < 13 := by omega
        have d12 : decide ((n : Int) ≤ 12) = false := by simp; omega
        have n12 : ¬ (n : Int) ≤ 12 := by omega
        have HF := Lib.hid (show Q = false from by
          rw [HQ.out]
          unfold wthB
          rw [decide_eq_false (by have := HN.out; omega), Bool.and_false])
        go_wp2_with fail
        go_ret
        exact ⟨by rw [HF.out]; rfl, rfl⟩
    · obtain rfl : k = n := by omega
      have dlt : decide ((k : Int) < (k : Int)) = false := by simp
      have nlt : ¬ (k : Int) < (k : Int) := by omega
      have hall : (l.take 13).all (fun x => decide (inR x)) = true := by
        have := HK.out
        rw [HN.out, List.take_length] at this
        rw [List.take_of_length_le (by have := HN.out; omega)]
        exact this
      by_cases h12 : k ≤ 12
      · have d12 : decide ((k : Int) ≤ 12) = true := by simp; omega
        have n12 : (k : Int) ≤ 12 := by omega
        have HF := Lib.hid (show Q = true from by
          rw [HQ.out]
          unfold wthB
          rw [decide_eq_true (by have := HN.out; omega), hall]
          rfl)
        clear hall
        go_wp2_with fail
        go_ret
        exact ⟨by rw [HF.out]; rfl, rfl⟩
      · have d12 : decide ((k : Int) ≤ 12) = false := by simp; omega
        have n12 : ¬ (k : Int) ≤ 12 := by omega
        have HF := Lib.hid (show Q = false from by
          rw [HQ.out]
          unfold wthB
          rw [decide_eq_false (by have := HN.out; omega), Bool.and_false])
        clear hall
        go_wp2_with fail
        go_ret
        exact ⟨by rw [HF.out]; rfl, rfl⟩
end Go.Proofs.Ytafpmlikocchpaa

/- The law package of layer 15: model. -/
namespace Go.Proofs.Ytafpmlikocchpaa
open Go.ChangeShapes Go.WideShapes Go.ChangeAt Go.RowKit
set_option linter.unusedVariables false
set_option maxRecDepth 100000

theorem str_getO (L : List UInt8) (i : Nat) (h : i < L.length) (h2 : i < (str L).size) : (str L)[i]'h2 = L[i] := by
  exact (show (str L)[i]'h2 = L.toArray[i]'(by simpa using h) from rfl).trans (List.getElem_toArray _)
theorem wins_model (pol xa ya : Int) (xl yl : Nat) : winsB pol ya (ya + yl) xa (xa + xl) = (pol == 2 || (pol == 3 && decide (xa < ya)) || (pol == 4 && (decide (xa < ya) || ((xa == ya) && decide (yl < xl))))) := by
  unfold winsB
  by_cases h : xa = ya
  · subst h
    have e : decide (xa + (yl : Int) < xa + (xl : Int)) = decide (yl < xl) := by simp
    rw [e]
  · rw [beq_eq_false_iff_ne.2 h]
    simp
theorem info_int15 : (Try.prog.info? 3).map (fun i => (i.zero, i.size, i.bytes)) = some (some (.int .i64 0), 1, 8) := by kernel_rfl
theorem own_str15 {w : World} {base n c : Nat} {A : Option Addr} {l : List UInt8} (h : w.ownsRow base 5 1 (.slice A n c) n (cellsOf l)) (hn : n = l.length) : (convert 57 9 (.slice A n c)).run Try.prog w = .ok (.string (str l)) w := by
  subst hn
  exact bs_string (bs_of_own h)
theorem OwM.le {l : List PcR} {c : List CeR} {OW : Nat → Nat} (h : OwM l c OW) {p : Nat} (hp : p < 200) : OW p ≤ l.length := by
  cases hv : OW p with
  | zero => exact Nat.zero_le _
  | succ j =>
    obtain ⟨x, hx, -⟩ := (h p hp).2 j hv
    have := (List.getElem?_eq_some_iff.1 hx).1
    omega
theorem ModI.ow {pol : Int} {l : List PcR} {i k : Nat} {x : PcR} {OW : Nat → Nat} {df : Nat} (h : ModI pol l i k x OW df) {p : Nat} (hp : p < 200) : OW p ≤ l.length := by
  obtain ⟨out, -, -, -, h4⟩ := h.out
  exact h4.le hp
theorem upd_row {w : World} {g N : Nat} {t : TypeId} {OW : Nat → Nat} {p v : Nat} (h : w.rowIs g t N (fun q => .int .i64 (OW q : Int))) : (w.setCell ⟨g, p, none⟩ (.int .i64 (v : Int))).rowIs g t N (fun q => .int .i64 (updF OW p v q : Int)) :=
  (h.set p _).congr (fun q _ => by
    unfold updF
    by_cases e : q = p
    · rw [if_pos e, if_pos e]
    · rw [if_neg e, if_neg e])
set_option maxHeartbeats 40000000 in
theorem model15_any (l : List PcR) (A : Option Addr) (c : Nat) (pol : Int) (w : World) (h : RowL EPc w A l) (hl : l.length ≤ 12) (hin : ∀ x ∈ l, inR x) (hp1 : 1 ≤ pol) (hp4 : pol ≤ 4) :
    Calls Try.prog 26 #[.slice A l.length c, .int .i64 pol] w fun e w' => e = .returned (.tuple #[.string (str (takL (pcs (insAll pol l)) 0)), .int .i64 (difAll pol l [] : Int)]) ∧ Below w.heap.size w w' := by
  obtain ⟨n, hn⟩ : ∃ n, n = l.length := ⟨_, rfl⟩
  rw [← hn] at hl ⊢
  have HN := Lib.hid hn
  have HS := Lib.hid h
  have HIN := Lib.hid hin
  have HPP := Lib.hid (And.intro hp1 hp4)
  obtain ⟨N, hNN⟩ : ∃ N : Nat, N = 200 := ⟨_, rfl⟩
  have hN2 : (200 : Int) = (N : Int) := by omega
  have hmk := fun W => run_make_row' (P := Try.prog) 59 3 (.int .i64 0) 8 Try.underlying59 info_int15 rfl .i64 .i64 N (by omega) (by omega) W
  rw [← hN2] at hmk
  have HNN := Lib.hid hNN
  clear hn h hin hp1 hp4 hN2 hNN
  obtain ⟨g, hg⟩ : ∃ g, g = w.heap.size := ⟨_, rfl⟩
  obtain ⟨W1, hW1⟩ : ∃ W, W = w.alloc (.cells (madeCells #[.int .i64 0] N) 3) := ⟨_, rfl⟩
  have HR0 := Lib.hid (show W1.rowIs g 3 N (fun q => .int .i64 (((fun _ => 0 : Nat → Nat) q : Nat) : Int)) from by rw [hW1, hg]; exact World.rowIs_made w (.int .i64 0) N 3)
  have HB0 := Lib.hid (show Below w.heap.size w W1 from by rw [hW1]; exact below_alloc6 w _)
  have HG := Lib.hid hg
  go_enter Try.func26, Try.ntmps26
  go_wp2_with fail
  rw [← hg, ← hW1]
  clear hg hW1 hmk
  go_loopw [7, 8] (fun v7 v8 wr => ∃ (i df : Nat) (OW : Nat → Nat), v7 = .int .i64 (df : Int) ∧ v8 = .int .i64 (i : Int) ∧ i ≤ n ∧ df ≤ i * 50 ∧ Hid (wr.rowIs g 3 N (fun q => .int .i64 (OW q : Int))) ∧ Hid (OwM l (insAll pol (l.take i)) OW) ∧ Hid (df = difAll pol (l.take i) []) ∧ Hid (Below w.heap.size w wr)) (fun _ v8 _ => n - (intOf v8).toNat)
  case atStart => exact ⟨0, 0, fun _ => 0, rfl, rfl, Nat.zero_le _, Nat.zero_le _, HR0, Lib.hid (by rw [List.take_zero]; exact OwM.nil l), Lib.hid (by rw [List.take_zero]; rfl), HB0⟩
  case round =>
    clear HR0 HB0
    obtain ⟨i, df, OW, rfl, rfl, hi, hdf, HROW, HOW, HDF, HB⟩ := hrel
    by_cases hlt : i < n
    · have hki : (i : Int) < (n : Int) := by omega
      have hki0 : (0 : Int) ≤ (i : Int) := by omega
      have dlt : decide ((i : Int) < (n : Int)) = true := by simp; omega
      obtain ⟨x, hget⟩ : ∃ x, l[i]? = some x := ⟨l[i]'(by have := HN.out; omega), List.getElem?_eq_getElem _⟩
      obtain ⟨ga, ob, rfl, hga⟩ := HS.out.shapeA (by have := HN.out; omega)
      have hix := HIN.out x (List.mem_of_getElem? hget)
      have HMI0 := Lib.hid (ModI.start HIN.out hget HOW.out)
      have HGET := Lib.hid hget
      have HIX := Lib.hid hix
      obtain ⟨xa, hxa⟩ : ∃ k : Nat, x.at_ = (k : Int) := ⟨x.at_.toNat, by have := hix.1; omega⟩
      have hxa150 : xa ≤ 150 := by have := hix.2.1; omega
      obtain ⟨m, hm⟩ : ∃ m, m = x.dat.length := ⟨_, rfl⟩
      have hm50 : m ≤ 50 := by have := hix.2.2; omega
      obtain ⟨X, hX⟩ : ∃ X, X = str x.dat := ⟨_, rfl⟩
      have hXs : X.size = m := by rw [hX, str_size, hm]
      have HXX := Lib.hid hX
      have HM := Lib.hid hm
      have HXA := Lib.hid hxa
      have HCX := Lib.hid (fun (W : World) (hb : Below w.heap.size w W) => show W.cell? ⟨ga, ob + i * 4, none⟩ = some (.int .i64 (xa : Int)) ∧ W.cell? ⟨ga, ob + i * 4 + 1, none⟩ = some (.string X) from by
        obtain ⟨c0, c1, -, -⟩ := pc_at HS.out hget hb
        rw [hxa] at c0
        rw [← hX] at c1
        exact ⟨c0, c1⟩)
      rw [← HDF.out] at HMI0
      clear hget hix hxa hm hX HOW HDF
      go_wp2_with fail
      go_loopw [7, 9] (fun v7 v9 wz => ∃ (k df : Nat) (OW : Nat → Nat), v7 = .int .i64 (df : Int) ∧ v9 = .int .i64 (k : Int) ∧ k ≤ m ∧ df ≤ i * 50 + k ∧ Hid (wz.rowIs g 3 N (fun q => .int .i64 (OW q : Int))) ∧ Hid (ModI pol l i k x OW df) ∧ Hid (Below w.heap.size w wz)) (fun _ v9 _ => m - (intOf v9).toNat)
      case atStart => exact ⟨0, df, OW, rfl, rfl, Nat.zero_le _, by omega, HROW, HMI0, HB⟩
      case round =>
        clear HROW HMI0 HB hdf
        obtain ⟨k, df, OW, rfl, rfl, hk, hdf, HROW, HMI, HB⟩ := hrel
        obtain ⟨c0, c1⟩ := HCX.out _ HB.out
        by_cases hkm : k < m
        · have hkmi : (k : Int) < (m : Int) := by omega
          have dkm : decide ((k : Int) < (m : Int)) = true := by simp; omega
          obtain ⟨p, hp⟩ : ∃ p, p = xa + k := ⟨_, rfl⟩
          have hpi : (xa : Int) + (k : Int) = (p : Int) := by omega
          have hp200 : p < 200 := by omega
          have hpN : p < N := by have := HNN.out; omega
          have hpNi : (p : Int) < (N : Int) := by omega
          have hpi0 : (0 : Int) ≤ (p : Int) := by omega
          obtain ⟨i1, hi1⟩ : ∃ i1, i1 = i + 1 := ⟨_, rfl⟩
          have hii1 : (i : Int) + 1 = (i1 : Int) := by omega
          obtain ⟨v, hv⟩ : ∃ v, v = OW p := ⟨_, rfl⟩
          have hvn : v ≤ n := by rw [hv, HN.out]; exact HMI.out.ow hp200
          have oc := HROW.out.cell hpN
          rw [← hv] at oc
          have oz := HROW.out.frozen p
          have hgl := HROW.out.lt
          have HI1 := Lib.hid hi1
          have HP := Lib.hid hp
          have HVV := Lib.hid hv
          have hkd : k < x.dat.length := by have := HM.out; omega
          have HKD := Lib.hid hkd
          have HXI := Lib.hid (show (0 : Int) ≤ x.at_ ∧ ((p : Nat) : Int) = x.at_ + (k : Nat) from ⟨HIX.out.1, by rw [HXA.out]; omega⟩)
          have hB2 := HB.out.setCell (p := ⟨g, p, none⟩) (by have := HG.out; simp only; omega) (.int .i64 (i1 : Int))
          have HB2 := Lib.hid hB2
          clear hi1 hp hv hkd hB2
          by_cases hv0 : v = 0
          · have ez : ((v : Int) == 0) = true := by simp; omega
            have HMI2 := Lib.hid (show ModI pol l i (k + 1) x (updF OW p i1) df from by
              rw [HI1.out]
              exact HMI.out.free HGET.out HKD.out HXI.out.2 HXI.out.1 hp200 (by rw [← HVV.out]; exact hv0))
            have HROW2 := Lib.hid (upd_row (p := p) (v := i1) HROW.out)
            clear hv0 HMI HVV
            go_wp2_with fail
            go_roundw
            case rel => exact ⟨k + 1, df, _, rfl, by go_num, by omega, by omega, HROW2, HMI2, HB2⟩
            case measure => simp [intOf]; omega
          · have ez : ((v : Int) == 0) = false := by rw [beq_eq_false_iff_ne]; omega
            obtain ⟨j, hj⟩ : ∃ j, v = j + 1 := ⟨v - 1, by omega⟩
            have hvj : (v : Int) - 1 = (j : Int) := by omega
            have hjn : (j : Int) < (n : Int) := by omega
            have hjn0 : (0 : Int) ≤ (j : Int) := by omega
            obtain ⟨y, hgy⟩ : ∃ y, l[j]? = some y := ⟨l[j]'(by have := HN.out; omega), List.getElem?_eq_getElem _⟩
            obtain ⟨⟨hy1, hy2⟩, hmi2⟩ := HMI.out.over HGET.out HKD.out HXI.out.2 HXI.out.1 hp200 (by rw [← HVV.out]; exact hj) hgy
            have hiy := HIN.out y (List.mem_of_getElem? hgy)
            obtain ⟨e0, e1, e2, e3⟩ := pc_at HS.out hgy HB.out
            obtain ⟨ya, hya⟩ : ∃ k : Nat, y.at_ = (k : Int) := ⟨y.at_.toNat, by have := hiy.1; omega⟩
            obtain ⟨Y, hY⟩ : ∃ Y, Y = str y.dat := ⟨_, rfl⟩
            obtain ⟨yl, hyl⟩ : ∃ m, m = y.dat.length := ⟨_, rfl⟩
            have hYs : Y.size = yl := by rw [hY, str_size, hyl]
            have hyl50 : yl ≤ 50 := by have := hiy.2.2; omega
            rw [hya] at e0
            rw [← hY] at e1
            obtain ⟨o, ho⟩ : ∃ o : Nat, o = p - ya := ⟨_, rfl⟩
            have hoi : (p : Int) - (ya : Int) = (o : Int) := by omega
            have hol : o < Y.size := by omega
            have holi : (o : Int) < (yl : Int) := by omega
            have hoi0 : (0 : Int) ≤ (o : Int) := by omega
            have hkX : k < X.size := by omega
            obtain ⟨bY, hbY⟩ : ∃ b, b = ((Y[o]'hol).toNat : Nat) := ⟨_, rfl⟩
            obtain ⟨bX, hbX⟩ : ∃ b, b = ((X[k]'hkX).toNat : Nat) := ⟨_, rfl⟩
            have hbYi : (((Y[o]'hol).toNat : Nat) : Int) = (bY : Int) := by rw [hbY]
            have hbXi : (((X[k]'hkX).toNat : Nat) : Int) = (bX : Int) := by rw [hbX]
            obtain ⟨q, hq⟩ : ∃ q : Bool, ((bY : Int) != (bX : Int)) = q := ⟨_, rfl⟩
            have hqn : (bY != bX) = q := by
              rw [← hq]
              by_cases hh : bY = bX
              · rw [hh]; simp
              · rw [bne_iff_ne.2 hh, bne_iff_ne.2 (show (bY : Int) ≠ (bX : Int) by omega)]
            have hdq : (y.dat.getD ((p : Int) - y.at_).toNat 0 ≠ x.dat[k]'HKD.out) ↔ q = true := by
              have hyo : (Y[o]'hol) = y.dat[o]'(by omega) := by subst hY; exact str_getO y.dat o (by omega) hol
              have hxo : (X[k]'hkX) = x.dat[k]'HKD.out := by have hx2 := HXX.out; subst hx2; exact str_getO x.dat k HKD.out hkX
              have hgd : y.dat.getD ((p : Int) - y.at_).toNat 0 = y.dat[o]'(by omega) := by
                rw [hya, show ((p : Int) - (ya : Int)).toNat = o by omega]
                simp [List.getD, List.getElem?_eq_getElem (show o < y.dat.length by omega)]
              rw [hgd, ← hyo, ← hxo, ← hqn, hbY, hbX, bne_iff_ne]
              exact ⟨fun h1 h2 => h1 (UInt8.toNat_inj.1 h2), fun h1 h2 => h1 (by rw [h2])⟩
            have HDQ := Lib.hid hdq
            have HMI2 := Lib.hid hmi2
            have hwm := wins_model pol x.at_ y.at_ x.dat.length y.dat.length
            rw [HXA.out, hya, ← hyl, ← HM.out] at hwm
            have HWM := Lib.hid hwm
            have HY2 := Lib.hid (And.intro hya hyl)
            obtain ⟨yf, hyf⟩ : ∃ z, z = y.fr := ⟨_, rfl⟩
            obtain ⟨yt, hyt⟩ : ∃ z, z = y.to_ := ⟨_, rfl⟩
            rw [← hyf] at e2
            rw [← hyt] at e3
            have hbl : bY < 256 ∧ bX < 256 := by rw [hbY, hbX]; exact ⟨u8_lt _, u8_lt _⟩
            have HBL := Lib.hid hbl
            clear hv0 hj hgy hy1 hy2 hmi2 hiy hya hY hyl ho hbY hbX hdq hwm hyf hyt hbl hqn
            go_upto_region 13 with fail
            obtain ⟨Wb, hWb⟩ : ∃ W, W = wr.alloc (.cells #[.int .i64 (ya : Int), .string Y, .int .i64 yf, .int .i64 yt] 23) := ⟨_, rfl⟩
            obtain ⟨gb, hgb⟩ : ∃ g, g = wr.heap.size := ⟨_, rfl⟩
            have HXB := Lib.hid (show Cells Wb gb 23 #[.int .i64 (ya : Int), .string Y, .int .i64 yf, .int .i64 yt] by rw [hWb, hgb]; exact heap_alloc_new wr _)
            have hBb : Below w.heap.size w Wb := by rw [hWb]; exact HB.out.alloc HB.out.size _
            have HBb := Lib.hid hBb
            have HRB := Lib.hid (show Wb.rowIs g 3 N (fun q => .int .i64 (OW q : Int)) from by rw [hWb]; exact HROW.out.alloc _)
            rw [← hgb, ← hWb]
            clear hgb hWb hBb c0 c1 oc oz hgl e0 e1 e2 e3 HB2 HROW
            refine wp_region_pick (fun w' => Below Wb.heap.size Wb w') (by kernel_rfl) (by kernel_rfl) (Below.refl _ _) ⟨rfl, rfl, rfl, Nat.le_refl _, fun _ _ => rfl⟩ (fun pw hp hq2 => ?_)
            have u0 := fun u => ((Cells.kept HXB.out (hp u) HXB.out.lt).cell 0).trans (show _ = some (Value.int .i64 (ya : Int)) from rfl)
            have u1 := fun u => ((Cells.kept HXB.out (hp u) HXB.out.lt).cell 1).trans (show _ = some (Value.string Y) from rfl)
            have c0 := fun u => (HCX.out (pw u) (HBb.out.trans ((hp u).mono HBb.out.size))).1
            have c1 := fun u => (HCX.out (pw u) (HBb.out.trans ((hp u).mono HBb.out.size))).2
            have HPW := Lib.hid hp
            clear hp hq2
            repeat (go_big_quiet_step (fail))
            refine wpQuiet_nil ?_
            rintro _ ⟨u, rfl⟩
            have HX6 := Lib.hid (Cells.kept HXB.out (HPW.out u) HXB.out.lt)
            have HB6 := Lib.hid (HBb.out.trans ((HPW.out u).mono HBb.out.size))
            have HR6 := Lib.hid (HRB.out.of_block ((HPW.out u).block g HRB.out.lt))
            generalize pw u = w6 at *
            clear HPW u0 u1 c0 c1 HXB HBb HRB Wb
            obtain ⟨E1, hE1⟩ : ∃ b : Bool, decide ((xa : Int) < (ya : Int)) = b := ⟨_, rfl⟩
            obtain ⟨E2, hE2⟩ : ∃ b : Bool, ((xa : Int) == (ya : Int)) = b := ⟨_, rfl⟩
            obtain ⟨E3, hE3⟩ : ∃ b : Bool, decide ((yl : Int) < (m : Int)) = b := ⟨_, rfl⟩
            have hE1n : decide (xa < ya) = E1 := by rw [← hE1]; simp
            have hE2n : (xa == ya) = E2 := by
              rw [← hE2]
              by_cases hh : xa = ya
              · rw [hh]; simp
              · rw [beq_eq_false_iff_ne.2 hh, beq_eq_false_iff_ne.2 (show (xa : Int) ≠ (ya : Int) by omega)]
            have hE3n : decide (yl < m) = E3 := by rw [← hE3]; simp
            have HWB := Lib.hid (show winsB pol y.at_ (y.at_ + y.dat.length) x.at_ (x.at_ + x.dat.length) = (pol == 2 || (pol == 3 && E1) || (pol == 4 && (E1 || (E2 && E3)))) from by
              rw [HY2.out.1, ← HY2.out.2, HXA.out, ← HM.out, HWM.out, hE1, hE2, hE3n])
            obtain ⟨df1, hdf1⟩ : ∃ d, d = df + (if q = true then 1 else 0) := ⟨_, rfl⟩
            have hdf1l : df1 ≤ i * 50 + (k + 1) := by rw [hdf1]; split <;> omega
            have HMI3 := Lib.hid (show ModI pol l i (k + 1) x (if (pol == 2 || (pol == 3 && E1) || (pol == 4 && (E1 || (E2 && E3)))) = true then updF OW p i1 else OW) df1 from by
              have := HMI2.out
              rw [HWB.out, ← HI1.out] at this
              rw [hdf1]
              have e : (if y.dat.getD ((p : Int) - y.at_).toNat 0 ≠ x.dat[k]'HKD.out then 1 else 0) = if q = true then 1 else 0 := by
                by_cases hh : q = true
                · rw [if_pos hh, if_pos (HDQ.out.2 hh)]
                · rw [if_neg hh, if_neg (fun h => hh (HDQ.out.1 h))]
              rw [e] at this
              exact this)
            have HDF1 := Lib.hid hdf1
            have hdq1 : q = true → (df : Int) + 1 = (df1 : Int) := fun hh => by rw [hdf1, if_pos hh]; rfl
            have hdq0 : q = false → df = df1 := fun hh => by rw [hdf1, hh]; rfl
            have HQ1 := Lib.hid hdq1
            have HQ0 := Lib.hid hdq0
            have hdfs : df ≤ 600 ∧ df1 ≤ 650 := by constructor <;> omega
            have hdfa := hdfs.1
            have HPO := Lib.hid (show pol = 1 ∨ pol = 2 ∨ pol = 3 ∨ pol = 4 by have := HPP.out; omega)
            clear hdf1 hdq1 hdq0 HMI2 HWM HWB HDQ HMI
            cases q
            all_goals
              first
                | obtain rfl := HQ0.out rfl
                | have hdfi := HQ1.out rfl
              cases E2
              all_goals
                go_upto_region 15 with fail
                refine wp_region_pick (fun w' => Below w6.heap.size w6 w') (by kernel_rfl) (by kernel_rfl) (Below.refl _ _) ⟨rfl, rfl, rfl, Nat.le_refl _, fun _ _ => rfl⟩ (fun pw hp hq2 => ?_)
                have u0 := fun u => ((Cells.kept HX6.out (hp u) HX6.out.lt).cell 0).trans (show _ = some (Value.int .i64 (ya : Int)) from rfl)
                have u1 := fun u => ((Cells.kept HX6.out (hp u) HX6.out.lt).cell 1).trans (show _ = some (Value.string Y) from rfl)
                have c0 := fun u => (HCX.out (pw u) (HB6.out.trans ((hp u).mono HB6.out.size))).1
                have c1 := fun u => (HCX.out (pw u) (HB6.out.trans ((hp u).mono HB6.out.size))).2
                have HPW := Lib.hid hp
                clear hp hq2
                repeat (go_big_quiet_step (fail))
                refine wpQuiet_nil ?_
                rintro _ ⟨u, rfl⟩
                have HB7 := Lib.hid (HB6.out.trans ((HPW.out u).mono HB6.out.size))
                have HR7 := Lib.hid (HR6.out.of_block ((HPW.out u).block g HR6.out.lt))
                generalize pw u = w7 at *
                clear HPW u0 u1 c0 c1
                have oc := HR7.out.cell hpN
                have oz := HR7.out.frozen p
                have hgl := HR7.out.lt
                have HB8 := Lib.hid (HB7.out.setCell (p := ⟨g, p, none⟩) (by have := HG.out; simp only; omega) (.int .i64 (i1 : Int)))
                have HR8 := Lib.hid (upd_row (p := p) (v := i1) HR7.out)
                rcases HPO.out with rfl | rfl | rfl | rfl
                · have HM8 := Lib.hid (show ModI 1 l i (k + 1) x OW _ from HMI3.out)
                  clear HMI3
                  go_wp2_with fail
                  go_roundw
                  case rel => exact ⟨k + 1, _, OW, rfl, by go_num, by omega, hdf1l, HR7, HM8, HB7⟩
                  case measure => simp [intOf]; omega
                · have HM8 := Lib.hid (show ModI 2 l i (k + 1) x (updF OW p i1) _ from HMI3.out)
                  clear HMI3
                  go_wp2_with fail
                  go_roundw
                  case rel => exact ⟨k + 1, _, _, rfl, by go_num, by omega, hdf1l, HR8, HM8, HB8⟩
                  case measure => simp [intOf]; omega
                · cases E1
                  · have HM8 := Lib.hid (show ModI 3 l i (k + 1) x OW _ from HMI3.out)
                    clear HMI3
                    go_wp2_with fail
                    go_roundw
                    case rel => exact ⟨k + 1, _, OW, rfl, by go_num, by omega, hdf1l, HR7, HM8, HB7⟩
                    case measure => simp [intOf]; omega
                  · have HM8 := Lib.hid (show ModI 3 l i (k + 1) x (updF OW p i1) _ from HMI3.out)
                    clear HMI3
                    go_wp2_with fail
                    go_roundw
                    case rel => exact ⟨k + 1, _, _, rfl, by go_num, by omega, hdf1l, HR8, HM8, HB8⟩
                    case measure => simp [intOf]; omega
                · cases E1
                  · cases E3
                    all_goals
                      have HM8 := Lib.hid HMI3.out
                      clear HMI3
                      simp only [show ((4 : Int) == 2) = false from rfl, show ((4 : Int) == 3) = false from rfl, show ((4 : Int) == 4) = true from rfl, Bool.false_or, Bool.or_false, Bool.and_false, Bool.and_true, Bool.false_eq_true, if_false, if_true] at HM8
                      go_wp2_with fail
                      go_roundw
                      case rel => first | exact ⟨k + 1, _, OW, rfl, by go_num, by omega, hdf1l, HR7, HM8, HB7⟩ | exact ⟨k + 1, _, _, rfl, by go_num, by omega, hdf1l, HR8, HM8, HB8⟩
                      case measure => simp [intOf]; omega
                  · have HM8 := Lib.hid (show ModI 4 l i (k + 1) x (updF OW p i1) _ from HMI3.out)
                    clear HMI3
                    go_wp2_with fail
                    go_roundw
                    case rel => exact ⟨k + 1, _, _, rfl, by go_num, by omega, hdf1l, HR8, HM8, HB8⟩
                    case measure => simp [intOf]; omega
        · obtain rfl : k = m := by omega
          have dkm : decide ((k : Int) < (k : Int)) = false := by simp
          have nkm : ¬ (k : Int) < (k : Int) := by omega
          have hfin := HMI.out
          rw [HM.out] at hfin
          have HF1 := Lib.hid (ModI.finish HGET.out hfin).1
          have HF2 := Lib.hid (ModI.finish HGET.out hfin).2
          clear hfin HMI
          go_wp2_with fail
          go_roundw
          case rel => exact ⟨i + 1, df, OW, rfl, by go_num, by omega, by omega, HROW, HF1, HF2, HB⟩
          case measure => simp [intOf]; omega
    · obtain rfl : i = n := by omega
      have dlt : decide ((i : Int) < (i : Int)) = false := by simp
      have nlt : ¬ (i : Int) < (i : Int) := by omega
      have HOW2 := Lib.hid (show OwM l (insAll pol l) OW from by have := HOW.out; rwa [HN.out, List.take_length] at this)
      have HDF2 := Lib.hid (show df = difAll pol l [] from by have := HDF.out; rwa [HN.out, List.take_length] at this)
      have HAI := Lib.hid (show AllI (insAll pol l) l.length from by have := AllI.take pol HIN.out l.length (Nat.le_refl _); rwa [List.take_length] at this)
      have hgl0 := HROW.out.lt
      have HOO := Lib.hid (show wr.ownsRow (g + 1) 5 1 (.slice none 0 0) 0 (cellsOf []) from World.ownsRow_nil wr (g + 1) 5 1)
      have HGL0 := Lib.hid hgl0
      clear HOW HDF hgl0
      go_wp2_with fail
      go_loopw [14, 15] (fun v14 v15 wz => ∃ (b : List UInt8) (z : Nat) (A3 : Option Addr) (c3 : Nat), v14 = .slice A3 z c3 ∧ v15 = .int .i64 (z : Int) ∧ z ≤ N ∧ Hid (z = b.length) ∧ Hid (RedI (insAll pol l) b) ∧ Hid (wz.rowIs g 3 N (fun q => .int .i64 (OW q : Int))) ∧ Hid (wz.ownsRow (g + 1) 5 1 (.slice A3 z c3) z (cellsOf b)) ∧ Hid (Below w.heap.size w wz)) (fun _ v15 _ => N - (intOf v15).toNat)
      case atStart => exact ⟨[], 0, none, 0, rfl, rfl, Nat.zero_le _, Lib.hid rfl, Lib.hid (RedI.start _), HROW, HOO, HB⟩
      case round =>
        clear HROW HOO HB HGL0
        obtain ⟨b, z, A3, c3, rfl, rfl, hzN, HZ, HRD, HROW, HO, HB⟩ := hrel
        by_cases hz : z < N
        · have hz200 : z < 200 := by have := HNN.out; omega
          have hzi : (z : Int) < (N : Int) := by omega
          have hzi0 : (0 : Int) ≤ (z : Int) := by omega
          have dz : decide ((z : Int) < (N : Int)) = true := by simp; omega
          obtain ⟨v, hv⟩ : ∃ v, v = OW z := ⟨_, rfl⟩
          have oc := HROW.out.cell hz
          rw [← hv] at oc
          have hvn : v ≤ i := by rw [hv, HN.out]; exact HOW2.out.le hz200
          by_cases hv0 : v = 0
          · have dv : decide ((0 : Int) < (v : Int)) = false := by simp; omega
            have nv : ¬ (0 : Int) < (v : Int) := by omega
            have hfin := HRD.out.stop (by rw [← HZ.out]; exact (HOW2.out z hz200).1 (by rw [← hv]; exact hv0))
            have HF := Lib.hid hfin
            have hcv := own_str15 HO.out HZ.out
            clear hv hv0 hfin
            go_wp2_with fail
            go_ret2
            exact ⟨by rw [HF.out, ← HDF2.out]; rfl, HB.out⟩
          · have dv : decide ((0 : Int) < (v : Int)) = true := by simp; omega
            have nv : (0 : Int) < (v : Int) := by omega
            obtain ⟨j, hj⟩ : ∃ j, v = j + 1 := ⟨v - 1, by omega⟩
            have hvj : (v : Int) - 1 = (j : Int) := by omega
            have hjn : (j : Int) < (i : Int) := by omega
            have hjn0 : (0 : Int) ≤ (j : Int) := by omega
            obtain ⟨y, hgy, hy1, hy2, hfn⟩ := (HOW2.out z hz200).2 j (by rw [← hv]; exact hj)
            obtain ⟨ga, ob, rfl, hga⟩ := HS.out.shapeA (by have := HN.out; omega)
            have hiy := HIN.out y (List.mem_of_getElem? hgy)
            obtain ⟨e0, e1, e2, e3⟩ := pc_at HS.out hgy HB.out
            obtain ⟨ya, hya⟩ : ∃ k : Nat, y.at_ = (k : Int) := ⟨y.at_.toNat, by have := hiy.1; omega⟩
            obtain ⟨Y, hY⟩ : ∃ Y, Y = str y.dat := ⟨_, rfl⟩
            obtain ⟨yl, hyl⟩ : ∃ m, m = y.dat.length := ⟨_, rfl⟩
            have hYs : Y.size = yl := by rw [hY, str_size, hyl]
            rw [hya] at e0
            rw [← hY] at e1
            obtain ⟨o, ho⟩ : ∃ o : Nat, o = z - ya := ⟨_, rfl⟩
            have hoi : (z : Int) - (ya : Int) = (o : Int) := by omega
            have hol : o < Y.size := by omega
            have holi : (o : Int) < (yl : Int) := by omega
            have hoi0 : (0 : Int) ≤ (o : Int) := by omega
            obtain ⟨bc, hbc⟩ : ∃ c, c = y.dat[o]'(by omega) := ⟨_, rfl⟩
            obtain ⟨bY, hbY⟩ : ∃ b, b = bc.toNat := ⟨_, rfl⟩
            have hbYi : (((Y[o]'hol).toNat : Nat) : Int) = (bY : Int) := by
              have : (Y[o]'hol) = y.dat[o]'(by omega) := by subst hY; exact str_getO y.dat o (by omega) hol
              rw [this, hbY, hbc]
            have HRD2 := Lib.hid (show RedI (insAll pol l) (b ++ [bc]) from by
              have := HRD.out.next HAI.out.srt (by rw [← HZ.out]; exact hfn)
              rw [hya, show ((z : Int) - (ya : Int)).toNat = o by omega] at this
              rw [hbc]
              have e : y.dat.getD o 0 = y.dat[o]'(by omega) := by simp [List.getD, List.getElem?_eq_getElem (show o < y.dat.length by omega)]
              rw [e] at this
              exact this)
            have HEC := Lib.hid (show EU8.cells [bc] = [.int .u8 (bY : Int)] from by rw [eu8_cells, hbY]; rfl)
            have HZ2 := Lib.hid (show z + 1 = (b ++ [bc]).length from by rw [List.length_append, HZ.out]; rfl)
            have hO := HO.out
            rw [← eu8_cells] at hO
            have HOE := Lib.hid hO
            obtain ⟨yf, hyf⟩ : ∃ z, z = y.fr := ⟨_, rfl⟩
            obtain ⟨yt, hyt⟩ : ∃ z, z = y.to_ := ⟨_, rfl⟩
            rw [← hyf] at e2
            rw [← hyt] at e3
            have HGLT := Lib.hid HROW.out.lt
            have HBX := Lib.hid HB.out.size
            have hb256 : bY < 256 := by rw [hbY]; exact u8_lt _
            clear hv hv0 hj hgy hy1 hy2 hfn hiy hya hY hyl ho hbc hbY hyf hyt hO HO
            have X1 := Lib.hid (show Cells (wr.alloc (.cells #[.int .i64 (ya : Int), .string Y, .int .i64 yf, .int .i64 yt] 23)) wr.heap.size 23 #[.int .i64 (ya : Int), .string Y, .int .i64 yf, .int .i64 yt] from heap_alloc_new wr _)
            go_wp2_with (at_builtin; refine wpList_push (E := EU8) u8Ty10 (by rfl) _ _ (by rfl) (g + 1) _ z b [bc] (by rfl) ((HOE.out.alloc _).alloc _) _ 1 1 #[.int .u8 (bY : Int)] (0, 0) (by rfl) (twoO_new _ _ _) HEC.out.symm rfl (by omega) (by omega) (by decide) ?hb ?_)
            case hb => have := HGLT.out; simp; omega
            intro g2 cap2 w9 hown hgrow hat hlt2
            have HB9 := Lib.hid (((HB.out.alloc HB.out.size (.cells #[.int .i64 (ya : Int), .string Y, .int .i64 yf, .int .i64 yt] 23)).alloc (by have := HBX.out; simp; omega) (.cells #[.int .u8 (bY : Int)] 5)).grown hgrow (by have := HBX.out; simp; omega) (fun j hj => by have h1 := (own_blk_in HOE.out _ hj).1; have h2 := HG.out; omega))
            have HO9 := Lib.hid (show w9.ownsRow (g + 1) 5 1 (.slice (some ⟨g2, 0, none⟩) (z + 1) cap2) (z + 1) (cellsOf (b ++ [bc])) from by rw [← eu8_cells]; exact hown)
            have HR9 := Lib.hid (((HROW.out.alloc (.cells #[.int .i64 (ya : Int), .string Y, .int .i64 yf, .int .i64 yt] 23)).alloc (.cells #[.int .u8 (bY : Int)] 5)).of_block (hgrow.block g (by have := HGLT.out; simp; omega) (fun e => by have := (own_blk_in HOE.out _ e.symm).1; omega)))
            clear hown hgrow hat hlt2 HOE HROW HB
            go_wp2_with fail
            go_roundw
            case rel => exact ⟨b ++ [bc], z + 1, _, cap2, rfl, by go_num, by omega, HZ2, HRD2, HR9, HO9, HB9⟩
            case measure => simp [intOf]; omega
        · obtain rfl : z = N := by omega
          have dz : decide ((z : Int) < (z : Int)) = false := by simp
          have nz : ¬ (z : Int) < (z : Int) := by omega
          have hfin := HRD.out.stop (by rw [← HZ.out, HNN.out]; exact HAI.out.far _ (by decide))
          have HF := Lib.hid hfin
          have hcv := own_str15 HO.out HZ.out
          clear hfin
          go_wp2_with fail
          go_ret2
          exact ⟨by rw [HF.out, ← HDF2.out]; rfl, HB.out⟩
end Go.Proofs.Ytafpmlikocchpaa

/- OverlapBytes: the walk, over the bundle P15. -/
namespace Go.Proofs.Ytafpmlikocchpaa
open Go.ChangeShapes Go.WideShapes Go.ChangeAt Go.RowKit
set_option linter.unusedVariables false
set_option maxRecDepth 100000

set_option maxHeartbeats 8000000 in
set_option maxRecDepth 100000 in
theorem walkB15 {T : World → Prop} (H : P15 T) (l : List PcR) (A : Option Addr) (c : Nat) (pol : Int) (w : World) (hT : T w) (hr : RowL EPc w A l) (hA : A = none → c = 0) (hm : l.length ≤ maxLen) (hf : ∀ y ∈ l, pcWf y) (hp : (Lit.int .i64 pol).wf = true) :
    Calls Try.prog 6 #[.slice A l.length c, .int .i64 pol] w fun e w' => e = .returned (.bool true) ∧ Below w.heap.size w w' := by
  obtain ⟨n, hn⟩ : ∃ n, n = l.length := ⟨_, rfl⟩
  rw [← hn]
  have HK := Lib.hid H.keep
  have HL := Lib.hid (fun (W : World) (hW : T W) => awk15 H W hW)
  have B0 := Lib.hid (Below.refl w.heap.size w)
  have K0 := Lib.hid hT
  have Rl0 := Lib.hid hr
  have hW := fun (W : World) (h : RowL EPc W A l) => show Calls Try.prog 25 #[.slice A n c] W fun e w' => e = .returned (.bool (wthB l)) ∧ Below W.heap.size W w' from by
    rw [hn]
    exact (within15_any l A c W h hm).mono fun e w' ⟨h1, h2⟩ => ⟨h1, h2 ▸ Below.refl _ _⟩
  cases hwt : wthB l with
  | false =>
    rw [hwt] at hW
    have HWI := Lib.hid hW
    clear hW hwt hr hA hm hf hn hT hp
    go_enter Try.func6, Try.ntmps6
    go_wp2_with fail
    refine (HL.out _ K0.out).mono ?_
    rintro e w1 ⟨rfl, hb⟩
    clear HL
    have Rl1 := Lib.hid (Rl0.out.kept hb)
    have K1 := Lib.hid (HK.out _ _ K0.out hb)
    have B1 := Lib.hid (B0.out.trans (hb.mono B0.out.size))
    clear hb Rl0 K0 B0
    go_wp2_with fail
    refine (HWI.out _ Rl1.out).mono ?_
    rintro e w2 ⟨rfl, hb⟩
    clear HWI
    have Rl2 := Lib.hid (Rl1.out.kept hb)
    have K2 := Lib.hid (HK.out _ _ K1.out hb)
    have B2 := Lib.hid (B1.out.trans (hb.mono B1.out.size))
    clear hb Rl1 K1 B1
    go_wp2_with fail
    go_ret
    exact ⟨rfl, B2.out⟩
  | true =>
    rw [hwt] at hW
    have HWI := Lib.hid hW
    obtain ⟨hl12, hin⟩ := wthB_true hwt
    clear hW hwt
    by_cases hp1 : pol < 1
    · have d1 : decide (pol < 1) = true := decide_eq_true hp1
      clear hl12 hin hr hA hm hf hn hT hp
      go_enter Try.func6, Try.ntmps6
      go_wp2_with fail
      refine (HL.out _ K0.out).mono ?_
      rintro e w1 ⟨rfl, hb⟩
      clear HL
      have Rl1 := Lib.hid (Rl0.out.kept hb)
      have K1 := Lib.hid (HK.out _ _ K0.out hb)
      have B1 := Lib.hid (B0.out.trans (hb.mono B0.out.size))
      clear hb Rl0 K0 B0
      go_wp2_with fail
      refine (HWI.out _ Rl1.out).mono ?_
      rintro e w2 ⟨rfl, hb⟩
      clear HWI
      have Rl2 := Lib.hid (Rl1.out.kept hb)
      have K2 := Lib.hid (HK.out _ _ K1.out hb)
      have B2 := Lib.hid (B1.out.trans (hb.mono B1.out.size))
      clear hb Rl1 K1 B1
      go_wp2_with fail
      go_ret
      exact ⟨rfl, B2.out⟩
    have d1 : decide (pol < 1) = false := decide_eq_false hp1
    by_cases hp4 : 4 < pol
    · have d4 : decide (4 < pol) = true := decide_eq_true hp4
      clear hl12 hin hr hA hm hf hn hT hp
      go_enter Try.func6, Try.ntmps6
      go_wp2_with fail
      refine (HL.out _ K0.out).mono ?_
      rintro e w1 ⟨rfl, hb⟩
      clear HL
      have Rl1 := Lib.hid (Rl0.out.kept hb)
      have K1 := Lib.hid (HK.out _ _ K0.out hb)
      have B1 := Lib.hid (B0.out.trans (hb.mono B0.out.size))
      clear hb Rl0 K0 B0
      go_wp2_with fail
      refine (HWI.out _ Rl1.out).mono ?_
      rintro e w2 ⟨rfl, hb⟩
      clear HWI
      have Rl2 := Lib.hid (Rl1.out.kept hb)
      have K2 := Lib.hid (HK.out _ _ K1.out hb)
      have B2 := Lib.hid (B1.out.trans (hb.mono B1.out.size))
      clear hb Rl1 K1 B1
      go_wp2_with fail
      go_ret
      exact ⟨rfl, B2.out⟩
    have d4 : decide (4 < pol) = false := decide_eq_false hp4
    have n1 : ¬ pol < 1 := hp1
    have n4 : ¬ 4 < pol := hp4
    have HIN := Lib.hid hin
    have HN := Lib.hid hn
    have HPP := Lib.hid (show 1 ≤ pol ∧ pol ≤ 4 by omega)
    have hn12 : n ≤ 12 := by omega
    have HWF := Lib.hid hf
    have HINS := Lib.hid (fun (W : World) (hW : T W) (i : Nat) (x : PcR) (B : Option Addr) (cb nb : Nat) (hx : l[i]? = some x) (hnb : nb = (pcs (insAll pol (l.take i))).length) (hB : RowL EPc W B (pcs (insAll pol (l.take i)))) (h0 : B = none → cb = 0) => show Calls Try.prog 15 #[.slice B nb cb, .agg #[.int .i64 x.at_, .string (str x.dat), .int .i64 x.fr, .int .i64 x.to_], .int .i64 pol] W fun e w' => ∃ A1 n1 c1, e = .returned (.tuple #[.slice A1 n1 c1, .int .i64 (differC (insAll pol (l.take i)) (segC x.at_ x.dat) : Int), .int .i64 0]) ∧ Hid (n1 = (pcs (insAll pol (l.take (i + 1)))).length) ∧ Hid (RowL EPc w' A1 (pcs (insAll pol (l.take (i + 1))))) ∧ Hid (A1 = none → c1 = 0) ∧ Below W.heap.size W w' from by
      obtain ⟨hi, e⟩ := List.getElem?_eq_some_iff.1 hx
      have hAI := AllI.take pol HIN.out i (by omega)
      have hix := HIN.out x (List.mem_of_getElem? hx)
      have hwx := HWF.out x (List.mem_of_getElem? hx)
      have h50 : i * 50 ≤ 600 := by have := HN.out; omega
      have := H.ins _ B cb x.at_ x.fr x.to_ pol x.dat W hW hB h0 (by have := hAI.pieces; omega) hAI.vld (by have := hAI.size; omega) (by have := hix.2.2; omega) hwx.1 hwx.2.1 hwx.2.2.1 hp
      rw [hAI.ins (by omega) hix HPP.out.1 HPP.out.2] at this
      have e2 : insAll pol (l.take (i + 1)) = insC pol (insAll pol (l.take i)) (segC x.at_ x.dat) := by rw [List.take_succ_eq_append_getElem hi, e, insAll_snoc]
      rw [hnb, e2]
      refine this.mono ?_
      rintro e w' ⟨A1, c1, h1, h2, h3, h4⟩
      exact ⟨A1, _, c1, h1, Lib.hid rfl, Lib.hid h2, Lib.hid h3, h4⟩)
    obtain ⟨q, hq⟩ : ∃ q, q = str (takL (pcs (insAll pol l)) 0) := ⟨_, rfl⟩
    have HMOD := Lib.hid (fun (W : World) (h : RowL EPc W A l) => show Calls Try.prog 26 #[.slice A n c, .int .i64 pol] W fun e w' => e = .returned (.tuple #[.string q, .int .i64 (difAll pol l [] : Int)]) ∧ Below W.heap.size W w' from by
      rw [hn, hq]
      exact model15_any l A c pol W h hl12 HIN.out HPP.out.1 HPP.out.2)
    have HTAK := Lib.hid (fun (W : World) (hW : T W) (B : Option Addr) (cb nb : Nat) (hnb : nb = (pcs (insAll pol l)).length) (hB : RowL EPc W B (pcs (insAll pol l))) (h0 : B = none → cb = 0) => show Calls Try.prog 19 #[.slice B nb cb, .int .i64 0] W fun e w' => ∃ A1 n1 c1, e = .returned (.tuple #[.string q, .slice A1 n1 c1]) ∧ Below W.heap.size W w' from by
      have hAI := AllI.take pol HIN.out l.length (Nat.le_refl _)
      rw [List.take_length] at hAI
      rw [hnb, hq]
      exact (H.tak _ B cb 0 W hW hB h0 (by have := hAI.pieces; omega) hAI.vld (by have := hAI.size; omega) (by decide)).mono fun e w' ⟨A, c, h1, _, _, h4⟩ => ⟨A, _, c, h1, h4⟩)
    have hqq : (q.toList == q.toList) = true := beq_self_eq_true _
    have HST := Lib.hid (show pcs (insAll pol (l.take 0)) = [] ∧ difAll pol (l.take 0) [] = 0 from ⟨by rw [List.take_zero]; rfl, by rw [List.take_zero]; rfl⟩)
    clear hl12 hin hq hf hm hA hn hp hT hr hp1 hp4
    go_enter Try.func6, Try.ntmps6
    go_wp2_with fail
    refine (HL.out _ K0.out).mono ?_
    rintro e w1 ⟨rfl, hb⟩
    clear HL
    have Rl1 := Lib.hid (Rl0.out.kept hb)
    have K1 := Lib.hid (HK.out _ _ K0.out hb)
    have B1 := Lib.hid (B0.out.trans (hb.mono B0.out.size))
    clear hb Rl0 K0 B0
    go_wp2_with fail
    refine (HWI.out _ Rl1.out).mono ?_
    rintro e w2 ⟨rfl, hb⟩
    clear HWI
    have Rl2 := Lib.hid (Rl1.out.kept hb)
    have K2 := Lib.hid (HK.out _ _ K1.out hb)
    have B2 := Lib.hid (B1.out.trans (hb.mono B1.out.size))
    clear hb Rl1 K1 B1
    go_wp2_with fail
    go_loopw [5, 6, 7] (fun v5 v6 v7 wr => ∃ (i tot nb : Nat) (B : Option Addr) (cb : Nat), v5 = .slice B nb cb ∧ v6 = .int .i64 (tot : Int) ∧ v7 = .int .i64 (i : Int) ∧ i ≤ n ∧ tot ≤ i * 50 ∧ Hid (nb = (pcs (insAll pol (l.take i))).length) ∧ Hid (tot = difAll pol (l.take i) []) ∧ Hid (RowL EPc wr B (pcs (insAll pol (l.take i)))) ∧ Hid (B = none → cb = 0) ∧ Hid (Below w2.heap.size w2 wr)) (fun _ _ v7 _ => n - (intOf v7).toNat)
    case atStart => exact ⟨0, 0, 0, none, 0, rfl, rfl, rfl, Nat.zero_le _, Nat.zero_le _, Lib.hid (by rw [HST.out.1]; rfl), Lib.hid HST.out.2.symm, Lib.hid (by rw [HST.out.1]; exact RowL.nil _ _), Lib.hid (fun _ => rfl), Lib.hid (Below.refl _ _)⟩
    case round =>
      clear HST
      obtain ⟨i, tot, nb, B, cb, rfl, rfl, rfl, hi, htot, HNB, HTOT, HROW, HNO, HB⟩ := hrel
      have HTW := Lib.hid (HK.out _ _ K2.out HB.out)
      by_cases hlt : i < n
      · have hki : (i : Int) < (n : Int) := by omega
        have hki0 : (0 : Int) ≤ (i : Int) := by omega
        have dlt : decide ((i : Int) < (n : Int)) = true := by simp; omega
        obtain ⟨x, hget⟩ : ∃ x, l[i]? = some x := ⟨l[i]'(by have := HN.out; omega), List.getElem?_eq_getElem _⟩
        obtain ⟨ga, ob, rfl, hga⟩ := Rl2.out.shapeA (by have := HN.out; omega)
        obtain ⟨c0, c1, c2, c3⟩ := pc_at Rl2.out hget HB.out
        have HCALL := Lib.hid (HINS.out wr HTW.out i x B cb nb hget HNB.out HROW.out HNO.out)
        obtain ⟨d, hd⟩ : ∃ d, d = differC (insAll pol (l.take i)) (segC x.at_ x.dat) := ⟨_, rfl⟩
        rw [← hd] at HCALL
        have hd50 : d ≤ 50 := by
          rw [hd]
          have h1 := differC_le (insAll pol (l.take i)) (segC x.at_ x.dat)
          rw [segC_len3] at h1
          have := (HIN.out x (List.mem_of_getElem? hget)).2.2
          omega
        obtain ⟨tot1, htot1⟩ : ∃ t, t = tot + d := ⟨_, rfl⟩
        have ht1 : (tot : Int) + (d : Int) = (tot1 : Int) := by omega
        have HT1 := Lib.hid (show tot1 = difAll pol (l.take (i + 1)) [] from by
          obtain ⟨hi', e⟩ := List.getElem?_eq_some_iff.1 hget
          rw [List.take_succ_eq_append_getElem hi', e, difAll_snoc, htot1, HTOT.out, hd]
          rfl)
        have htl : tot1 ≤ (i + 1) * 50 := by omega
        have htb : tot ≤ 600 := by omega
        have HBS := Lib.hid HB.out.size
        clear hget hd htot1 HTOT HROW HNO HNB
        generalize str x.dat = D at *
        generalize x.at_ = xa at *
        generalize x.fr = xf at *
        generalize x.to_ = xt at *
        go_wp2_with fail
        refine HCALL.out.mono ?_
        rintro e w9 ⟨A1, n1', c1', rfl, HN1, HR1, HO1, hb9⟩
        have HB9 := Lib.hid (HB.out.trans (hb9.mono HBS.out))
        clear hb9 HCALL HB c0 c1 c2 c3
        go_wp2_with fail
        go_roundw
        case rel => exact ⟨i + 1, tot1, n1', A1, c1', rfl, rfl, by go_num, by omega, htl, HN1, HT1, HR1, HO1, HB9⟩
        case measure => simp [intOf]; omega
      · obtain rfl : i = n := by omega
        have dlt : decide ((i : Int) < (i : Int)) = false := by simp
        have nlt : ¬ (i : Int) < (i : Int) := by omega
        have hrow := HROW.out
        have hnb := HNB.out
        have htt := HTOT.out
        rw [HN.out, List.take_length] at hrow hnb htt
        have HRW := Lib.hid hrow
        have HNN := Lib.hid hnb
        have HTT := Lib.hid htt
        have HRL := Lib.hid (Rl2.out.kept HB.out)
        clear hrow hnb htt HROW HNB HTOT
        go_wp2_with fail
        refine (HMOD.out _ HRL.out).mono ?_
        rintro e w8 ⟨rfl, hb8⟩
        rw [← HTT.out]
        have hee : ((tot : Int) == (tot : Int)) = true := beq_self_eq_true _
        have HTW8 := Lib.hid (HK.out _ _ HTW.out hb8)
        have HRW8 := Lib.hid (HRW.out.kept hb8)
        have HB8 := Lib.hid (HB.out.trans (hb8.mono HB.out.size))
        clear hb8 HRW HTW HB HMOD
        go_wp2_with fail
        refine (HTAK.out _ HTW8.out _ _ _ HNN.out HRW8.out HNO.out).mono ?_
        rintro e w9 ⟨A1, n1', c1', rfl, hb9⟩
        have HB9 := Lib.hid (B2.out.trans ((HB8.out.trans (hb9.mono HB8.out.size)).mono B2.out.size))
        clear hb9 HB8 HTAK
        go_wp2_with fail
        go_ret
        exact ⟨rfl, HB9.out⟩
end Go.Proofs.Ytafpmlikocchpaa
