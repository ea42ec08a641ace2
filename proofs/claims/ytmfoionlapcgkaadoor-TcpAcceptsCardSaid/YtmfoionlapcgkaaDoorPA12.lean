/- Contracts of the functions, part 12: IntMath, IntMem, IntRVal. -/
import Derived.Below
import Derived.Deep.QuietTactic
import Derived.Deep.AppendLies
import Derived.OwnWalk
import Derived.BigQuiet
import Derived.Test.YtmfoionlapcgkaaDoorPA3
/- Plain mathematics of the sets of integers of layer 5: no Go in sight. -/
namespace Go.Proofs.YtmfoionlapcgkaaDoor
set_option linter.unusedVariables false

/-- A span; does it hold a number; do spans. -/
structure Spn where
  lo : Int
  hi : Int
def inS (s : Spn) (n : Int) : Bool := decide (s.lo ≤ n) && decide (n ≤ s.hi)
def anyS (l : List Spn) (n : Int) : Bool := l.any fun s => inS s n
/-- Is n one of the numbers of a list, up to M? -/
def memS (M : Int) (l : List Spn) (n : Int) : Bool := decide (0 ≤ n) && decide (n ≤ M) && anyS l n
/-- A set whose first span begins at c or behind it. -/
def okL (M : Int) : Int → List Spn → Prop
  | _, [] => True
  | c, s :: r => c ≤ s.lo ∧ s.lo ≤ s.hi ∧ s.hi ≤ M ∧ okL M (s.hi + 2) r

theorem inS_iff (s : Spn) (n : Int) : inS s n = true ↔ s.lo ≤ n ∧ n ≤ s.hi := by simp [inS]
theorem anyS_iff (l : List Spn) (n : Int) : anyS l n = true ↔ ∃ s ∈ l, s.lo ≤ n ∧ n ≤ s.hi := by
  unfold anyS
  rw [List.any_eq_true]
  constructor
  · rintro ⟨s, hs, h⟩; exact ⟨s, hs, (inS_iff s n).1 h⟩
  · rintro ⟨s, hs, h⟩; exact ⟨s, hs, (inS_iff s n).2 h⟩
theorem anyS_cons (s : Spn) (r : List Spn) (n : Int) : anyS (s :: r) n = (inS s n || anyS r n) := rfl
theorem anyS_append (a b : List Spn) (n : Int) : anyS (a ++ b) n = (anyS a n || anyS b n) := by simp [anyS]
theorem okL_mono {M : Int} : ∀ {l : List Spn} {c d : Int}, d ≤ c → okL M c l → okL M d l
  | [], _, _, _, _ => trivial
  | s :: r, c, d, h, ⟨h1, h2, h3, h4⟩ => ⟨by omega, h2, h3, h4⟩
theorem okL_ge {M : Int} : ∀ {l : List Spn} {c : Int} {n : Int}, okL M c l → anyS l n = true → c ≤ n
  | [], _, _, _, h => by simp [anyS] at h
  | s :: r, c, n, ⟨h1, h2, _, h4⟩, h => by
    rw [anyS_cons, Bool.or_eq_true, inS_iff] at h
    rcases h with h | h
    · omega
    · have := okL_ge h4 h; omega
theorem okL_le {M : Int} : ∀ {l : List Spn} {c : Int} {n : Int}, okL M c l → anyS l n = true → n ≤ M
  | [], _, _, _, h => by simp [anyS] at h
  | s :: r, c, n, ⟨_, _, h3, h4⟩, h => by
    rw [anyS_cons, Bool.or_eq_true, inS_iff] at h
    rcases h with h | h
    · omega
    · exact okL_le h4 h
/-- The numbers of a set are its members as they stand. -/
theorem okL_mem {M : Int} {l : List Spn} (h : okL M 0 l) (n : Int) : memS M l n = anyS l n := by
  unfold memS
  cases ha : anyS l n with
  | false => simp
  | true =>
    have h1 := okL_ge h ha
    have h2 := okL_le h ha
    simp [h1, h2]

/-- TWO SETS WITH THE SAME NUMBERS ARE EQUAL. -/
theorem okL_uniq {M : Int} : ∀ (a b : List Spn) (c d : Int), okL M c a → okL M d b → (∀ n, anyS a n = anyS b n) → a = b
  | [], [], _, _, _, _, _ => rfl
  | [], t :: q, c, d, _, ⟨_, h2, _, _⟩, h => by
    have := h t.lo
    rw [anyS_cons, show inS t t.lo = true by rw [inS_iff]; omega] at this
    simp [anyS] at this
  | s :: r, [], c, d, ⟨_, h2, _, _⟩, _, h => by
    have := h s.lo
    rw [anyS_cons, show inS s s.lo = true by rw [inS_iff]; omega] at this
    simp [anyS] at this
  | s :: r, t :: q, c, d, ⟨a1, a2, a3, a4⟩, ⟨b1, b2, b3, b4⟩, h => by
    have hlo1 : t.lo ≤ s.lo := by
      have e := h s.lo
      rw [anyS_cons, show inS s s.lo = true by rw [inS_iff]; omega, Bool.true_or] at e
      have e2 := e.symm
      rw [anyS_cons, Bool.or_eq_true, inS_iff] at e2
      rcases e2 with e2 | e2
      · exact e2.1
      · have := okL_ge b4 e2; omega
    have hlo2 : s.lo ≤ t.lo := by
      have e := h t.lo
      rw [anyS_cons (s := t), show inS t t.lo = true by rw [inS_iff]; omega, Bool.true_or] at e
      rw [anyS_cons, Bool.or_eq_true, inS_iff] at e
      rcases e with e | e
      · exact e.1
      · have := okL_ge a4 e; omega
    have hlo : s.lo = t.lo := by omega
    have hhi1 : t.hi ≤ s.hi := by
      by_cases hc : t.hi ≤ s.hi
      · exact hc
      · exfalso
        have e := h (s.hi + 1)
        rw [anyS_cons (s := t), show inS t (s.hi + 1) = true by rw [inS_iff]; omega, Bool.true_or] at e
        rw [anyS_cons, Bool.or_eq_true, inS_iff] at e
        rcases e with e | e
        · omega
        · have := okL_ge a4 e; omega
    have hhi2 : s.hi ≤ t.hi := by
      by_cases hc : s.hi ≤ t.hi
      · exact hc
      · exfalso
        have e := h (t.hi + 1)
        rw [anyS_cons (s := s), show inS s (t.hi + 1) = true by rw [inS_iff]; omega, Bool.true_or] at e
        have e2 := e.symm
        rw [anyS_cons, Bool.or_eq_true, inS_iff] at e2
        rcases e2 with e2 | e2
        · omega
        · have := okL_ge b4 e2; omega
    have hhi : s.hi = t.hi := by omega
    have hst : s = t := by
      cases s; cases t
      simp only at hlo hhi
      rw [hlo, hhi]
    subst hst
    rw [okL_uniq r q (s.hi + 2) (s.hi + 2) a4 b4 (fun n => by
      have e := h n
      rw [anyS_cons, anyS_cons] at e
      cases hs : inS s n with
      | false => rw [hs, Bool.false_or, Bool.false_or] at e; exact e
      | true =>
        rw [inS_iff] at hs
        have h1 : anyS r n = false := by
          cases hr : anyS r n with
          | false => rfl
          | true => have := okL_ge a4 hr; omega
        have h2 : anyS q n = false := by
          cases hr : anyS q n with
          | false => rfl
          | true => have := okL_ge b4 hr; omega
        rw [h1, h2])]
/-- A set is what its numbers are. -/
theorem set_eq {M : Int} {a b : List Spn} (ha : okL M 0 a) (hb : okL M 0 b) (h : ∀ n, memS M a n = memS M b n) : a = b :=
  okL_uniq a b 0 0 ha hb fun n => by
    have := h n
    rwa [okL_mem ha, okL_mem hb] at this

/-- How many numbers below N have a property. -/
def card (N : Nat) (p : Nat → Bool) : Nat := (List.range N).countP p
theorem card_succ (N : Nat) (p : Nat → Bool) : card (N + 1) p = card N p + if p N = true then 1 else 0 := by
  unfold card
  rw [List.range_succ, List.countP_append]
  simp [List.countP_cons]
theorem card_congr {N : Nat} {p q : Nat → Bool} (h : ∀ n, n < N → p n = q n) : card N p = card N q := by
  induction N with
  | zero => rfl
  | succ N ih => rw [card_succ, card_succ, ih (fun n hn => h n (by omega)), h N (by omega)]
/-- INCLUSION AND EXCLUSION. -/
theorem card_or_and (N : Nat) (p q : Nat → Bool) : card N (fun n => p n || q n) + card N (fun n => p n && q n) = card N p + card N q := by
  induction N with
  | zero => rfl
  | succ N ih =>
    simp only [card_succ]
    cases p N <;> cases q N <;> simp <;> omega
theorem card_minus (N : Nat) (p q : Nat → Bool) : card N (fun n => p n && !q n) + card N (fun n => p n && q n) = card N p := by
  induction N with
  | zero => rfl
  | succ N ih =>
    simp only [card_succ]
    cases p N <;> cases q N <;> simp <;> omega
theorem card_le (N : Nat) (p : Nat → Bool) : card N p ≤ N := by
  induction N with
  | zero => exact Nat.le_refl _
  | succ N ih =>
    rw [card_succ]
    split <;> omega
theorem card_none {N : Nat} {p : Nat → Bool} (h : ∀ n, n < N → p n = false) : card N p = 0 := by
  induction N with
  | zero => rfl
  | succ N ih => rw [card_succ, ih (fun n hn => h n (by omega)), h N (by omega)]; rfl
theorem card_zero {N : Nat} {p : Nat → Bool} (h : card N p = 0) : ∀ n, n < N → p n = false := by
  induction N with
  | zero => intro n hn; omega
  | succ N ih =>
    intro n hn
    rw [card_succ] at h
    by_cases e : n = N
    · subst e
      cases hp : p n with
      | false => rfl
      | true => rw [hp] at h; simp at h
    · exact ih (by omega) n (by omega)
theorem card_span (N : Nat) (lo hi : Int) (h0 : 0 ≤ lo) (h1 : lo ≤ hi + 1) (h2 : hi < N) : (card N (fun n => inS ⟨lo, hi⟩ (n : Int)) : Int) = hi - lo + 1 := by
  induction N generalizing hi with
  | zero =>
    simp only [card, List.range_zero, List.countP_nil]
    omega
  | succ N ih =>
    rw [card_succ]
    by_cases e : hi = (N : Int)
    · by_cases e2 : lo ≤ hi
      · have hin : inS ⟨lo, hi⟩ (N : Int) = true := by rw [inS_iff]; simp only; omega
        rw [if_pos hin]
        have hc : card N (fun n => inS ⟨lo, hi⟩ (n : Int)) = card N (fun n => inS ⟨lo, hi - 1⟩ (n : Int)) := card_congr fun n hn => by
          rw [Bool.eq_iff_iff, inS_iff, inS_iff]; simp only; omega
        rw [hc]
        have := ih (hi - 1) (by omega) (by omega)
        omega
      · have hin : inS ⟨lo, hi⟩ (N : Int) = false := by
          cases hh : inS ⟨lo, hi⟩ (N : Int) with
          | false => rfl
          | true => rw [inS_iff] at hh; simp only at hh; omega
        rw [if_neg (by rw [hin]; decide), card_none (fun n hn => by
          cases hh : inS ⟨lo, hi⟩ (n : Int) with
          | false => rfl
          | true => rw [inS_iff] at hh; simp only at hh; omega)]
        omega
    · have hin : inS ⟨lo, hi⟩ (N : Int) = false := by
        cases hh : inS ⟨lo, hi⟩ (N : Int) with
        | false => rfl
        | true => rw [inS_iff] at hh; simp only at hh; omega
      rw [if_neg (by rw [hin]; decide)]
      have := ih hi h1 (by omega)
      omega
/-- How many numbers a set has. -/
def cntL : List Spn → Int
  | [] => 0
  | s :: r => s.hi - s.lo + 1 + cntL r
theorem cnt_card {M : Int} : ∀ (l : List Spn) (c : Int), 0 ≤ c → okL M c l → cntL l = card (M + 1).toNat (fun n => anyS l (n : Int))
  | [], _, _, _ => by
    rw [card_none (p := fun n => anyS [] (n : Int)) (fun n _ => rfl)]; rfl
  | s :: r, c, hc, ⟨h1, h2, h3, h4⟩ => by
    have ih := cnt_card r (s.hi + 2) (by omega) h4
    have hs := card_span (M + 1).toNat s.lo s.hi (by omega) (by omega) (by omega)
    have hor := card_or_and (M + 1).toNat (fun n => inS s (n : Int)) (fun n => anyS r (n : Int))
    have hand : card (M + 1).toNat (fun n => inS s (n : Int) && anyS r (n : Int)) = 0 := card_none fun n _ => by
      cases hh : inS s (n : Int) with
      | false => rfl
      | true =>
        rw [inS_iff] at hh
        cases hr : anyS r (n : Int) with
        | false => rfl
        | true => have := okL_ge h4 hr; omega
    have he : card (M + 1).toNat (fun n => anyS (s :: r) (n : Int)) = card (M + 1).toNat (fun n => inS s (n : Int) || anyS r (n : Int)) := card_congr fun n _ => anyS_cons s r n
    rw [he]
    show s.hi - s.lo + 1 + cntL r = _
    have hs' : (card (M + 1).toNat (fun n => inS s (n : Int)) : Int) = s.hi - s.lo + 1 := hs
    omega
/-- The laws of the numbers: u, i, m the union, the intersection, the difference of the sets a and b. -/
theorem cnt_laws {M : Int} {a b u i m : List Spn} (ha : okL M 0 a) (hb : okL M 0 b) (hu : okL M 0 u) (hi : okL M 0 i) (hm : okL M 0 m)
    (eu : ∀ n, anyS u n = (anyS a n || anyS b n)) (ei : ∀ n, anyS i n = (anyS a n && anyS b n)) (em : ∀ n, anyS m n = (anyS a n && !anyS b n)) :
    cntL u + cntL i = cntL a + cntL b ∧ cntL m = cntL a - cntL i := by
  rw [cnt_card a 0 (Int.le_refl _) ha, cnt_card b 0 (Int.le_refl _) hb, cnt_card u 0 (Int.le_refl _) hu, cnt_card i 0 (Int.le_refl _) hi, cnt_card m 0 (Int.le_refl _) hm]
  rw [card_congr (fun n _ => eu (n : Int)), card_congr (fun n _ => ei (n : Int)), card_congr (p := fun n => anyS m (n : Int)) (fun n _ => em (n : Int))]
  have h1 := card_or_and (M + 1).toNat (fun n => anyS a (n : Int)) (fun n => anyS b (n : Int))
  have h2 := card_minus (M + 1).toNat (fun n => anyS a (n : Int)) (fun n => anyS b (n : Int))
  constructor <;> omega
theorem cnt_bounds {M : Int} {a : List Spn} (hM : 0 ≤ M) (ha : okL M 0 a) : 0 ≤ cntL a ∧ cntL a ≤ M + 1 := by
  rw [cnt_card a 0 (Int.le_refl _) ha]
  have := card_le (M + 1).toNat (fun n => anyS a (n : Int))
  omega
/-- A subset is one whose intersection has as many numbers. -/
theorem sub_iff_cnt {M : Int} {a b i : List Spn} (hM : 0 ≤ M) (ha : okL M 0 a) (hi : okL M 0 i) (ei : ∀ n, anyS i n = (anyS a n && anyS b n)) :
    cntL i = cntL a ↔ ∀ n, anyS a n = true → anyS b n = true := by
  rw [cnt_card a 0 (Int.le_refl _) ha, cnt_card i 0 (Int.le_refl _) hi, card_congr (fun n _ => ei (n : Int))]
  have h2 := card_minus (M + 1).toNat (fun n => anyS a (n : Int)) (fun n => anyS b (n : Int))
  constructor
  · intro h n hn
    have h1 := okL_ge ha hn
    have h3 := okL_le ha hn
    have hz := card_zero (N := (M + 1).toNat) (p := fun n => anyS a (n : Int) && !anyS b (n : Int)) (by omega) n.toNat (by omega)
    rw [show ((n.toNat : Nat) : Int) = n by omega, hn] at hz
    simpa using hz
  · intro h
    have hz : card (M + 1).toNat (fun n => anyS a (n : Int) && !anyS b (n : Int)) = 0 := card_none fun n _ => by
      cases hA : anyS a (n : Int) with
      | false => rfl
      | true => rw [h _ hA]; rfl
    omega

/-- What lies in a list of spans cut to the numbers from 0 to M, as the reference cuts it. -/
def cutS (s : Spn) (lo hi : Int) : Spn := ⟨max s.lo lo, min s.hi hi⟩
theorem cutS_in (s : Spn) (lo hi n : Int) : inS (cutS s lo hi) n = (inS s n && (decide (lo ≤ n) && decide (n ≤ hi))) := by
  rw [Bool.eq_iff_iff]
  simp only [cutS, inS, Bool.and_eq_true, decide_eq_true_eq, Int.max_le, Int.le_min]
  constructor
  · rintro ⟨⟨h1, h2⟩, h3, h4⟩
    exact ⟨⟨h1, h3⟩, h2, h4⟩
  · rintro ⟨⟨h1, h3⟩, h2, h4⟩
    exact ⟨⟨h1, h2⟩, h3, h4⟩
/-- One round of the reference's normal form: x the least span grown as far as it goes, work all spans. -/
structure Least (work : List Spn) (x : Spn) : Prop where
  low : ∀ s ∈ work, x.lo ≤ s.lo
  far : ∀ s ∈ work, s.hi ≤ x.hi ∨ x.hi + 2 ≤ s.lo
  cov : ∀ n, x.lo ≤ n → n ≤ x.hi → anyS work n = true
  ne : x.lo ≤ x.hi
theorem least_any {work : List Spn} {x : Spn} (h : Least work x) (n : Int) : anyS work n = (inS x n || anyS (work.filter fun s => decide (x.hi < s.lo)) n) := by
  rw [Bool.eq_iff_iff, Bool.or_eq_true, inS_iff, anyS_iff, anyS_iff]
  constructor
  · rintro ⟨s, hs, h1, h2⟩
    rcases h.far s hs with hf | hf
    · have := h.low s hs
      exact .inl (by omega)
    · exact .inr ⟨s, by simp [hs]; omega, h1, h2⟩
  · rintro (⟨h1, h2⟩ | ⟨s, hs, h1, h2⟩)
    · have := h.cov n h1 h2
      rwa [anyS_iff] at this
    · rw [List.mem_filter] at hs
      exact ⟨s, hs.1, h1, h2⟩
theorem least_rest {work : List Spn} {x : Spn} (h : Least work x) : ∀ s ∈ work.filter (fun s => decide (x.hi < s.lo)), x.hi + 2 ≤ s.lo ∨ s.hi ≤ x.hi := by
  intro s hs
  rw [List.mem_filter] at hs
  rcases h.far s hs.1 with hf | hf
  · exact .inr hf
  · exact .inl hf
/-- x grows by a span that it touches. -/
theorem least_grow {work : List Spn} {x s : Spn} (hs : s ∈ work) (hc : ∀ n, x.lo ≤ n → n ≤ x.hi → anyS work n = true) (h1 : s.lo ≤ x.hi + 1) (h2 : x.hi < s.hi) : ∀ n, x.lo ≤ n → n ≤ s.hi → anyS work n = true := by
  intro n hn1 hn2
  by_cases h : n ≤ x.hi
  · exact hc n hn1 h
  · rw [anyS_iff]
    exact ⟨s, hs, by omega, hn2⟩

/-- What a set leaves of the numbers from lo to hi, as the reference goes through it. -/
def comp : List Spn → Int → Int → List Spn
  | [], lo, hi => if lo ≤ hi then [⟨lo, hi⟩] else []
  | s :: r, lo, hi => if lo ≤ hi then (if lo ≤ min hi (s.lo - 1) then [⟨lo, min hi (s.lo - 1)⟩] else []) ++ comp r (max lo (s.hi + 1)) hi else []
theorem comp_none : ∀ (l : List Spn) {lo hi : Int}, hi < lo → comp l lo hi = []
  | [], lo, hi, h => by rw [comp, if_neg (by omega)]
  | s :: r, lo, hi, h => by rw [comp, if_neg (by omega)]
theorem comp_ok {M : Int} : ∀ (l : List Spn) (c lo hi : Int), okL M c l → hi ≤ M → okL M lo (comp l lo hi)
  | [], c, lo, hi, _, hM => by
    rw [comp]
    split
    · exact ⟨Int.le_refl _, by assumption, hM, trivial⟩
    · trivial
  | s :: r, c, lo, hi, ⟨h1, h2, h3, h4⟩, hM => by
    rw [comp]
    split
    · have ih := comp_ok r (s.hi + 2) (max lo (s.hi + 1)) hi h4 hM
      split
      · refine ⟨Int.le_refl _, by assumption, by simp only; omega, ?_⟩
        exact okL_mono (by simp only; omega) ih
      · rw [List.nil_append]
        exact okL_mono (by omega) ih
    · trivial
theorem comp_any {M : Int} : ∀ (l : List Spn) (c lo hi n : Int), okL M c l → anyS (comp l lo hi) n = (decide (lo ≤ n) && decide (n ≤ hi) && !anyS l n)
  | [], c, lo, hi, n, _ => by
    rw [comp]
    split
    · simp [anyS, inS]
    · have : (decide (lo ≤ n) && decide (n ≤ hi)) = false := by
        rw [Bool.and_eq_false_iff]; simp; omega
      rw [this]; rfl
  | s :: r, c, lo, hi, n, ⟨h1, h2, h3, h4⟩ => by
    rw [comp]
    split
    · have ih := comp_any r (s.hi + 2) (max lo (s.hi + 1)) hi n h4
      have hge : anyS r n = true → s.hi + 2 ≤ n := fun h => okL_ge h4 h
      rw [anyS_append, ih, anyS_cons]
      have hx : anyS (if lo ≤ min hi (s.lo - 1) then [(⟨lo, min hi (s.lo - 1)⟩ : Spn)] else []) n = (decide (lo ≤ n) && decide (n ≤ min hi (s.lo - 1))) := by
        split
        · simp [anyS, inS]
        · have : (decide (lo ≤ n) && decide (n ≤ min hi (s.lo - 1))) = false := by
            rw [Bool.and_eq_false_iff]; simp only [decide_eq_false_iff_not]; omega
          rw [this]; rfl
      rw [hx, Bool.eq_iff_iff]
      cases hr : anyS r n with
      | true =>
        have := hge hr
        simp only [inS, Bool.or_eq_true, Bool.and_eq_true, decide_eq_true_eq, Bool.not_true, Bool.or_true, Bool.and_false, Bool.false_eq_true, or_false, iff_false]
        omega
      | false =>
        simp only [inS, Bool.or_eq_true, Bool.and_eq_true, decide_eq_true_eq, Bool.not_false, Bool.or_false, Bool.and_true, Bool.not_eq_true', Bool.and_eq_false_iff, decide_eq_false_iff_not]
        omega
    · have : (decide (lo ≤ n) && decide (n ≤ hi)) = false := by
        rw [Bool.and_eq_false_iff]; simp; omega
      rw [this]; rfl

/-- All spans that two lists have in common, pair by pair. -/
def pairsS (a b : List Spn) : List Spn := a.flatMap fun s => b.flatMap fun t => if (cutS s t.lo t.hi).lo ≤ (cutS s t.lo t.hi).hi then [cutS s t.lo t.hi] else []
theorem anyS_flatMap {α : Type} (l : List α) (f : α → List Spn) (n : Int) : anyS (l.flatMap f) n = l.any fun x => anyS (f x) n := by
  induction l with
  | nil => rfl
  | cons x r ih => rw [List.flatMap_cons, anyS_append, ih]; rfl
theorem pairs_any (a b : List Spn) (n : Int) : anyS (pairsS a b) n = (anyS a n && anyS b n) := by
  unfold pairsS
  rw [anyS_flatMap, Bool.eq_iff_iff, List.any_eq_true, Bool.and_eq_true, anyS_iff, anyS_iff]
  constructor
  · rintro ⟨s, hs, h⟩
    rw [anyS_flatMap, List.any_eq_true] at h
    obtain ⟨t, ht, h⟩ := h
    split at h
    · simp only [anyS, List.any_cons, List.any_nil, Bool.or_false] at h
      rw [cutS_in, Bool.and_eq_true, inS_iff, Bool.and_eq_true, decide_eq_true_eq, decide_eq_true_eq] at h
      exact ⟨⟨s, hs, h.1⟩, t, ht, h.2⟩
    · simp [anyS] at h
  · rintro ⟨⟨s, hs, h1⟩, t, ht, h2⟩
    refine ⟨s, hs, ?_⟩
    rw [anyS_flatMap, List.any_eq_true]
    refine ⟨t, ht, ?_⟩
    have hc : inS (cutS s t.lo t.hi) n = true := by
      rw [cutS_in, Bool.and_eq_true, inS_iff, Bool.and_eq_true, decide_eq_true_eq, decide_eq_true_eq]
      exact ⟨h1, h2⟩
    have hc2 := (inS_iff _ _).1 hc
    rw [if_pos (by omega)]
    simp [anyS, hc]
/-- Spans cut to the numbers from 0 to M, the empty ones left out. -/
def cutAll (M : Int) (l : List Spn) : List Spn := l.flatMap fun s => if (cutS s 0 M).lo ≤ (cutS s 0 M).hi then [cutS s 0 M] else []
theorem cutAll_any (M : Int) (l : List Spn) (n : Int) : anyS (cutAll M l) n = memS M l n := by
  unfold cutAll memS
  rw [anyS_flatMap, Bool.eq_iff_iff, List.any_eq_true, Bool.and_eq_true, Bool.and_eq_true, decide_eq_true_eq, decide_eq_true_eq, anyS_iff]
  constructor
  · rintro ⟨s, hs, h⟩
    split at h
    · simp only [anyS, List.any_cons, List.any_nil, Bool.or_false] at h
      rw [cutS_in, Bool.and_eq_true, inS_iff, Bool.and_eq_true, decide_eq_true_eq, decide_eq_true_eq] at h
      exact ⟨h.2, s, hs, h.1⟩
    · simp [anyS] at h
  · rintro ⟨h0, s, hs, h1⟩
    refine ⟨s, hs, ?_⟩
    have hc : inS (cutS s 0 M) n = true := by
      rw [cutS_in, Bool.and_eq_true, inS_iff, Bool.and_eq_true, decide_eq_true_eq, decide_eq_true_eq]
      exact ⟨h1, h0⟩
    have hc2 := (inS_iff _ _).1 hc
    rw [if_pos (by omega)]
    simp [anyS, hc]
end Go.Proofs.YtmfoionlapcgkaaDoor

/- Lists of spans in memory; contracts of the reference of layer 5: cut, Contains. -/
namespace Go.Proofs.YtmfoionlapcgkaaDoor
open Go.ChangeShapes Go.WideShapes Go.ChangeAt Go.RowKit
set_option linter.unusedVariables false

/-- A slice that reads as the spans l. -/
def SpL (w : World) (A : Option Addr) (l : List Spn) : Prop :=
  0 < l.length → ∃ g o, A = some ⟨g, o, none⟩ ∧ g < w.heap.size ∧ ∀ i s, l[i]? = some s → w.cell? ⟨g, o + i * 2, none⟩ = some (.int .i64 s.lo) ∧ w.cell? ⟨g, o + i * 2 + 1, none⟩ = some (.int .i64 s.hi)
theorem SpL.kept {w w' : World} {A : Option Addr} {l : List Spn} (h : SpL w A l) (hb : Below w.heap.size w w') : SpL w' A l := fun hp => by
  obtain ⟨g, o, e, hg, hc⟩ := h hp
  have hB := hb.block g hg
  refine ⟨g, o, e, Nat.lt_of_lt_of_le hg hb.size, fun i s hs => ?_⟩
  rw [World.cell?_of_block (w := w) (w' := w') (a := ⟨g, o + i * 2, none⟩) hB, World.cell?_of_block (w := w) (w' := w') (a := ⟨g, o + i * 2 + 1, none⟩) hB]
  exact hc i s hs
theorem SpL.drewN {w : World} {A : Option Addr} {l : List Spn} (h : SpL w A l) (q : Nat) : SpL (w.drewN q) A l := h
/-- Spans as cells. -/
def spC (s : Spn) : List Value := [.int .i64 s.lo, .int .i64 s.hi]
def spCells (l : List Spn) : List Value := l.flatMap spC
theorem spCells_length (l : List Spn) : (spCells l).length = l.length * 2 := by
  unfold spCells
  induction l with
  | nil => rfl
  | cons t r ih => rw [List.flatMap_cons, List.length_append, ih]; simp [spC]; omega
theorem spCells_snoc (l : List Spn) (s : Spn) : spCells (l ++ [s]) = spCells l ++ spC s := by simp [spCells]
theorem spCells_get : ∀ (l : List Spn) (i : Nat) (s : Spn), l[i]? = some s → (spCells l)[i * 2]? = some (.int .i64 s.lo) ∧ (spCells l)[i * 2 + 1]? = some (.int .i64 s.hi)
  | [], i, s, h => by simp at h
  | x :: r, 0, s, h => by
    simp at h
    subst h
    exact ⟨rfl, rfl⟩
  | x :: r, i + 1, s, h => by
    have ih := spCells_get r i s (by simpa using h)
    have e : spCells (x :: r) = spC x ++ spCells r := rfl
    rw [e, show (i + 1) * 2 + 1 = (i * 2 + 1) + 2 by omega, show (i + 1) * 2 = i * 2 + 2 by omega]
    exact ih
theorem below_alloc5 (w : World) (o : Obj) : Below w.heap.size w (w.alloc o) := (Below.refl _ w).alloc (Nat.le_refl _) _
theorem alloc_lt5 (w : World) (o : Obj) : w.heap.size < (w.alloc o).heap.size := (Array.getElem?_eq_some_iff.1 (heap_alloc_new w o)).1

end Go.Proofs.YtmfoionlapcgkaaDoor

/- Sets of spans told by a test; contract of the reference of layer 5: Valid. -/
namespace Go.Proofs.YtmfoionlapcgkaaDoor
open Go.ChangeShapes Go.WideShapes Go.ChangeAt Go.RowKit
set_option linter.unusedVariables false

/-- Where the next span may begin. -/
def nxt : Int → List Spn → Int
  | c, [] => c
  | _, s :: r => nxt (s.hi + 2) r
theorem nxt_snoc (s : Spn) : ∀ (l : List Spn) (c : Int), nxt c (l ++ [s]) = s.hi + 2
  | [], c => rfl
  | x :: r, c => nxt_snoc s r (x.hi + 2)
theorem okL_snoc {M : Int} (s : Spn) : ∀ (l : List Spn) (c : Int), okL M c (l ++ [s]) ↔ okL M c l ∧ nxt c l ≤ s.lo ∧ s.lo ≤ s.hi ∧ s.hi ≤ M
  | [], c => by simp [okL, nxt]
  | x :: r, c => by
    have ih := okL_snoc (M := M) s r (x.hi + 2)
    simp only [List.cons_append, okL, nxt, ih]
    constructor
    · rintro ⟨h1, h2, h3, h4, h5⟩; exact ⟨⟨h1, h2, h3, h4⟩, h5⟩
    · rintro ⟨⟨h1, h2, h3, h4⟩, h5⟩; exact ⟨h1, h2, h3, h4, h5⟩
theorem okL_front {M : Int} : ∀ (a b : List Spn) (c : Int), okL M c (a ++ b) → okL M c a
  | [], _, _, _ => trivial
  | x :: r, b, c, ⟨h1, h2, h3, h4⟩ => ⟨h1, h2, h3, okL_front r b _ h4⟩
/-- Is a list of spans a set? -/
def okB (M : Int) : Int → List Spn → Bool
  | _, [] => true
  | c, s :: r => decide (c ≤ s.lo) && decide (s.lo ≤ s.hi) && decide (s.hi ≤ M) && okB M (s.hi + 2) r
theorem okB_iff {M : Int} : ∀ (l : List Spn) (c : Int), okB M c l = true ↔ okL M c l
  | [], c => by simp [okB, okL]
  | s :: r, c => by
    have ih := okB_iff (M := M) r (s.hi + 2)
    simp only [okB, okL, Bool.and_eq_true, decide_eq_true_eq, ih]
    constructor
    · rintro ⟨⟨⟨h1, h2⟩, h3⟩, h4⟩; exact ⟨h1, h2, h3, h4⟩
    · rintro ⟨h1, h2, h3, h4⟩; exact ⟨⟨⟨h1, h2⟩, h3⟩, h4⟩
/-- One span further: the list falls, or goes on. -/
theorem okB_fall {M : Int} {l : List Spn} {k : Nat} {s : Spn} (hs : l[k]? = some s) (h : ¬ (nxt 0 (l.take k) ≤ s.lo ∧ s.lo ≤ s.hi ∧ s.hi ≤ M)) : okB M 0 l = false := by
  cases hb : okB M 0 l with
  | false => rfl
  | true =>
    exfalso
    rw [okB_iff] at hb
    obtain ⟨hk, e⟩ := List.getElem?_eq_some_iff.1 hs
    have e2 : l.take (k + 1) = l.take k ++ [s] := by rw [List.take_succ_eq_append_getElem hk, e]
    rw [← List.take_append_drop (k + 1) l] at hb
    have h2 := okL_front _ _ _ hb
    rw [e2, okL_snoc] at h2
    exact h h2.2
theorem okL_go {M : Int} {l : List Spn} {k : Nat} {s : Spn} (hs : l[k]? = some s) (h0 : okL M 0 (l.take k)) (h : nxt 0 (l.take k) ≤ s.lo ∧ s.lo ≤ s.hi ∧ s.hi ≤ M) : okL M 0 (l.take (k + 1)) := by
  obtain ⟨hk, e⟩ := List.getElem?_eq_some_iff.1 hs
  rw [List.take_succ_eq_append_getElem hk, e, okL_snoc]
  exact ⟨h0, h⟩
theorem nxt_take {l : List Spn} {k : Nat} {s : Spn} (hs : l[k]? = some s) (c : Int) : nxt c (l.take (k + 1)) = s.hi + 2 := by
  obtain ⟨hk, e⟩ := List.getElem?_eq_some_iff.1 hs
  rw [List.take_succ_eq_append_getElem hk, e, nxt_snoc]
theorem okL_hi {M : Int} {l : List Spn} {k : Nat} {s : Spn} (hs : l[k]? = some s) (h0 : okL M 0 (l.take (k + 1))) : 0 ≤ s.hi ∧ s.hi ≤ M := by
  obtain ⟨hk, e⟩ := List.getElem?_eq_some_iff.1 hs
  rw [List.take_succ_eq_append_getElem hk, e, okL_snoc] at h0
  have hin : anyS (l.take k ++ [s]) s.hi = true := by
    rw [anyS_append, Bool.or_eq_true]
    right
    simp [anyS, inS]
    omega
  have := okL_ge ((okL_snoc s _ 0).2 h0) hin
  omega

theorem nxt_pos {M : Int} : ∀ {l : List Spn} {c : Int}, 0 ≤ c → okL M c l → 0 ≤ nxt c l
  | [], _, h, _ => h
  | x :: r, _, h, ⟨h1, h2, _, h4⟩ => nxt_pos (c := x.hi + 2) (by omega) h4
theorem below_drewN5 {w w' : World} {B : Nat} (h : Below B w w') (q : Nat) : Below B w (w'.drewN q) := ⟨h.os, h.tape, h.output, h.size, h.block⟩

end Go.Proofs.YtmfoionlapcgkaaDoor
