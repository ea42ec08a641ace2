/- Contracts of the functions, part 1: IntMath, Plain, Nums, Mem, Mem2, Ref, Ref2, Reader, IntMem, IntRVal. -/
import Derived.Below
import Derived.Test.YtepbmnpjpkmmfaaGreatDoorRows
import Derived.WalkKit
import Derived.LoopTactic
import Derived.ProofKit
import Derived.OpenShut
import Derived.ShutString
import Derived.ChangeOld
import Derived.Lib.Hide
import Derived.BigQuiet
import Derived.Outline
import Derived.IntWalk
import Derived.Deep.OwnRows
import Derived.Lib.SlBytesRow
import Derived.Laws.IdiomStrings
import Derived.RegionTactic
import Derived.WalkSmall
import Derived.Deep.DeepFit
import Derived.Laws.BitsAllLaws
import Derived.Laws.BitsLemmas
import Derived.WalkSpells
import Derived.Deep.RegionWith
import Derived.OwnWalk
import Derived.Deep.QuietTactic
import Derived.Deep.AppendLies
/- Plain mathematics of the sets of integers of layer 5: no Go in sight. -/
namespace Go.Proofs.YtepbmnpjpkmmfaaGreatDoor
set_option linter.unusedVariables false

/-- A span; does it hold a number; do spans. -/
structure Spn where
  lo : Int
  hi : Int
def inS (s : Spn) (n : Int) : Bool := decide (s.lo ≤ n) && decide (n ≤ s.hi)
def anyS (l : List Spn) (n : Int) : Bool := l.any fun s => inS s n
/-- Is n one of the numbers of a list, up to M? -/
def memS (M : Int) (l : List Spn) (n : Int) : Bool := decide (0 ≤ n) && decide (n ≤ M) && anyS l n
/-- A set whose first span begins at c or behind it. -/
def okL (M : Int) : Int → List Spn → Prop
  | _, [] => True
  | c, s :: r => c ≤ s.lo ∧ s.lo ≤ s.hi ∧ s.hi ≤ M ∧ okL M (s.hi + 2) r

theorem inS_iff (s : Spn) (n : Int) : inS s n = true ↔ s.lo ≤ n ∧ n ≤ s.hi := by simp [inS]
theorem anyS_iff (l : List Spn) (n : Int) : anyS l n = true ↔ ∃ s ∈ l, s.lo ≤ n ∧ n ≤ s.hi := by
  unfold anyS
  rw [List.any_eq_true]
  constructor
  · rintro ⟨s, hs, h⟩; exact ⟨s, hs, (inS_iff s n).1 h⟩
  · rintro ⟨s, hs, h⟩; exact ⟨s, hs, (inS_iff s n).2 h⟩
theorem anyS_cons (s : Spn) (r : List Spn) (n : Int) : anyS (s :: r) n = (inS s n || anyS r n) := rfl
theorem anyS_append (a b : List Spn) (n : Int) : anyS (a ++ b) n = (anyS a n || anyS b n) := by simp [anyS]
theorem okL_mono {M : Int} : ∀ {l : List Spn} {c d : Int}, d ≤ c → okL M c l → okL M d l
  | [], _, _, _, _ => trivial
  | s :: r, c, d, h, ⟨h1, h2, h3, h4⟩ => ⟨by omega, h2, h3, h4⟩
theorem okL_ge {M : Int} : ∀ {l : List Spn} {c : Int} {n : Int}, okL M c l → anyS l n = true → c ≤ n
  | [], _, _, _, h => by simp [anyS] at h
  | s :: r, c, n, ⟨h1, h2, _, h4⟩, h => by
    rw [anyS_cons, Bool.or_eq_true, inS_iff] at h
    rcases h with h | h
    · omega
    · have := okL_ge h4 h; omega
theorem okL_le {M : Int} : ∀ {l : List Spn} {c : Int} {n : Int}, okL M c l → anyS l n = true → n ≤ M
  | [], _, _, _, h => by simp [anyS] at h
  | s :: r, c, n, ⟨_, _, h3, h4⟩, h => by
    rw [anyS_cons, Bool.or_eq_true, inS_iff] at h
    rcases h with h | h
    · omega
    · exact okL_le h4 h
/-- The numbers of a set are its members as they stand. -/
theorem okL_mem {M : Int} {l : List Spn} (h : okL M 0 l) (n : Int) : memS M l n = anyS l n := by
  unfold memS
  cases ha : anyS l n with
  | false => simp
  | true =>
    have h1 := okL_ge h ha
    have h2 := okL_le h ha
    simp [h1, h2]

/-- TWO SETS WITH THE SAME NUMBERS ARE EQUAL. -/
theorem okL_uniq {M : Int} : ∀ (a b : List Spn) (c d : Int), okL M c a → okL M d b → (∀ n, anyS a n = anyS b n) → a = b
  | [], [], _, _, _, _, _ => rfl
  | [], t :: q, c, d, _, ⟨_, h2, _, _⟩, h => by
    have := h t.lo
    rw [anyS_cons, show inS t t.lo = true by rw [inS_iff]; omega] at this
    simp [anyS] at this
  | s :: r, [], c, d, ⟨_, h2, _, _⟩, _, h => by
    have := h s.lo
    rw [anyS_cons, show inS s s.lo = true by rw [inS_iff]; omega] at this
    simp [anyS] at this
  | s :: r, t :: q, c, d, ⟨a1, a2, a3, a4⟩, ⟨b1, b2, b3, b4⟩, h => by
    have hlo1 : t.lo ≤ s.lo := by
      have e := h s.lo
      rw [anyS_cons, show inS s s.lo = true by rw [inS_iff]; omega, Bool.true_or] at e
      have e2 := e.symm
      rw [anyS_cons, Bool.or_eq_true, inS_iff] at e2
      rcases e2 with e2 | e2
      · exact e2.1
      · have := okL_ge b4 e2; omega
    have hlo2 : s.lo ≤ t.lo := by
      have e := h t.lo
      rw [anyS_cons (s := t), show inS t t.lo = true by rw [inS_iff]; omega, Bool.true_or] at e
      rw [anyS_cons, Bool.or_eq_true, inS_iff] at e
      rcases e with e | e
      · exact e.1
      · have := okL_ge a4 e; omega
    have hlo : s.lo = t.lo := by omega
    have hhi1 : t.hi ≤ s.hi := by
      by_cases hc : t.hi ≤ s.hi
      · exact hc
      · exfalso
        have e := h (s.hi + 1)
        rw [anyS_cons (s := t), show inS t (s.hi + 1) = true by rw [inS_iff]; omega, Bool.true_or] at e
        rw [anyS_cons, Bool.or_eq_true, inS_iff] at e
        rcases e with e | e
        · omega
        · have := okL_ge a4 e; omega
    have hhi2 : s.hi ≤ t.hi := by
      by_cases hc : s.hi ≤ t.hi
      · exact hc
      · exfalso
        have e := h (t.hi + 1)
        rw [anyS_cons (s := s), show inS s (t.hi + 1) = true by rw [inS_iff]; omega, Bool.true_or] at e
        have e2 := e.symm
        rw [anyS_cons, Bool.or_eq_true, inS_iff] at e2
        rcases e2 with e2 | e2
        · omega
        · have := okL_ge b4 e2; omega
    have hhi : s.hi = t.hi := by omega
    have hst : s = t := by
      cases s; cases t
      simp only at hlo hhi
      rw [hlo, hhi]
    subst hst
    rw [okL_uniq r q (s.hi + 2) (s.hi + 2) a4 b4 (fun n => by
      have e := h n
      rw [anyS_cons, anyS_cons] at e
      cases hs : inS s n with
      | false => rw [hs, Bool.false_or, Bool.false_or] at e; exact e
      | true =>
        rw [inS_iff] at hs
        have h1 : anyS r n = false := by
          cases hr : anyS r n with
          | false => rfl
          | true => have := okL_ge a4 hr; omega
        have h2 : anyS q n = false := by
          cases hr : anyS q n with
          | false => rfl
          | true => have := okL_ge b4 hr; omega
        rw [h1, h2])]
/-- A set is what its numbers are. -/
theorem set_eq {M : Int} {a b : List Spn} (ha : okL M 0 a) (hb : okL M 0 b) (h : ∀ n, memS M a n = memS M b n) : a = b :=
  okL_uniq a b 0 0 ha hb fun n => by
    have := h n
    rwa [okL_mem ha, okL_mem hb] at this

/-- How many numbers below N have a property. -/
def card (N : Nat) (p : Nat → Bool) : Nat := (List.range N).countP p
theorem card_succ (N : Nat) (p : Nat → Bool) : card (N + 1) p = card N p + if p N = true then 1 else 0 := by
  unfold card
  rw [List.range_succ, List.countP_append]
  simp [List.countP_cons]
theorem card_congr {N : Nat} {p q : Nat → Bool} (h : ∀ n, n < N → p n = q n) : card N p = card N q := by
  induction N with
  | zero => rfl
  | succ N ih => rw [card_succ, card_succ, ih (fun n hn => h n (by omega)), h N (by omega)]
/-- INCLUSION AND EXCLUSION. -/
theorem card_or_and (N : Nat) (p q : Nat → Bool) : card N (fun n => p n || q n) + card N (fun n => p n && q n) = card N p + card N q := by
  induction N with
  | zero => rfl
  | succ N ih =>
    simp only [card_succ]
    cases p N <;> cases q N <;> simp <;> omega
theorem card_minus (N : Nat) (p q : Nat → Bool) : card N (fun n => p n && !q n) + card N (fun n => p n && q n) = card N p := by
  induction N with
  | zero => rfl
  | succ N ih =>
    simp only [card_succ]
    cases p N <;> cases q N <;> simp <;> omega
theorem card_le (N : Nat) (p : Nat → Bool) : card N p ≤ N := by
  induction N with
  | zero => exact Nat.le_refl _
  | succ N ih =>
    rw [card_succ]
    split <;> omega
theorem card_none {N : Nat} {p : Nat → Bool} (h : ∀ n, n < N → p n = false) : card N p = 0 := by
  induction N with
  | zero => rfl
  | succ N ih => rw [card_succ, ih (fun n hn => h n (by omega)), h N (by omega)]; rfl
theorem card_zero {N : Nat} {p : Nat → Bool} (h : card N p = 0) : ∀ n, n < N → p n = false := by
  induction N with
  | zero => intro n hn; omega
  | succ N ih =>
    intro n hn
    rw [card_succ] at h
    by_cases e : n = N
    · subst e
      cases hp : p n with
      | false => rfl
      | true => rw [hp] at h; simp at h
    · exact ih (by omega) n (by omega)
theorem card_span (N : Nat) (lo hi : Int) (h0 : 0 ≤ lo) (h1 : lo ≤ hi + 1) (h2 : hi < N) : (card N (fun n => inS ⟨lo, hi⟩ (n : Int)) : Int) = hi - lo + 1 := by
  induction N generalizing hi with
  | zero =>
    simp only [card, List.range_zero, List.countP_nil]
    omega
  | succ N ih =>
    rw [card_succ]
    by_cases e : hi = (N : Int)
    · by_cases e2 : lo ≤ hi
      · have hin : inS ⟨lo, hi⟩ (N : Int) = true := by rw [inS_iff]; simp only; omega
        rw [if_pos hin]
        have hc : card N (fun n => inS ⟨lo, hi⟩ (n : Int)) = card N (fun n => inS ⟨lo, hi - 1⟩ (n : Int)) := card_congr fun n hn => by
          rw [Bool.eq_iff_iff, inS_iff, inS_iff]; simp only; omega
        rw [hc]
        have := ih (hi - 1) (by omega) (by omega)
        omega
      · have hin : inS ⟨lo, hi⟩ (N : Int) = false := by
          cases hh : inS ⟨lo, hi⟩ (N : Int) with
          | false => rfl
          | true => rw [inS_iff] at hh; simp only at hh; omega
        rw [if_neg (by rw [hin]; decide), card_none (fun n hn => by
          cases hh : inS ⟨lo, hi⟩ (n : Int) with
          | false => rfl
          | true => rw [inS_iff] at hh; simp only at hh; omega)]
        omega
    · have hin : inS ⟨lo, hi⟩ (N : Int) = false := by
        cases hh : inS ⟨lo, hi⟩ (N : Int) with
        | false => rfl
        | true => rw [inS_iff] at hh; simp only at hh; omega
      rw [if_neg (by rw [hin]; decide)]
      have := ih hi h1 (by omega)
      omega
/-- How many numbers a set has. -/
def cntL : List Spn → Int
  | [] => 0
  | s :: r => s.hi - s.lo + 1 + cntL r
theorem cnt_card {M : Int} : ∀ (l : List Spn) (c : Int), 0 ≤ c → okL M c l → cntL l = card (M + 1).toNat (fun n => anyS l (n : Int))
  | [], _, _, _ => by
    rw [card_none (p := fun n => anyS [] (n : Int)) (fun n _ => rfl)]; rfl
  | s :: r, c, hc, ⟨h1, h2, h3, h4⟩ => by
    have ih := cnt_card r (s.hi + 2) (by omega) h4
    have hs := card_span (M + 1).toNat s.lo s.hi (by omega) (by omega) (by omega)
    have hor := card_or_and (M + 1).toNat (fun n => inS s (n : Int)) (fun n => anyS r (n : Int))
    have hand : card (M + 1).toNat (fun n => inS s (n : Int) && anyS r (n : Int)) = 0 := card_none fun n _ => by
      cases hh : inS s (n : Int) with
      | false => rfl
      | true =>
        rw [inS_iff] at hh
        cases hr : anyS r (n : Int) with
        | false => rfl
        | true => have := okL_ge h4 hr; omega
    have he : card (M + 1).toNat (fun n => anyS (s :: r) (n : Int)) = card (M + 1).toNat (fun n => inS s (n : Int) || anyS r (n : Int)) := card_congr fun n _ => anyS_cons s r n
    rw [he]
    show s.hi - s.lo + 1 + cntL r = _
    have hs' : (card (M + 1).toNat (fun n => inS s (n : Int)) : Int) = s.hi - s.lo + 1 := hs
    omega
/-- The laws of the numbers: u, i, m the union, the intersection, the difference of the sets a and b. -/
theorem cnt_laws {M : Int} {a b u i m : List Spn} (ha : okL M 0 a) (hb : okL M 0 b) (hu : okL M 0 u) (hi : okL M 0 i) (hm : okL M 0 m)
    (eu : ∀ n, anyS u n = (anyS a n || anyS b n)) (ei : ∀ n, anyS i n = (anyS a n && anyS b n)) (em : ∀ n, anyS m n = (anyS a n && !anyS b n)) :
    cntL u + cntL i = cntL a + cntL b ∧ cntL m = cntL a - cntL i := by
  rw [cnt_card a 0 (Int.le_refl _) ha, cnt_card b 0 (Int.le_refl _) hb, cnt_card u 0 (Int.le_refl _) hu, cnt_card i 0 (Int.le_refl _) hi, cnt_card m 0 (Int.le_refl _) hm]
  rw [card_congr (fun n _ => eu (n : Int)), card_congr (fun n _ => ei (n : Int)), card_congr (p := fun n => anyS m (n : Int)) (fun n _ => em (n : Int))]
  have h1 := card_or_and (M + 1).toNat (fun n => anyS a (n : Int)) (fun n => anyS b (n : Int))
  have h2 := card_minus (M + 1).toNat (fun n => anyS a (n : Int)) (fun n => anyS b (n : Int))
  constructor <;> omega
theorem cnt_bounds {M : Int} {a : List Spn} (hM : 0 ≤ M) (ha : okL M 0 a) : 0 ≤ cntL a ∧ cntL a ≤ M + 1 := by
  rw [cnt_card a 0 (Int.le_refl _) ha]
  have := card_le (M + 1).toNat (fun n => anyS a (n : Int))
  omega
/-- A subset is one whose intersection has as many numbers. -/
theorem sub_iff_cnt {M : Int} {a b i : List Spn} (hM : 0 ≤ M) (ha : okL M 0 a) (hi : okL M 0 i) (ei : ∀ n, anyS i n = (anyS a n && anyS b n)) :
    cntL i = cntL a ↔ ∀ n, anyS a n = true → anyS b n = true := by
  rw [cnt_card a 0 (Int.le_refl _) ha, cnt_card i 0 (Int.le_refl _) hi, card_congr (fun n _ => ei (n : Int))]
  have h2 := card_minus (M + 1).toNat (fun n => anyS a (n : Int)) (fun n => anyS b (n : Int))
  constructor
  · intro h n hn
    have h1 := okL_ge ha hn
    have h3 := okL_le ha hn
    have hz := card_zero (N := (M + 1).toNat) (p := fun n => anyS a (n : Int) && !anyS b (n : Int)) (by omega) n.toNat (by omega)
    rw [show ((n.toNat : Nat) : Int) = n by omega, hn] at hz
    simpa using hz
  · intro h
    have hz : card (M + 1).toNat (fun n => anyS a (n : Int) && !anyS b (n : Int)) = 0 := card_none fun n _ => by
      cases hA : anyS a (n : Int) with
      | false => rfl
      | true => rw [h _ hA]; rfl
    omega

/-- What lies in a list of spans cut to the numbers from 0 to M, as the reference cuts it. -/
def cutS (s : Spn) (lo hi : Int) : Spn := ⟨max s.lo lo, min s.hi hi⟩
theorem cutS_in (s : Spn) (lo hi n : Int) : inS (cutS s lo hi) n = (inS s n && (decide (lo ≤ n) && decide (n ≤ hi))) := by
  rw [Bool.eq_iff_iff]
  simp only [cutS, inS, Bool.and_eq_true, decide_eq_true_eq, Int.max_le, Int.le_min]
  constructor
  · rintro ⟨⟨h1, h2⟩, h3, h4⟩
    exact ⟨⟨h1, h3⟩, h2, h4⟩
  · rintro ⟨⟨h1, h3⟩, h2, h4⟩
    exact ⟨⟨h1, h2⟩, h3, h4⟩
/-- One round of the reference's normal form: x the least span grown as far as it goes, work all spans. -/
structure Least (work : List Spn) (x : Spn) : Prop where
  low : ∀ s ∈ work, x.lo ≤ s.lo
  far : ∀ s ∈ work, s.hi ≤ x.hi ∨ x.hi + 2 ≤ s.lo
  cov : ∀ n, x.lo ≤ n → n ≤ x.hi → anyS work n = true
  ne : x.lo ≤ x.hi
theorem least_any {work : List Spn} {x : Spn} (h : Least work x) (n : Int) : anyS work n = (inS x n || anyS (work.filter fun s => decide (x.hi < s.lo)) n) := by
  rw [Bool.eq_iff_iff, Bool.or_eq_true, inS_iff, anyS_iff, anyS_iff]
  constructor
  · rintro ⟨s, hs, h1, h2⟩
    rcases h.far s hs with hf | hf
    · have := h.low s hs
      exact .inl (by omega)
    · exact .inr ⟨s, by simp [hs]; omega, h1, h2⟩
  · rintro (⟨h1, h2⟩ | ⟨s, hs, h1, h2⟩)
    · have := h.cov n h1 h2
      rwa [anyS_iff] at this
    · rw [List.mem_filter] at hs
      exact ⟨s, hs.1, h1, h2⟩
theorem least_rest {work : List Spn} {x : Spn} (h : Least work x) : ∀ s ∈ work.filter (fun s => decide (x.hi < s.lo)), x.hi + 2 ≤ s.lo ∨ s.hi ≤ x.hi := by
  intro s hs
  rw [List.mem_filter] at hs
  rcases h.far s hs.1 with hf | hf
  · exact .inr hf
  · exact .inl hf
/-- x grows by a span that it touches. -/
theorem least_grow {work : List Spn} {x s : Spn} (hs : s ∈ work) (hc : ∀ n, x.lo ≤ n → n ≤ x.hi → anyS work n = true) (h1 : s.lo ≤ x.hi + 1) (h2 : x.hi < s.hi) : ∀ n, x.lo ≤ n → n ≤ s.hi → anyS work n = true := by
  intro n hn1 hn2
  by_cases h : n ≤ x.hi
  · exact hc n hn1 h
  · rw [anyS_iff]
    exact ⟨s, hs, by omega, hn2⟩

/-- What a set leaves of the numbers from lo to hi, as the reference goes through it. -/
def comp : List Spn → Int → Int → List Spn
  | [], lo, hi => if lo ≤ hi then [⟨lo, hi⟩] else []
  | s :: r, lo, hi => if lo ≤ hi then (if lo ≤ min hi (s.lo - 1) then [⟨lo, min hi (s.lo - 1)⟩] else []) ++ comp r (max lo (s.hi + 1)) hi else []
theorem comp_none : ∀ (l : List Spn) {lo hi : Int}, hi < lo → comp l lo hi = []
  | [], lo, hi, h => by rw [comp, if_neg (by omega)]
  | s :: r, lo, hi, h => by rw [comp, if_neg (by omega)]
theorem comp_ok {M : Int} : ∀ (l : List Spn) (c lo hi : Int), okL M c l → hi ≤ M → okL M lo (comp l lo hi)
  | [], c, lo, hi, _, hM => by
    rw [comp]
    split
    · exact ⟨Int.le_refl _, by assumption, hM, trivial⟩
    · trivial
  | s :: r, c, lo, hi, ⟨h1, h2, h3, h4⟩, hM => by
    rw [comp]
    split
    · have ih := comp_ok r (s.hi + 2) (max lo (s.hi + 1)) hi h4 hM
      split
      · refine ⟨Int.le_refl _, by assumption, by simp only; omega, ?_⟩
        exact okL_mono (by simp only; omega) ih
      · rw [List.nil_append]
        exact okL_mono (by omega) ih
    · trivial
theorem comp_any {M : Int} : ∀ (l : List Spn) (c lo hi n : Int), okL M c l → anyS (comp l lo hi) n = (decide (lo ≤ n) && decide (n ≤ hi) && !anyS l n)
  | [], c, lo, hi, n, _ => by
    rw [comp]
    split
    · simp [anyS, inS]
    · have : (decide (lo ≤ n) && decide (n ≤ hi)) = false := by
        rw [Bool.and_eq_false_iff]; simp; omega
      rw [this]; rfl
  | s :: r, c, lo, hi, n, ⟨h1, h2, h3, h4⟩ => by
    rw [comp]
    split
    · have ih := comp_any r (s.hi + 2) (max lo (s.hi + 1)) hi n h4
      have hge : anyS r n = true → s.hi + 2 ≤ n := fun h => okL_ge h4 h
      rw [anyS_append, ih, anyS_cons]
      have hx : anyS (if lo ≤ min hi (s.lo - 1) then [(⟨lo, min hi (s.lo - 1)⟩ : Spn)] else []) n = (decide (lo ≤ n) && decide (n ≤ min hi (s.lo - 1))) := by
        split
        · simp [anyS, inS]
        · have : (decide (lo ≤ n) && decide (n ≤ min hi (s.lo - 1))) = false := by
            rw [Bool.and_eq_false_iff]; simp only [decide_eq_false_iff_not]; omega
          rw [this]; rfl
      rw [hx, Bool.eq_iff_iff]
      cases hr : anyS r n with
      | true =>
        have := hge hr
        simp only [inS, Bool.or_eq_true, Bool.and_eq_true, decide_eq_true_eq, Bool.not_true, Bool.or_true, Bool.and_false, Bool.false_eq_true, or_false, iff_false]
        omega
      | false =>
        simp only [inS, Bool.or_eq_true, Bool.and_eq_true, decide_eq_true_eq, Bool.not_false, Bool.or_false, Bool.and_true, Bool.not_eq_true', Bool.and_eq_false_iff, decide_eq_false_iff_not]
        omega
    · have : (decide (lo ≤ n) && decide (n ≤ hi)) = false := by
        rw [Bool.and_eq_false_iff]; simp; omega
      rw [this]; rfl

/-- All spans that two lists have in common, pair by pair. -/
def pairsS (a b : List Spn) : List Spn := a.flatMap fun s => b.flatMap fun t => if (cutS s t.lo t.hi).lo ≤ (cutS s t.lo t.hi).hi then [cutS s t.lo t.hi] else []
theorem anyS_flatMap {α : Type} (l : List α) (f : α → List Spn) (n : Int) : anyS (l.flatMap f) n = l.any fun x => anyS (f x) n := by
  induction l with
  | nil => rfl
  | cons x r ih => rw [List.flatMap_cons, anyS_append, ih]; rfl
theorem pairs_any (a b : List Spn) (n : Int) : anyS (pairsS a b) n = (anyS a n && anyS b n) := by
  unfold pairsS
  rw [anyS_flatMap, Bool.eq_iff_iff, List.any_eq_true, Bool.and_eq_true, anyS_iff, anyS_iff]
  constructor
  · rintro ⟨s, hs, h⟩
    rw [anyS_flatMap, List.any_eq_true] at h
    obtain ⟨t, ht, h⟩ := h
    split at h
    · simp only [anyS, List.any_cons, List.any_nil, Bool.or_false] at h
      rw [cutS_in, Bool.and_eq_true, inS_iff, Bool.and_eq_true, decide_eq_true_eq, decide_eq_true_eq] at h
      exact ⟨⟨s, hs, h.1⟩, t, ht, h.2⟩
    · simp [anyS] at h
  · rintro ⟨⟨s, hs, h1⟩, t, ht, h2⟩
    refine ⟨s, hs, ?_⟩
    rw [anyS_flatMap, List.any_eq_true]
    refine ⟨t, ht, ?_⟩
    have hc : inS (cutS s t.lo t.hi) n = true := by
      rw [cutS_in, Bool.and_eq_true, inS_iff, Bool.and_eq_true, decide_eq_true_eq, decide_eq_true_eq]
      exact ⟨h1, h2⟩
    have hc2 := (inS_iff _ _).1 hc
    rw [if_pos (by omega)]
    simp [anyS, hc]
/-- Spans cut to the numbers from 0 to M, the empty ones left out. -/
def cutAll (M : Int) (l : List Spn) : List Spn := l.flatMap fun s => if (cutS s 0 M).lo ≤ (cutS s 0 M).hi then [cutS s 0 M] else []
theorem cutAll_any (M : Int) (l : List Spn) (n : Int) : anyS (cutAll M l) n = memS M l n := by
  unfold cutAll memS
  rw [anyS_flatMap, Bool.eq_iff_iff, List.any_eq_true, Bool.and_eq_true, Bool.and_eq_true, decide_eq_true_eq, decide_eq_true_eq, anyS_iff]
  constructor
  · rintro ⟨s, hs, h⟩
    split at h
    · simp only [anyS, List.any_cons, List.any_nil, Bool.or_false] at h
      rw [cutS_in, Bool.and_eq_true, inS_iff, Bool.and_eq_true, decide_eq_true_eq, decide_eq_true_eq] at h
      exact ⟨h.2, s, hs, h.1⟩
    · simp [anyS] at h
  · rintro ⟨h0, s, hs, h1⟩
    refine ⟨s, hs, ?_⟩
    have hc : inS (cutS s 0 M) n = true := by
      rw [cutS_in, Bool.and_eq_true, inS_iff, Bool.and_eq_true, decide_eq_true_eq, decide_eq_true_eq]
      exact ⟨h1, h0⟩
    have hc2 := (inS_iff _ _).1 hc
    rw [if_pos (by omega)]
    simp [anyS, hc]
end Go.Proofs.YtepbmnpjpkmmfaaGreatDoor

/- Plain mathematics of byte strings and numbers for layer 1: no Go in sight. -/
namespace Go.Proofs.YtepbmnpjpkmmfaaGreatDoor

/-- The size bytes of n, least significant first. -/
def leL : Nat → Nat → List UInt8
  | 0, _ => []
  | k + 1, n => UInt8.ofNat (n % 256) :: leL k (n / 256)

theorem leL_length : ∀ k n, (leL k n).length = k
  | 0, _ => rfl
  | k + 1, n => by simp [leL, leL_length k]

theorem leL_get : ∀ k n j (h : j < (leL k n).length), (leL k n)[j] = UInt8.ofNat (n / 256 ^ j % 256)
  | 0, _, j, h => by simp [leL] at h
  | k + 1, n, 0, _ => by simp [leL]
  | k + 1, n, j + 1, h => by
    simp only [leL, List.getElem_cons_succ]
    rw [leL_get k (n / 256) j (by simpa [leL] using h), Nat.div_div_eq_div_mul, Nat.pow_succ, Nat.mul_comm]

theorem leL_snoc : ∀ k n, leL (k + 1) n = leL k n ++ [UInt8.ofNat (n / 256 ^ k % 256)]
  | 0, n => by simp [leL]
  | k + 1, n => by
    have h := leL_snoc k (n / 256)
    rw [leL, h]
    simp only [leL, List.cons_append]
    rw [Nat.div_div_eq_div_mul, Nat.pow_succ, Nat.mul_comm]

/-- What bytes denote, most significant first. -/
def num (l : List UInt8) : Nat := l.foldl (fun a c => a * 256 + c.toNat) 0

theorem num_nil : num [] = 0 := rfl
theorem num_snoc (l : List UInt8) (c : UInt8) : num (l ++ [c]) = num l * 256 + c.toNat := by simp [num]

theorem u8_lt (c : UInt8) : c.toNat < 256 := c.toNat_lt

theorem numFrom_lt : ∀ (l : List UInt8) (a : Nat), l.foldl (fun a c => a * 256 + c.toNat) a + 1 ≤ (a + 1) * 256 ^ l.length
  | [], a => by simp
  | c :: l, a => by
    have h := numFrom_lt l (a * 256 + c.toNat)
    have hc := u8_lt c
    have h2 : (a * 256 + c.toNat + 1) * 256 ^ l.length ≤ ((a + 1) * 256) * 256 ^ l.length := Nat.mul_le_mul_right _ (by omega)
    rw [List.foldl_cons, List.length_cons, Nat.pow_succ, Nat.mul_comm (256 ^ l.length) 256, ← Nat.mul_assoc]
    exact Nat.le_trans h h2

theorem num_lt (l : List UInt8) : num l < 256 ^ l.length := by
  have h := numFrom_lt l 0
  unfold num
  omega

theorem num_reverse_leL : ∀ k n, num (leL k n).reverse = n % 256 ^ k
  | 0, n => by simp [leL, num, Nat.mod_one]
  | k + 1, n => by
    rw [leL, List.reverse_cons, num_snoc, num_reverse_leL k, Nat.pow_succ, Nat.mul_comm (256 ^ k) 256, Nat.mod_mul]
    have : (UInt8.ofNat (n % 256)).toNat = n % 256 := by
      rw [UInt8.toNat_ofNat']
      omega
    rw [this]
    omega

theorem leL_num : ∀ l : List UInt8, leL l.length (num l.reverse) = l
  | [] => rfl
  | c :: l => by
    have hc := u8_lt c
    rw [List.reverse_cons, num_snoc, List.length_cons, leL]
    have h1 : (num l.reverse * 256 + c.toNat) % 256 = c.toNat := by omega
    have h2 : (num l.reverse * 256 + c.toNat) / 256 = num l.reverse := by omega
    rw [h1, h2, leL_num l]
    simp

theorem leL_reverse_num (l : List UInt8) : (leL l.length (num l)).reverse = l := by
  have h := leL_num l.reverse
  rw [List.reverse_reverse, List.length_reverse] at h
  rw [h, List.reverse_reverse]

/-- 256 to a size that fits. -/
theorem pow_le7 {k : Nat} (h : k ≤ 7) : 256 ^ k ≤ 72057594037927936 := by
  have : 256 ^ k ≤ 256 ^ 7 := Nat.pow_le_pow_right (by omega) h
  simpa using this

theorem num_le7 {l : List UInt8} (h : l.length ≤ 7) : num l < 72057594037927936 := Nat.lt_of_lt_of_le (num_lt l) (pow_le7 h)

/-- 256 to the k. -/
def pw (k : Nat) : Nat := 256 ^ k
theorem pw_zero : pw 0 = 1 := rfl
theorem pw_succ (k : Nat) : pw (k + 1) = pw k * 256 := Nat.pow_succ ..
theorem pw_le7 {k : Nat} (h : k ≤ 7) : pw k ≤ 72057594037927936 := pow_le7 h
theorem pw_le6 {k : Nat} (h : k < 7) : pw k ≤ 281474976710656 := by
  have : 256 ^ k ≤ 256 ^ 6 := Nat.pow_le_pow_right (by omega) (by omega)
  simpa [pw] using this
theorem num_lt6 {l : List UInt8} (h : l.length < 7) : num l < 281474976710656 := Nat.lt_of_lt_of_le (num_lt l) (pw_le6 h)
theorem pw_pos (k : Nat) : 0 < pw k := Nat.pow_pos (by omega)

theorem two_pow_eight (k : Nat) : (2 : Nat) ^ (8 * k) = pw k := by rw [Nat.pow_mul]; rfl
theorem two_pow_pw (k : Nat) : (2 : Int) ^ (8 * (k : Int)).toNat = (pw k : Int) := by
  have e : (8 * (k : Int)).toNat = 8 * k := by omega
  rw [e, ← two_pow_eight]
  simp
theorem two_pow_pw' (k : Nat) : (2 : Int) ^ (8 * k) = (pw k : Int) := by
  rw [← two_pow_eight]
  simp
theorem shr_pw' (n : Nat) (k : Nat) : (n : Int) / 2 ^ (8 * k) = ((n / pw k : Nat) : Int) := by
  rw [two_pow_pw']; simp
theorem shr_pw (n : Nat) (k : Nat) : (n : Int) / 2 ^ (8 * (k : Int)).toNat = ((n / pw k : Nat) : Int) := by
  rw [two_pow_pw]; simp

/-- Is a size valid? -/
def vld (size : Int) : Bool := decide (1 ≤ size ∧ size ≤ 7)
/-- Can n be written in size bytes? -/
def fits (n size : Int) : Bool := decide (1 ≤ size ∧ size ≤ 7 ∧ 0 ≤ n ∧ n < 256 ^ size.toNat)
/-- The bytes of n, least significant first, if it can be written. -/
def putLe (n size : Int) : List UInt8 := if fits n size then leL size.toNat n.toNat else []
/-- A string of bytes. -/
def str (l : List UInt8) : ByteArray := ⟨l.toArray⟩
theorem str_size (l : List UInt8) : (str l).size = l.length := by simp [str, ByteArray.size]
theorem str_toList (l : List UInt8) : (str l).data.toList = l := by simp [str]
theorem str_of (s : ByteArray) : str s.data.toList = s := by simp [str]

theorem str_append (a b : List UInt8) : str a ++ str b = str (a ++ b) := by
  apply ByteArray.ext
  simp [str]

theorem putLe_length_le (n size : Int) : (putLe n size).length ≤ 7 := by
  unfold putLe fits
  split
  · rename_i h
    have := of_decide_eq_true h
    rw [leL_length]
    omega
  · simp

/-- What a row holds when its first k and last k bytes have been exchanged. -/
def turned (l : List UInt8) (k x : Nat) : UInt8 := if x < k ∨ l.length ≤ x + k then l.getD (l.length - 1 - x) 0 else l.getD x 0
theorem turned_zero (l : List UInt8) (x : Nat) (hx : x < l.length) : turned l 0 x = l[x] := by
  unfold turned
  rw [if_neg (by omega)]
  simp [List.getD, hx]
theorem turned_q {l : List UInt8} {k q : Nat} (h : k + q + 1 = l.length) (hr : k < q) : turned l (k + 1) q = turned l k k := by
  unfold turned
  rw [if_pos (by omega), if_neg (by omega), show l.length - 1 - q = k by omega]
theorem turned_k {l : List UInt8} {k q : Nat} (h : k + q + 1 = l.length) (hr : k < q) : turned l (k + 1) k = turned l k q := by
  unfold turned
  rw [if_pos (by omega), if_neg (by omega), show l.length - 1 - k = q by omega]
theorem turned_far {l : List UInt8} {k q x : Nat} (h : k + q + 1 = l.length) (hk : x ≠ k) (hq : x ≠ q) : turned l (k + 1) x = turned l k x := by
  unfold turned
  by_cases c : x < k ∨ l.length ≤ x + k
  · rw [if_pos (by omega), if_pos c]
  · rw [if_neg (by omega), if_neg c]
theorem turned_done {l : List UInt8} {k q x : Nat} (h : k + q + 1 = l.length) (hr : ¬ k < q) (hx : x < l.reverse.length) : turned l k x = l.reverse[x] := by
  have hx' : x < l.length := by simpa using hx
  have e : l.reverse[x] = l.getD (l.length - 1 - x) 0 := by
    rw [List.getElem_reverse]
    simp [List.getD, show l.length - 1 - x < l.length by omega]
  rw [e]
  unfold turned
  by_cases c : x < k ∨ l.length ≤ x + k
  · rw [if_pos c]
  · rw [if_neg c, show l.length - 1 - x = x by omega]
end Go.Proofs.YtepbmnpjpkmmfaaGreatDoor

/- Contracts of the functions that only compute: validSize, Power, Value. -/
namespace Go.Proofs.YtepbmnpjpkmmfaaGreatDoor
open Go.ChangeShapes Go.WideShapes Go.ChangeAt Go.RowKit

theorem ret_int {k : IntKind} {a b : Int} (h : a = b) : Ending.returned (.int k a) = .returned (.int k b) := by rw [h]

end Go.Proofs.YtepbmnpjpkmmfaaGreatDoor

/- Contracts of the functions that make or read byte slices: little, Reverse, number, part. -/
namespace Go.Proofs.YtepbmnpjpkmmfaaGreatDoor
open Go.ChangeShapes Go.WideShapes Go.ChangeAt Go.RowKit

/-- A slice of bytes that reads as l, lies from block base on, and may be written. -/
def BS (w : World) (base : Nat) (v : Value) (l : List UInt8) : Prop :=
  ∃ A cap, v = .slice A l.length cap ∧ l.length ≤ cap ∧
    (0 < l.length → ∃ g o, A = some ⟨g, o, none⟩ ∧ base ≤ g ∧ g < w.heap.size ∧
      ∀ j (hj : j < l.length), w.cell? ⟨g, o + j, none⟩ = some (.int .u8 (l[j].toNat : Int)) ∧ w.frozen? ⟨g, o + j, none⟩ = false)

theorem cell_set_same {w : World} {a : Addr} {u : Value} (v : Value) (h : w.cell? a = some u) : (w.setCell a v).cell? a = some v := World.cell?_setCell_same' w a v (by simp [h])
theorem cell_set_far (w : World) (g x y : Nat) (v : Value) (h : x ≠ y) : (w.setCell ⟨g, x, none⟩ v).cell? ⟨g, y, none⟩ = w.cell? ⟨g, y, none⟩ :=
  World.cell?_setCell_other w ⟨g, x, none⟩ ⟨g, y, none⟩ v (by intro e; injection e with _ e; exact h (by omega))
theorem frozen_set (w : World) (a b : Addr) (v : Value) : (w.setCell a v).frozen? b = w.frozen? b := by simp
theorem size_set (w : World) (a : Addr) (v : Value) : (w.setCell a v).heap.size = w.heap.size := by simp [World.setCell]

theorem info5 : (Tryz.prog.info? 5).map (fun i => (i.zero, i.size, i.bytes)) = some (some (.int .u8 0), 1, 1) := by kernel_rfl

end Go.Proofs.YtepbmnpjpkmmfaaGreatDoor

/- Contracts: number, part, Put, PutLittle, Get, GetLittle of the program. -/
namespace Go.Proofs.YtepbmnpjpkmmfaaGreatDoor
open Go.ChangeShapes Go.WideShapes Go.ChangeAt Go.RowKit

/-- 'a<<8 | b': the wrap is none where a is small. -/
theorem or_byte (a b : Nat) (ha : a < 281474976710656) (hb : b < 256) : bits .or .i64 ((a : Int) * 256) (b : Int) = (a : Int) * 256 + b := by
  have nn : ∀ x : Nat, x < 2 ^ 63 → (BitVec.ofInt 64 (x : Int)).toNat = x := fun x hx => by
    rw [BitVec.ofInt_natCast, BitVec.toNat_ofNat]
    exact Nat.mod_eq_of_lt (by omega)
  have e : a * 256 ||| b = a * 256 + b := by
    have h := Nat.shiftLeft_add_eq_or_of_lt (i := 8) (b := b) (by omega) a
    rw [Nat.shiftLeft_eq, show 2 ^ 8 = 256 from rfl] at h
    omega
  rw [show ((a : Int) * 256) = ((a * 256 : Nat) : Int) by omega]
  show IntKind.i64.wrap ((BitVec.ofInt 64 ((a * 256 : Nat) : Int) ||| BitVec.ofInt 64 (b : Int)).toNat : Int) = _
  rw [BitVec.toNat_or, nn _ (by omega), nn _ (by omega), e, IntKind.wrap_i64]
  omega

theorem bs_nil (w : World) (base : Nat) : BS w base (.slice none 0 0) [] := ⟨none, 0, rfl, Nat.le_refl _, by simp⟩

theorem str_eq {l : List UInt8} {s : ByteArray} (h : s.data.toList = l) : s = str l := by rw [← h, str_of]

/-- 'string(b)'. -/
theorem bs_string {w : World} {base : Nat} {A : Option Addr} {cap : Nat} {l : List UInt8} (h : BS w base (.slice A l.length cap) l) :
    (convert 63 9 (.slice A l.length cap)).run Tryz.prog w = .ok (.string (str l)) w := by
  obtain ⟨A', cap', hv, hc, hb⟩ := h
  cases hv
  by_cases h0 : l.length = 0
  · have hnil : l = [] := List.eq_nil_of_length_eq_zero h0
    subst hnil
    rw [run_convert_bytes_string w 63 9 5 A _ cap Tryz.underlying63 Tryz.underlying5 Tryz.underlying9]
    cases A with
    | none => rfl
    | some a => simp [Conv.bytesToString, loadCells, loadCellsFrom, str]; rfl
  · obtain ⟨g, o, rfl, _, _, hcell⟩ := hb (by omega)
    refine run_convert_bytes_back w 63 9 5 ⟨g, o, none⟩ cap l Tryz.underlying63 Tryz.underlying5 Tryz.underlying9 (fun j hj => ?_)
    have := (hcell j hj).1
    unfold Addr.add
    split
    · subst_vars; simpa using this
    · exact this

/-- k bytes from a place on. -/
def sub (s : ByteArray) (a k : Nat) : List UInt8 := (s.data.toList.drop a).take k
theorem sub_length {s : ByteArray} {a k : Nat} (h : a + k ≤ s.size) : (sub s a k).length = k := by
  unfold sub
  rw [List.length_take, List.length_drop]
  have : s.data.toList.length = s.size := by simp
  omega

/-- '[]byte(s)'. -/
theorem bs_new (w : World) (s : ByteArray) (cap : Nat) (hcap : s.size ≤ cap) :
    BS (w.alloc (.cells (bytesRow s cap) 5 ((bytesRow s cap).size, (bytesRow s cap).size + 1))) w.heap.size (.slice (some ⟨w.heap.size, 0, none⟩) s.size cap) s.data.toList := by
  have hl : s.data.toList.length = s.size := by simp
  refine ⟨some ⟨w.heap.size, 0, none⟩, cap, by rw [hl], by rw [hl]; exact hcap, fun _ => ⟨w.heap.size, 0, rfl, Nat.le_refl _, by simp, fun j hj => ?_⟩⟩
  have hj' : j < s.data.size := by rw [hl] at hj; exact hj
  rw [Nat.zero_add]
  refine ⟨?_, ?_⟩
  · rw [World.cell?_alloc_mark, bytesRow_at s cap j hj']
    simp
  · rw [World.frozen?_alloc_mark]
    have : (bytesRow s cap).size = s.data.size + (cap - s.size) := by simp [bytesRow]
    simp
    intro
    omega

end Go.Proofs.YtepbmnpjpkmmfaaGreatDoor

/- Contracts of the reference: Put, Reverse, PutLittle, Get, GetLittle. -/
namespace Go.Proofs.YtepbmnpjpkmmfaaGreatDoor
open Go.ChangeShapes Go.WideShapes Go.ChangeAt Go.RowKit

/-- What lies below the heap's end reads on behind a step that keeps it. -/
theorem kept_cells {a b : World} (h : Below a.heap.size a b) (g o : Nat) (hg : g < a.heap.size) : b.cell? ⟨g, o, none⟩ = a.cell? ⟨g, o, none⟩ := h.cell (p := ⟨g, o, none⟩) hg

/-- 'string([]byte{b})'. -/
theorem one_string (W : World) (g : Nat) (b : Int) (h0 : 0 ≤ b) (h1 : b < 256) (hc : W.cell? ⟨g, 0, none⟩ = some (.int .u8 b)) :
    (convert 63 9 (.slice (some ⟨g, 0, none⟩) 1 1)).run Tryz.prog W = .ok (.string (str [UInt8.ofNat b.toNat])) W := by
  refine run_convert_bytes_back W 63 9 5 ⟨g, 0, none⟩ 1 [UInt8.ofNat b.toNat] Tryz.underlying63 Tryz.underlying5 Tryz.underlying9 (fun j hj => ?_)
  obtain rfl : j = 0 := by simpa using hj
  show W.cell? ⟨g, 0, none⟩ = _
  rw [hc]
  simp
  omega

end Go.Proofs.YtepbmnpjpkmmfaaGreatDoor

/- Contracts of the reference: Reverse, PutLittle, Get, GetLittle. -/
namespace Go.Proofs.YtepbmnpjpkmmfaaGreatDoor
open Go.ChangeShapes Go.WideShapes Go.ChangeAt Go.RowKit
set_option linter.unusedVariables false

/-- Bytes as cells. -/
def cellsOf (l : List UInt8) : List Value := l.map fun b => .int .u8 (b.toNat : Int)

theorem bs_of_own {w : World} {base : Nat} {A : Option Addr} {cap : Nat} {l : List UInt8} (h : w.ownsRow base 5 1 (.slice A l.length cap) l.length (cellsOf l)) : BS w base (.slice A l.length cap) l := by
  refine ⟨A, cap, rfl, ?_, fun hpos => ?_⟩
  · rcases h.2 with ⟨hv, hn⟩ | ⟨g, c, cur, hv, _, _, hn, _⟩
    · omega
    · cases hv; exact hn
  · rcases h.2 with ⟨hv, hn⟩ | ⟨g, c, cur, hv, hg, hh, hn, _⟩
    · omega
    · cases hv
      have hlt : g < w.heap.size := (h.lt g rfl).2
      refine ⟨g, 0, rfl, hg, hlt, fun j hj => ?_⟩
      rw [Nat.zero_add]
      refine ⟨?_, h.frozenAt j⟩
      rw [h.cellAt j (by omega)]
      simp [cellsOf, hj]

theorem cellsOf_snoc (l : List UInt8) (b : UInt8) : cellsOf l ++ [.int .u8 (b.toNat : Int)] = cellsOf (l ++ [b]) := by simp [cellsOf]
theorem cellsOf_length (l : List UInt8) : (cellsOf l).length = l.length := by simp [cellsOf]

theorem back_take (l : List UInt8) (q : Nat) (h : q < l.length) : (l.drop (q + 1)).reverse ++ [l[q]] = (l.drop q).reverse := by
  rw [List.drop_eq_getElem_cons h, List.reverse_cons]

theorem ext_size (s : ByteArray) (a k : Nat) : (s.extract a (a + k)).size ≤ k := by
  rw [ByteArray.size_extract]; omega

end Go.Proofs.YtepbmnpjpkmmfaaGreatDoor

/- Contracts of the program's reader: next, Int, Take, Rest, Left, Err, NewReader. -/
namespace Go.Proofs.YtepbmnpjpkmmfaaGreatDoor
open Go.ChangeShapes Go.WideShapes Go.ChangeAt Go.RowKit
set_option linter.unusedVariables false

/-- Block g is just these cells. -/
def Cells (w : World) (g : Nat) (t : TypeId) (cs : Array Value) : Prop := w.heap[g]? = some (.cells cs t (0, 0))
theorem Cells.lt {w : World} {g : Nat} {t : TypeId} {cs : Array Value} (h : Cells w g t cs) : g < w.heap.size := (Array.getElem?_eq_some_iff.1 h).1
theorem Cells.cell {w : World} {g : Nat} {t : TypeId} {cs : Array Value} (h : Cells w g t cs) (i : Nat) : w.cell? ⟨g, i, none⟩ = cs[i]? := by
  have h' : w.heap[g]? = some (.cells cs t (0, 0)) := h
  simp [World.cell?, h']
theorem Cells.frozen {w : World} {g : Nat} {t : TypeId} {cs : Array Value} (h : Cells w g t cs) (i : Nat) : w.frozen? ⟨g, i, none⟩ = false := by
  have h' : w.heap[g]? = some (.cells cs t (0, 0)) := h
  simp [World.frozen?, h']
theorem Cells.set {w : World} {g : Nat} {t : TypeId} {cs : Array Value} (h : Cells w g t cs) (i : Nat) (u : Value) : Cells (w.setCell ⟨g, i, none⟩ u) g t (cs.setIfInBounds i u) := by
  have h' : w.heap[g]? = some (.cells cs t (0, 0)) := h
  show (w.setCell ⟨g, i, none⟩ u).heap[g]? = _
  simp [World.setCell, Array.getElem?_modify, h']
theorem Cells.only {w w' : World} {g : Nat} {t : TypeId} {cs : Array Value} {row : Option Nat} (h : Cells w g t cs) (hg : w.grownBy w' row) (hne : some g ≠ row) : Cells w' g t cs :=
  (hg.block g h.lt hne).trans h
theorem only_set (w : World) (g i : Nat) (u : Value) : w.grownBy (w.setCell ⟨g, i, none⟩ u) (some g) :=
  ⟨rfl, rfl, rfl, by simp [World.setCell], fun k _ hne => Below.heap_setCell w ⟨g, i, none⟩ u k (by intro e; exact hne (by rw [e]))⟩
theorem only_trans {a b c : World} {row : Option Nat} (h : a.grownBy b row) (k : b.grownBy c row) : a.grownBy c row :=
  ⟨k.os.trans h.os, k.tape.trans h.tape, k.output.trans h.output, Nat.le_trans h.size k.size, fun i hi hne => (k.block i (Nat.lt_of_lt_of_le hi h.size) hne).trans (h.block i hi hne)⟩
theorem only_refl (w : World) (row : Option Nat) : w.grownBy w row := ⟨rfl, rfl, rfl, Nat.le_refl _, fun _ _ _ => rfl⟩
theorem only_below {w w' : World} (h : Below w.heap.size w w') (row : Option Nat) : w.grownBy w' row := ⟨h.os, h.tape, h.output, h.size, fun k hk _ => h.block k hk⟩

/-- The bytes that a reader has left lie outside its own block. -/
def Left (w : World) (p : Nat) (A : Option Addr) (l : List UInt8) (cap : Nat) : Prop :=
  l.length ≤ cap ∧ (0 < l.length → ∃ g o, A = some ⟨g, o, none⟩ ∧ g ≠ p ∧ g < w.heap.size ∧
    ∀ j (hj : j < l.length), w.cell? ⟨g, o + j, none⟩ = some (.int .u8 (l[j].toNat : Int)) ∧ w.frozen? ⟨g, o + j, none⟩ = false)

theorem Left.only {w w' : World} {p : Nat} {A : Option Addr} {l : List UInt8} {cap : Nat} (h : Left w p A l cap) (hg : w.grownBy w' (some p)) : Left w' p A l cap := by
  refine ⟨h.1, fun hp => ?_⟩
  obtain ⟨g, o, e, hne, hlt, hc⟩ := h.2 hp
  have hb : w'.heap[g]? = w.heap[g]? := hg.block g hlt (by intro e; injection e with e; exact hne e)
  refine ⟨g, o, e, hne, Nat.lt_of_lt_of_le hlt hg.size, fun j hj => ?_⟩
  rw [World.cell?_of_block (w := w) (w' := w') (a := ⟨g, o + j, none⟩) hb, World.frozen?_of_block (w := w) (w' := w') (a := ⟨g, o + j, none⟩) hb]
  exact hc j hj
theorem Left.bs {w : World} {p : Nat} {A : Option Addr} {l : List UInt8} {cap : Nat} (h : Left w p A l cap) : BS w 0 (.slice A l.length cap) l :=
  ⟨A, cap, rfl, h.1, fun hp => by
    obtain ⟨g, o, e, _, hlt, hc⟩ := h.2 hp
    exact ⟨g, o, e, Nat.zero_le _, hlt, hc⟩⟩

theorem add_flat (g o n : Nat) : (⟨g, o, none⟩ : Addr).add n = ⟨g, o + n, none⟩ := by
  unfold Addr.add
  split
  · subst_vars; rfl
  · rfl
theorem Left.drop {w : World} {p : Nat} {A : Option Addr} {l : List UInt8} {cap : Nat} (h : Left w p A l cap) (n : Nat) (hn : n ≤ l.length) : Left w p (A.map (fun x => x.add n)) (l.drop n) (cap - n) := by
  refine ⟨by rw [List.length_drop]; have := h.1; omega, fun hp => ?_⟩
  rw [List.length_drop] at hp
  obtain ⟨g, o, rfl, hne, hlt, hc⟩ := h.2 (by omega)
  refine ⟨g, o + n, by rw [Option.map_some, add_flat], hne, hlt, fun j hj => ?_⟩
  rw [List.length_drop] at hj
  have := hc (n + j) (by omega)
  rw [List.getElem_drop, Nat.add_assoc]
  exact this
theorem Left.take {w : World} {p : Nat} {A : Option Addr} {l : List UInt8} {cap : Nat} (h : Left w p A l cap) (n : Nat) (hn : n ≤ l.length) : BS w 0 (.slice A n n) (l.take n) := by
  have hlen : (l.take n).length = n := by rw [List.length_take]; omega
  refine ⟨A, n, by rw [hlen], by rw [hlen]; exact Nat.le_refl _, fun hp => ?_⟩
  rw [hlen] at hp
  obtain ⟨g, o, rfl, _, hlt, hc⟩ := h.2 (by omega)
  refine ⟨g, o, rfl, Nat.zero_le _, hlt, fun j hj => ?_⟩
  rw [hlen] at hj
  have := hc j (by omega)
  rw [List.getElem_take]
  exact this

/-- How a reader answers a call of Int. -/
def intOk (l : List UInt8) (n : Int) : Prop := 1 ≤ n ∧ n ≤ 7 ∧ n ≤ l.length

/-- A step that writes block p alone keeps what lies below a number up to p. -/
theorem below_only {B : Nat} {a w w' : World} {p : Nat} (h : Below B a w) (hg : w.grownBy w' (some p)) (hp : B ≤ p) (hB : B ≤ w.heap.size) : Below B a w' :=
  h.grown hg hB (fun k hk => by injection hk with hk; omega)

theorem cells_new (w : World) (t : TypeId) (cs : Array Value) : Cells (w.alloc (.cells cs t)) w.heap.size t cs := heap_alloc_new w _

end Go.Proofs.YtepbmnpjpkmmfaaGreatDoor

/- Lists of spans in memory; contracts of the reference of layer 5: cut, Contains. -/
namespace Go.Proofs.YtepbmnpjpkmmfaaGreatDoor
open Go.ChangeShapes Go.WideShapes Go.ChangeAt Go.RowKit
set_option linter.unusedVariables false

/-- A slice that reads as the spans l. -/
def SpL (w : World) (A : Option Addr) (l : List Spn) : Prop :=
  0 < l.length → ∃ g o, A = some ⟨g, o, none⟩ ∧ g < w.heap.size ∧ ∀ i s, l[i]? = some s → w.cell? ⟨g, o + i * 2, none⟩ = some (.int .i64 s.lo) ∧ w.cell? ⟨g, o + i * 2 + 1, none⟩ = some (.int .i64 s.hi)
theorem SpL.kept {w w' : World} {A : Option Addr} {l : List Spn} (h : SpL w A l) (hb : Below w.heap.size w w') : SpL w' A l := fun hp => by
  obtain ⟨g, o, e, hg, hc⟩ := h hp
  have hB := hb.block g hg
  refine ⟨g, o, e, Nat.lt_of_lt_of_le hg hb.size, fun i s hs => ?_⟩
  rw [World.cell?_of_block (w := w) (w' := w') (a := ⟨g, o + i * 2, none⟩) hB, World.cell?_of_block (w := w) (w' := w') (a := ⟨g, o + i * 2 + 1, none⟩) hB]
  exact hc i s hs
theorem SpL.drewN {w : World} {A : Option Addr} {l : List Spn} (h : SpL w A l) (q : Nat) : SpL (w.drewN q) A l := h
/-- Spans as cells. -/
def spC (s : Spn) : List Value := [.int .i64 s.lo, .int .i64 s.hi]
def spCells (l : List Spn) : List Value := l.flatMap spC
theorem spCells_length (l : List Spn) : (spCells l).length = l.length * 2 := by
  unfold spCells
  induction l with
  | nil => rfl
  | cons t r ih => rw [List.flatMap_cons, List.length_append, ih]; simp [spC]; omega
theorem spCells_snoc (l : List Spn) (s : Spn) : spCells (l ++ [s]) = spCells l ++ spC s := by simp [spCells]
theorem spCells_get : ∀ (l : List Spn) (i : Nat) (s : Spn), l[i]? = some s → (spCells l)[i * 2]? = some (.int .i64 s.lo) ∧ (spCells l)[i * 2 + 1]? = some (.int .i64 s.hi)
  | [], i, s, h => by simp at h
  | x :: r, 0, s, h => by
    simp at h
    subst h
    exact ⟨rfl, rfl⟩
  | x :: r, i + 1, s, h => by
    have ih := spCells_get r i s (by simpa using h)
    have e : spCells (x :: r) = spC x ++ spCells r := rfl
    rw [e, show (i + 1) * 2 + 1 = (i * 2 + 1) + 2 by omega, show (i + 1) * 2 = i * 2 + 2 by omega]
    exact ih
theorem spl_of_own {w : World} {base : Nat} {A : Option Addr} {cap : Nat} {l : List Spn} (h : w.ownsRow base 34 2 (.slice A l.length cap) l.length (spCells l)) : SpL w A l := fun hp => by
  rcases h.2 with ⟨_, hn⟩ | ⟨g, c, cur, hv, hg, hh, hn, _, hs, ht⟩
  · omega
  · cases hv
    have key : ∀ j u, (spCells l)[j]? = some u → w.cell? ⟨g, j, none⟩ = some u := fun j u hu => by
      rw [← ht] at hu
      have hj : j < l.length * 2 := by
        by_cases hc : j < l.length * 2
        · exact hc
        · rw [List.getElem?_eq_none (by rw [List.length_take]; omega)] at hu
          cases hu
      rw [List.getElem?_take_of_lt hj] at hu
      simp only [World.cell?, hh]
      simpa using hu
    refine ⟨g, 0, rfl, (Array.getElem?_eq_some_iff.1 hh).1, fun i s hs => ?_⟩
    have e := spCells_get l i s hs
    rw [Nat.zero_add]
    exact ⟨key _ _ e.1, key _ _ e.2⟩
theorem info_span : (Tryz.prog.info? 34).map (fun i => (i.zero, i.size, i.bytes)) = some (some (.agg #[.int .i64 0, .int .i64 0]), 2, 16) := by kernel_rfl
theorem span_info : (Tryz.prog.info? 34).map (·.size) = some 2 := by kernel_rfl
/-- A span in a box. -/
def SB2 (w : World) (g : Nat) (lo hi : Int) : Prop := Cells w g 34 #[.int .i64 lo, .int .i64 hi]
theorem sb2_new (w : World) (lo hi : Int) : SB2 (w.alloc (.cells #[.int .i64 lo, .int .i64 hi] 34)) w.heap.size lo hi := heap_alloc_new w _
theorem SB2.kept {w w' : World} {g B : Nat} {lo hi : Int} (h : SB2 w g lo hi) (hb : Below B w w') (hg : g < B) : SB2 w' g lo hi := (hb.block _ hg).trans h
theorem SB2.lt {w : World} {g : Nat} {lo hi : Int} (h : SB2 w g lo hi) : g < w.heap.size := Cells.lt h
theorem SB2.c0 {w : World} {g : Nat} {lo hi : Int} (h : SB2 w g lo hi) : w.cell? ⟨g, 0, none⟩ = some (.int .i64 lo) := (Cells.cell h 0).trans rfl
theorem SB2.c1 {w : World} {g : Nat} {lo hi : Int} (h : SB2 w g lo hi) : w.cell? ⟨g, 1, none⟩ = some (.int .i64 hi) := (Cells.cell h 1).trans rfl
theorem SB2.f {w : World} {g : Nat} {lo hi : Int} (h : SB2 w g lo hi) (i : Nat) : w.frozen? ⟨g, i, none⟩ = false := Cells.frozen h i
theorem res_span2 {fn : Func} {p u : Tmp} (h : fn.results = #[.cell p 34, .tmp u]) (tmps : Array Value) (w : World) {g : Nat} {lo hi : Int} (hp : tmps.getD p undef = .pointer (some ⟨g, 0, none⟩)) (ht : SB2 w g lo hi) :
    (results fn tmps).run Tryz.prog w = .ok (.tuple #[.agg #[.int .i64 lo, .int .i64 hi], tmps.getD u undef]) w := by
  have hp' : tmps[p]?.getD undef = .pointer (some ⟨g, 0, none⟩) := by simpa using hp
  simp [results, h, hp', asAddr, run_loadVar_row w g 34 34 _ (0, 0) _ ht Tryz.underlying34 rfl span_info]
theorem below_alloc5 (w : World) (o : Obj) : Below w.heap.size w (w.alloc o) := (Below.refl _ w).alloc (Nat.le_refl _) _
theorem alloc_lt5 (w : World) (o : Obj) : w.heap.size < (w.alloc o).heap.size := (Array.getElem?_eq_some_iff.1 (heap_alloc_new w o)).1

set_option maxRecDepth 20000 in
theorem rcut_any (a b lo hi : Int) (w : World) :
    Calls Tryz.prog 74 #[.agg #[.int .i64 a, .int .i64 b], .int .i64 lo, .int .i64 hi] w fun e w' => e = .returned (.tuple #[.agg #[.int .i64 (max a lo), .int .i64 (min b hi)], .bool (decide (max a lo ≤ min b hi))]) ∧ Below w.heap.size w w' := by
  obtain ⟨p, hp⟩ : ∃ p, p = max a lo := ⟨_, rfl⟩
  obtain ⟨q, hq⟩ : ∃ q, q = min b hi := ⟨_, rfl⟩
  rw [← hp, ← hq]
  go_enter Tryz.func74, Tryz.ntmps74
  go_wp2_with fail
  rw [← hp, ← hq]
  clear hp hq
  go_region
  go_wp2_with fail
  have h0 := heap_alloc_new w (.cells #[.int .i64 a, .int .i64 b] 34)
  have hb0 := below_alloc5 w (.cells #[.int .i64 a, .int .i64 b] 34)
  have hs : (w.alloc (.cells #[.int .i64 a, .int .i64 b] 34)).heap.size = w.heap.size + 1 := by simp
  generalize w.alloc (.cells #[.int .i64 a, .int .i64 b] 34) = w1 at *
  have h1 := sb2_new w1 p q
  have hb1 := hb0.alloc (by omega) (.cells #[.int .i64 p, .int .i64 q] 34)
  have hc1 := below_alloc5 (w1.alloc (.cells #[.int .i64 p, .int .i64 q] 34)) (.cells #[.int .i64 p, .int .i64 q] 34)
  have hl1 := h1.lt
  rw [hs] at h1 hl1
  have h2 := h1.kept hc1 hl1
  have hb2 := hb1.alloc (by omega) (.cells #[.int .i64 p, .int .i64 q] 34)
  generalize (w1.alloc (.cells #[.int .i64 p, .int .i64 q] 34)).alloc (.cells #[.int .i64 p, .int .i64 q] 34) = w2 at *
  have h3 : SB2 w2.drew (w.heap.size + 1) p q := h2
  exact bodyPost_ret (res_span2 rfl _ _ rfl h3) rfl ⟨rfl, hb2.drew⟩
end Go.Proofs.YtepbmnpjpkmmfaaGreatDoor

/- Sets of spans told by a test; contract of the reference of layer 5: Valid. -/
namespace Go.Proofs.YtepbmnpjpkmmfaaGreatDoor
open Go.ChangeShapes Go.WideShapes Go.ChangeAt Go.RowKit
set_option linter.unusedVariables false

/-- Where the next span may begin. -/
def nxt : Int → List Spn → Int
  | c, [] => c
  | _, s :: r => nxt (s.hi + 2) r
theorem nxt_snoc (s : Spn) : ∀ (l : List Spn) (c : Int), nxt c (l ++ [s]) = s.hi + 2
  | [], c => rfl
  | x :: r, c => nxt_snoc s r (x.hi + 2)
theorem okL_snoc {M : Int} (s : Spn) : ∀ (l : List Spn) (c : Int), okL M c (l ++ [s]) ↔ okL M c l ∧ nxt c l ≤ s.lo ∧ s.lo ≤ s.hi ∧ s.hi ≤ M
  | [], c => by simp [okL, nxt]
  | x :: r, c => by
    have ih := okL_snoc (M := M) s r (x.hi + 2)
    simp only [List.cons_append, okL, nxt, ih]
    constructor
    · rintro ⟨h1, h2, h3, h4, h5⟩; exact ⟨⟨h1, h2, h3, h4⟩, h5⟩
    · rintro ⟨⟨h1, h2, h3, h4⟩, h5⟩; exact ⟨h1, h2, h3, h4, h5⟩
theorem okL_front {M : Int} : ∀ (a b : List Spn) (c : Int), okL M c (a ++ b) → okL M c a
  | [], _, _, _ => trivial
  | x :: r, b, c, ⟨h1, h2, h3, h4⟩ => ⟨h1, h2, h3, okL_front r b _ h4⟩
/-- Is a list of spans a set? -/
def okB (M : Int) : Int → List Spn → Bool
  | _, [] => true
  | c, s :: r => decide (c ≤ s.lo) && decide (s.lo ≤ s.hi) && decide (s.hi ≤ M) && okB M (s.hi + 2) r
theorem okB_iff {M : Int} : ∀ (l : List Spn) (c : Int), okB M c l = true ↔ okL M c l
  | [], c => by simp [okB, okL]
  | s :: r, c => by
    have ih := okB_iff (M := M) r (s.hi + 2)
    simp only [okB, okL, Bool.and_eq_true, decide_eq_true_eq, ih]
    constructor
    · rintro ⟨⟨⟨h1, h2⟩, h3⟩, h4⟩; exact ⟨h1, h2, h3, h4⟩
    · rintro ⟨h1, h2, h3, h4⟩; exact ⟨⟨⟨h1, h2⟩, h3⟩, h4⟩
/-- One span further: the list falls, or goes on. -/
theorem okB_fall {M : Int} {l : List Spn} {k : Nat} {s : Spn} (hs : l[k]? = some s) (h : ¬ (nxt 0 (l.take k) ≤ s.lo ∧ s.lo ≤ s.hi ∧ s.hi ≤ M)) : okB M 0 l = false := by
  cases hb : okB M 0 l with
  | false => rfl
  | true =>
    exfalso
    rw [okB_iff] at hb
    obtain ⟨hk, e⟩ := List.getElem?_eq_some_iff.1 hs
    have e2 : l.take (k + 1) = l.take k ++ [s] := by rw [List.take_succ_eq_append_getElem hk, e]
    rw [← List.take_append_drop (k + 1) l] at hb
    have h2 := okL_front _ _ _ hb
    rw [e2, okL_snoc] at h2
    exact h h2.2
theorem okL_go {M : Int} {l : List Spn} {k : Nat} {s : Spn} (hs : l[k]? = some s) (h0 : okL M 0 (l.take k)) (h : nxt 0 (l.take k) ≤ s.lo ∧ s.lo ≤ s.hi ∧ s.hi ≤ M) : okL M 0 (l.take (k + 1)) := by
  obtain ⟨hk, e⟩ := List.getElem?_eq_some_iff.1 hs
  rw [List.take_succ_eq_append_getElem hk, e, okL_snoc]
  exact ⟨h0, h⟩
theorem nxt_take {l : List Spn} {k : Nat} {s : Spn} (hs : l[k]? = some s) (c : Int) : nxt c (l.take (k + 1)) = s.hi + 2 := by
  obtain ⟨hk, e⟩ := List.getElem?_eq_some_iff.1 hs
  rw [List.take_succ_eq_append_getElem hk, e, nxt_snoc]
theorem okL_hi {M : Int} {l : List Spn} {k : Nat} {s : Spn} (hs : l[k]? = some s) (h0 : okL M 0 (l.take (k + 1))) : 0 ≤ s.hi ∧ s.hi ≤ M := by
  obtain ⟨hk, e⟩ := List.getElem?_eq_some_iff.1 hs
  rw [List.take_succ_eq_append_getElem hk, e, okL_snoc] at h0
  have hin : anyS (l.take k ++ [s]) s.hi = true := by
    rw [anyS_append, Bool.or_eq_true]
    right
    simp [anyS, inS]
    omega
  have := okL_ge ((okL_snoc s _ 0).2 h0) hin
  omega

theorem nxt_pos {M : Int} : ∀ {l : List Spn} {c : Int}, 0 ≤ c → okL M c l → 0 ≤ nxt c l
  | [], _, h, _ => h
  | x :: r, _, h, ⟨h1, h2, _, h4⟩ => nxt_pos (c := x.hi + 2) (by omega) h4
theorem below_drewN5 {w w' : World} {B : Nat} (h : Below B w w') (q : Nat) : Below B w (w'.drewN q) := ⟨h.os, h.tape, h.output, h.size, h.block⟩

end Go.Proofs.YtepbmnpjpkmmfaaGreatDoor
