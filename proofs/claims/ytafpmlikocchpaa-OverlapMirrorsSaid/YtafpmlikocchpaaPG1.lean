/- Contracts of the functions, further part 1: VKpM, IntMath, IntMem, VWit, VMir. -/
import Derived.Below
import Derived.Deep.QuietTactic
import Derived.Deep.AppendLies
import Derived.OwnWalk
import Derived.Deep.Cut
import Derived.Deep.WholeRow
import Derived.Test.YtafpmlikocchpaaPA21
import Derived.Test.YtafpmlikocchpaaPA22
import Derived.Test.YtafpmlikocchpaaPA3
import Derived.Test.YtafpmlikocchpaaPA6
/- OverlapKeeps and OverlapMirrors: the plain mathematics. -/
namespace Go.Proofs.Ytafpmlikocchpaa
open Go.ChangeShapes Go.WideShapes Go.ChangeAt Go.RowKit
set_option linter.unusedVariables false
set_option maxRecDepth 100000

theorem seg_at {a : Int} {b : List UInt8} {j : Nat} (hj : j < b.length) : fndC (segC a b) (a + j) = some ⟨a + j, b[j], a, a + b.length⟩ := by
  rw [segC_fnd, if_pos ⟨by omega, by omega⟩]
  congr 2
  rw [show (a + (j : Int) - a).toNat = j by omega, List.getD_eq_getElem?_getD, List.getElem?_eq_getElem hj]
  rfl
theorem all_there {c : List CeR} {a : Int} {b : List UInt8} (h : thereC c (segC a b) = b.length) : ∀ j : Nat, j < b.length → fndC c (a + j) ≠ none := fun j hj hn => by
  unfold thereC at h
  have h2 : ((segC a b).filter (fun x => (fndC c x.at_).isSome)).length = (segC a b).length := by rw [h, segC_len3]
  have h3 := List.length_filter_eq_length_iff.1 h2
  obtain ⟨h4, h5⟩ := fndC_at (seg_at (a := a) hj)
  have := h3 _ h5
  simp only at this
  rw [hn] at this
  cases this
/-- What Insert keeps. -/
structure KeepM (l : List PcR) (a : Int) (b : List UInt8) (pol : Int) (R : List PcR) (df : Nat) : Prop where
  vld : vldL R
  few : R.length ≤ 64
  dif : df ≤ b.length
  s1 : sizeL l ≤ sizeL R
  s2 : b.length ≤ sizeL R
  s3 : sizeL R ≤ sizeL l + b.length
  new : b ≠ [] → b.length ≤ (takL R a).length
  last : b ≠ [] → pol = 2 → ∃ r, takL R a = b ++ r
  old : pol = 1 ∨ pol = 5 → ∀ x ∈ l, ∃ r, takL R x.at_ = x.dat ++ r
theorem tak_piece {l : List PcR} (hv : vldL l) {x : PcR} (hx : x ∈ l) : ∃ r, takL l x.at_ = x.dat ++ r :=
  takL_pre hv _ _ (fun j hj => ⟨_, fnd_piece hv hx j hj, rfl⟩)
theorem keepM {l : List PcR} (hv : vldL l) (hl : l.length ≤ 64) (a : Int) (b : List UInt8) (hb : b.length ≤ 200) (pol : Int) :
    ((insL l a b pol).2.2 ≠ 0 ∧ (insL l a b pol).1 = [] ∧ (insL l a b pol).2.1 = 0) ∨ ((insL l a b pol).2.2 = 0 ∧ KeepM l a b pol (insL l a b pol).1 (insL l a b pol).2.1) := by
  unfold insL
  split
  · next h =>
    subst h
    exact .inr ⟨rfl, hv, hl, Nat.le_refl _, Nat.le_refl _, Nat.zero_le _, Nat.le_add_right .., fun h => absurd rfl h, fun h => absurd rfl h, fun _ x hx => tak_piece hv hx⟩
  · next hb0 =>
    split
    · exact .inl ⟨by decide, rfl, rfl⟩
    · next hr =>
      have ha : 0 ≤ a := by omega
      obtain ⟨z1, z2, z3⟩ := insL_size (pol := pol) hv ha b
      split
      · next h5 =>
        split
        · next hq =>
          refine .inr ⟨rfl, hv, hl, Nat.zero_le _, Nat.le_refl _, by show b.length ≤ sizeL l; omega, by show sizeL l ≤ _; omega, fun _ => takL_len hv _ _ (all_there hq.1), fun _ h2 => by omega, fun _ x hx => tak_piece hv hx⟩
        · exact .inl ⟨by decide, rfl, rfl⟩
      · split
        · exact .inl ⟨by decide, rfl, rfl⟩
        · next h64 =>
          have hvv := ins_vld (pol := pol) hv ha b (by omega)
          have hfi := fun o => fnd_ins (pol := pol) hv ha b o
          have hd := differC_le (cels l) (segC a b)
          rw [segC_len3] at hd
          refine .inr ⟨rfl, hvv, Nat.not_lt.1 h64, hd, by show sizeL l ≤ sizeL (pcs _); omega, by show b.length ≤ sizeL (pcs _); omega, by show sizeL (pcs _) ≤ _; omega, fun _ => takL_len hvv _ _ (fun j hj => ?_), fun _ h2 => takL_pre hvv _ _ (fun j hj => ?_), fun hp x hx => takL_pre hvv _ _ (fun j hj => ?_)⟩
          · rw [hfi, seg_at hj]; simp
          · rw [hfi, seg_at hj]
            subst h2
            refine ⟨_, rfl, ?_⟩
            cases fndC (cels l) (a + j) with
            | none => rfl
            | some y => rfl
          · rw [hfi, fnd_piece hv hx j hj]
            cases fndC (segC a b) (x.at_ + j) with
            | none => exact ⟨_, rfl, rfl⟩
            | some z =>
              refine ⟨_, rfl, ?_⟩
              have hw : winsB pol x.fr x.to_ z.fr z.to_ = false := by rcases hp with rfl | rfl <;> rfl
              show (if winsB pol x.fr x.to_ z.fr z.to_ = true then z else _).c = _
              rw [hw]
              rfl
theorem str_pre15 {d r : List UInt8} : (str (d ++ r)).extract 0 (str d).size = str d := by
  apply ByteArray.ext
  apply Array.ext'
  rw [Lib.extract_data, str_size]
  show ((str (d ++ r)).data.toList.drop 0).take (d.length - 0) = (str d).data.toList
  rw [str_toList, str_toList, List.drop_zero, Nat.sub_zero, List.take_left']
  rfl
/-! ### Two segments in both orders -/
theorem fnd_two {pol : Int} {p q : PcR} (hp : inR p) (hq : inR q) (o : Int) : fndC (insAll pol [p, q]) o = match fndC (segC q.at_ q.dat) o with | some x => some (winC pol (fndC (segC p.at_ p.dat) o) x) | none => fndC (segC p.at_ p.dat) o := by
  have h1 := insC_fnd (pol := pol) (c := []) (e := 0) trivial hp.1 p.dat
  have h2 := (insC_fnd (pol := pol) h1.1 hq.1 q.dat).2 o
  have h3 : fndC (insC pol [] (segC p.at_ p.dat)) o = fndC (segC p.at_ p.dat) o := by
    rw [h1.2 o]
    cases fndC (segC p.at_ p.dat) o <;> rfl
  rw [h3] at h2
  exact h2
theorem srt_two (pol : Int) {p q : PcR} (hp : inR p) (hq : inR q) : srtF 0 (insAll pol [p, q]) :=
  (AllI.take (l := [p, q]) pol (fun x hx => by
    rcases List.mem_cons.1 hx with rfl | hx
    · exact hp
    · obtain rfl := List.mem_singleton.1 hx
      exact hq) 2 (Nat.le_refl _)).srt
theorem mirr1 {p q : PcR} (hp : inR p) (hq : inR q) : insAll 1 [p, q] = insAll 2 [q, p] :=
  srt_ext (srt_two 1 hp hq) (srt_two 2 hq hp) (fun o => by
    rw [fnd_two hp hq, fnd_two hq hp]
    cases h1 : fndC (segC q.at_ q.dat) o <;> cases h2 : fndC (segC p.at_ p.dat) o <;> rfl)
theorem win3 (a b c d : Int) : winsB 3 a b c d = decide (c < a) := by
  show (false || (true && decide (c < a)) || (false && _)) = _
  simp
theorem seg_fr {a o : Int} {b : List UInt8} {x : CeR} (h : fndC (segC a b) o = some x) : x.fr = a := by
  rw [segC_fnd] at h
  split at h
  · obtain rfl := Option.some.inj h; rfl
  · cases h
theorem mirr3 {p q : PcR} (hp : inR p) (hq : inR q) (hne : p.at_ ≠ q.at_) : insAll 3 [p, q] = insAll 3 [q, p] :=
  srt_ext (srt_two 3 hp hq) (srt_two 3 hq hp) (fun o => by
    rw [fnd_two hp hq, fnd_two hq hp]
    cases h1 : fndC (segC q.at_ q.dat) o with
    | none => cases h2 : fndC (segC p.at_ p.dat) o <;> rfl
    | some x =>
      cases h2 : fndC (segC p.at_ p.dat) o with
      | none => rfl
      | some y =>
        show some (if winsB 3 y.fr y.to_ x.fr x.to_ = true then x else y) = some (if winsB 3 x.fr x.to_ y.fr y.to_ = true then y else x)
        rw [win3, win3, seg_fr h1, seg_fr h2]
        by_cases h : q.at_ < p.at_
        · rw [decide_eq_true h, decide_eq_false (by omega), if_pos rfl, if_neg (by decide)]
        · rw [decide_eq_false h, decide_eq_true (by omega), if_neg (by decide), if_pos rfl])
end Go.Proofs.Ytafpmlikocchpaa

/- Plain mathematics of the sets of integers of layer 5: no Go in sight. -/
namespace Go.Proofs.Ytafpmlikocchpaa
set_option linter.unusedVariables false

/-- A span; does it hold a number; do spans. -/
structure Spn where
  lo : Int
  hi : Int
def inS (s : Spn) (n : Int) : Bool := decide (s.lo ≤ n) && decide (n ≤ s.hi)
def anyS (l : List Spn) (n : Int) : Bool := l.any fun s => inS s n
/-- Is n one of the numbers of a list, up to M? -/
def memS (M : Int) (l : List Spn) (n : Int) : Bool := decide (0 ≤ n) && decide (n ≤ M) && anyS l n
/-- A set whose first span begins at c or behind it. -/
def okL (M : Int) : Int → List Spn → Prop
  | _, [] => True
  | c, s :: r => c ≤ s.lo ∧ s.lo ≤ s.hi ∧ s.hi ≤ M ∧ okL M (s.hi + 2) r

theorem inS_iff (s : Spn) (n : Int) : inS s n = true ↔ s.lo ≤ n ∧ n ≤ s.hi := by simp [inS]
theorem anyS_iff (l : List Spn) (n : Int) : anyS l n = true ↔ ∃ s ∈ l, s.lo ≤ n ∧ n ≤ s.hi := by
  unfold anyS
  rw [List.any_eq_true]
  constructor
  · rintro ⟨s, hs, h⟩; exact ⟨s, hs, (inS_iff s n).1 h⟩
  · rintro ⟨s, hs, h⟩; exact ⟨s, hs, (inS_iff s n).2 h⟩
theorem anyS_cons (s : Spn) (r : List Spn) (n : Int) : anyS (s :: r) n = (inS s n || anyS r n) := rfl
theorem anyS_append (a b : List Spn) (n : Int) : anyS (a ++ b) n = (anyS a n || anyS b n) := by simp [anyS]
theorem okL_mono {M : Int} : ∀ {l : List Spn} {c d : Int}, d ≤ c → okL M c l → okL M d l
  | [], _, _, _, _ => trivial
  | s :: r, c, d, h, ⟨h1, h2, h3, h4⟩ => ⟨by omega, h2, h3, h4⟩
theorem okL_ge {M : Int} : ∀ {l : List Spn} {c : Int} {n : Int}, okL M c l → anyS l n = true → c ≤ n
  | [], _, _, _, h => by simp [anyS] at h
  | s :: r, c, n, ⟨h1, h2, _, h4⟩, h => by
    rw [anyS_cons, Bool.or_eq_true, inS_iff] at h
    rcases h with h | h
    · omega
    · have := okL_ge h4 h; omega
theorem okL_le {M : Int} : ∀ {l : List Spn} {c : Int} {n : Int}, okL M c l → anyS l n = true → n ≤ M
  | [], _, _, _, h => by simp [anyS] at h
  | s :: r, c, n, ⟨_, _, h3, h4⟩, h => by
    rw [anyS_cons, Bool.or_eq_true, inS_iff] at h
    rcases h with h | h
    · omega
    · exact okL_le h4 h
/-- The numbers of a set are its members as they stand. -/
theorem okL_mem {M : Int} {l : List Spn} (h : okL M 0 l) (n : Int) : memS M l n = anyS l n := by
  unfold memS
  cases ha : anyS l n with
  | false => simp
  | true =>
    have h1 := okL_ge h ha
    have h2 := okL_le h ha
    simp [h1, h2]

/-- TWO SETS WITH THE SAME NUMBERS ARE EQUAL. -/
theorem okL_uniq {M : Int} : ∀ (a b : List Spn) (c d : Int), okL M c a → okL M d b → (∀ n, anyS a n = anyS b n) → a = b
  | [], [], _, _, _, _, _ => rfl
  | [], t :: q, c, d, _, ⟨_, h2, _, _⟩, h => by
    have := h t.lo
    rw [anyS_cons, show inS t t.lo = true by rw [inS_iff]; omega] at this
    simp [anyS] at this
  | s :: r, [], c, d, ⟨_, h2, _, _⟩, _, h => by
    have := h s.lo
    rw [anyS_cons, show inS s s.lo = true by rw [inS_iff]; omega] at this
    simp [anyS] at this
  | s :: r, t :: q, c, d, ⟨a1, a2, a3, a4⟩, ⟨b1, b2, b3, b4⟩, h => by
    have hlo1 : t.lo ≤ s.lo := by
      have e := h s.lo
      rw [anyS_cons, show inS s s.lo = true by rw [inS_iff]; omega, Bool.true_or] at e
      have e2 := e.symm
      rw [anyS_cons, Bool.or_eq_true, inS_iff] at e2
      rcases e2 with e2 | e2
      · exact e2.1
      · have := okL_ge b4 e2; omega
    have hlo2 : s.lo ≤ t.lo := by
      have e := h t.lo
      rw [anyS_cons (s := t), show inS t t.lo = true by rw [inS_iff]; omega, Bool.true_or] at e
      rw [anyS_cons, Bool.or_eq_true, inS_iff] at e
      rcases e with e | e
      · exact e.1
      · have := okL_ge a4 e; omega
    have hlo : s.lo = t.lo := by omega
    have hhi1 : t.hi ≤ s.hi := by
      by_cases hc : t.hi ≤ s.hi
      · exact hc
      · exfalso
        have e := h (s.hi + 1)
        rw [anyS_cons (s := t), show inS t (s.hi + 1) = true by rw [inS_iff]; omega, Bool.true_or] at e
        rw [anyS_cons, Bool.or_eq_true, inS_iff] at e
        rcases e with e | e
        · omega
        · have := okL_ge a4 e; omega
    have hhi2 : s.hi ≤ t.hi := by
      by_cases hc : s.hi ≤ t.hi
      · exact hc
      · exfalso
        have e := h (t.hi + 1)
        rw [anyS_cons (s := s), show inS s (t.hi + 1) = true by rw [inS_iff]; omega, Bool.true_or] at e
        have e2 := e.symm
        rw [anyS_cons, Bool.or_eq_true, inS_iff] at e2
        rcases e2 with e2 | e2
        · omega
        · have := okL_ge b4 e2; omega
    have hhi : s.hi = t.hi := by omega
    have hst : s = t := by
      cases s; cases t
      simp only at hlo hhi
      rw [hlo, hhi]
    subst hst
    rw [okL_uniq r q (s.hi + 2) (s.hi + 2) a4 b4 (fun n => by
      have e := h n
      rw [anyS_cons, anyS_cons] at e
      cases hs : inS s n with
      | false => rw [hs, Bool.false_or, Bool.false_or] at e; exact e
      | true =>
        rw [inS_iff] at hs
        have h1 : anyS r n = false := by
          cases hr : anyS r n with
          | false => rfl
          | true => have := okL_ge a4 hr; omega
        have h2 : anyS q n = false := by
          cases hr : anyS q n with
          | false => rfl
          | true => have := okL_ge b4 hr; omega
        rw [h1, h2])]
/-- A set is what its numbers are. -/
theorem set_eq {M : Int} {a b : List Spn} (ha : okL M 0 a) (hb : okL M 0 b) (h : ∀ n, memS M a n = memS M b n) : a = b :=
  okL_uniq a b 0 0 ha hb fun n => by
    have := h n
    rwa [okL_mem ha, okL_mem hb] at this

/-- How many numbers below N have a property. -/
def card (N : Nat) (p : Nat → Bool) : Nat := (List.range N).countP p
theorem card_succ (N : Nat) (p : Nat → Bool) : card (N + 1) p = card N p + if p N = true then 1 else 0 := by
  unfold card
  rw [List.range_succ, List.countP_append]
  simp [List.countP_cons]
theorem card_congr {N : Nat} {p q : Nat → Bool} (h : ∀ n, n < N → p n = q n) : card N p = card N q := by
  induction N with
  | zero => rfl
  | succ N ih => rw [card_succ, card_succ, ih (fun n hn => h n (by omega)), h N (by omega)]
/-- INCLUSION AND EXCLUSION. -/
theorem card_or_and (N : Nat) (p q : Nat → Bool) : card N (fun n => p n || q n) + card N (fun n => p n && q n) = card N p + card N q := by
  induction N with
  | zero => rfl
  | succ N ih =>
    simp only [card_succ]
    cases p N <;> cases q N <;> simp <;> omega
theorem card_minus (N : Nat) (p q : Nat → Bool) : card N (fun n => p n && !q n) + card N (fun n => p n && q n) = card N p := by
  induction N with
  | zero => rfl
  | succ N ih =>
    simp only [card_succ]
    cases p N <;> cases q N <;> simp <;> omega
theorem card_le (N : Nat) (p : Nat → Bool) : card N p ≤ N := by
  induction N with
  | zero => exact Nat.le_refl _
  | succ N ih =>
    rw [card_succ]
    split <;> omega
theorem card_none {N : Nat} {p : Nat → Bool} (h : ∀ n, n < N → p n = false) : card N p = 0 := by
  induction N with
  | zero => rfl
  | succ N ih => rw [card_succ, ih (fun n hn => h n (by omega)), h N (by omega)]; rfl
theorem card_zero {N : Nat} {p : Nat → Bool} (h : card N p = 0) : ∀ n, n < N → p n = false := by
  induction N with
  | zero => intro n hn; omega
  | succ N ih =>
    intro n hn
    rw [card_succ] at h
    by_cases e : n = N
    · subst e
      cases hp : p n with
      | false => rfl
      | true => rw [hp] at h; simp at h
    · exact ih (by omega) n (by omega)
theorem card_span (N : Nat) (lo hi : Int) (h0 : 0 ≤ lo) (h1 : lo ≤ hi + 1) (h2 : hi < N) : (card N (fun n => inS ⟨lo, hi⟩ (n : Int)) : Int) = hi - lo + 1 := by
  induction N generalizing hi with
  | zero =>
    simp only [card, List.range_zero, List.countP_nil]
    omega
  | succ N ih =>
    rw [card_succ]
    by_cases e : hi = (N : Int)
    · by_cases e2 : lo ≤ hi
      · have hin : inS ⟨lo, hi⟩ (N : Int) = true := by rw [inS_iff]; simp only; omega
        rw [if_pos hin]
        have hc : card N (fun n => inS ⟨lo, hi⟩ (n : Int)) = card N (fun n => inS ⟨lo, hi - 1⟩ (n : Int)) := card_congr fun n hn => by
          rw [Bool.eq_iff_iff, inS_iff, inS_iff]; simp only; omega
        rw [hc]
        have := ih (hi - 1) (by omega) (by omega)
        omega
      · have hin : inS ⟨lo, hi⟩ (N : Int) = false := by
          cases hh : inS ⟨lo, hi⟩ (N : Int) with
          | false => rfl
          | true => rw [inS_iff] at hh; simp only at hh; omega
        rw [if_neg (by rw [hin]; decide), card_none (fun n hn => by
          cases hh : inS ⟨lo, hi⟩ (n : Int) with
          | false => rfl
          | true => rw [inS_iff] at hh; simp only at hh; omega)]
        omega
    · have hin : inS ⟨lo, hi⟩ (N : Int) = false := by
        cases hh : inS ⟨lo, hi⟩ (N : Int) with
        | false => rfl
        | true => rw [inS_iff] at hh; simp only at hh; omega
      rw [if_neg (by rw [hin]; decide)]
      have := ih hi h1 (by omega)
      omega
/-- How many numbers a set has. -/
def cntL : List Spn → Int
  | [] => 0
  | s :: r => s.hi - s.lo + 1 + cntL r
theorem cnt_card {M : Int} : ∀ (l : List Spn) (c : Int), 0 ≤ c → okL M c l → cntL l = card (M + 1).toNat (fun n => anyS l (n : Int))
  | [], _, _, _ => by
    rw [card_none (p := fun n => anyS [] (n : Int)) (fun n _ => rfl)]; rfl
  | s :: r, c, hc, ⟨h1, h2, h3, h4⟩ => by
    have ih := cnt_card r (s.hi + 2) (by omega) h4
    have hs := card_span (M + 1).toNat s.lo s.hi (by omega) (by omega) (by omega)
    have hor := card_or_and (M + 1).toNat (fun n => inS s (n : Int)) (fun n => anyS r (n : Int))
    have hand : card (M + 1).toNat (fun n => inS s (n : Int) && anyS r (n : Int)) = 0 := card_none fun n _ => by
      cases hh : inS s (n : Int) with
      | false => rfl
      | true =>
        rw [inS_iff] at hh
        cases hr : anyS r (n : Int) with
        | false => rfl
        | true => have := okL_ge h4 hr; omega
    have he : card (M + 1).toNat (fun n => anyS (s :: r) (n : Int)) = card (M + 1).toNat (fun n => inS s (n : Int) || anyS r (n : Int)) := card_congr fun n _ => anyS_cons s r n
    rw [he]
    show s.hi - s.lo + 1 + cntL r = _
    have hs' : (card (M + 1).toNat (fun n => inS s (n : Int)) : Int) = s.hi - s.lo + 1 := hs
    omega
/-- The laws of the numbers: u, i, m the union, the intersection, the difference of the sets a and b. -/
theorem cnt_laws {M : Int} {a b u i m : List Spn} (ha : okL M 0 a) (hb : okL M 0 b) (hu : okL M 0 u) (hi : okL M 0 i) (hm : okL M 0 m)
    (eu : ∀ n, anyS u n = (anyS a n || anyS b n)) (ei : ∀ n, anyS i n = (anyS a n && anyS b n)) (em : ∀ n, anyS m n = (anyS a n && !anyS b n)) :
    cntL u + cntL i = cntL a + cntL b ∧ cntL m = cntL a - cntL i := by
  rw [cnt_card a 0 (Int.le_refl _) ha, cnt_card b 0 (Int.le_refl _) hb, cnt_card u 0 (Int.le_refl _) hu, cnt_card i 0 (Int.le_refl _) hi, cnt_card m 0 (Int.le_refl _) hm]
  rw [card_congr (fun n _ => eu (n : Int)), card_congr (fun n _ => ei (n : Int)), card_congr (p := fun n => anyS m (n : Int)) (fun n _ => em (n : Int))]
  have h1 := card_or_and (M + 1).toNat (fun n => anyS a (n : Int)) (fun n => anyS b (n : Int))
  have h2 := card_minus (M + 1).toNat (fun n => anyS a (n : Int)) (fun n => anyS b (n : Int))
  constructor <;> omega
theorem cnt_bounds {M : Int} {a : List Spn} (hM : 0 ≤ M) (ha : okL M 0 a) : 0 ≤ cntL a ∧ cntL a ≤ M + 1 := by
  rw [cnt_card a 0 (Int.le_refl _) ha]
  have := card_le (M + 1).toNat (fun n => anyS a (n : Int))
  omega
/-- A subset is one whose intersection has as many numbers. -/
theorem sub_iff_cnt {M : Int} {a b i : List Spn} (hM : 0 ≤ M) (ha : okL M 0 a) (hi : okL M 0 i) (ei : ∀ n, anyS i n = (anyS a n && anyS b n)) :
    cntL i = cntL a ↔ ∀ n, anyS a n = true → anyS b n = true := by
  rw [cnt_card a 0 (Int.le_refl _) ha, cnt_card i 0 (Int.le_refl _) hi, card_congr (fun n _ => ei (n : Int))]
  have h2 := card_minus (M + 1).toNat (fun n => anyS a (n : Int)) (fun n => anyS b (n : Int))
  constructor
  · intro h n hn
    have h1 := okL_ge ha hn
    have h3 := okL_le ha hn
    have hz := card_zero (N := (M + 1).toNat) (p := fun n => anyS a (n : Int) && !anyS b (n : Int)) (by omega) n.toNat (by omega)
    rw [show ((n.toNat : Nat) : Int) = n by omega, hn] at hz
    simpa using hz
  · intro h
    have hz : card (M + 1).toNat (fun n => anyS a (n : Int) && !anyS b (n : Int)) = 0 := card_none fun n _ => by
      cases hA : anyS a (n : Int) with
      | false => rfl
      | true => rw [h _ hA]; rfl
    omega

/-- What lies in a list of spans cut to the numbers from 0 to M, as the reference cuts it. -/
def cutS (s : Spn) (lo hi : Int) : Spn := ⟨max s.lo lo, min s.hi hi⟩
theorem cutS_in (s : Spn) (lo hi n : Int) : inS (cutS s lo hi) n = (inS s n && (decide (lo ≤ n) && decide (n ≤ hi))) := by
  rw [Bool.eq_iff_iff]
  simp only [cutS, inS, Bool.and_eq_true, decide_eq_true_eq, Int.max_le, Int.le_min]
  constructor
  · rintro ⟨⟨h1, h2⟩, h3, h4⟩
    exact ⟨⟨h1, h3⟩, h2, h4⟩
  · rintro ⟨⟨h1, h3⟩, h2, h4⟩
    exact ⟨⟨h1, h2⟩, h3, h4⟩
/-- One round of the reference's normal form: x the least span grown as far as it goes, work all spans. -/
structure Least (work : List Spn) (x : Spn) : Prop where
  low : ∀ s ∈ work, x.lo ≤ s.lo
  far : ∀ s ∈ work, s.hi ≤ x.hi ∨ x.hi + 2 ≤ s.lo
  cov : ∀ n, x.lo ≤ n → n ≤ x.hi → anyS work n = true
  ne : x.lo ≤ x.hi
theorem least_any {work : List Spn} {x : Spn} (h : Least work x) (n : Int) : anyS work n = (inS x n || anyS (work.filter fun s => decide (x.hi < s.lo)) n) := by
  rw [Bool.eq_iff_iff, Bool.or_eq_true, inS_iff, anyS_iff, anyS_iff]
  constructor
  · rintro ⟨s, hs, h1, h2⟩
    rcases h.far s hs with hf | hf
    · have := h.low s hs
      exact .inl (by omega)
    · exact .inr ⟨s, by simp [hs]; omega, h1, h2⟩
  · rintro (⟨h1, h2⟩ | ⟨s, hs, h1, h2⟩)
    · have := h.cov n h1 h2
      rwa [anyS_iff] at this
    · rw [List.mem_filter] at hs
      exact ⟨s, hs.1, h1, h2⟩
theorem least_rest {work : List Spn} {x : Spn} (h : Least work x) : ∀ s ∈ work.filter (fun s => decide (x.hi < s.lo)), x.hi + 2 ≤ s.lo ∨ s.hi ≤ x.hi := by
  intro s hs
  rw [List.mem_filter] at hs
  rcases h.far s hs.1 with hf | hf
  · exact .inr hf
  · exact .inl hf
/-- x grows by a span that it touches. -/
theorem least_grow {work : List Spn} {x s : Spn} (hs : s ∈ work) (hc : ∀ n, x.lo ≤ n → n ≤ x.hi → anyS work n = true) (h1 : s.lo ≤ x.hi + 1) (h2 : x.hi < s.hi) : ∀ n, x.lo ≤ n → n ≤ s.hi → anyS work n = true := by
  intro n hn1 hn2
  by_cases h : n ≤ x.hi
  · exact hc n hn1 h
  · rw [anyS_iff]
    exact ⟨s, hs, by omega, hn2⟩

/-- What a set leaves of the numbers from lo to hi, as the reference goes through it. -/
def comp : List Spn → Int → Int → List Spn
  | [], lo, hi => if lo ≤ hi then [⟨lo, hi⟩] else []
  | s :: r, lo, hi => if lo ≤ hi then (if lo ≤ min hi (s.lo - 1) then [⟨lo, min hi (s.lo - 1)⟩] else []) ++ comp r (max lo (s.hi + 1)) hi else []
theorem comp_none : ∀ (l : List Spn) {lo hi : Int}, hi < lo → comp l lo hi = []
  | [], lo, hi, h => by rw [comp, if_neg (by omega)]
  | s :: r, lo, hi, h => by rw [comp, if_neg (by omega)]
theorem comp_ok {M : Int} : ∀ (l : List Spn) (c lo hi : Int), okL M c l → hi ≤ M → okL M lo (comp l lo hi)
  | [], c, lo, hi, _, hM => by
    rw [comp]
    split
    · exact ⟨Int.le_refl _, by assumption, hM, trivial⟩
    · trivial
  | s :: r, c, lo, hi, ⟨h1, h2, h3, h4⟩, hM => by
    rw [comp]
    split
    · have ih := comp_ok r (s.hi + 2) (max lo (s.hi + 1)) hi h4 hM
      split
      · refine ⟨Int.le_refl _, by assumption, by simp only; omega, ?_⟩
        exact okL_mono (by simp only; omega) ih
      · rw [List.nil_append]
        exact okL_mono (by omega) ih
    · trivial
theorem comp_any {M : Int} : ∀ (l : List Spn) (c lo hi n : Int), okL M c l → anyS (comp l lo hi) n = (decide (lo ≤ n) && decide (n ≤ hi) && !anyS l n)
  | [], c, lo, hi, n, _ => by
    rw [comp]
    split
    · simp [anyS, inS]
    · have : (decide (lo ≤ n) && decide (n ≤ hi)) = false := by
        rw [Bool.and_eq_false_iff]; simp; omega
      rw [this]; rfl
  | s :: r, c, lo, hi, n, ⟨h1, h2, h3, h4⟩ => by
    rw [comp]
    split
    · have ih := comp_any r (s.hi + 2) (max lo (s.hi + 1)) hi n h4
      have hge : anyS r n = true → s.hi + 2 ≤ n := fun h => okL_ge h4 h
      rw [anyS_append, ih, anyS_cons]
      have hx : anyS (if lo ≤ min hi (s.lo - 1) then [(⟨lo, min hi (s.lo - 1)⟩ : Spn)] else []) n = (decide (lo ≤ n) && decide (n ≤ min hi (s.lo - 1))) := by
        split
        · simp [anyS, inS]
        · have : (decide (lo ≤ n) && decide (n ≤ min hi (s.lo - 1))) = false := by
            rw [Bool.and_eq_false_iff]; simp only [decide_eq_false_iff_not]; omega
          rw [this]; rfl
      rw [hx, Bool.eq_iff_iff]
      cases hr : anyS r n with
      | true =>
        have := hge hr
        simp only [inS, Bool.or_eq_true, Bool.and_eq_true, decide_eq_true_eq, Bool.not_true, Bool.or_true, Bool.and_false, Bool.false_eq_true, or_false, iff_false]
        omega
      | false =>
        simp only [inS, Bool.or_eq_true, Bool.and_eq_true, decide_eq_true_eq, Bool.not_false, Bool.or_false, Bool.and_true, Bool.not_eq_true', Bool.and_eq_false_iff, decide_eq_false_iff_not]
        omega
    · have : (decide (lo ≤ n) && decide (n ≤ hi)) = false := by
        rw [Bool.and_eq_false_iff]; simp; omega
      rw [this]; rfl

/-- All spans that two lists have in common, pair by pair. -/
def pairsS (a b : List Spn) : List Spn := a.flatMap fun s => b.flatMap fun t => if (cutS s t.lo t.hi).lo ≤ (cutS s t.lo t.hi).hi then [cutS s t.lo t.hi] else []
theorem anyS_flatMap {α : Type} (l : List α) (f : α → List Spn) (n : Int) : anyS (l.flatMap f) n = l.any fun x => anyS (f x) n := by
  induction l with
  | nil => rfl
  | cons x r ih => rw [List.flatMap_cons, anyS_append, ih]; rfl
theorem pairs_any (a b : List Spn) (n : Int) : anyS (pairsS a b) n = (anyS a n && anyS b n) := by
  unfold pairsS
  rw [anyS_flatMap, Bool.eq_iff_iff, List.any_eq_true, Bool.and_eq_true, anyS_iff, anyS_iff]
  constructor
  · rintro ⟨s, hs, h⟩
    rw [anyS_flatMap, List.any_eq_true] at h
    obtain ⟨t, ht, h⟩ := h
    split at h
    · simp only [anyS, List.any_cons, List.any_nil, Bool.or_false] at h
      rw [cutS_in, Bool.and_eq_true, inS_iff, Bool.and_eq_true, decide_eq_true_eq, decide_eq_true_eq] at h
      exact ⟨⟨s, hs, h.1⟩, t, ht, h.2⟩
    · simp [anyS] at h
  · rintro ⟨⟨s, hs, h1⟩, t, ht, h2⟩
    refine ⟨s, hs, ?_⟩
    rw [anyS_flatMap, List.any_eq_true]
    refine ⟨t, ht, ?_⟩
    have hc : inS (cutS s t.lo t.hi) n = true := by
      rw [cutS_in, Bool.and_eq_true, inS_iff, Bool.and_eq_true, decide_eq_true_eq, decide_eq_true_eq]
      exact ⟨h1, h2⟩
    have hc2 := (inS_iff _ _).1 hc
    rw [if_pos (by omega)]
    simp [anyS, hc]
/-- Spans cut to the numbers from 0 to M, the empty ones left out. -/
def cutAll (M : Int) (l : List Spn) : List Spn := l.flatMap fun s => if (cutS s 0 M).lo ≤ (cutS s 0 M).hi then [cutS s 0 M] else []
theorem cutAll_any (M : Int) (l : List Spn) (n : Int) : anyS (cutAll M l) n = memS M l n := by
  unfold cutAll memS
  rw [anyS_flatMap, Bool.eq_iff_iff, List.any_eq_true, Bool.and_eq_true, Bool.and_eq_true, decide_eq_true_eq, decide_eq_true_eq, anyS_iff]
  constructor
  · rintro ⟨s, hs, h⟩
    split at h
    · simp only [anyS, List.any_cons, List.any_nil, Bool.or_false] at h
      rw [cutS_in, Bool.and_eq_true, inS_iff, Bool.and_eq_true, decide_eq_true_eq, decide_eq_true_eq] at h
      exact ⟨h.2, s, hs, h.1⟩
    · simp [anyS] at h
  · rintro ⟨h0, s, hs, h1⟩
    refine ⟨s, hs, ?_⟩
    have hc : inS (cutS s 0 M) n = true := by
      rw [cutS_in, Bool.and_eq_true, inS_iff, Bool.and_eq_true, decide_eq_true_eq, decide_eq_true_eq]
      exact ⟨h1, h0⟩
    have hc2 := (inS_iff _ _).1 hc
    rw [if_pos (by omega)]
    simp [anyS, hc]
end Go.Proofs.Ytafpmlikocchpaa

/- Lists of spans in memory; contracts of the reference of layer 5: cut, Contains. -/
namespace Go.Proofs.Ytafpmlikocchpaa
open Go.ChangeShapes Go.WideShapes Go.ChangeAt Go.RowKit
set_option linter.unusedVariables false

/-- A slice that reads as the spans l. -/
def SpL (w : World) (A : Option Addr) (l : List Spn) : Prop :=
  0 < l.length → ∃ g o, A = some ⟨g, o, none⟩ ∧ g < w.heap.size ∧ ∀ i s, l[i]? = some s → w.cell? ⟨g, o + i * 2, none⟩ = some (.int .i64 s.lo) ∧ w.cell? ⟨g, o + i * 2 + 1, none⟩ = some (.int .i64 s.hi)
theorem SpL.kept {w w' : World} {A : Option Addr} {l : List Spn} (h : SpL w A l) (hb : Below w.heap.size w w') : SpL w' A l := fun hp => by
  obtain ⟨g, o, e, hg, hc⟩ := h hp
  have hB := hb.block g hg
  refine ⟨g, o, e, Nat.lt_of_lt_of_le hg hb.size, fun i s hs => ?_⟩
  rw [World.cell?_of_block (w := w) (w' := w') (a := ⟨g, o + i * 2, none⟩) hB, World.cell?_of_block (w := w) (w' := w') (a := ⟨g, o + i * 2 + 1, none⟩) hB]
  exact hc i s hs
theorem SpL.drewN {w : World} {A : Option Addr} {l : List Spn} (h : SpL w A l) (q : Nat) : SpL (w.drewN q) A l := h
/-- Spans as cells. -/
def spC (s : Spn) : List Value := [.int .i64 s.lo, .int .i64 s.hi]
def spCells (l : List Spn) : List Value := l.flatMap spC
theorem spCells_length (l : List Spn) : (spCells l).length = l.length * 2 := by
  unfold spCells
  induction l with
  | nil => rfl
  | cons t r ih => rw [List.flatMap_cons, List.length_append, ih]; simp [spC]; omega
theorem spCells_snoc (l : List Spn) (s : Spn) : spCells (l ++ [s]) = spCells l ++ spC s := by simp [spCells]
theorem spCells_get : ∀ (l : List Spn) (i : Nat) (s : Spn), l[i]? = some s → (spCells l)[i * 2]? = some (.int .i64 s.lo) ∧ (spCells l)[i * 2 + 1]? = some (.int .i64 s.hi)
  | [], i, s, h => by simp at h
  | x :: r, 0, s, h => by
    simp at h
    subst h
    exact ⟨rfl, rfl⟩
  | x :: r, i + 1, s, h => by
    have ih := spCells_get r i s (by simpa using h)
    have e : spCells (x :: r) = spC x ++ spCells r := rfl
    rw [e, show (i + 1) * 2 + 1 = (i * 2 + 1) + 2 by omega, show (i + 1) * 2 = i * 2 + 2 by omega]
    exact ih
theorem below_alloc5 (w : World) (o : Obj) : Below w.heap.size w (w.alloc o) := (Below.refl _ w).alloc (Nat.le_refl _) _
theorem alloc_lt5 (w : World) (o : Obj) : w.heap.size < (w.alloc o).heap.size := (Array.getElem?_eq_some_iff.1 (heap_alloc_new w o)).1

end Go.Proofs.Ytafpmlikocchpaa

/- The law package of layer 15: within. -/
namespace Go.Proofs.Ytafpmlikocchpaa
open Go.ChangeShapes Go.WideShapes Go.ChangeAt Go.RowKit
set_option linter.unusedVariables false
set_option maxRecDepth 100000

instance decInR (x : PcR) : Decidable (inR x) := inferInstanceAs (Decidable (_ ∧ _ ∧ _))
/-- What within says. -/
def wthB (l : List PcR) : Bool := (l.take 13).all (fun x => decide (inR x)) && decide (l.length ≤ 12)
theorem wthB_true {l : List PcR} (h : wthB l = true) : l.length ≤ 12 ∧ ∀ x ∈ l, inR x := by
  unfold wthB at h
  rw [Bool.and_eq_true, decide_eq_true_iff] at h
  refine ⟨h.2, fun x hx => ?_⟩
  have h1 := h.1
  rw [List.take_of_length_le (by have := h.2; omega)] at h1
  exact of_decide_eq_true (List.all_eq_true.1 h1 x hx)
theorem wth_false {l : List PcR} {k : Nat} {x : PcR} (hx : l[k]? = some x) (hk : k < 13) (hr : ¬ inR x) : wthB l = false := by
  rw [← Bool.not_eq_true]
  intro h
  unfold wthB at h
  rw [Bool.and_eq_true] at h
  have := List.all_eq_true.1 h.1 x (List.mem_of_getElem? (i := k) (by rw [List.getElem?_take, if_pos hk, hx]))
  exact hr (of_decide_eq_true this)
theorem all_next15 {l : List PcR} {k : Nat} {x : PcR} (h : (l.take k).all (fun x => decide (inR x)) = true) (hx : l[k]? = some x) (hr : inR x) : (l.take (k + 1)).all (fun x => decide (inR x)) = true := by
  obtain ⟨hk, e⟩ := List.getElem?_eq_some_iff.1 hx
  rw [List.take_succ_eq_append_getElem hk, e, List.all_append, h]
  simp [hr]
set_option maxHeartbeats 8000000 in
theorem within15_any (l : List PcR) (A : Option Addr) (c : Nat) (w : World) (h : RowL EPc w A l) (hl : l.length ≤ maxLen) :
    Calls Try.prog 25 #[.slice A l.length c] w fun e w' => e = .returned (.bool (wthB l)) ∧ w = w' := by
  obtain ⟨n, hn⟩ : ∃ n, n = l.length := ⟨_, rfl⟩
  obtain ⟨Q, hQ⟩ : ∃ Q, Q = wthB l := ⟨_, rfl⟩
  rw [← hn, ← hQ]
  have HQ := Lib.hid hQ
  have HN := Lib.hid hn
  have HS := Lib.hid h
  have hn9 : n ≤ 9223372036854775807 := by unfold maxLen at hl; omega
  clear hn hQ h hl
  go_enter Try.func25, Try.ntmps25
  go_wp2_with fail
  go_loop [3] (fun i => ∃ k : Nat, i = .int .i64 (k : Int) ∧ k ≤ n ∧ k ≤ 13 ∧ Hid ((l.take k).all (fun x => decide (inR x)) = true)) (fun i => n - (intOf i).toNat)
  case atStart => exact ⟨0, rfl, Nat.zero_le _, Nat.zero_le _, Lib.hid (by simp)⟩
  case round =>
    obtain ⟨k, rfl, hk, hk13, HK⟩ := hrel
    by_cases hlt : k < n
    · have hki : (k : Int) < (n : Int) := by omega
      have hki0 : (0 : Int) ≤ (k : Int) := by omega
      have dlt : decide ((k : Int) < (n : Int)) = true := by simp; omega
      by_cases h13 : k < 13
      · have d13 : decide ((k : Int) < 13) = true := by simp; omega
        have n13 : (k : Int) < 13 := by omega
        obtain ⟨x, hget⟩ : ∃ x, l[k]? = some x := ⟨l[k]'(by have := HN.out; omega), List.getElem?_eq_getElem _⟩
        obtain ⟨g, ob, rfl, hg⟩ := HS.out.shapeA (by have := HN.out; omega)
        obtain ⟨c0, c1, c2, c3⟩ := pc_at HS.out hget (Below.refl _ _)
        have HG := Lib.hid hget
        obtain ⟨y, hy⟩ : ∃ y, y = x.dat.length := ⟨_, rfl⟩
        have hsz : (str x.dat).size = y := by rw [str_size, hy]
        have HY := Lib.hid hy
        clear hget hy c2 c3
        by_cases r1 : x.at_ < 0
        · have d1 : decide (x.at_ < 0) = true := decide_eq_true r1
          have HF := Lib.hid (show Q = false from by rw [HQ.out]; exact wth_false HG.out h13 (fun q => by have := q.1; omega))
          generalize str x.dat = D at *
          generalize x.at_ = xa at *
          go_wp2_with fail
          go_ret
          exact ⟨by rw [HF.out]; rfl, rfl⟩
        have d1 : decide (x.at_ < 0) = false := decide_eq_false r1
        by_cases r2 : 150 < x.at_
        · have d2 : decide (150 < x.at_) = true := decide_eq_true r2
          have HF := Lib.hid (show Q = false from by rw [HQ.out]; exact wth_false HG.out h13 (fun q => by have := q.2.1; omega))
          generalize str x.dat = D at *
          generalize x.at_ = xa at *
          go_wp2_with fail
          go_ret
          exact ⟨by rw [HF.out]; rfl, rfl⟩
        have d2 : decide (150 < x.at_) = false := decide_eq_false r2
        by_cases r3 : 50 < y
        · have d3 : decide ((50 : Int) < (y : Int)) = true := by simp; omega
          have n3 : (50 : Int) < (y : Int) := by omega
          have HF := Lib.hid (show Q = false from by rw [HQ.out]; exact wth_false HG.out h13 (fun q => by have := q.2.2; have := HY.out; omega))
          generalize str x.dat = D at *
          generalize x.at_ = xa at *
          clear r3
          go_wp2_with fail
          go_ret
          exact ⟨by rw [HF.out]; rfl, rfl⟩
        have d3 : decide ((50 : Int) < (y : Int)) = false := by simp; omega
        have n3 : ¬ (50 : Int) < (y : Int) := by omega
        have HK1 := Lib.hid (all_next15 HK.out HG.out ⟨by omega, by omega, by have := HY.out; omega⟩)
        generalize str x.dat = D at *
        generalize x.at_ = xa at *
        clear r3
        go_wp2_with fail
        go_round
        case rel => exact ⟨k + 1, by go_num, by omega, by omega, HK1⟩
        case measure => simp [intOf]; omega
      · have d13 : decide ((k : Int) < 13) = false := by simp; omega
        have n13 : ¬ (k : Int) < 13 := by omega
        have d12 : decide ((n : Int) ≤ 12) = false := by simp; omega
        have n12 : ¬ (n : Int) ≤ 12 := by omega
        have HF := Lib.hid (show Q = false from by
          rw [HQ.out]
          unfold wthB
          rw [decide_eq_false (by have := HN.out; omega), Bool.and_false])
        go_wp2_with fail
        go_ret
        exact ⟨by rw [HF.out]; rfl, rfl⟩
    · obtain rfl : k = n := by omega
      have dlt : decide ((k : Int) < (k : Int)) = false := by simp
      have nlt : ¬ (k : Int) < (k : Int) := by omega
      have hall : (l.take 13).all (fun x => decide (inR x)) = true := by
        have := HK.out
        rw [HN.out, List.take_length] at this
        rw [List.take_of_length_le (by have := HN.out; omega)]
        exact this
      by_cases h12 : k ≤ 12
      · have d12 : decide ((k : Int) ≤ 12) = true := by simp; omega
        have n12 : (k : Int) ≤ 12 := by omega
        have HF := Lib.hid (show Q = true from by
          rw [HQ.out]
          unfold wthB
          rw [decide_eq_true (by have := HN.out; omega), hall]
          rfl)
        clear hall
        go_wp2_with fail
        go_ret
        exact ⟨by rw [HF.out]; rfl, rfl⟩
      · have d12 : decide ((k : Int) ≤ 12) = false := by simp; omega
        have n12 : ¬ (k : Int) ≤ 12 := by omega
        have HF := Lib.hid (show Q = false from by
          rw [HQ.out]
          unfold wthB
          rw [decide_eq_false (by have := HN.out; omega), Bool.and_false])
        clear hall
        go_wp2_with fail
        go_ret
        exact ⟨by rw [HF.out]; rfl, rfl⟩
end Go.Proofs.Ytafpmlikocchpaa

/- OverlapMirrors: the walk, over the bundle P15. -/
namespace Go.Proofs.Ytafpmlikocchpaa
open Go.ChangeShapes Go.WideShapes Go.ChangeAt Go.RowKit
set_option linter.unusedVariables false
set_option maxRecDepth 100000

theorem Cells.drew15 {t : TypeId} {w : World} {g : Nat} {cs : Array Value} (h : Cells w g t cs) : Cells w.drew g t cs := h
/-- The four strings that are taken. -/
def mirQ (p q : PcR) (pol : Int) : ByteArray := str (takL (pcs (insAll pol [p, q])) (min p.at_ q.at_))
theorem inR_two {p q : PcR} (hp : inR p) (hq : inR q) : ∀ x ∈ [p, q], inR x := fun x hx => by
  rcases List.mem_cons.1 hx with rfl | hx
  · exact hp
  · obtain rfl := List.mem_singleton.1 hx
    exact hq
theorem mir_ins {T : World → Prop} (H : P15 T) (p q : PcR) (hp : inR p) (hq : inR q) (wp : pcWf p) (wq : pcWf q) (pol : Int) (h1 : 1 ≤ pol) (h4 : pol ≤ 4) (W : World) (hW : T W) :
    Calls Try.prog 15 #[.slice none 0 0, .agg (pcC p), .int .i64 pol] W fun e w' => ∃ A n c k, e = .returned (.tuple #[.slice A n c, .int .i64 k, .int .i64 0]) ∧ Below W.heap.size W w' ∧ Hid (∀ W1, Below w'.heap.size w' W1 → T W1 →
      Calls Try.prog 15 #[.slice A n c, .agg (pcC q), .int .i64 pol] W1 fun e w2 => ∃ A n c k, e = .returned (.tuple #[.slice A n c, .int .i64 k, .int .i64 0]) ∧ Below W1.heap.size W1 w2 ∧ Hid (∀ W3 m, m = min p.at_ q.at_ → Below w2.heap.size w2 W3 → T W3 →
        Calls Try.prog 19 #[.slice A n c, .int .i64 m] W3 fun e w4 => ∃ A n c, e = .returned (.tuple #[.string (mirQ p q pol), .slice A n c]) ∧ Below W3.heap.size W3 w4)) := by
  have hwf : ∀ z : Int, 1 ≤ z → z ≤ 4 → (Lit.int .i64 z).wf = true := fun z a b => by
    have : IntKind.i64.min ≤ z ∧ z ≤ IntKind.i64.max := ⟨by show (-9223372036854775808 : Int) ≤ z; omega, by show z ≤ (9223372036854775807 : Int); omega⟩
    simpa [Lit.wf] using this
  have e1 : insL [] p.at_ p.dat pol = (pcs (insAll pol [p]), differC [] (segC p.at_ p.dat), 0) := AllI.nil.ins (by omega) hp h1 h4
  have hA1 : AllI (insAll pol [p]) 1 := AllI.nil.next pol hp
  have hA2 : AllI (insAll pol [p, q]) 2 := hA1.next pol hq
  have e2 : insL (pcs (insAll pol [p])) q.at_ q.dat pol = (pcs (insAll pol [p, q]), differC (insAll pol [p]) (segC q.at_ q.dat), 0) := hA1.ins (by omega) hq h1 h4
  have h := H.ins [] none 0 p.at_ p.fr p.to_ pol p.dat W hW (RowL.nil _ _) (fun _ => rfl) (by decide) trivial (by decide) (by have := hp.2.2; omega) wp.1 wp.2.1 wp.2.2.1 (hwf _ h1 h4)
  rw [e1] at h
  refine h.mono ?_
  rintro e w' ⟨A, c, he, hr, h0, hb⟩
  refine ⟨A, _, c, _, he, hb, Lib.hid fun W1 hb1 hT1 => ?_⟩
  have h := H.ins (pcs (insAll pol [p])) A c q.at_ q.fr q.to_ pol q.dat W1 hT1 (hr.kept hb1) h0 (by have := hA1.pieces; omega) hA1.vld (by have := hA1.size; omega) (by have := hq.2.2; omega) wq.1 wq.2.1 wq.2.2.1 (hwf _ h1 h4)
  rw [e2] at h
  refine h.mono ?_
  rintro e w2 ⟨A, c, he, hr, h0, hb⟩
  refine ⟨A, _, c, _, he, hb, Lib.hid fun W3 m hm hb3 hT3 => ?_⟩
  have hmw : (Lit.int .i64 m).wf = true := by rw [hm]; rcases Int.le_total p.at_ q.at_ with h | h; · rw [Int.min_eq_left h]; exact wp.1
                                              · rw [Int.min_eq_right h]; exact wq.1
  have h := H.tak (pcs (insAll pol [p, q])) A c m W3 hT3 (hr.kept hb3) h0 (by have := hA2.pieces; omega) hA2.vld (by have := hA2.size; omega) hmw
  refine h.mono ?_
  rintro e w4 ⟨A, c, he, -, -, hb⟩
  exact ⟨A, _, c, by rw [he]; show _ = Ending.returned (.tuple #[.string (str (takL _ (min p.at_ q.at_))), _]); rw [← hm], hb⟩
theorem mir_one {p q : PcR} (hp : inR p) (hq : inR q) : mirQ p q 1 = mirQ q p 2 := by unfold mirQ; rw [mirr1 hp hq, Int.min_comm]
theorem mir_three {p q : PcR} (hp : inR p) (hq : inR q) (hne : p.at_ ≠ q.at_) : mirQ p q 3 = mirQ q p 3 := by unfold mirQ; rw [mirr3 hp hq hne, Int.min_comm]
theorem pc_row2 (W : World) (g : Nat) (x y : PcR) (h : W.heap[g]? = some (.cells (pcC x ++ pcC y) 23 (0, 0))) : RowL EPc W (some ⟨g, 0, none⟩) [x, y] := fun _ => by
  refine ⟨g, 0, rfl, (Array.getElem?_eq_some_iff.1 h).1, fun i z hx j v hv => ?_⟩
  match i, hx with
  | 0, hx =>
    obtain rfl := Option.some.inj hx
    show W.cell? ⟨g, 0 + 0 * 4 + j, none⟩ = some v
    match j, hv with
    | 0, hv => simpa [World.cell?, h, EPc, pcC] using hv
    | 1, hv => simpa [World.cell?, h, EPc, pcC] using hv
    | 2, hv => simpa [World.cell?, h, EPc, pcC] using hv
    | 3, hv => simpa [World.cell?, h, EPc, pcC] using hv
  | 1, hx =>
    obtain rfl := Option.some.inj hx
    show W.cell? ⟨g, 0 + 1 * 4 + j, none⟩ = some v
    match j, hv with
    | 0, hv => simpa [World.cell?, h, EPc, pcC] using hv
    | 1, hv => simpa [World.cell?, h, EPc, pcC] using hv
    | 2, hv => simpa [World.cell?, h, EPc, pcC] using hv
    | 3, hv => simpa [World.cell?, h, EPc, pcC] using hv
set_option maxHeartbeats 8000000 in
set_option maxRecDepth 100000 in
theorem walkM15 {T : World → Prop} (H : P15 T) (x y : PcR) (w : World) (hT : T w) (hx : pcWf x) (hy : pcWf y) :
    Calls Try.prog 9 #[.agg (pcC x), .agg (pcC y)] w fun e w' => e = .returned (.bool true) ∧ Below w.heap.size w w' := by
  obtain ⟨a1, d1, f1, t1⟩ := x
  obtain ⟨a2, d2, f2, t2⟩ := y
  obtain ⟨x1, x2, x3, x4⟩ := hx
  obtain ⟨y1, y2, y3, y4⟩ := hy
  unfold pcC
  dsimp only at x1 x2 x3 x4 y1 y2 y3 y4 ⊢
  obtain ⟨D1, hD1⟩ : ∃ Y, Y = str d1 := ⟨_, rfl⟩
  obtain ⟨D2, hD2⟩ : ∃ Y, Y = str d2 := ⟨_, rfl⟩
  rw [← hD1, ← hD2]
  obtain ⟨V0, hV0⟩ : ∃ W, W = w.alloc (.cells #[.int .i64 a1, .string D1, .int .i64 f1, .int .i64 t1] 23) := ⟨_, rfl⟩
  obtain ⟨gx, hgx⟩ : ∃ g, g = w.heap.size := ⟨_, rfl⟩
  have bx : Below w.heap.size w V0 := by rw [hV0]; exact below_alloc6 w _
  have px : Cells V0 gx 23 #[.int .i64 a1, .string D1, .int .i64 f1, .int .i64 t1] := by rw [hV0, hgx]; exact heap_alloc_new w _
  obtain ⟨W0, hW0⟩ : ∃ W, W = V0.alloc (.cells #[.int .i64 a2, .string D2, .int .i64 f2, .int .i64 t2] 23) := ⟨_, rfl⟩
  obtain ⟨gz, hgz⟩ : ∃ g, g = V0.heap.size := ⟨_, rfl⟩
  have bz : Below V0.heap.size V0 W0 := by rw [hW0]; exact below_alloc6 V0 _
  have pz : Cells W0 gz 23 #[.int .i64 a2, .string D2, .int .i64 f2, .int .i64 t2] := by rw [hW0, hgz]; exact heap_alloc_new V0 _
  have B0 := Lib.hid (show Below w.heap.size w W0 from (bx.trans (bz.mono bx.size)))
  have Px0 := Lib.hid (show Cells W0 gx 23 #[.int .i64 a1, .string D1, .int .i64 f1, .int .i64 t1] from (Cells.kept px bz px.lt))
  have Pz0 := Lib.hid (show Cells W0 gz 23 #[.int .i64 a2, .string D2, .int .i64 f2, .int .i64 t2] from pz)
  have HK := Lib.hid H.keep
  have HL := Lib.hid (fun (W : World) (hW : T W) => awk15 H W hW)
  have K0 := Lib.hid (H.keep w W0 hT B0.out)
  obtain ⟨l, hl⟩ : ∃ l : List PcR, l = [⟨a1, d1, f1, t1⟩, ⟨a2, d2, f2, t2⟩] := ⟨_, rfl⟩
  have hW := fun (W : World) (g : Nat) (hg : Cells W g 23 #[.int .i64 a1, .string D1, .int .i64 f1, .int .i64 t1, .int .i64 a2, .string D2, .int .i64 f2, .int .i64 t2]) => show Calls Try.prog 25 #[.slice (some ⟨g, 0, none⟩) 2 2] W fun e w' => e = .returned (.bool (wthB l)) ∧ Below W.heap.size W w' from by
    rw [hl]
    exact (within15_any [⟨a1, d1, f1, t1⟩, ⟨a2, d2, f2, t2⟩] (some ⟨g, 0, none⟩) 2 W (pc_row2 W g _ _ (by unfold pcC; rw [hD1, hD2] at hg; exact hg)) (by show 2 ≤ maxLen; unfold maxLen; omega)).mono fun e w' ⟨h1, h2⟩ => ⟨h1, h2 ▸ Below.refl _ _⟩
  cases hwt : wthB l with
  | false =>
    rw [hwt] at hW
    have HW := Lib.hid hW
    clear hW hwt hl hD1 hD2 hT x1 x2 x3 x4 y1 y2 y3 y4
    have ex : gx = w.heap.size := by exact hgx
    have ez : gz = w.heap.size + 1 := by rw [hgz, hV0]; simp
    have HV0 := Lib.hid hV0
    have HW0 := Lib.hid hW0
    have Ex := Lib.hid ex
    have Ez := Lib.hid ez
    clear hV0 hW0 hgx ex bx px hgz ez bz pz
    go_enter Try.func9, Try.ntmps9
    go_upto_region 1 with fail
    rw [← HV0.out, ← HW0.out, ← Ez.out, ← Ex.out]
    clear HV0 HW0 Ex Ez
    go_wp2_with fail
    refine (HL.out _ K0.out).mono ?_
    rintro e w1 ⟨rfl, hb⟩
    clear HL
    have Px1 := Lib.hid (Cells.kept Px0.out hb Px0.out.lt)
    have Pz1 := Lib.hid (Cells.kept Pz0.out hb Pz0.out.lt)
    have K1 := Lib.hid (HK.out _ _ K0.out hb)
    have B1 := Lib.hid (B0.out.trans (hb.mono B0.out.size))
    clear hb Px0 Pz0 K0 B0
    have xx0 := (Cells.cell Px1.out 0).trans (show _ = some (Value.int .i64 a1) from rfl)
    have xx1 := (Cells.cell Px1.out 1).trans (show _ = some (Value.string D1) from rfl)
    have xx2 := (Cells.cell Px1.out 2).trans (show _ = some (Value.int .i64 f1) from rfl)
    have xx3 := (Cells.cell Px1.out 3).trans (show _ = some (Value.int .i64 t1) from rfl)
    have xz0 := (Cells.cell Pz1.out 0).trans (show _ = some (Value.int .i64 a2) from rfl)
    have xz1 := (Cells.cell Pz1.out 1).trans (show _ = some (Value.string D2) from rfl)
    have xz2 := (Cells.cell Pz1.out 2).trans (show _ = some (Value.int .i64 f2) from rfl)
    have xz3 := (Cells.cell Pz1.out 3).trans (show _ = some (Value.int .i64 t2) from rfl)
    go_wp2_with fail
    obtain ⟨W2, hW⟩ : ∃ W, W = w1.alloc (.cells #[.int .i64 a1, .string D1, .int .i64 f1, .int .i64 t1, .int .i64 a2, .string D2, .int .i64 f2, .int .i64 t2] 23) := ⟨_, rfl⟩
    obtain ⟨gs, hg⟩ : ∃ g, g = w1.heap.size := ⟨_, rfl⟩
    have Ns := Lib.hid (show Cells W2 gs 23 #[.int .i64 a1, .string D1, .int .i64 f1, .int .i64 t1, .int .i64 a2, .string D2, .int .i64 f2, .int .i64 t2] by rw [hW, hg]; exact heap_alloc_new w1 _)
    have hb : Below w1.heap.size w1 W2 := by rw [hW]; exact below_alloc6 w1 _
    rw [← hW, ← hg]
    clear hW hg
    have Px2 := Lib.hid (Cells.kept Px1.out hb Px1.out.lt)
    have Pz2 := Lib.hid (Cells.kept Pz1.out hb Pz1.out.lt)
    have K2 := Lib.hid (HK.out _ _ K1.out hb)
    have B2 := Lib.hid (B1.out.trans (hb.mono B1.out.size))
    clear hb Px1 Pz1 K1 B1
    have Ps2 := Ns
    clear Ns
    refine (HW.out _ _ Ps2.out).mono ?_
    rintro e w3 ⟨rfl, hb⟩
    clear HW xx0 xx1 xx2 xx3 xz0 xz1 xz2 xz3
    have Px3 := Lib.hid (Cells.kept Px2.out hb Px2.out.lt)
    have Pz3 := Lib.hid (Cells.kept Pz2.out hb Pz2.out.lt)
    have Ps3 := Lib.hid (Cells.kept Ps2.out hb Ps2.out.lt)
    have K3 := Lib.hid (HK.out _ _ K2.out hb)
    have B3 := Lib.hid (B2.out.trans (hb.mono B2.out.size))
    clear hb Px2 Pz2 Ps2 K2 B2
    go_wp2_with fail
    go_ret
    exact ⟨rfl, B3.out⟩
  | true =>
    rw [hwt] at hW
    have HW := Lib.hid hW
    obtain ⟨hl12, hin⟩ := wthB_true hwt
    have hp := hin ⟨a1, d1, f1, t1⟩ (by rw [hl]; exact List.mem_cons_self ..)
    have hq := hin ⟨a2, d2, f2, t2⟩ (by rw [hl]; exact List.mem_cons_of_mem _ (List.mem_cons_self ..))
    have wp : pcWf ⟨a1, d1, f1, t1⟩ := ⟨x1, x2, x3, x4⟩
    have wq : pcWf ⟨a2, d2, f2, t2⟩ := ⟨y1, y2, y3, y4⟩
    have e1 := mir_one hp hq
    have e3 := fun h => mir_three hp hq h
    have f1' := fun W hW => mir_ins H ⟨a1, d1, f1, t1⟩ ⟨a2, d2, f2, t2⟩ hp hq wp wq 1 (by decide) (by decide) W hW
    have f2' := fun W hW => mir_ins H ⟨a2, d2, f2, t2⟩ ⟨a1, d1, f1, t1⟩ hq hp wq wp 2 (by decide) (by decide) W hW
    have f3' := fun W hW => mir_ins H ⟨a1, d1, f1, t1⟩ ⟨a2, d2, f2, t2⟩ hp hq wp wq 3 (by decide) (by decide) W hW
    have f4' := fun W hW => mir_ins H ⟨a2, d2, f2, t2⟩ ⟨a1, d1, f1, t1⟩ hq hp wq wp 3 (by decide) (by decide) W hW
    unfold pcC at f1' f2' f3' f4'
    dsimp only at f1' f2' f3' f4' e3
    rw [← hD1, ← hD2] at f1' f2' f3' f4'
    rw [e1] at f1'
    generalize mirQ ⟨a2, d2, f2, t2⟩ ⟨a1, d1, f1, t1⟩ 2 = S0 at *
    generalize mirQ ⟨a1, d1, f1, t1⟩ ⟨a2, d2, f2, t2⟩ 3 = S2 at *
    generalize mirQ ⟨a2, d2, f2, t2⟩ ⟨a1, d1, f1, t1⟩ 3 = S3 at *
    have HC0 := Lib.hid f1'
    have HC1 := Lib.hid f2'
    have HC2 := Lib.hid f3'
    have HC3 := Lib.hid f4'
    have HE := Lib.hid e3
    clear f1' f2' f3' f4' e1 e3 wp wq
    clear hW hwt hl hT hl12 hin hD1 hD2 x1 x2 x3 x4 y1 y2 y3 y4 hp hq
    have ex : gx = w.heap.size := by exact hgx
    have ez : gz = w.heap.size + 1 := by rw [hgz, hV0]; simp
    have HV0 := Lib.hid hV0
    have HW0 := Lib.hid hW0
    have Ex := Lib.hid ex
    have Ez := Lib.hid ez
    clear hV0 hW0 hgx ex bx px hgz ez bz pz
    go_enter Try.func9, Try.ntmps9
    go_upto_region 1 with fail
    rw [← HV0.out, ← HW0.out, ← Ez.out, ← Ex.out]
    clear HV0 HW0 Ex Ez
    go_wp2_with fail
    refine (HL.out _ K0.out).mono ?_
    rintro e w1 ⟨rfl, hb⟩
    clear HL
    have Px1 := Lib.hid (Cells.kept Px0.out hb Px0.out.lt)
    have Pz1 := Lib.hid (Cells.kept Pz0.out hb Pz0.out.lt)
    have K1 := Lib.hid (HK.out _ _ K0.out hb)
    have B1 := Lib.hid (B0.out.trans (hb.mono B0.out.size))
    clear hb Px0 Pz0 K0 B0
    have xx0 := (Cells.cell Px1.out 0).trans (show _ = some (Value.int .i64 a1) from rfl)
    have xx1 := (Cells.cell Px1.out 1).trans (show _ = some (Value.string D1) from rfl)
    have xx2 := (Cells.cell Px1.out 2).trans (show _ = some (Value.int .i64 f1) from rfl)
    have xx3 := (Cells.cell Px1.out 3).trans (show _ = some (Value.int .i64 t1) from rfl)
    have xz0 := (Cells.cell Pz1.out 0).trans (show _ = some (Value.int .i64 a2) from rfl)
    have xz1 := (Cells.cell Pz1.out 1).trans (show _ = some (Value.string D2) from rfl)
    have xz2 := (Cells.cell Pz1.out 2).trans (show _ = some (Value.int .i64 f2) from rfl)
    have xz3 := (Cells.cell Pz1.out 3).trans (show _ = some (Value.int .i64 t2) from rfl)
    go_wp2_with fail
    obtain ⟨W2, hW⟩ : ∃ W, W = w1.alloc (.cells #[.int .i64 a1, .string D1, .int .i64 f1, .int .i64 t1, .int .i64 a2, .string D2, .int .i64 f2, .int .i64 t2] 23) := ⟨_, rfl⟩
    obtain ⟨gs, hg⟩ : ∃ g, g = w1.heap.size := ⟨_, rfl⟩
    have Ns := Lib.hid (show Cells W2 gs 23 #[.int .i64 a1, .string D1, .int .i64 f1, .int .i64 t1, .int .i64 a2, .string D2, .int .i64 f2, .int .i64 t2] by rw [hW, hg]; exact heap_alloc_new w1 _)
    have hb : Below w1.heap.size w1 W2 := by rw [hW]; exact below_alloc6 w1 _
    rw [← hW, ← hg]
    clear hW hg
    have Px2 := Lib.hid (Cells.kept Px1.out hb Px1.out.lt)
    have Pz2 := Lib.hid (Cells.kept Pz1.out hb Pz1.out.lt)
    have K2 := Lib.hid (HK.out _ _ K1.out hb)
    have B2 := Lib.hid (B1.out.trans (hb.mono B1.out.size))
    clear hb Px1 Pz1 K1 B1
    have Ps2 := Ns
    clear Ns
    refine (HW.out _ _ Ps2.out).mono ?_
    rintro e w3 ⟨rfl, hb⟩
    clear HW xx0 xx1 xx2 xx3 xz0 xz1 xz2 xz3
    have Px3 := Lib.hid (Cells.kept Px2.out hb Px2.out.lt)
    have Pz3 := Lib.hid (Cells.kept Pz2.out hb Pz2.out.lt)
    have Ps3 := Lib.hid (Cells.kept Ps2.out hb Ps2.out.lt)
    have K3 := Lib.hid (HK.out _ _ K2.out hb)
    have B3 := Lib.hid (B2.out.trans (hb.mono B2.out.size))
    clear hb Px2 Pz2 Ps2 K2 B2
    go_upto_region 6 with fail
    obtain ⟨WB, hW⟩ : ∃ W, W = w3.alloc (.cells #[.string ⟨#[]⟩, .string ⟨#[]⟩, .string ⟨#[]⟩, .string ⟨#[]⟩] 41) := ⟨_, rfl⟩
    obtain ⟨gb, hg⟩ : ∃ g, g = w3.heap.size := ⟨_, rfl⟩
    have CB := Lib.hid (show Cells WB gb 41 #[.string ⟨#[]⟩, .string ⟨#[]⟩, .string ⟨#[]⟩, .string ⟨#[]⟩] by rw [hW, hg]; exact heap_alloc_new w3 _)
    have BB := Lib.hid (show Below w3.heap.size w3 WB by rw [hW]; exact below_alloc6 w3 _)
    rw [← hW, ← hg]
    have GB := Lib.hid hg
    clear hW hg
    go_wp2_with fail
    go_loopw [6] (fun v6 wr => Hid (Below w3.heap.size w3 wr) ∧ ((v6 = .int .i64 0 ∧ Cells wr gb 41 #[.string ⟨#[]⟩, .string ⟨#[]⟩, .string ⟨#[]⟩, .string ⟨#[]⟩]) ∨ (v6 = .int .i64 1 ∧ Cells wr gb 41 #[.string S0, .string ⟨#[]⟩, .string ⟨#[]⟩, .string ⟨#[]⟩]) ∨ (v6 = .int .i64 2 ∧ Cells wr gb 41 #[.string S0, .string S0, .string ⟨#[]⟩, .string ⟨#[]⟩]) ∨ (v6 = .int .i64 3 ∧ Cells wr gb 41 #[.string S0, .string S0, .string S2, .string ⟨#[]⟩]) ∨ (v6 = .int .i64 4 ∧ Cells wr gb 41 #[.string S0, .string S0, .string S2, .string S3]))) (fun v6 _ => 4 - (intOf v6).toNat)
    case atStart => exact ⟨BB, .inl ⟨rfl, CB.out⟩⟩
    case round =>
      obtain ⟨HB, hcase⟩ := hrel
      have Px20 := Lib.hid (Cells.kept Px3.out HB.out Px3.out.lt)
      have Pz20 := Lib.hid (Cells.kept Pz3.out HB.out Pz3.out.lt)
      have K20 := Lib.hid (HK.out _ _ K3.out HB.out)
      have B20 := HB
      clear HB
      rcases hcase with ⟨rfl, HC⟩ | ⟨rfl, HC⟩ | ⟨rfl, HC⟩ | ⟨rfl, HC⟩ | ⟨rfl, HC⟩
      · have Pb20 := Lib.hid HC
        clear HC
        have xx0 := (Cells.cell Px20.out 0).trans (show _ = some (Value.int .i64 a1) from rfl)
        have xx1 := (Cells.cell Px20.out 1).trans (show _ = some (Value.string D1) from rfl)
        have xx2 := (Cells.cell Px20.out 2).trans (show _ = some (Value.int .i64 f1) from rfl)
        have xx3 := (Cells.cell Px20.out 3).trans (show _ = some (Value.int .i64 t1) from rfl)
        have xz0 := (Cells.cell Pz20.out 0).trans (show _ = some (Value.int .i64 a2) from rfl)
        have xz1 := (Cells.cell Pz20.out 1).trans (show _ = some (Value.string D2) from rfl)
        have xz2 := (Cells.cell Pz20.out 2).trans (show _ = some (Value.int .i64 f2) from rfl)
        have xz3 := (Cells.cell Pz20.out 3).trans (show _ = some (Value.int .i64 t2) from rfl)
        have ltx := Px20.out.lt
        have ltz := Pz20.out.lt
        have ltb := Pb20.out.lt
        go_wp2_with fail
        go_region
        · clear xx0 xx1 xx2 xx3 xz0 xz1 xz2 xz3 ltx ltz ltb
          obtain ⟨V, hV⟩ : ∃ V, V = wr.alloc (.cells #[.int .i64 a1, .string D1, .int .i64 f1, .int .i64 t1] 23) := ⟨_, rfl⟩
          obtain ⟨U, hU⟩ : ∃ U, U = V.alloc (.cells #[.int .i64 a2, .string D2, .int .i64 f2, .int .i64 t2] 23) := ⟨_, rfl⟩
          obtain ⟨W1, hW1⟩ : ∃ W, W = U.drew := ⟨_, rfl⟩
          obtain ⟨gf, hg1⟩ : ∃ g, g = wr.heap.size := ⟨_, rfl⟩
          obtain ⟨gh, hg2⟩ : ∃ g, g = V.heap.size := ⟨_, rfl⟩
          have hg3 : gh = wr.heap.size + 1 := by rw [hg2, hV]; simp
          have b1 : Below wr.heap.size wr V := by rw [hV]; exact below_alloc6 wr _
          have b2 : Below V.heap.size V U := by rw [hU]; exact below_alloc6 V _
          have b3 : Below U.heap.size U W1 := by rw [hW1]; exact (Below.refl _ _).drew
          have n1 : Cells V gf 23 #[.int .i64 a1, .string D1, .int .i64 f1, .int .i64 t1] := by rw [hV, hg1]; exact heap_alloc_new wr _
          have n2 : Cells U gh 23 #[.int .i64 a2, .string D2, .int .i64 f2, .int .i64 t2] := by rw [hU, hg2]; exact heap_alloc_new V _
          have n1u := Cells.kept n1 b2 n1.lt
          have Pf21 := Lib.hid (Cells.kept n1u b3 n1u.lt)
          have Ph21 := Lib.hid (Cells.kept n2 b3 n2.lt)
          have hb := (b1.trans (b2.mono b1.size)).trans (b3.mono (b1.trans (b2.mono b1.size)).size)
          have hlo := B20.out.size
          have lx := Px20.out.lt
          have lz := Pz20.out.lt
          have lb := Pb20.out.lt
          have HNE := Lib.hid (show gf ≠ gh ∧ gh ≠ gf ∧ w3.heap.size ≤ gf ∧ w3.heap.size ≤ gh ∧ gx ≠ gf ∧ gx ≠ gh ∧ gz ≠ gf ∧ gz ≠ gh ∧ gb ≠ gf ∧ gb ≠ gh from ⟨by omega, by omega, by omega, by omega, by omega, by omega, by omega, by omega, by omega, by omega⟩)
          rw [← hV, ← hU, ← hW1, ← hg3, ← hg1]
          clear hlo lx lz lb hV hU hW1 hg1 hg2 hg3 b1 b2 b3 n1 n2 n1u
          have Px21 := Lib.hid (Cells.kept Px20.out hb Px20.out.lt)
          have Pz21 := Lib.hid (Cells.kept Pz20.out hb Pz20.out.lt)
          have Pb21 := Lib.hid (Cells.kept Pb20.out hb Pb20.out.lt)
          have K21 := Lib.hid (HK.out _ _ K20.out hb)
          have B21 := Lib.hid (B20.out.trans (hb.mono B20.out.size))
          clear hb Px20 Pz20 Pb20 K20 B20
          have xf0 := (Cells.cell Pf21.out 0).trans (show _ = some (Value.int .i64 a1) from rfl)
          have xf1 := (Cells.cell Pf21.out 1).trans (show _ = some (Value.string D1) from rfl)
          have xf2 := (Cells.cell Pf21.out 2).trans (show _ = some (Value.int .i64 f1) from rfl)
          have xf3 := (Cells.cell Pf21.out 3).trans (show _ = some (Value.int .i64 t1) from rfl)
          go_wp2_with fail
          refine (HC0.out _ K21.out).mono ?_
          rintro e w22 ⟨A5, n5, c5, k5, rfl, hb, H5⟩
          clear xf0 xf1 xf2 xf3
          have Px22 := Lib.hid (Cells.kept Px21.out hb Px21.out.lt)
          have Pz22 := Lib.hid (Cells.kept Pz21.out hb Pz21.out.lt)
          have Pb22 := Lib.hid (Cells.kept Pb21.out hb Pb21.out.lt)
          have Pf22 := Lib.hid (Cells.kept Pf21.out hb Pf21.out.lt)
          have Ph22 := Lib.hid (Cells.kept Ph21.out hb Ph21.out.lt)
          have K22 := Lib.hid (HK.out _ _ K21.out hb)
          have B22 := Lib.hid (B21.out.trans (hb.mono B21.out.size))
          clear hb Px21 Pz21 Pb21 Pf21 Ph21 K21 B21
          have xh0 := (Cells.cell Ph22.out 0).trans (show _ = some (Value.int .i64 a2) from rfl)
          have xh1 := (Cells.cell Ph22.out 1).trans (show _ = some (Value.string D2) from rfl)
          have xh2 := (Cells.cell Ph22.out 2).trans (show _ = some (Value.int .i64 f2) from rfl)
          have xh3 := (Cells.cell Ph22.out 3).trans (show _ = some (Value.int .i64 t2) from rfl)
          go_wp2_with fail
          refine (H5.out _ (Below.refl _ _) K22.out).mono ?_
          rintro e w23 ⟨A6, n6, c6, k6, rfl, hb, H6⟩
          clear H5 xh0 xh1 xh2 xh3
          have Px23 := Lib.hid (Cells.kept Px22.out hb Px22.out.lt)
          have Pz23 := Lib.hid (Cells.kept Pz22.out hb Pz22.out.lt)
          have Pb23 := Lib.hid (Cells.kept Pb22.out hb Pb22.out.lt)
          have Pf23 := Lib.hid (Cells.kept Pf22.out hb Pf22.out.lt)
          have Ph23 := Lib.hid (Cells.kept Ph22.out hb Ph22.out.lt)
          have K23 := Lib.hid (HK.out _ _ K22.out hb)
          have B23 := Lib.hid (B22.out.trans (hb.mono B22.out.size))
          clear hb Px22 Pz22 Pb22 Pf22 Ph22 K22 B22
          have xx0 := (Cells.cell Px23.out 0).trans (show _ = some (Value.int .i64 a1) from rfl)
          have xx1 := (Cells.cell Px23.out 1).trans (show _ = some (Value.string D1) from rfl)
          have xx2 := (Cells.cell Px23.out 2).trans (show _ = some (Value.int .i64 f1) from rfl)
          have xx3 := (Cells.cell Px23.out 3).trans (show _ = some (Value.int .i64 t1) from rfl)
          have xz0 := (Cells.cell Pz23.out 0).trans (show _ = some (Value.int .i64 a2) from rfl)
          have xz1 := (Cells.cell Pz23.out 1).trans (show _ = some (Value.string D2) from rfl)
          have xz2 := (Cells.cell Pz23.out 2).trans (show _ = some (Value.int .i64 f2) from rfl)
          have xz3 := (Cells.cell Pz23.out 3).trans (show _ = some (Value.int .i64 t2) from rfl)
          have xb0 := (Cells.cell Pb23.out 0).trans (show _ = some (Value.string ⟨#[]⟩) from rfl)
          have xb1 := (Cells.cell Pb23.out 1).trans (show _ = some (Value.string ⟨#[]⟩) from rfl)
          have xb2 := (Cells.cell Pb23.out 2).trans (show _ = some (Value.string ⟨#[]⟩) from rfl)
          have xb3 := (Cells.cell Pb23.out 3).trans (show _ = some (Value.string ⟨#[]⟩) from rfl)
          go_wp2_with fail
          refine (H6.out _ _ rfl (Below.refl _ _) K23.out).mono ?_
          rintro e w24 ⟨A7, n7, c7, rfl, hb⟩
          clear H6 xx0 xx1 xx2 xx3 xz0 xz1 xz2 xz3 xb0 xb1 xb2 xb3
          have Px24 := Lib.hid (Cells.kept Px23.out hb Px23.out.lt)
          have Pz24 := Lib.hid (Cells.kept Pz23.out hb Pz23.out.lt)
          have Pb24 := Lib.hid (Cells.kept Pb23.out hb Pb23.out.lt)
          have Pf24 := Lib.hid (Cells.kept Pf23.out hb Pf23.out.lt)
          have Ph24 := Lib.hid (Cells.kept Ph23.out hb Ph23.out.lt)
          have K24 := Lib.hid (HK.out _ _ K23.out hb)
          have B24 := Lib.hid (B23.out.trans (hb.mono B23.out.size))
          clear hb Px23 Pz23 Pb23 Pf23 Ph23 K23 B23
          have xb0 := (Cells.cell Pb24.out 0).trans (show _ = some (Value.string ⟨#[]⟩) from rfl)
          have xb1 := (Cells.cell Pb24.out 1).trans (show _ = some (Value.string ⟨#[]⟩) from rfl)
          have xb2 := (Cells.cell Pb24.out 2).trans (show _ = some (Value.string ⟨#[]⟩) from rfl)
          have xb3 := (Cells.cell Pb24.out 3).trans (show _ = some (Value.string ⟨#[]⟩) from rfl)
          have ltb := Pb24.out.lt
          have fzb := Cells.frozen Pb24.out 0
          go_wp2_with fail
          go_roundw
          case rel => exact ⟨Lib.hid (Below.setCell B24.out (p := ⟨gb, 0, none⟩) (Nat.le_of_eq GB.out.symm) _), .inr (.inl ⟨rfl, Cells.set Pb24.out 0 _⟩)⟩
          case measure => simp [intOf]
        · clear xx0 xx1 xx2 xx3 xz0 xz1 xz2 xz3 ltx ltz ltb
          obtain ⟨V, hV⟩ : ∃ V, V = wr.alloc (.cells #[.int .i64 a2, .string D2, .int .i64 f2, .int .i64 t2] 23) := ⟨_, rfl⟩
          obtain ⟨U, hU⟩ : ∃ U, U = V.alloc (.cells #[.int .i64 a1, .string D1, .int .i64 f1, .int .i64 t1] 23) := ⟨_, rfl⟩
          obtain ⟨W1, hW1⟩ : ∃ W, W = U.drew := ⟨_, rfl⟩
          obtain ⟨gh, hg1⟩ : ∃ g, g = wr.heap.size := ⟨_, rfl⟩
          obtain ⟨gf, hg2⟩ : ∃ g, g = V.heap.size := ⟨_, rfl⟩
          have hg3 : gf = wr.heap.size + 1 := by rw [hg2, hV]; simp
          have b1 : Below wr.heap.size wr V := by rw [hV]; exact below_alloc6 wr _
          have b2 : Below V.heap.size V U := by rw [hU]; exact below_alloc6 V _
          have b3 : Below U.heap.size U W1 := by rw [hW1]; exact (Below.refl _ _).drew
          have n1 : Cells V gh 23 #[.int .i64 a2, .string D2, .int .i64 f2, .int .i64 t2] := by rw [hV, hg1]; exact heap_alloc_new wr _
          have n2 : Cells U gf 23 #[.int .i64 a1, .string D1, .int .i64 f1, .int .i64 t1] := by rw [hU, hg2]; exact heap_alloc_new V _
          have n1u := Cells.kept n1 b2 n1.lt
          have Ph21 := Lib.hid (Cells.kept n1u b3 n1u.lt)
          have Pf21 := Lib.hid (Cells.kept n2 b3 n2.lt)
          have hb := (b1.trans (b2.mono b1.size)).trans (b3.mono (b1.trans (b2.mono b1.size)).size)
          have hlo := B20.out.size
          have lx := Px20.out.lt
          have lz := Pz20.out.lt
          have lb := Pb20.out.lt
          have HNE := Lib.hid (show gf ≠ gh ∧ gh ≠ gf ∧ w3.heap.size ≤ gf ∧ w3.heap.size ≤ gh ∧ gx ≠ gf ∧ gx ≠ gh ∧ gz ≠ gf ∧ gz ≠ gh ∧ gb ≠ gf ∧ gb ≠ gh from ⟨by omega, by omega, by omega, by omega, by omega, by omega, by omega, by omega, by omega, by omega⟩)
          rw [← hV, ← hU, ← hW1, ← hg3, ← hg1]
          clear hlo lx lz lb hV hU hW1 hg1 hg2 hg3 b1 b2 b3 n1 n2 n1u
          have Px21 := Lib.hid (Cells.kept Px20.out hb Px20.out.lt)
          have Pz21 := Lib.hid (Cells.kept Pz20.out hb Pz20.out.lt)
          have Pb21 := Lib.hid (Cells.kept Pb20.out hb Pb20.out.lt)
          have K21 := Lib.hid (HK.out _ _ K20.out hb)
          have B21 := Lib.hid (B20.out.trans (hb.mono B20.out.size))
          clear hb Px20 Pz20 Pb20 K20 B20
          have xf0 := (Cells.cell Pf21.out 0).trans (show _ = some (Value.int .i64 a1) from rfl)
          have xf1 := (Cells.cell Pf21.out 1).trans (show _ = some (Value.string D1) from rfl)
          have xf2 := (Cells.cell Pf21.out 2).trans (show _ = some (Value.int .i64 f1) from rfl)
          have xf3 := (Cells.cell Pf21.out 3).trans (show _ = some (Value.int .i64 t1) from rfl)
          go_wp2_with fail
          refine (HC0.out _ K21.out).mono ?_
          rintro e w22 ⟨A5, n5, c5, k5, rfl, hb, H5⟩
          clear xf0 xf1 xf2 xf3
          have Px22 := Lib.hid (Cells.kept Px21.out hb Px21.out.lt)
          have Pz22 := Lib.hid (Cells.kept Pz21.out hb Pz21.out.lt)
          have Pb22 := Lib.hid (Cells.kept Pb21.out hb Pb21.out.lt)
          have Pf22 := Lib.hid (Cells.kept Pf21.out hb Pf21.out.lt)
          have Ph22 := Lib.hid (Cells.kept Ph21.out hb Ph21.out.lt)
          have K22 := Lib.hid (HK.out _ _ K21.out hb)
          have B22 := Lib.hid (B21.out.trans (hb.mono B21.out.size))
          clear hb Px21 Pz21 Pb21 Pf21 Ph21 K21 B21
          have xh0 := (Cells.cell Ph22.out 0).trans (show _ = some (Value.int .i64 a2) from rfl)
          have xh1 := (Cells.cell Ph22.out 1).trans (show _ = some (Value.string D2) from rfl)
          have xh2 := (Cells.cell Ph22.out 2).trans (show _ = some (Value.int .i64 f2) from rfl)
          have xh3 := (Cells.cell Ph22.out 3).trans (show _ = some (Value.int .i64 t2) from rfl)
          go_wp2_with fail
          refine (H5.out _ (Below.refl _ _) K22.out).mono ?_
          rintro e w23 ⟨A6, n6, c6, k6, rfl, hb, H6⟩
          clear H5 xh0 xh1 xh2 xh3
          have Px23 := Lib.hid (Cells.kept Px22.out hb Px22.out.lt)
          have Pz23 := Lib.hid (Cells.kept Pz22.out hb Pz22.out.lt)
          have Pb23 := Lib.hid (Cells.kept Pb22.out hb Pb22.out.lt)
          have Pf23 := Lib.hid (Cells.kept Pf22.out hb Pf22.out.lt)
          have Ph23 := Lib.hid (Cells.kept Ph22.out hb Ph22.out.lt)
          have K23 := Lib.hid (HK.out _ _ K22.out hb)
          have B23 := Lib.hid (B22.out.trans (hb.mono B22.out.size))
          clear hb Px22 Pz22 Pb22 Pf22 Ph22 K22 B22
          have xx0 := (Cells.cell Px23.out 0).trans (show _ = some (Value.int .i64 a1) from rfl)
          have xx1 := (Cells.cell Px23.out 1).trans (show _ = some (Value.string D1) from rfl)
          have xx2 := (Cells.cell Px23.out 2).trans (show _ = some (Value.int .i64 f1) from rfl)
          have xx3 := (Cells.cell Px23.out 3).trans (show _ = some (Value.int .i64 t1) from rfl)
          have xz0 := (Cells.cell Pz23.out 0).trans (show _ = some (Value.int .i64 a2) from rfl)
          have xz1 := (Cells.cell Pz23.out 1).trans (show _ = some (Value.string D2) from rfl)
          have xz2 := (Cells.cell Pz23.out 2).trans (show _ = some (Value.int .i64 f2) from rfl)
          have xz3 := (Cells.cell Pz23.out 3).trans (show _ = some (Value.int .i64 t2) from rfl)
          have xb0 := (Cells.cell Pb23.out 0).trans (show _ = some (Value.string ⟨#[]⟩) from rfl)
          have xb1 := (Cells.cell Pb23.out 1).trans (show _ = some (Value.string ⟨#[]⟩) from rfl)
          have xb2 := (Cells.cell Pb23.out 2).trans (show _ = some (Value.string ⟨#[]⟩) from rfl)
          have xb3 := (Cells.cell Pb23.out 3).trans (show _ = some (Value.string ⟨#[]⟩) from rfl)
          go_wp2_with fail
          refine (H6.out _ _ rfl (Below.refl _ _) K23.out).mono ?_
          rintro e w24 ⟨A7, n7, c7, rfl, hb⟩
          clear H6 xx0 xx1 xx2 xx3 xz0 xz1 xz2 xz3 xb0 xb1 xb2 xb3
          have Px24 := Lib.hid (Cells.kept Px23.out hb Px23.out.lt)
          have Pz24 := Lib.hid (Cells.kept Pz23.out hb Pz23.out.lt)
          have Pb24 := Lib.hid (Cells.kept Pb23.out hb Pb23.out.lt)
          have Pf24 := Lib.hid (Cells.kept Pf23.out hb Pf23.out.lt)
          have Ph24 := Lib.hid (Cells.kept Ph23.out hb Ph23.out.lt)
          have K24 := Lib.hid (HK.out _ _ K23.out hb)
          have B24 := Lib.hid (B23.out.trans (hb.mono B23.out.size))
          clear hb Px23 Pz23 Pb23 Pf23 Ph23 K23 B23
          have xb0 := (Cells.cell Pb24.out 0).trans (show _ = some (Value.string ⟨#[]⟩) from rfl)
          have xb1 := (Cells.cell Pb24.out 1).trans (show _ = some (Value.string ⟨#[]⟩) from rfl)
          have xb2 := (Cells.cell Pb24.out 2).trans (show _ = some (Value.string ⟨#[]⟩) from rfl)
          have xb3 := (Cells.cell Pb24.out 3).trans (show _ = some (Value.string ⟨#[]⟩) from rfl)
          have ltb := Pb24.out.lt
          have fzb := Cells.frozen Pb24.out 0
          go_wp2_with fail
          go_roundw
          case rel => exact ⟨Lib.hid (Below.setCell B24.out (p := ⟨gb, 0, none⟩) (Nat.le_of_eq GB.out.symm) _), .inr (.inl ⟨rfl, Cells.set Pb24.out 0 _⟩)⟩
          case measure => simp [intOf]
      · have Pb20 := Lib.hid HC
        clear HC
        have xx0 := (Cells.cell Px20.out 0).trans (show _ = some (Value.int .i64 a1) from rfl)
        have xx1 := (Cells.cell Px20.out 1).trans (show _ = some (Value.string D1) from rfl)
        have xx2 := (Cells.cell Px20.out 2).trans (show _ = some (Value.int .i64 f1) from rfl)
        have xx3 := (Cells.cell Px20.out 3).trans (show _ = some (Value.int .i64 t1) from rfl)
        have xz0 := (Cells.cell Pz20.out 0).trans (show _ = some (Value.int .i64 a2) from rfl)
        have xz1 := (Cells.cell Pz20.out 1).trans (show _ = some (Value.string D2) from rfl)
        have xz2 := (Cells.cell Pz20.out 2).trans (show _ = some (Value.int .i64 f2) from rfl)
        have xz3 := (Cells.cell Pz20.out 3).trans (show _ = some (Value.int .i64 t2) from rfl)
        have ltx := Px20.out.lt
        have ltz := Pz20.out.lt
        have ltb := Pb20.out.lt
        go_wp2_with fail
        go_region
        · clear xx0 xx1 xx2 xx3 xz0 xz1 xz2 xz3 ltx ltz ltb
          obtain ⟨V, hV⟩ : ∃ V, V = wr.alloc (.cells #[.int .i64 a1, .string D1, .int .i64 f1, .int .i64 t1] 23) := ⟨_, rfl⟩
          obtain ⟨U, hU⟩ : ∃ U, U = V.alloc (.cells #[.int .i64 a2, .string D2, .int .i64 f2, .int .i64 t2] 23) := ⟨_, rfl⟩
          obtain ⟨W1, hW1⟩ : ∃ W, W = U.drew := ⟨_, rfl⟩
          obtain ⟨gf, hg1⟩ : ∃ g, g = wr.heap.size := ⟨_, rfl⟩
          obtain ⟨gh, hg2⟩ : ∃ g, g = V.heap.size := ⟨_, rfl⟩
          have hg3 : gh = wr.heap.size + 1 := by rw [hg2, hV]; simp
          have b1 : Below wr.heap.size wr V := by rw [hV]; exact below_alloc6 wr _
          have b2 : Below V.heap.size V U := by rw [hU]; exact below_alloc6 V _
          have b3 : Below U.heap.size U W1 := by rw [hW1]; exact (Below.refl _ _).drew
          have n1 : Cells V gf 23 #[.int .i64 a1, .string D1, .int .i64 f1, .int .i64 t1] := by rw [hV, hg1]; exact heap_alloc_new wr _
          have n2 : Cells U gh 23 #[.int .i64 a2, .string D2, .int .i64 f2, .int .i64 t2] := by rw [hU, hg2]; exact heap_alloc_new V _
          have n1u := Cells.kept n1 b2 n1.lt
          have Pf21 := Lib.hid (Cells.kept n1u b3 n1u.lt)
          have Ph21 := Lib.hid (Cells.kept n2 b3 n2.lt)
          have hb := (b1.trans (b2.mono b1.size)).trans (b3.mono (b1.trans (b2.mono b1.size)).size)
          have hlo := B20.out.size
          have lx := Px20.out.lt
          have lz := Pz20.out.lt
          have lb := Pb20.out.lt
          have HNE := Lib.hid (show gf ≠ gh ∧ gh ≠ gf ∧ w3.heap.size ≤ gf ∧ w3.heap.size ≤ gh ∧ gx ≠ gf ∧ gx ≠ gh ∧ gz ≠ gf ∧ gz ≠ gh ∧ gb ≠ gf ∧ gb ≠ gh from ⟨by omega, by omega, by omega, by omega, by omega, by omega, by omega, by omega, by omega, by omega⟩)
          rw [← hV, ← hU, ← hW1, ← hg3, ← hg1]
          clear hlo lx lz lb hV hU hW1 hg1 hg2 hg3 b1 b2 b3 n1 n2 n1u
          have Px21 := Lib.hid (Cells.kept Px20.out hb Px20.out.lt)
          have Pz21 := Lib.hid (Cells.kept Pz20.out hb Pz20.out.lt)
          have Pb21 := Lib.hid (Cells.kept Pb20.out hb Pb20.out.lt)
          have K21 := Lib.hid (HK.out _ _ K20.out hb)
          have B21 := Lib.hid (B20.out.trans (hb.mono B20.out.size))
          clear hb Px20 Pz20 Pb20 K20 B20
          have xx0 := (Cells.cell Px21.out 0).trans (show _ = some (Value.int .i64 a1) from rfl)
          have xx1 := (Cells.cell Px21.out 1).trans (show _ = some (Value.string D1) from rfl)
          have xx2 := (Cells.cell Px21.out 2).trans (show _ = some (Value.int .i64 f1) from rfl)
          have xx3 := (Cells.cell Px21.out 3).trans (show _ = some (Value.int .i64 t1) from rfl)
          have xz0 := (Cells.cell Pz21.out 0).trans (show _ = some (Value.int .i64 a2) from rfl)
          have xz1 := (Cells.cell Pz21.out 1).trans (show _ = some (Value.string D2) from rfl)
          have xz2 := (Cells.cell Pz21.out 2).trans (show _ = some (Value.int .i64 f2) from rfl)
          have xz3 := (Cells.cell Pz21.out 3).trans (show _ = some (Value.int .i64 t2) from rfl)
          have xf0 := (Cells.cell Pf21.out 0).trans (show _ = some (Value.int .i64 a1) from rfl)
          have xf1 := (Cells.cell Pf21.out 1).trans (show _ = some (Value.string D1) from rfl)
          have xf2 := (Cells.cell Pf21.out 2).trans (show _ = some (Value.int .i64 f1) from rfl)
          have xf3 := (Cells.cell Pf21.out 3).trans (show _ = some (Value.int .i64 t1) from rfl)
          have xh0 := (Cells.cell Ph21.out 0).trans (show _ = some (Value.int .i64 a2) from rfl)
          have xh1 := (Cells.cell Ph21.out 1).trans (show _ = some (Value.string D2) from rfl)
          have xh2 := (Cells.cell Ph21.out 2).trans (show _ = some (Value.int .i64 f2) from rfl)
          have xh3 := (Cells.cell Ph21.out 3).trans (show _ = some (Value.int .i64 t2) from rfl)
          have ltf := Pf21.out.lt
          have lth := Ph21.out.lt
          have fzf := Cells.frozen Pf21.out
          have fzh := Cells.frozen Ph21.out
          obtain ⟨ne1, ne2, le1, le2, nxf, nxh, nzf, nzh, nbf, nbh⟩ := HNE.out
          have nfx := nxf.symm
          have nhx := nxh.symm
          have nfz := nzf.symm
          have nhz := nzh.symm
          go_wp2_with fail
          go_region
          obtain ⟨W2, hW2⟩ : ∃ W, W = ((((((((W1.setCell ⟨gf, 0, none⟩ (Value.int .i64 a2)).setCell ⟨gf, 1, none⟩ (Value.string D2)).setCell ⟨gf, 2, none⟩ (Value.int .i64 f2)).setCell ⟨gf, 3, none⟩ (Value.int .i64 t2)).setCell ⟨gh, 0, none⟩ (Value.int .i64 a1)).setCell ⟨gh, 1, none⟩ (Value.string D1)).setCell ⟨gh, 2, none⟩ (Value.int .i64 f1)).setCell ⟨gh, 3, none⟩ (Value.int .i64 t1)).drew := ⟨_, rfl⟩
          rw [← hW2]
          have Px22 := Lib.hid (show Cells W2 gx 23 #[.int .i64 a1, .string D1, .int .i64 f1, .int .i64 t1] from by rw [hW2]; exact Cells.drew15 (Cells.far (Cells.far (Cells.far (Cells.far (Cells.far (Cells.far (Cells.far (Cells.far Px21.out nxf _) nxf _) nxf _) nxf _) nxh _) nxh _) nxh _) nxh _))
          have Pz22 := Lib.hid (show Cells W2 gz 23 #[.int .i64 a2, .string D2, .int .i64 f2, .int .i64 t2] from by rw [hW2]; exact Cells.drew15 (Cells.far (Cells.far (Cells.far (Cells.far (Cells.far (Cells.far (Cells.far (Cells.far Pz21.out nzf _) nzf _) nzf _) nzf _) nzh _) nzh _) nzh _) nzh _))
          have Pb22 := Lib.hid (show Cells W2 gb 41 #[.string S0, .string ⟨#[]⟩, .string ⟨#[]⟩, .string ⟨#[]⟩] from by rw [hW2]; exact Cells.drew15 (Cells.far (Cells.far (Cells.far (Cells.far (Cells.far (Cells.far (Cells.far (Cells.far Pb21.out nbf _) nbf _) nbf _) nbf _) nbh _) nbh _) nbh _) nbh _))
          have Pf22 := Lib.hid (show Cells W2 gf 23 #[.int .i64 a2, .string D2, .int .i64 f2, .int .i64 t2] from by rw [hW2]; exact Cells.drew15 (Cells.far (Cells.far (Cells.far (Cells.far (Cells.set (Cells.set (Cells.set (Cells.set Pf21.out 0 _) 1 _) 2 _) 3 _) ne1 _) ne1 _) ne1 _) ne1 _))
          have Ph22 := Lib.hid (show Cells W2 gh 23 #[.int .i64 a1, .string D1, .int .i64 f1, .int .i64 t1] from by rw [hW2]; exact Cells.drew15 (Cells.set (Cells.set (Cells.set (Cells.set (Cells.far (Cells.far (Cells.far (Cells.far Ph21.out ne2 _) ne2 _) ne2 _) ne2 _) 0 _) 1 _) 2 _) 3 _))
          have B22 := Lib.hid (show Below w3.heap.size w3 W2 from by rw [hW2]; exact Below.drew (Below.setCell (Below.setCell (Below.setCell (Below.setCell (Below.setCell (Below.setCell (Below.setCell (Below.setCell B21.out (p := ⟨gf, 0, none⟩) le1 _) (p := ⟨gf, 1, none⟩) le1 _) (p := ⟨gf, 2, none⟩) le1 _) (p := ⟨gf, 3, none⟩) le1 _) (p := ⟨gh, 0, none⟩) le2 _) (p := ⟨gh, 1, none⟩) le2 _) (p := ⟨gh, 2, none⟩) le2 _) (p := ⟨gh, 3, none⟩) le2 _))
          have K22 := Lib.hid (HK.out _ _ K3.out B22.out)
          clear hW2 ltf lth fzf fzh ne1 ne2 le1 le2 nxf nxh nzf nzh nbf nbh nfx nhx nfz nhz B21 K21 Px21 Pz21 Pb21 Pf21 Ph21 xx0 xx1 xx2 xx3 xz0 xz1 xz2 xz3 xf0 xf1 xf2 xf3 xh0 xh1 xh2 xh3
          have xf0 := (Cells.cell Pf22.out 0).trans (show _ = some (Value.int .i64 a2) from rfl)
          have xf1 := (Cells.cell Pf22.out 1).trans (show _ = some (Value.string D2) from rfl)
          have xf2 := (Cells.cell Pf22.out 2).trans (show _ = some (Value.int .i64 f2) from rfl)
          have xf3 := (Cells.cell Pf22.out 3).trans (show _ = some (Value.int .i64 t2) from rfl)
          go_wp2_with fail
          refine (HC1.out _ K22.out).mono ?_
          rintro e w23 ⟨A5, n5, c5, k5, rfl, hb, H5⟩
          clear xf0 xf1 xf2 xf3
          have Px23 := Lib.hid (Cells.kept Px22.out hb Px22.out.lt)
          have Pz23 := Lib.hid (Cells.kept Pz22.out hb Pz22.out.lt)
          have Pb23 := Lib.hid (Cells.kept Pb22.out hb Pb22.out.lt)
          have Pf23 := Lib.hid (Cells.kept Pf22.out hb Pf22.out.lt)
          have Ph23 := Lib.hid (Cells.kept Ph22.out hb Ph22.out.lt)
          have K23 := Lib.hid (HK.out _ _ K22.out hb)
          have B23 := Lib.hid (B22.out.trans (hb.mono B22.out.size))
          clear hb Px22 Pz22 Pb22 Pf22 Ph22 K22 B22
          have xh0 := (Cells.cell Ph23.out 0).trans (show _ = some (Value.int .i64 a1) from rfl)
          have xh1 := (Cells.cell Ph23.out 1).trans (show _ = some (Value.string D1) from rfl)
          have xh2 := (Cells.cell Ph23.out 2).trans (show _ = some (Value.int .i64 f1) from rfl)
          have xh3 := (Cells.cell Ph23.out 3).trans (show _ = some (Value.int .i64 t1) from rfl)
          go_wp2_with fail
          refine (H5.out _ (Below.refl _ _) K23.out).mono ?_
          rintro e w24 ⟨A6, n6, c6, k6, rfl, hb, H6⟩
          clear H5 xh0 xh1 xh2 xh3
          have Px24 := Lib.hid (Cells.kept Px23.out hb Px23.out.lt)
          have Pz24 := Lib.hid (Cells.kept Pz23.out hb Pz23.out.lt)
          have Pb24 := Lib.hid (Cells.kept Pb23.out hb Pb23.out.lt)
          have Pf24 := Lib.hid (Cells.kept Pf23.out hb Pf23.out.lt)
          have Ph24 := Lib.hid (Cells.kept Ph23.out hb Ph23.out.lt)
          have K24 := Lib.hid (HK.out _ _ K23.out hb)
          have B24 := Lib.hid (B23.out.trans (hb.mono B23.out.size))
          clear hb Px23 Pz23 Pb23 Pf23 Ph23 K23 B23
          have xx0 := (Cells.cell Px24.out 0).trans (show _ = some (Value.int .i64 a1) from rfl)
          have xx1 := (Cells.cell Px24.out 1).trans (show _ = some (Value.string D1) from rfl)
          have xx2 := (Cells.cell Px24.out 2).trans (show _ = some (Value.int .i64 f1) from rfl)
          have xx3 := (Cells.cell Px24.out 3).trans (show _ = some (Value.int .i64 t1) from rfl)
          have xz0 := (Cells.cell Pz24.out 0).trans (show _ = some (Value.int .i64 a2) from rfl)
          have xz1 := (Cells.cell Pz24.out 1).trans (show _ = some (Value.string D2) from rfl)
          have xz2 := (Cells.cell Pz24.out 2).trans (show _ = some (Value.int .i64 f2) from rfl)
          have xz3 := (Cells.cell Pz24.out 3).trans (show _ = some (Value.int .i64 t2) from rfl)
          have xb0 := (Cells.cell Pb24.out 0).trans (show _ = some (Value.string S0) from rfl)
          have xb1 := (Cells.cell Pb24.out 1).trans (show _ = some (Value.string ⟨#[]⟩) from rfl)
          have xb2 := (Cells.cell Pb24.out 2).trans (show _ = some (Value.string ⟨#[]⟩) from rfl)
          have xb3 := (Cells.cell Pb24.out 3).trans (show _ = some (Value.string ⟨#[]⟩) from rfl)
          go_wp2_with fail
          refine (H6.out _ _ (Int.min_comm a1 a2) (Below.refl _ _) K24.out).mono ?_
          rintro e w25 ⟨A7, n7, c7, rfl, hb⟩
          clear H6 xx0 xx1 xx2 xx3 xz0 xz1 xz2 xz3 xb0 xb1 xb2 xb3
          have Px25 := Lib.hid (Cells.kept Px24.out hb Px24.out.lt)
          have Pz25 := Lib.hid (Cells.kept Pz24.out hb Pz24.out.lt)
          have Pb25 := Lib.hid (Cells.kept Pb24.out hb Pb24.out.lt)
          have Pf25 := Lib.hid (Cells.kept Pf24.out hb Pf24.out.lt)
          have Ph25 := Lib.hid (Cells.kept Ph24.out hb Ph24.out.lt)
          have K25 := Lib.hid (HK.out _ _ K24.out hb)
          have B25 := Lib.hid (B24.out.trans (hb.mono B24.out.size))
          clear hb Px24 Pz24 Pb24 Pf24 Ph24 K24 B24
          have xb0 := (Cells.cell Pb25.out 0).trans (show _ = some (Value.string S0) from rfl)
          have xb1 := (Cells.cell Pb25.out 1).trans (show _ = some (Value.string ⟨#[]⟩) from rfl)
          have xb2 := (Cells.cell Pb25.out 2).trans (show _ = some (Value.string ⟨#[]⟩) from rfl)
          have xb3 := (Cells.cell Pb25.out 3).trans (show _ = some (Value.string ⟨#[]⟩) from rfl)
          have ltb := Pb25.out.lt
          have fzb := Cells.frozen Pb25.out 1
          go_wp2_with fail
          go_roundw
          case rel => exact ⟨Lib.hid (Below.setCell B25.out (p := ⟨gb, 1, none⟩) (Nat.le_of_eq GB.out.symm) _), .inr (.inr (.inl ⟨rfl, Cells.set Pb25.out 1 _⟩))⟩
          case measure => simp [intOf]
        · clear xx0 xx1 xx2 xx3 xz0 xz1 xz2 xz3 ltx ltz ltb
          obtain ⟨V, hV⟩ : ∃ V, V = wr.alloc (.cells #[.int .i64 a2, .string D2, .int .i64 f2, .int .i64 t2] 23) := ⟨_, rfl⟩
          obtain ⟨U, hU⟩ : ∃ U, U = V.alloc (.cells #[.int .i64 a1, .string D1, .int .i64 f1, .int .i64 t1] 23) := ⟨_, rfl⟩
          obtain ⟨W1, hW1⟩ : ∃ W, W = U.drew := ⟨_, rfl⟩
          obtain ⟨gh, hg1⟩ : ∃ g, g = wr.heap.size := ⟨_, rfl⟩
          obtain ⟨gf, hg2⟩ : ∃ g, g = V.heap.size := ⟨_, rfl⟩
          have hg3 : gf = wr.heap.size + 1 := by rw [hg2, hV]; simp
          have b1 : Below wr.heap.size wr V := by rw [hV]; exact below_alloc6 wr _
          have b2 : Below V.heap.size V U := by rw [hU]; exact below_alloc6 V _
          have b3 : Below U.heap.size U W1 := by rw [hW1]; exact (Below.refl _ _).drew
          have n1 : Cells V gh 23 #[.int .i64 a2, .string D2, .int .i64 f2, .int .i64 t2] := by rw [hV, hg1]; exact heap_alloc_new wr _
          have n2 : Cells U gf 23 #[.int .i64 a1, .string D1, .int .i64 f1, .int .i64 t1] := by rw [hU, hg2]; exact heap_alloc_new V _
          have n1u := Cells.kept n1 b2 n1.lt
          have Ph21 := Lib.hid (Cells.kept n1u b3 n1u.lt)
          have Pf21 := Lib.hid (Cells.kept n2 b3 n2.lt)
          have hb := (b1.trans (b2.mono b1.size)).trans (b3.mono (b1.trans (b2.mono b1.size)).size)
          have hlo := B20.out.size
          have lx := Px20.out.lt
          have lz := Pz20.out.lt
          have lb := Pb20.out.lt
          have HNE := Lib.hid (show gf ≠ gh ∧ gh ≠ gf ∧ w3.heap.size ≤ gf ∧ w3.heap.size ≤ gh ∧ gx ≠ gf ∧ gx ≠ gh ∧ gz ≠ gf ∧ gz ≠ gh ∧ gb ≠ gf ∧ gb ≠ gh from ⟨by omega, by omega, by omega, by omega, by omega, by omega, by omega, by omega, by omega, by omega⟩)
          rw [← hV, ← hU, ← hW1, ← hg3, ← hg1]
          clear hlo lx lz lb hV hU hW1 hg1 hg2 hg3 b1 b2 b3 n1 n2 n1u
          have Px21 := Lib.hid (Cells.kept Px20.out hb Px20.out.lt)
          have Pz21 := Lib.hid (Cells.kept Pz20.out hb Pz20.out.lt)
          have Pb21 := Lib.hid (Cells.kept Pb20.out hb Pb20.out.lt)
          have K21 := Lib.hid (HK.out _ _ K20.out hb)
          have B21 := Lib.hid (B20.out.trans (hb.mono B20.out.size))
          clear hb Px20 Pz20 Pb20 K20 B20
          have xx0 := (Cells.cell Px21.out 0).trans (show _ = some (Value.int .i64 a1) from rfl)
          have xx1 := (Cells.cell Px21.out 1).trans (show _ = some (Value.string D1) from rfl)
          have xx2 := (Cells.cell Px21.out 2).trans (show _ = some (Value.int .i64 f1) from rfl)
          have xx3 := (Cells.cell Px21.out 3).trans (show _ = some (Value.int .i64 t1) from rfl)
          have xz0 := (Cells.cell Pz21.out 0).trans (show _ = some (Value.int .i64 a2) from rfl)
          have xz1 := (Cells.cell Pz21.out 1).trans (show _ = some (Value.string D2) from rfl)
          have xz2 := (Cells.cell Pz21.out 2).trans (show _ = some (Value.int .i64 f2) from rfl)
          have xz3 := (Cells.cell Pz21.out 3).trans (show _ = some (Value.int .i64 t2) from rfl)
          have xf0 := (Cells.cell Pf21.out 0).trans (show _ = some (Value.int .i64 a1) from rfl)
          have xf1 := (Cells.cell Pf21.out 1).trans (show _ = some (Value.string D1) from rfl)
          have xf2 := (Cells.cell Pf21.out 2).trans (show _ = some (Value.int .i64 f1) from rfl)
          have xf3 := (Cells.cell Pf21.out 3).trans (show _ = some (Value.int .i64 t1) from rfl)
          have xh0 := (Cells.cell Ph21.out 0).trans (show _ = some (Value.int .i64 a2) from rfl)
          have xh1 := (Cells.cell Ph21.out 1).trans (show _ = some (Value.string D2) from rfl)
          have xh2 := (Cells.cell Ph21.out 2).trans (show _ = some (Value.int .i64 f2) from rfl)
          have xh3 := (Cells.cell Ph21.out 3).trans (show _ = some (Value.int .i64 t2) from rfl)
          have ltf := Pf21.out.lt
          have lth := Ph21.out.lt
          have fzf := Cells.frozen Pf21.out
          have fzh := Cells.frozen Ph21.out
          obtain ⟨ne1, ne2, le1, le2, nxf, nxh, nzf, nzh, nbf, nbh⟩ := HNE.out
          have nfx := nxf.symm
          have nhx := nxh.symm
          have nfz := nzf.symm
          have nhz := nzh.symm
          go_wp2_with fail
          go_region
          obtain ⟨W2, hW2⟩ : ∃ W, W = ((((((((W1.setCell ⟨gf, 0, none⟩ (Value.int .i64 a2)).setCell ⟨gf, 1, none⟩ (Value.string D2)).setCell ⟨gf, 2, none⟩ (Value.int .i64 f2)).setCell ⟨gf, 3, none⟩ (Value.int .i64 t2)).setCell ⟨gh, 0, none⟩ (Value.int .i64 a1)).setCell ⟨gh, 1, none⟩ (Value.string D1)).setCell ⟨gh, 2, none⟩ (Value.int .i64 f1)).setCell ⟨gh, 3, none⟩ (Value.int .i64 t1)).drew := ⟨_, rfl⟩
          rw [← hW2]
          have Px22 := Lib.hid (show Cells W2 gx 23 #[.int .i64 a1, .string D1, .int .i64 f1, .int .i64 t1] from by rw [hW2]; exact Cells.drew15 (Cells.far (Cells.far (Cells.far (Cells.far (Cells.far (Cells.far (Cells.far (Cells.far Px21.out nxf _) nxf _) nxf _) nxf _) nxh _) nxh _) nxh _) nxh _))
          have Pz22 := Lib.hid (show Cells W2 gz 23 #[.int .i64 a2, .string D2, .int .i64 f2, .int .i64 t2] from by rw [hW2]; exact Cells.drew15 (Cells.far (Cells.far (Cells.far (Cells.far (Cells.far (Cells.far (Cells.far (Cells.far Pz21.out nzf _) nzf _) nzf _) nzf _) nzh _) nzh _) nzh _) nzh _))
          have Pb22 := Lib.hid (show Cells W2 gb 41 #[.string S0, .string ⟨#[]⟩, .string ⟨#[]⟩, .string ⟨#[]⟩] from by rw [hW2]; exact Cells.drew15 (Cells.far (Cells.far (Cells.far (Cells.far (Cells.far (Cells.far (Cells.far (Cells.far Pb21.out nbf _) nbf _) nbf _) nbf _) nbh _) nbh _) nbh _) nbh _))
          have Pf22 := Lib.hid (show Cells W2 gf 23 #[.int .i64 a2, .string D2, .int .i64 f2, .int .i64 t2] from by rw [hW2]; exact Cells.drew15 (Cells.far (Cells.far (Cells.far (Cells.far (Cells.set (Cells.set (Cells.set (Cells.set Pf21.out 0 _) 1 _) 2 _) 3 _) ne1 _) ne1 _) ne1 _) ne1 _))
          have Ph22 := Lib.hid (show Cells W2 gh 23 #[.int .i64 a1, .string D1, .int .i64 f1, .int .i64 t1] from by rw [hW2]; exact Cells.drew15 (Cells.set (Cells.set (Cells.set (Cells.set (Cells.far (Cells.far (Cells.far (Cells.far Ph21.out ne2 _) ne2 _) ne2 _) ne2 _) 0 _) 1 _) 2 _) 3 _))
          have B22 := Lib.hid (show Below w3.heap.size w3 W2 from by rw [hW2]; exact Below.drew (Below.setCell (Below.setCell (Below.setCell (Below.setCell (Below.setCell (Below.setCell (Below.setCell (Below.setCell B21.out (p := ⟨gf, 0, none⟩) le1 _) (p := ⟨gf, 1, none⟩) le1 _) (p := ⟨gf, 2, none⟩) le1 _) (p := ⟨gf, 3, none⟩) le1 _) (p := ⟨gh, 0, none⟩) le2 _) (p := ⟨gh, 1, none⟩) le2 _) (p := ⟨gh, 2, none⟩) le2 _) (p := ⟨gh, 3, none⟩) le2 _))
          have K22 := Lib.hid (HK.out _ _ K3.out B22.out)
          clear hW2 ltf lth fzf fzh ne1 ne2 le1 le2 nxf nxh nzf nzh nbf nbh nfx nhx nfz nhz B21 K21 Px21 Pz21 Pb21 Pf21 Ph21 xx0 xx1 xx2 xx3 xz0 xz1 xz2 xz3 xf0 xf1 xf2 xf3 xh0 xh1 xh2 xh3
          have xf0 := (Cells.cell Pf22.out 0).trans (show _ = some (Value.int .i64 a2) from rfl)
          have xf1 := (Cells.cell Pf22.out 1).trans (show _ = some (Value.string D2) from rfl)
          have xf2 := (Cells.cell Pf22.out 2).trans (show _ = some (Value.int .i64 f2) from rfl)
          have xf3 := (Cells.cell Pf22.out 3).trans (show _ = some (Value.int .i64 t2) from rfl)
          go_wp2_with fail
          refine (HC1.out _ K22.out).mono ?_
          rintro e w23 ⟨A5, n5, c5, k5, rfl, hb, H5⟩
          clear xf0 xf1 xf2 xf3
          have Px23 := Lib.hid (Cells.kept Px22.out hb Px22.out.lt)
          have Pz23 := Lib.hid (Cells.kept Pz22.out hb Pz22.out.lt)
          have Pb23 := Lib.hid (Cells.kept Pb22.out hb Pb22.out.lt)
          have Pf23 := Lib.hid (Cells.kept Pf22.out hb Pf22.out.lt)
          have Ph23 := Lib.hid (Cells.kept Ph22.out hb Ph22.out.lt)
          have K23 := Lib.hid (HK.out _ _ K22.out hb)
          have B23 := Lib.hid (B22.out.trans (hb.mono B22.out.size))
          clear hb Px22 Pz22 Pb22 Pf22 Ph22 K22 B22
          have xh0 := (Cells.cell Ph23.out 0).trans (show _ = some (Value.int .i64 a1) from rfl)
          have xh1 := (Cells.cell Ph23.out 1).trans (show _ = some (Value.string D1) from rfl)
          have xh2 := (Cells.cell Ph23.out 2).trans (show _ = some (Value.int .i64 f1) from rfl)
          have xh3 := (Cells.cell Ph23.out 3).trans (show _ = some (Value.int .i64 t1) from rfl)
          go_wp2_with fail
          refine (H5.out _ (Below.refl _ _) K23.out).mono ?_
          rintro e w24 ⟨A6, n6, c6, k6, rfl, hb, H6⟩
          clear H5 xh0 xh1 xh2 xh3
          have Px24 := Lib.hid (Cells.kept Px23.out hb Px23.out.lt)
          have Pz24 := Lib.hid (Cells.kept Pz23.out hb Pz23.out.lt)
          have Pb24 := Lib.hid (Cells.kept Pb23.out hb Pb23.out.lt)
          have Pf24 := Lib.hid (Cells.kept Pf23.out hb Pf23.out.lt)
          have Ph24 := Lib.hid (Cells.kept Ph23.out hb Ph23.out.lt)
          have K24 := Lib.hid (HK.out _ _ K23.out hb)
          have B24 := Lib.hid (B23.out.trans (hb.mono B23.out.size))
          clear hb Px23 Pz23 Pb23 Pf23 Ph23 K23 B23
          have xx0 := (Cells.cell Px24.out 0).trans (show _ = some (Value.int .i64 a1) from rfl)
          have xx1 := (Cells.cell Px24.out 1).trans (show _ = some (Value.string D1) from rfl)
          have xx2 := (Cells.cell Px24.out 2).trans (show _ = some (Value.int .i64 f1) from rfl)
          have xx3 := (Cells.cell Px24.out 3).trans (show _ = some (Value.int .i64 t1) from rfl)
          have xz0 := (Cells.cell Pz24.out 0).trans (show _ = some (Value.int .i64 a2) from rfl)
          have xz1 := (Cells.cell Pz24.out 1).trans (show _ = some (Value.string D2) from rfl)
          have xz2 := (Cells.cell Pz24.out 2).trans (show _ = some (Value.int .i64 f2) from rfl)
          have xz3 := (Cells.cell Pz24.out 3).trans (show _ = some (Value.int .i64 t2) from rfl)
          have xb0 := (Cells.cell Pb24.out 0).trans (show _ = some (Value.string S0) from rfl)
          have xb1 := (Cells.cell Pb24.out 1).trans (show _ = some (Value.string ⟨#[]⟩) from rfl)
          have xb2 := (Cells.cell Pb24.out 2).trans (show _ = some (Value.string ⟨#[]⟩) from rfl)
          have xb3 := (Cells.cell Pb24.out 3).trans (show _ = some (Value.string ⟨#[]⟩) from rfl)
          go_wp2_with fail
          refine (H6.out _ _ (Int.min_comm a1 a2) (Below.refl _ _) K24.out).mono ?_
          rintro e w25 ⟨A7, n7, c7, rfl, hb⟩
          clear H6 xx0 xx1 xx2 xx3 xz0 xz1 xz2 xz3 xb0 xb1 xb2 xb3
          have Px25 := Lib.hid (Cells.kept Px24.out hb Px24.out.lt)
          have Pz25 := Lib.hid (Cells.kept Pz24.out hb Pz24.out.lt)
          have Pb25 := Lib.hid (Cells.kept Pb24.out hb Pb24.out.lt)
          have Pf25 := Lib.hid (Cells.kept Pf24.out hb Pf24.out.lt)
          have Ph25 := Lib.hid (Cells.kept Ph24.out hb Ph24.out.lt)
          have K25 := Lib.hid (HK.out _ _ K24.out hb)
          have B25 := Lib.hid (B24.out.trans (hb.mono B24.out.size))
          clear hb Px24 Pz24 Pb24 Pf24 Ph24 K24 B24
          have xb0 := (Cells.cell Pb25.out 0).trans (show _ = some (Value.string S0) from rfl)
          have xb1 := (Cells.cell Pb25.out 1).trans (show _ = some (Value.string ⟨#[]⟩) from rfl)
          have xb2 := (Cells.cell Pb25.out 2).trans (show _ = some (Value.string ⟨#[]⟩) from rfl)
          have xb3 := (Cells.cell Pb25.out 3).trans (show _ = some (Value.string ⟨#[]⟩) from rfl)
          have ltb := Pb25.out.lt
          have fzb := Cells.frozen Pb25.out 1
          go_wp2_with fail
          go_roundw
          case rel => exact ⟨Lib.hid (Below.setCell B25.out (p := ⟨gb, 1, none⟩) (Nat.le_of_eq GB.out.symm) _), .inr (.inr (.inl ⟨rfl, Cells.set Pb25.out 1 _⟩))⟩
          case measure => simp [intOf]
      · have Pb20 := Lib.hid HC
        clear HC
        have xx0 := (Cells.cell Px20.out 0).trans (show _ = some (Value.int .i64 a1) from rfl)
        have xx1 := (Cells.cell Px20.out 1).trans (show _ = some (Value.string D1) from rfl)
        have xx2 := (Cells.cell Px20.out 2).trans (show _ = some (Value.int .i64 f1) from rfl)
        have xx3 := (Cells.cell Px20.out 3).trans (show _ = some (Value.int .i64 t1) from rfl)
        have xz0 := (Cells.cell Pz20.out 0).trans (show _ = some (Value.int .i64 a2) from rfl)
        have xz1 := (Cells.cell Pz20.out 1).trans (show _ = some (Value.string D2) from rfl)
        have xz2 := (Cells.cell Pz20.out 2).trans (show _ = some (Value.int .i64 f2) from rfl)
        have xz3 := (Cells.cell Pz20.out 3).trans (show _ = some (Value.int .i64 t2) from rfl)
        have ltx := Px20.out.lt
        have ltz := Pz20.out.lt
        have ltb := Pb20.out.lt
        go_wp2_with fail
        go_region
        · clear xx0 xx1 xx2 xx3 xz0 xz1 xz2 xz3 ltx ltz ltb
          obtain ⟨V, hV⟩ : ∃ V, V = wr.alloc (.cells #[.int .i64 a1, .string D1, .int .i64 f1, .int .i64 t1] 23) := ⟨_, rfl⟩
          obtain ⟨U, hU⟩ : ∃ U, U = V.alloc (.cells #[.int .i64 a2, .string D2, .int .i64 f2, .int .i64 t2] 23) := ⟨_, rfl⟩
          obtain ⟨W1, hW1⟩ : ∃ W, W = U.drew := ⟨_, rfl⟩
          obtain ⟨gf, hg1⟩ : ∃ g, g = wr.heap.size := ⟨_, rfl⟩
          obtain ⟨gh, hg2⟩ : ∃ g, g = V.heap.size := ⟨_, rfl⟩
          have hg3 : gh = wr.heap.size + 1 := by rw [hg2, hV]; simp
          have b1 : Below wr.heap.size wr V := by rw [hV]; exact below_alloc6 wr _
          have b2 : Below V.heap.size V U := by rw [hU]; exact below_alloc6 V _
          have b3 : Below U.heap.size U W1 := by rw [hW1]; exact (Below.refl _ _).drew
          have n1 : Cells V gf 23 #[.int .i64 a1, .string D1, .int .i64 f1, .int .i64 t1] := by rw [hV, hg1]; exact heap_alloc_new wr _
          have n2 : Cells U gh 23 #[.int .i64 a2, .string D2, .int .i64 f2, .int .i64 t2] := by rw [hU, hg2]; exact heap_alloc_new V _
          have n1u := Cells.kept n1 b2 n1.lt
          have Pf21 := Lib.hid (Cells.kept n1u b3 n1u.lt)
          have Ph21 := Lib.hid (Cells.kept n2 b3 n2.lt)
          have hb := (b1.trans (b2.mono b1.size)).trans (b3.mono (b1.trans (b2.mono b1.size)).size)
          have hlo := B20.out.size
          have lx := Px20.out.lt
          have lz := Pz20.out.lt
          have lb := Pb20.out.lt
          have HNE := Lib.hid (show gf ≠ gh ∧ gh ≠ gf ∧ w3.heap.size ≤ gf ∧ w3.heap.size ≤ gh ∧ gx ≠ gf ∧ gx ≠ gh ∧ gz ≠ gf ∧ gz ≠ gh ∧ gb ≠ gf ∧ gb ≠ gh from ⟨by omega, by omega, by omega, by omega, by omega, by omega, by omega, by omega, by omega, by omega⟩)
          rw [← hV, ← hU, ← hW1, ← hg3, ← hg1]
          clear hlo lx lz lb hV hU hW1 hg1 hg2 hg3 b1 b2 b3 n1 n2 n1u
          have Px21 := Lib.hid (Cells.kept Px20.out hb Px20.out.lt)
          have Pz21 := Lib.hid (Cells.kept Pz20.out hb Pz20.out.lt)
          have Pb21 := Lib.hid (Cells.kept Pb20.out hb Pb20.out.lt)
          have K21 := Lib.hid (HK.out _ _ K20.out hb)
          have B21 := Lib.hid (B20.out.trans (hb.mono B20.out.size))
          clear hb Px20 Pz20 Pb20 K20 B20
          have xf0 := (Cells.cell Pf21.out 0).trans (show _ = some (Value.int .i64 a1) from rfl)
          have xf1 := (Cells.cell Pf21.out 1).trans (show _ = some (Value.string D1) from rfl)
          have xf2 := (Cells.cell Pf21.out 2).trans (show _ = some (Value.int .i64 f1) from rfl)
          have xf3 := (Cells.cell Pf21.out 3).trans (show _ = some (Value.int .i64 t1) from rfl)
          go_wp2_with fail
          refine (HC2.out _ K21.out).mono ?_
          rintro e w22 ⟨A5, n5, c5, k5, rfl, hb, H5⟩
          clear xf0 xf1 xf2 xf3
          have Px22 := Lib.hid (Cells.kept Px21.out hb Px21.out.lt)
          have Pz22 := Lib.hid (Cells.kept Pz21.out hb Pz21.out.lt)
          have Pb22 := Lib.hid (Cells.kept Pb21.out hb Pb21.out.lt)
          have Pf22 := Lib.hid (Cells.kept Pf21.out hb Pf21.out.lt)
          have Ph22 := Lib.hid (Cells.kept Ph21.out hb Ph21.out.lt)
          have K22 := Lib.hid (HK.out _ _ K21.out hb)
          have B22 := Lib.hid (B21.out.trans (hb.mono B21.out.size))
          clear hb Px21 Pz21 Pb21 Pf21 Ph21 K21 B21
          have xh0 := (Cells.cell Ph22.out 0).trans (show _ = some (Value.int .i64 a2) from rfl)
          have xh1 := (Cells.cell Ph22.out 1).trans (show _ = some (Value.string D2) from rfl)
          have xh2 := (Cells.cell Ph22.out 2).trans (show _ = some (Value.int .i64 f2) from rfl)
          have xh3 := (Cells.cell Ph22.out 3).trans (show _ = some (Value.int .i64 t2) from rfl)
          go_wp2_with fail
          refine (H5.out _ (Below.refl _ _) K22.out).mono ?_
          rintro e w23 ⟨A6, n6, c6, k6, rfl, hb, H6⟩
          clear H5 xh0 xh1 xh2 xh3
          have Px23 := Lib.hid (Cells.kept Px22.out hb Px22.out.lt)
          have Pz23 := Lib.hid (Cells.kept Pz22.out hb Pz22.out.lt)
          have Pb23 := Lib.hid (Cells.kept Pb22.out hb Pb22.out.lt)
          have Pf23 := Lib.hid (Cells.kept Pf22.out hb Pf22.out.lt)
          have Ph23 := Lib.hid (Cells.kept Ph22.out hb Ph22.out.lt)
          have K23 := Lib.hid (HK.out _ _ K22.out hb)
          have B23 := Lib.hid (B22.out.trans (hb.mono B22.out.size))
          clear hb Px22 Pz22 Pb22 Pf22 Ph22 K22 B22
          have xx0 := (Cells.cell Px23.out 0).trans (show _ = some (Value.int .i64 a1) from rfl)
          have xx1 := (Cells.cell Px23.out 1).trans (show _ = some (Value.string D1) from rfl)
          have xx2 := (Cells.cell Px23.out 2).trans (show _ = some (Value.int .i64 f1) from rfl)
          have xx3 := (Cells.cell Px23.out 3).trans (show _ = some (Value.int .i64 t1) from rfl)
          have xz0 := (Cells.cell Pz23.out 0).trans (show _ = some (Value.int .i64 a2) from rfl)
          have xz1 := (Cells.cell Pz23.out 1).trans (show _ = some (Value.string D2) from rfl)
          have xz2 := (Cells.cell Pz23.out 2).trans (show _ = some (Value.int .i64 f2) from rfl)
          have xz3 := (Cells.cell Pz23.out 3).trans (show _ = some (Value.int .i64 t2) from rfl)
          have xb0 := (Cells.cell Pb23.out 0).trans (show _ = some (Value.string S0) from rfl)
          have xb1 := (Cells.cell Pb23.out 1).trans (show _ = some (Value.string S0) from rfl)
          have xb2 := (Cells.cell Pb23.out 2).trans (show _ = some (Value.string ⟨#[]⟩) from rfl)
          have xb3 := (Cells.cell Pb23.out 3).trans (show _ = some (Value.string ⟨#[]⟩) from rfl)
          go_wp2_with fail
          refine (H6.out _ _ rfl (Below.refl _ _) K23.out).mono ?_
          rintro e w24 ⟨A7, n7, c7, rfl, hb⟩
          clear H6 xx0 xx1 xx2 xx3 xz0 xz1 xz2 xz3 xb0 xb1 xb2 xb3
          have Px24 := Lib.hid (Cells.kept Px23.out hb Px23.out.lt)
          have Pz24 := Lib.hid (Cells.kept Pz23.out hb Pz23.out.lt)
          have Pb24 := Lib.hid (Cells.kept Pb23.out hb Pb23.out.lt)
          have Pf24 := Lib.hid (Cells.kept Pf23.out hb Pf23.out.lt)
          have Ph24 := Lib.hid (Cells.kept Ph23.out hb Ph23.out.lt)
          have K24 := Lib.hid (HK.out _ _ K23.out hb)
          have B24 := Lib.hid (B23.out.trans (hb.mono B23.out.size))
          clear hb Px23 Pz23 Pb23 Pf23 Ph23 K23 B23
          have xb0 := (Cells.cell Pb24.out 0).trans (show _ = some (Value.string S0) from rfl)
          have xb1 := (Cells.cell Pb24.out 1).trans (show _ = some (Value.string S0) from rfl)
          have xb2 := (Cells.cell Pb24.out 2).trans (show _ = some (Value.string ⟨#[]⟩) from rfl)
          have xb3 := (Cells.cell Pb24.out 3).trans (show _ = some (Value.string ⟨#[]⟩) from rfl)
          have ltb := Pb24.out.lt
          have fzb := Cells.frozen Pb24.out 2
          go_wp2_with fail
          go_roundw
          case rel => exact ⟨Lib.hid (Below.setCell B24.out (p := ⟨gb, 2, none⟩) (Nat.le_of_eq GB.out.symm) _), .inr (.inr (.inr (.inl ⟨rfl, Cells.set Pb24.out 2 _⟩)))⟩
          case measure => simp [intOf]
        · clear xx0 xx1 xx2 xx3 xz0 xz1 xz2 xz3 ltx ltz ltb
          obtain ⟨V, hV⟩ : ∃ V, V = wr.alloc (.cells #[.int .i64 a2, .string D2, .int .i64 f2, .int .i64 t2] 23) := ⟨_, rfl⟩
          obtain ⟨U, hU⟩ : ∃ U, U = V.alloc (.cells #[.int .i64 a1, .string D1, .int .i64 f1, .int .i64 t1] 23) := ⟨_, rfl⟩
          obtain ⟨W1, hW1⟩ : ∃ W, W = U.drew := ⟨_, rfl⟩
          obtain ⟨gh, hg1⟩ : ∃ g, g = wr.heap.size := ⟨_, rfl⟩
          obtain ⟨gf, hg2⟩ : ∃ g, g = V.heap.size := ⟨_, rfl⟩
          have hg3 : gf = wr.heap.size + 1 := by rw [hg2, hV]; simp
          have b1 : Below wr.heap.size wr V := by rw [hV]; exact below_alloc6 wr _
          have b2 : Below V.heap.size V U := by rw [hU]; exact below_alloc6 V _
          have b3 : Below U.heap.size U W1 := by rw [hW1]; exact (Below.refl _ _).drew
          have n1 : Cells V gh 23 #[.int .i64 a2, .string D2, .int .i64 f2, .int .i64 t2] := by rw [hV, hg1]; exact heap_alloc_new wr _
          have n2 : Cells U gf 23 #[.int .i64 a1, .string D1, .int .i64 f1, .int .i64 t1] := by rw [hU, hg2]; exact heap_alloc_new V _
          have n1u := Cells.kept n1 b2 n1.lt
          have Ph21 := Lib.hid (Cells.kept n1u b3 n1u.lt)
          have Pf21 := Lib.hid (Cells.kept n2 b3 n2.lt)
          have hb := (b1.trans (b2.mono b1.size)).trans (b3.mono (b1.trans (b2.mono b1.size)).size)
          have hlo := B20.out.size
          have lx := Px20.out.lt
          have lz := Pz20.out.lt
          have lb := Pb20.out.lt
          have HNE := Lib.hid (show gf ≠ gh ∧ gh ≠ gf ∧ w3.heap.size ≤ gf ∧ w3.heap.size ≤ gh ∧ gx ≠ gf ∧ gx ≠ gh ∧ gz ≠ gf ∧ gz ≠ gh ∧ gb ≠ gf ∧ gb ≠ gh from ⟨by omega, by omega, by omega, by omega, by omega, by omega, by omega, by omega, by omega, by omega⟩)
          rw [← hV, ← hU, ← hW1, ← hg3, ← hg1]
          clear hlo lx lz lb hV hU hW1 hg1 hg2 hg3 b1 b2 b3 n1 n2 n1u
          have Px21 := Lib.hid (Cells.kept Px20.out hb Px20.out.lt)
          have Pz21 := Lib.hid (Cells.kept Pz20.out hb Pz20.out.lt)
          have Pb21 := Lib.hid (Cells.kept Pb20.out hb Pb20.out.lt)
          have K21 := Lib.hid (HK.out _ _ K20.out hb)
          have B21 := Lib.hid (B20.out.trans (hb.mono B20.out.size))
          clear hb Px20 Pz20 Pb20 K20 B20
          have xf0 := (Cells.cell Pf21.out 0).trans (show _ = some (Value.int .i64 a1) from rfl)
          have xf1 := (Cells.cell Pf21.out 1).trans (show _ = some (Value.string D1) from rfl)
          have xf2 := (Cells.cell Pf21.out 2).trans (show _ = some (Value.int .i64 f1) from rfl)
          have xf3 := (Cells.cell Pf21.out 3).trans (show _ = some (Value.int .i64 t1) from rfl)
          go_wp2_with fail
          refine (HC2.out _ K21.out).mono ?_
          rintro e w22 ⟨A5, n5, c5, k5, rfl, hb, H5⟩
          clear xf0 xf1 xf2 xf3
          have Px22 := Lib.hid (Cells.kept Px21.out hb Px21.out.lt)
          have Pz22 := Lib.hid (Cells.kept Pz21.out hb Pz21.out.lt)
          have Pb22 := Lib.hid (Cells.kept Pb21.out hb Pb21.out.lt)
          have Pf22 := Lib.hid (Cells.kept Pf21.out hb Pf21.out.lt)
          have Ph22 := Lib.hid (Cells.kept Ph21.out hb Ph21.out.lt)
          have K22 := Lib.hid (HK.out _ _ K21.out hb)
          have B22 := Lib.hid (B21.out.trans (hb.mono B21.out.size))
          clear hb Px21 Pz21 Pb21 Pf21 Ph21 K21 B21
          have xh0 := (Cells.cell Ph22.out 0).trans (show _ = some (Value.int .i64 a2) from rfl)
          have xh1 := (Cells.cell Ph22.out 1).trans (show _ = some (Value.string D2) from rfl)
          have xh2 := (Cells.cell Ph22.out 2).trans (show _ = some (Value.int .i64 f2) from rfl)
          have xh3 := (Cells.cell Ph22.out 3).trans (show _ = some (Value.int .i64 t2) from rfl)
          go_wp2_with fail
          refine (H5.out _ (Below.refl _ _) K22.out).mono ?_
          rintro e w23 ⟨A6, n6, c6, k6, rfl, hb, H6⟩
          clear H5 xh0 xh1 xh2 xh3
          have Px23 := Lib.hid (Cells.kept Px22.out hb Px22.out.lt)
          have Pz23 := Lib.hid (Cells.kept Pz22.out hb Pz22.out.lt)
          have Pb23 := Lib.hid (Cells.kept Pb22.out hb Pb22.out.lt)
          have Pf23 := Lib.hid (Cells.kept Pf22.out hb Pf22.out.lt)
          have Ph23 := Lib.hid (Cells.kept Ph22.out hb Ph22.out.lt)
          have K23 := Lib.hid (HK.out _ _ K22.out hb)
          have B23 := Lib.hid (B22.out.trans (hb.mono B22.out.size))
          clear hb Px22 Pz22 Pb22 Pf22 Ph22 K22 B22
          have xx0 := (Cells.cell Px23.out 0).trans (show _ = some (Value.int .i64 a1) from rfl)
          have xx1 := (Cells.cell Px23.out 1).trans (show _ = some (Value.string D1) from rfl)
          have xx2 := (Cells.cell Px23.out 2).trans (show _ = some (Value.int .i64 f1) from rfl)
          have xx3 := (Cells.cell Px23.out 3).trans (show _ = some (Value.int .i64 t1) from rfl)
          have xz0 := (Cells.cell Pz23.out 0).trans (show _ = some (Value.int .i64 a2) from rfl)
          have xz1 := (Cells.cell Pz23.out 1).trans (show _ = some (Value.string D2) from rfl)
          have xz2 := (Cells.cell Pz23.out 2).trans (show _ = some (Value.int .i64 f2) from rfl)
          have xz3 := (Cells.cell Pz23.out 3).trans (show _ = some (Value.int .i64 t2) from rfl)
          have xb0 := (Cells.cell Pb23.out 0).trans (show _ = some (Value.string S0) from rfl)
          have xb1 := (Cells.cell Pb23.out 1).trans (show _ = some (Value.string S0) from rfl)
          have xb2 := (Cells.cell Pb23.out 2).trans (show _ = some (Value.string ⟨#[]⟩) from rfl)
          have xb3 := (Cells.cell Pb23.out 3).trans (show _ = some (Value.string ⟨#[]⟩) from rfl)
          go_wp2_with fail
          refine (H6.out _ _ rfl (Below.refl _ _) K23.out).mono ?_
          rintro e w24 ⟨A7, n7, c7, rfl, hb⟩
          clear H6 xx0 xx1 xx2 xx3 xz0 xz1 xz2 xz3 xb0 xb1 xb2 xb3
          have Px24 := Lib.hid (Cells.kept Px23.out hb Px23.out.lt)
          have Pz24 := Lib.hid (Cells.kept Pz23.out hb Pz23.out.lt)
          have Pb24 := Lib.hid (Cells.kept Pb23.out hb Pb23.out.lt)
          have Pf24 := Lib.hid (Cells.kept Pf23.out hb Pf23.out.lt)
          have Ph24 := Lib.hid (Cells.kept Ph23.out hb Ph23.out.lt)
          have K24 := Lib.hid (HK.out _ _ K23.out hb)
          have B24 := Lib.hid (B23.out.trans (hb.mono B23.out.size))
          clear hb Px23 Pz23 Pb23 Pf23 Ph23 K23 B23
          have xb0 := (Cells.cell Pb24.out 0).trans (show _ = some (Value.string S0) from rfl)
          have xb1 := (Cells.cell Pb24.out 1).trans (show _ = some (Value.string S0) from rfl)
          have xb2 := (Cells.cell Pb24.out 2).trans (show _ = some (Value.string ⟨#[]⟩) from rfl)
          have xb3 := (Cells.cell Pb24.out 3).trans (show _ = some (Value.string ⟨#[]⟩) from rfl)
          have ltb := Pb24.out.lt
          have fzb := Cells.frozen Pb24.out 2
          go_wp2_with fail
          go_roundw
          case rel => exact ⟨Lib.hid (Below.setCell B24.out (p := ⟨gb, 2, none⟩) (Nat.le_of_eq GB.out.symm) _), .inr (.inr (.inr (.inl ⟨rfl, Cells.set Pb24.out 2 _⟩)))⟩
          case measure => simp [intOf]
      · have Pb20 := Lib.hid HC
        clear HC
        have xx0 := (Cells.cell Px20.out 0).trans (show _ = some (Value.int .i64 a1) from rfl)
        have xx1 := (Cells.cell Px20.out 1).trans (show _ = some (Value.string D1) from rfl)
        have xx2 := (Cells.cell Px20.out 2).trans (show _ = some (Value.int .i64 f1) from rfl)
        have xx3 := (Cells.cell Px20.out 3).trans (show _ = some (Value.int .i64 t1) from rfl)
        have xz0 := (Cells.cell Pz20.out 0).trans (show _ = some (Value.int .i64 a2) from rfl)
        have xz1 := (Cells.cell Pz20.out 1).trans (show _ = some (Value.string D2) from rfl)
        have xz2 := (Cells.cell Pz20.out 2).trans (show _ = some (Value.int .i64 f2) from rfl)
        have xz3 := (Cells.cell Pz20.out 3).trans (show _ = some (Value.int .i64 t2) from rfl)
        have ltx := Px20.out.lt
        have ltz := Pz20.out.lt
        have ltb := Pb20.out.lt
        go_wp2_with fail
        go_region
        · clear xx0 xx1 xx2 xx3 xz0 xz1 xz2 xz3 ltx ltz ltb
          obtain ⟨V, hV⟩ : ∃ V, V = wr.alloc (.cells #[.int .i64 a1, .string D1, .int .i64 f1, .int .i64 t1] 23) := ⟨_, rfl⟩
          obtain ⟨U, hU⟩ : ∃ U, U = V.alloc (.cells #[.int .i64 a2, .string D2, .int .i64 f2, .int .i64 t2] 23) := ⟨_, rfl⟩
          obtain ⟨W1, hW1⟩ : ∃ W, W = U.drew := ⟨_, rfl⟩
          obtain ⟨gf, hg1⟩ : ∃ g, g = wr.heap.size := ⟨_, rfl⟩
          obtain ⟨gh, hg2⟩ : ∃ g, g = V.heap.size := ⟨_, rfl⟩
          have hg3 : gh = wr.heap.size + 1 := by rw [hg2, hV]; simp
          have b1 : Below wr.heap.size wr V := by rw [hV]; exact below_alloc6 wr _
          have b2 : Below V.heap.size V U := by rw [hU]; exact below_alloc6 V _
          have b3 : Below U.heap.size U W1 := by rw [hW1]; exact (Below.refl _ _).drew
          have n1 : Cells V gf 23 #[.int .i64 a1, .string D1, .int .i64 f1, .int .i64 t1] := by rw [hV, hg1]; exact heap_alloc_new wr _
          have n2 : Cells U gh 23 #[.int .i64 a2, .string D2, .int .i64 f2, .int .i64 t2] := by rw [hU, hg2]; exact heap_alloc_new V _
          have n1u := Cells.kept n1 b2 n1.lt
          have Pf21 := Lib.hid (Cells.kept n1u b3 n1u.lt)
          have Ph21 := Lib.hid (Cells.kept n2 b3 n2.lt)
          have hb := (b1.trans (b2.mono b1.size)).trans (b3.mono (b1.trans (b2.mono b1.size)).size)
          have hlo := B20.out.size
          have lx := Px20.out.lt
          have lz := Pz20.out.lt
          have lb := Pb20.out.lt
          have HNE := Lib.hid (show gf ≠ gh ∧ gh ≠ gf ∧ w3.heap.size ≤ gf ∧ w3.heap.size ≤ gh ∧ gx ≠ gf ∧ gx ≠ gh ∧ gz ≠ gf ∧ gz ≠ gh ∧ gb ≠ gf ∧ gb ≠ gh from ⟨by omega, by omega, by omega, by omega, by omega, by omega, by omega, by omega, by omega, by omega⟩)
          rw [← hV, ← hU, ← hW1, ← hg3, ← hg1]
          clear hlo lx lz lb hV hU hW1 hg1 hg2 hg3 b1 b2 b3 n1 n2 n1u
          have Px21 := Lib.hid (Cells.kept Px20.out hb Px20.out.lt)
          have Pz21 := Lib.hid (Cells.kept Pz20.out hb Pz20.out.lt)
          have Pb21 := Lib.hid (Cells.kept Pb20.out hb Pb20.out.lt)
          have K21 := Lib.hid (HK.out _ _ K20.out hb)
          have B21 := Lib.hid (B20.out.trans (hb.mono B20.out.size))
          clear hb Px20 Pz20 Pb20 K20 B20
          have xx0 := (Cells.cell Px21.out 0).trans (show _ = some (Value.int .i64 a1) from rfl)
          have xx1 := (Cells.cell Px21.out 1).trans (show _ = some (Value.string D1) from rfl)
          have xx2 := (Cells.cell Px21.out 2).trans (show _ = some (Value.int .i64 f1) from rfl)
          have xx3 := (Cells.cell Px21.out 3).trans (show _ = some (Value.int .i64 t1) from rfl)
          have xz0 := (Cells.cell Pz21.out 0).trans (show _ = some (Value.int .i64 a2) from rfl)
          have xz1 := (Cells.cell Pz21.out 1).trans (show _ = some (Value.string D2) from rfl)
          have xz2 := (Cells.cell Pz21.out 2).trans (show _ = some (Value.int .i64 f2) from rfl)
          have xz3 := (Cells.cell Pz21.out 3).trans (show _ = some (Value.int .i64 t2) from rfl)
          have xf0 := (Cells.cell Pf21.out 0).trans (show _ = some (Value.int .i64 a1) from rfl)
          have xf1 := (Cells.cell Pf21.out 1).trans (show _ = some (Value.string D1) from rfl)
          have xf2 := (Cells.cell Pf21.out 2).trans (show _ = some (Value.int .i64 f1) from rfl)
          have xf3 := (Cells.cell Pf21.out 3).trans (show _ = some (Value.int .i64 t1) from rfl)
          have xh0 := (Cells.cell Ph21.out 0).trans (show _ = some (Value.int .i64 a2) from rfl)
          have xh1 := (Cells.cell Ph21.out 1).trans (show _ = some (Value.string D2) from rfl)
          have xh2 := (Cells.cell Ph21.out 2).trans (show _ = some (Value.int .i64 f2) from rfl)
          have xh3 := (Cells.cell Ph21.out 3).trans (show _ = some (Value.int .i64 t2) from rfl)
          have ltf := Pf21.out.lt
          have lth := Ph21.out.lt
          have fzf := Cells.frozen Pf21.out
          have fzh := Cells.frozen Ph21.out
          obtain ⟨ne1, ne2, le1, le2, nxf, nxh, nzf, nzh, nbf, nbh⟩ := HNE.out
          have nfx := nxf.symm
          have nhx := nxh.symm
          have nfz := nzf.symm
          have nhz := nzh.symm
          go_wp2_with fail
          go_region
          obtain ⟨W2, hW2⟩ : ∃ W, W = ((((((((W1.setCell ⟨gf, 0, none⟩ (Value.int .i64 a2)).setCell ⟨gf, 1, none⟩ (Value.string D2)).setCell ⟨gf, 2, none⟩ (Value.int .i64 f2)).setCell ⟨gf, 3, none⟩ (Value.int .i64 t2)).setCell ⟨gh, 0, none⟩ (Value.int .i64 a1)).setCell ⟨gh, 1, none⟩ (Value.string D1)).setCell ⟨gh, 2, none⟩ (Value.int .i64 f1)).setCell ⟨gh, 3, none⟩ (Value.int .i64 t1)).drew := ⟨_, rfl⟩
          rw [← hW2]
          have Px22 := Lib.hid (show Cells W2 gx 23 #[.int .i64 a1, .string D1, .int .i64 f1, .int .i64 t1] from by rw [hW2]; exact Cells.drew15 (Cells.far (Cells.far (Cells.far (Cells.far (Cells.far (Cells.far (Cells.far (Cells.far Px21.out nxf _) nxf _) nxf _) nxf _) nxh _) nxh _) nxh _) nxh _))
          have Pz22 := Lib.hid (show Cells W2 gz 23 #[.int .i64 a2, .string D2, .int .i64 f2, .int .i64 t2] from by rw [hW2]; exact Cells.drew15 (Cells.far (Cells.far (Cells.far (Cells.far (Cells.far (Cells.far (Cells.far (Cells.far Pz21.out nzf _) nzf _) nzf _) nzf _) nzh _) nzh _) nzh _) nzh _))
          have Pb22 := Lib.hid (show Cells W2 gb 41 #[.string S0, .string S0, .string S2, .string ⟨#[]⟩] from by rw [hW2]; exact Cells.drew15 (Cells.far (Cells.far (Cells.far (Cells.far (Cells.far (Cells.far (Cells.far (Cells.far Pb21.out nbf _) nbf _) nbf _) nbf _) nbh _) nbh _) nbh _) nbh _))
          have Pf22 := Lib.hid (show Cells W2 gf 23 #[.int .i64 a2, .string D2, .int .i64 f2, .int .i64 t2] from by rw [hW2]; exact Cells.drew15 (Cells.far (Cells.far (Cells.far (Cells.far (Cells.set (Cells.set (Cells.set (Cells.set Pf21.out 0 _) 1 _) 2 _) 3 _) ne1 _) ne1 _) ne1 _) ne1 _))
          have Ph22 := Lib.hid (show Cells W2 gh 23 #[.int .i64 a1, .string D1, .int .i64 f1, .int .i64 t1] from by rw [hW2]; exact Cells.drew15 (Cells.set (Cells.set (Cells.set (Cells.set (Cells.far (Cells.far (Cells.far (Cells.far Ph21.out ne2 _) ne2 _) ne2 _) ne2 _) 0 _) 1 _) 2 _) 3 _))
          have B22 := Lib.hid (show Below w3.heap.size w3 W2 from by rw [hW2]; exact Below.drew (Below.setCell (Below.setCell (Below.setCell (Below.setCell (Below.setCell (Below.setCell (Below.setCell (Below.setCell B21.out (p := ⟨gf, 0, none⟩) le1 _) (p := ⟨gf, 1, none⟩) le1 _) (p := ⟨gf, 2, none⟩) le1 _) (p := ⟨gf, 3, none⟩) le1 _) (p := ⟨gh, 0, none⟩) le2 _) (p := ⟨gh, 1, none⟩) le2 _) (p := ⟨gh, 2, none⟩) le2 _) (p := ⟨gh, 3, none⟩) le2 _))
          have K22 := Lib.hid (HK.out _ _ K3.out B22.out)
          clear hW2 ltf lth fzf fzh ne1 ne2 le1 le2 nxf nxh nzf nzh nbf nbh nfx nhx nfz nhz B21 K21 Px21 Pz21 Pb21 Pf21 Ph21 xx0 xx1 xx2 xx3 xz0 xz1 xz2 xz3 xf0 xf1 xf2 xf3 xh0 xh1 xh2 xh3
          have xf0 := (Cells.cell Pf22.out 0).trans (show _ = some (Value.int .i64 a2) from rfl)
          have xf1 := (Cells.cell Pf22.out 1).trans (show _ = some (Value.string D2) from rfl)
          have xf2 := (Cells.cell Pf22.out 2).trans (show _ = some (Value.int .i64 f2) from rfl)
          have xf3 := (Cells.cell Pf22.out 3).trans (show _ = some (Value.int .i64 t2) from rfl)
          go_wp2_with fail
          refine (HC3.out _ K22.out).mono ?_
          rintro e w23 ⟨A5, n5, c5, k5, rfl, hb, H5⟩
          clear xf0 xf1 xf2 xf3
          have Px23 := Lib.hid (Cells.kept Px22.out hb Px22.out.lt)
          have Pz23 := Lib.hid (Cells.kept Pz22.out hb Pz22.out.lt)
          have Pb23 := Lib.hid (Cells.kept Pb22.out hb Pb22.out.lt)
          have Pf23 := Lib.hid (Cells.kept Pf22.out hb Pf22.out.lt)
          have Ph23 := Lib.hid (Cells.kept Ph22.out hb Ph22.out.lt)
          have K23 := Lib.hid (HK.out _ _ K22.out hb)
          have B23 := Lib.hid (B22.out.trans (hb.mono B22.out.size))
          clear hb Px22 Pz22 Pb22 Pf22 Ph22 K22 B22
          have xh0 := (Cells.cell Ph23.out 0).trans (show _ = some (Value.int .i64 a1) from rfl)
          have xh1 := (Cells.cell Ph23.out 1).trans (show _ = some (Value.string D1) from rfl)
          have xh2 := (Cells.cell Ph23.out 2).trans (show _ = some (Value.int .i64 f1) from rfl)
          have xh3 := (Cells.cell Ph23.out 3).trans (show _ = some (Value.int .i64 t1) from rfl)
          go_wp2_with fail
          refine (H5.out _ (Below.refl _ _) K23.out).mono ?_
          rintro e w24 ⟨A6, n6, c6, k6, rfl, hb, H6⟩
          clear H5 xh0 xh1 xh2 xh3
          have Px24 := Lib.hid (Cells.kept Px23.out hb Px23.out.lt)
          have Pz24 := Lib.hid (Cells.kept Pz23.out hb Pz23.out.lt)
          have Pb24 := Lib.hid (Cells.kept Pb23.out hb Pb23.out.lt)
          have Pf24 := Lib.hid (Cells.kept Pf23.out hb Pf23.out.lt)
          have Ph24 := Lib.hid (Cells.kept Ph23.out hb Ph23.out.lt)
          have K24 := Lib.hid (HK.out _ _ K23.out hb)
          have B24 := Lib.hid (B23.out.trans (hb.mono B23.out.size))
          clear hb Px23 Pz23 Pb23 Pf23 Ph23 K23 B23
          have xx0 := (Cells.cell Px24.out 0).trans (show _ = some (Value.int .i64 a1) from rfl)
          have xx1 := (Cells.cell Px24.out 1).trans (show _ = some (Value.string D1) from rfl)
          have xx2 := (Cells.cell Px24.out 2).trans (show _ = some (Value.int .i64 f1) from rfl)
          have xx3 := (Cells.cell Px24.out 3).trans (show _ = some (Value.int .i64 t1) from rfl)
          have xz0 := (Cells.cell Pz24.out 0).trans (show _ = some (Value.int .i64 a2) from rfl)
          have xz1 := (Cells.cell Pz24.out 1).trans (show _ = some (Value.string D2) from rfl)
          have xz2 := (Cells.cell Pz24.out 2).trans (show _ = some (Value.int .i64 f2) from rfl)
          have xz3 := (Cells.cell Pz24.out 3).trans (show _ = some (Value.int .i64 t2) from rfl)
          have xb0 := (Cells.cell Pb24.out 0).trans (show _ = some (Value.string S0) from rfl)
          have xb1 := (Cells.cell Pb24.out 1).trans (show _ = some (Value.string S0) from rfl)
          have xb2 := (Cells.cell Pb24.out 2).trans (show _ = some (Value.string S2) from rfl)
          have xb3 := (Cells.cell Pb24.out 3).trans (show _ = some (Value.string ⟨#[]⟩) from rfl)
          go_wp2_with fail
          refine (H6.out _ _ (Int.min_comm a1 a2) (Below.refl _ _) K24.out).mono ?_
          rintro e w25 ⟨A7, n7, c7, rfl, hb⟩
          clear H6 xx0 xx1 xx2 xx3 xz0 xz1 xz2 xz3 xb0 xb1 xb2 xb3
          have Px25 := Lib.hid (Cells.kept Px24.out hb Px24.out.lt)
          have Pz25 := Lib.hid (Cells.kept Pz24.out hb Pz24.out.lt)
          have Pb25 := Lib.hid (Cells.kept Pb24.out hb Pb24.out.lt)
          have Pf25 := Lib.hid (Cells.kept Pf24.out hb Pf24.out.lt)
          have Ph25 := Lib.hid (Cells.kept Ph24.out hb Ph24.out.lt)
          have K25 := Lib.hid (HK.out _ _ K24.out hb)
          have B25 := Lib.hid (B24.out.trans (hb.mono B24.out.size))
          clear hb Px24 Pz24 Pb24 Pf24 Ph24 K24 B24
          have xb0 := (Cells.cell Pb25.out 0).trans (show _ = some (Value.string S0) from rfl)
          have xb1 := (Cells.cell Pb25.out 1).trans (show _ = some (Value.string S0) from rfl)
          have xb2 := (Cells.cell Pb25.out 2).trans (show _ = some (Value.string S2) from rfl)
          have xb3 := (Cells.cell Pb25.out 3).trans (show _ = some (Value.string ⟨#[]⟩) from rfl)
          have ltb := Pb25.out.lt
          have fzb := Cells.frozen Pb25.out 3
          go_wp2_with fail
          go_roundw
          case rel => exact ⟨Lib.hid (Below.setCell B25.out (p := ⟨gb, 3, none⟩) (Nat.le_of_eq GB.out.symm) _), .inr (.inr (.inr (.inr ⟨rfl, Cells.set Pb25.out 3 _⟩)))⟩
          case measure => simp [intOf]
        · clear xx0 xx1 xx2 xx3 xz0 xz1 xz2 xz3 ltx ltz ltb
          obtain ⟨V, hV⟩ : ∃ V, V = wr.alloc (.cells #[.int .i64 a2, .string D2, .int .i64 f2, .int .i64 t2] 23) := ⟨_, rfl⟩
          obtain ⟨U, hU⟩ : ∃ U, U = V.alloc (.cells #[.int .i64 a1, .string D1, .int .i64 f1, .int .i64 t1] 23) := ⟨_, rfl⟩
          obtain ⟨W1, hW1⟩ : ∃ W, W = U.drew := ⟨_, rfl⟩
          obtain ⟨gh, hg1⟩ : ∃ g, g = wr.heap.size := ⟨_, rfl⟩
          obtain ⟨gf, hg2⟩ : ∃ g, g = V.heap.size := ⟨_, rfl⟩
          have hg3 : gf = wr.heap.size + 1 := by rw [hg2, hV]; simp
          have b1 : Below wr.heap.size wr V := by rw [hV]; exact below_alloc6 wr _
          have b2 : Below V.heap.size V U := by rw [hU]; exact below_alloc6 V _
          have b3 : Below U.heap.size U W1 := by rw [hW1]; exact (Below.refl _ _).drew
          have n1 : Cells V gh 23 #[.int .i64 a2, .string D2, .int .i64 f2, .int .i64 t2] := by rw [hV, hg1]; exact heap_alloc_new wr _
          have n2 : Cells U gf 23 #[.int .i64 a1, .string D1, .int .i64 f1, .int .i64 t1] := by rw [hU, hg2]; exact heap_alloc_new V _
          have n1u := Cells.kept n1 b2 n1.lt
          have Ph21 := Lib.hid (Cells.kept n1u b3 n1u.lt)
          have Pf21 := Lib.hid (Cells.kept n2 b3 n2.lt)
          have hb := (b1.trans (b2.mono b1.size)).trans (b3.mono (b1.trans (b2.mono b1.size)).size)
          have hlo := B20.out.size
          have lx := Px20.out.lt
          have lz := Pz20.out.lt
          have lb := Pb20.out.lt
          have HNE := Lib.hid (show gf ≠ gh ∧ gh ≠ gf ∧ w3.heap.size ≤ gf ∧ w3.heap.size ≤ gh ∧ gx ≠ gf ∧ gx ≠ gh ∧ gz ≠ gf ∧ gz ≠ gh ∧ gb ≠ gf ∧ gb ≠ gh from ⟨by omega, by omega, by omega, by omega, by omega, by omega, by omega, by omega, by omega, by omega⟩)
          rw [← hV, ← hU, ← hW1, ← hg3, ← hg1]
          clear hlo lx lz lb hV hU hW1 hg1 hg2 hg3 b1 b2 b3 n1 n2 n1u
          have Px21 := Lib.hid (Cells.kept Px20.out hb Px20.out.lt)
          have Pz21 := Lib.hid (Cells.kept Pz20.out hb Pz20.out.lt)
          have Pb21 := Lib.hid (Cells.kept Pb20.out hb Pb20.out.lt)
          have K21 := Lib.hid (HK.out _ _ K20.out hb)
          have B21 := Lib.hid (B20.out.trans (hb.mono B20.out.size))
          clear hb Px20 Pz20 Pb20 K20 B20
          have xx0 := (Cells.cell Px21.out 0).trans (show _ = some (Value.int .i64 a1) from rfl)
          have xx1 := (Cells.cell Px21.out 1).trans (show _ = some (Value.string D1) from rfl)
          have xx2 := (Cells.cell Px21.out 2).trans (show _ = some (Value.int .i64 f1) from rfl)
          have xx3 := (Cells.cell Px21.out 3).trans (show _ = some (Value.int .i64 t1) from rfl)
          have xz0 := (Cells.cell Pz21.out 0).trans (show _ = some (Value.int .i64 a2) from rfl)
          have xz1 := (Cells.cell Pz21.out 1).trans (show _ = some (Value.string D2) from rfl)
          have xz2 := (Cells.cell Pz21.out 2).trans (show _ = some (Value.int .i64 f2) from rfl)
          have xz3 := (Cells.cell Pz21.out 3).trans (show _ = some (Value.int .i64 t2) from rfl)
          have xf0 := (Cells.cell Pf21.out 0).trans (show _ = some (Value.int .i64 a1) from rfl)
          have xf1 := (Cells.cell Pf21.out 1).trans (show _ = some (Value.string D1) from rfl)
          have xf2 := (Cells.cell Pf21.out 2).trans (show _ = some (Value.int .i64 f1) from rfl)
          have xf3 := (Cells.cell Pf21.out 3).trans (show _ = some (Value.int .i64 t1) from rfl)
          have xh0 := (Cells.cell Ph21.out 0).trans (show _ = some (Value.int .i64 a2) from rfl)
          have xh1 := (Cells.cell Ph21.out 1).trans (show _ = some (Value.string D2) from rfl)
          have xh2 := (Cells.cell Ph21.out 2).trans (show _ = some (Value.int .i64 f2) from rfl)
          have xh3 := (Cells.cell Ph21.out 3).trans (show _ = some (Value.int .i64 t2) from rfl)
          have ltf := Pf21.out.lt
          have lth := Ph21.out.lt
          have fzf := Cells.frozen Pf21.out
          have fzh := Cells.frozen Ph21.out
          obtain ⟨ne1, ne2, le1, le2, nxf, nxh, nzf, nzh, nbf, nbh⟩ := HNE.out
          have nfx := nxf.symm
          have nhx := nxh.symm
          have nfz := nzf.symm
          have nhz := nzh.symm
          go_wp2_with fail
          go_region
          obtain ⟨W2, hW2⟩ : ∃ W, W = ((((((((W1.setCell ⟨gf, 0, none⟩ (Value.int .i64 a2)).setCell ⟨gf, 1, none⟩ (Value.string D2)).setCell ⟨gf, 2, none⟩ (Value.int .i64 f2)).setCell ⟨gf, 3, none⟩ (Value.int .i64 t2)).setCell ⟨gh, 0, none⟩ (Value.int .i64 a1)).setCell ⟨gh, 1, none⟩ (Value.string D1)).setCell ⟨gh, 2, none⟩ (Value.int .i64 f1)).setCell ⟨gh, 3, none⟩ (Value.int .i64 t1)).drew := ⟨_, rfl⟩
          rw [← hW2]
          have Px22 := Lib.hid (show Cells W2 gx 23 #[.int .i64 a1, .string D1, .int .i64 f1, .int .i64 t1] from by rw [hW2]; exact Cells.drew15 (Cells.far (Cells.far (Cells.far (Cells.far (Cells.far (Cells.far (Cells.far (Cells.far Px21.out nxf _) nxf _) nxf _) nxf _) nxh _) nxh _) nxh _) nxh _))
          have Pz22 := Lib.hid (show Cells W2 gz 23 #[.int .i64 a2, .string D2, .int .i64 f2, .int .i64 t2] from by rw [hW2]; exact Cells.drew15 (Cells.far (Cells.far (Cells.far (Cells.far (Cells.far (Cells.far (Cells.far (Cells.far Pz21.out nzf _) nzf _) nzf _) nzf _) nzh _) nzh _) nzh _) nzh _))
          have Pb22 := Lib.hid (show Cells W2 gb 41 #[.string S0, .string S0, .string S2, .string ⟨#[]⟩] from by rw [hW2]; exact Cells.drew15 (Cells.far (Cells.far (Cells.far (Cells.far (Cells.far (Cells.far (Cells.far (Cells.far Pb21.out nbf _) nbf _) nbf _) nbf _) nbh _) nbh _) nbh _) nbh _))
          have Pf22 := Lib.hid (show Cells W2 gf 23 #[.int .i64 a2, .string D2, .int .i64 f2, .int .i64 t2] from by rw [hW2]; exact Cells.drew15 (Cells.far (Cells.far (Cells.far (Cells.far (Cells.set (Cells.set (Cells.set (Cells.set Pf21.out 0 _) 1 _) 2 _) 3 _) ne1 _) ne1 _) ne1 _) ne1 _))
          have Ph22 := Lib.hid (show Cells W2 gh 23 #[.int .i64 a1, .string D1, .int .i64 f1, .int .i64 t1] from by rw [hW2]; exact Cells.drew15 (Cells.set (Cells.set (Cells.set (Cells.set (Cells.far (Cells.far (Cells.far (Cells.far Ph21.out ne2 _) ne2 _) ne2 _) ne2 _) 0 _) 1 _) 2 _) 3 _))
          have B22 := Lib.hid (show Below w3.heap.size w3 W2 from by rw [hW2]; exact Below.drew (Below.setCell (Below.setCell (Below.setCell (Below.setCell (Below.setCell (Below.setCell (Below.setCell (Below.setCell B21.out (p := ⟨gf, 0, none⟩) le1 _) (p := ⟨gf, 1, none⟩) le1 _) (p := ⟨gf, 2, none⟩) le1 _) (p := ⟨gf, 3, none⟩) le1 _) (p := ⟨gh, 0, none⟩) le2 _) (p := ⟨gh, 1, none⟩) le2 _) (p := ⟨gh, 2, none⟩) le2 _) (p := ⟨gh, 3, none⟩) le2 _))
          have K22 := Lib.hid (HK.out _ _ K3.out B22.out)
          clear hW2 ltf lth fzf fzh ne1 ne2 le1 le2 nxf nxh nzf nzh nbf nbh nfx nhx nfz nhz B21 K21 Px21 Pz21 Pb21 Pf21 Ph21 xx0 xx1 xx2 xx3 xz0 xz1 xz2 xz3 xf0 xf1 xf2 xf3 xh0 xh1 xh2 xh3
          have xf0 := (Cells.cell Pf22.out 0).trans (show _ = some (Value.int .i64 a2) from rfl)
          have xf1 := (Cells.cell Pf22.out 1).trans (show _ = some (Value.string D2) from rfl)
          have xf2 := (Cells.cell Pf22.out 2).trans (show _ = some (Value.int .i64 f2) from rfl)
          have xf3 := (Cells.cell Pf22.out 3).trans (show _ = some (Value.int .i64 t2) from rfl)
          go_wp2_with fail
          refine (HC3.out _ K22.out).mono ?_
          rintro e w23 ⟨A5, n5, c5, k5, rfl, hb, H5⟩
          clear xf0 xf1 xf2 xf3
          have Px23 := Lib.hid (Cells.kept Px22.out hb Px22.out.lt)
          have Pz23 := Lib.hid (Cells.kept Pz22.out hb Pz22.out.lt)
          have Pb23 := Lib.hid (Cells.kept Pb22.out hb Pb22.out.lt)
          have Pf23 := Lib.hid (Cells.kept Pf22.out hb Pf22.out.lt)
          have Ph23 := Lib.hid (Cells.kept Ph22.out hb Ph22.out.lt)
          have K23 := Lib.hid (HK.out _ _ K22.out hb)
          have B23 := Lib.hid (B22.out.trans (hb.mono B22.out.size))
          clear hb Px22 Pz22 Pb22 Pf22 Ph22 K22 B22
          have xh0 := (Cells.cell Ph23.out 0).trans (show _ = some (Value.int .i64 a1) from rfl)
          have xh1 := (Cells.cell Ph23.out 1).trans (show _ = some (Value.string D1) from rfl)
          have xh2 := (Cells.cell Ph23.out 2).trans (show _ = some (Value.int .i64 f1) from rfl)
          have xh3 := (Cells.cell Ph23.out 3).trans (show _ = some (Value.int .i64 t1) from rfl)
          go_wp2_with fail
          refine (H5.out _ (Below.refl _ _) K23.out).mono ?_
          rintro e w24 ⟨A6, n6, c6, k6, rfl, hb, H6⟩
          clear H5 xh0 xh1 xh2 xh3
          have Px24 := Lib.hid (Cells.kept Px23.out hb Px23.out.lt)
          have Pz24 := Lib.hid (Cells.kept Pz23.out hb Pz23.out.lt)
          have Pb24 := Lib.hid (Cells.kept Pb23.out hb Pb23.out.lt)
          have Pf24 := Lib.hid (Cells.kept Pf23.out hb Pf23.out.lt)
          have Ph24 := Lib.hid (Cells.kept Ph23.out hb Ph23.out.lt)
          have K24 := Lib.hid (HK.out _ _ K23.out hb)
          have B24 := Lib.hid (B23.out.trans (hb.mono B23.out.size))
          clear hb Px23 Pz23 Pb23 Pf23 Ph23 K23 B23
          have xx0 := (Cells.cell Px24.out 0).trans (show _ = some (Value.int .i64 a1) from rfl)
          have xx1 := (Cells.cell Px24.out 1).trans (show _ = some (Value.string D1) from rfl)
          have xx2 := (Cells.cell Px24.out 2).trans (show _ = some (Value.int .i64 f1) from rfl)
          have xx3 := (Cells.cell Px24.out 3).trans (show _ = some (Value.int .i64 t1) from rfl)
          have xz0 := (Cells.cell Pz24.out 0).trans (show _ = some (Value.int .i64 a2) from rfl)
          have xz1 := (Cells.cell Pz24.out 1).trans (show _ = some (Value.string D2) from rfl)
          have xz2 := (Cells.cell Pz24.out 2).trans (show _ = some (Value.int .i64 f2) from rfl)
          have xz3 := (Cells.cell Pz24.out 3).trans (show _ = some (Value.int .i64 t2) from rfl)
          have xb0 := (Cells.cell Pb24.out 0).trans (show _ = some (Value.string S0) from rfl)
          have xb1 := (Cells.cell Pb24.out 1).trans (show _ = some (Value.string S0) from rfl)
          have xb2 := (Cells.cell Pb24.out 2).trans (show _ = some (Value.string S2) from rfl)
          have xb3 := (Cells.cell Pb24.out 3).trans (show _ = some (Value.string ⟨#[]⟩) from rfl)
          go_wp2_with fail
          refine (H6.out _ _ (Int.min_comm a1 a2) (Below.refl _ _) K24.out).mono ?_
          rintro e w25 ⟨A7, n7, c7, rfl, hb⟩
          clear H6 xx0 xx1 xx2 xx3 xz0 xz1 xz2 xz3 xb0 xb1 xb2 xb3
          have Px25 := Lib.hid (Cells.kept Px24.out hb Px24.out.lt)
          have Pz25 := Lib.hid (Cells.kept Pz24.out hb Pz24.out.lt)
          have Pb25 := Lib.hid (Cells.kept Pb24.out hb Pb24.out.lt)
          have Pf25 := Lib.hid (Cells.kept Pf24.out hb Pf24.out.lt)
          have Ph25 := Lib.hid (Cells.kept Ph24.out hb Ph24.out.lt)
          have K25 := Lib.hid (HK.out _ _ K24.out hb)
          have B25 := Lib.hid (B24.out.trans (hb.mono B24.out.size))
          clear hb Px24 Pz24 Pb24 Pf24 Ph24 K24 B24
          have xb0 := (Cells.cell Pb25.out 0).trans (show _ = some (Value.string S0) from rfl)
          have xb1 := (Cells.cell Pb25.out 1).trans (show _ = some (Value.string S0) from rfl)
          have xb2 := (Cells.cell Pb25.out 2).trans (show _ = some (Value.string S2) from rfl)
          have xb3 := (Cells.cell Pb25.out 3).trans (show _ = some (Value.string ⟨#[]⟩) from rfl)
          have ltb := Pb25.out.lt
          have fzb := Cells.frozen Pb25.out 3
          go_wp2_with fail
          go_roundw
          case rel => exact ⟨Lib.hid (Below.setCell B25.out (p := ⟨gb, 3, none⟩) (Nat.le_of_eq GB.out.symm) _), .inr (.inr (.inr (.inr ⟨rfl, Cells.set Pb25.out 3 _⟩)))⟩
          case measure => simp [intOf]
      · have C5 := Lib.hid HC
        clear HC
        have xb0 := (Cells.cell C5.out 0).trans (show _ = some (Value.string S0) from rfl)
        have xb1 := (Cells.cell C5.out 1).trans (show _ = some (Value.string S0) from rfl)
        have xb2 := (Cells.cell C5.out 2).trans (show _ = some (Value.string S2) from rfl)
        have xb3 := (Cells.cell C5.out 3).trans (show _ = some (Value.string S3) from rfl)
        have xx0 := (Cells.cell Px20.out 0).trans (show _ = some (Value.int .i64 a1) from rfl)
        have xx1 := (Cells.cell Px20.out 1).trans (show _ = some (Value.string D1) from rfl)
        have xx2 := (Cells.cell Px20.out 2).trans (show _ = some (Value.int .i64 f1) from rfl)
        have xx3 := (Cells.cell Px20.out 3).trans (show _ = some (Value.int .i64 t1) from rfl)
        have xz0 := (Cells.cell Pz20.out 0).trans (show _ = some (Value.int .i64 a2) from rfl)
        have xz1 := (Cells.cell Pz20.out 1).trans (show _ = some (Value.string D2) from rfl)
        have xz2 := (Cells.cell Pz20.out 2).trans (show _ = some (Value.int .i64 f2) from rfl)
        have xz3 := (Cells.cell Pz20.out 3).trans (show _ = some (Value.int .i64 t2) from rfl)
        have BZ := Lib.hid (B3.out.trans (B20.out.mono B3.out.size))
        have hqq : (S0.toList == S0.toList) = true := beq_self_eq_true _
        cases hs : (S2.toList == S3.toList) with
        | true =>
          go_wp2_with fail
          go_ret
          exact ⟨rfl, BZ.out⟩
        | false =>
          have he : a1 = a2 := Classical.byContradiction fun h => by
            have h2 := HE.out h
            rw [h2, beq_self_eq_true] at hs
            cases hs
          have hee : (a1 == a2) = true := by simpa using he
          clear he HE
          go_wp2_with fail
          go_ret
          exact ⟨rfl, BZ.out⟩
end Go.Proofs.Ytafpmlikocchpaa
