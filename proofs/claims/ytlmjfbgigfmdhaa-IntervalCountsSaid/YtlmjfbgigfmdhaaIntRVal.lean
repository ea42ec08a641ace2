/- Sets of spans told by a test; contract of the reference of layer 5: Valid. -/
import Derived.Test.YtlmjfbgigfmdhaaIntMem
import Derived.BigQuiet
namespace Go.Proofs.Ytlmjfbgigfmdhaa
open Go.ChangeShapes Go.WideShapes Go.ChangeAt Go.RowKit
set_option linter.unusedVariables false

/-- Where the next span may begin. -/
def nxt : Int → List Spn → Int
  | c, [] => c
  | _, s :: r => nxt (s.hi + 2) r
theorem nxt_snoc (s : Spn) : ∀ (l : List Spn) (c : Int), nxt c (l ++ [s]) = s.hi + 2
  | [], c => rfl
  | x :: r, c => nxt_snoc s r (x.hi + 2)
theorem okL_snoc {M : Int} (s : Spn) : ∀ (l : List Spn) (c : Int), okL M c (l ++ [s]) ↔ okL M c l ∧ nxt c l ≤ s.lo ∧ s.lo ≤ s.hi ∧ s.hi ≤ M
  | [], c => by simp [okL, nxt]
  | x :: r, c => by
    have ih := okL_snoc (M := M) s r (x.hi + 2)
    simp only [List.cons_append, okL, nxt, ih]
    constructor
    · rintro ⟨h1, h2, h3, h4, h5⟩; exact ⟨⟨h1, h2, h3, h4⟩, h5⟩
    · rintro ⟨⟨h1, h2, h3, h4⟩, h5⟩; exact ⟨h1, h2, h3, h4, h5⟩
theorem okL_front {M : Int} : ∀ (a b : List Spn) (c : Int), okL M c (a ++ b) → okL M c a
  | [], _, _, _ => trivial
  | x :: r, b, c, ⟨h1, h2, h3, h4⟩ => ⟨h1, h2, h3, okL_front r b _ h4⟩
/-- Is a list of spans a set? -/
def okB (M : Int) : Int → List Spn → Bool
  | _, [] => true
  | c, s :: r => decide (c ≤ s.lo) && decide (s.lo ≤ s.hi) && decide (s.hi ≤ M) && okB M (s.hi + 2) r
theorem okB_iff {M : Int} : ∀ (l : List Spn) (c : Int), okB M c l = true ↔ okL M c l
  | [], c => by simp [okB, okL]
  | s :: r, c => by
    have ih := okB_iff (M := M) r (s.hi + 2)
    simp only [okB, okL, Bool.and_eq_true, decide_eq_true_eq, ih]
    constructor
    · rintro ⟨⟨⟨h1, h2⟩, h3⟩, h4⟩; exact ⟨h1, h2, h3, h4⟩
    · rintro ⟨h1, h2, h3, h4⟩; exact ⟨⟨⟨h1, h2⟩, h3⟩, h4⟩
/-- One span further: the list falls, or goes on. -/
theorem okB_fall {M : Int} {l : List Spn} {k : Nat} {s : Spn} (hs : l[k]? = some s) (h : ¬ (nxt 0 (l.take k) ≤ s.lo ∧ s.lo ≤ s.hi ∧ s.hi ≤ M)) : okB M 0 l = false := by
  cases hb : okB M 0 l with
  | false => rfl
  | true =>
    exfalso
    rw [okB_iff] at hb
    obtain ⟨hk, e⟩ := List.getElem?_eq_some_iff.1 hs
    have e2 : l.take (k + 1) = l.take k ++ [s] := by rw [List.take_succ_eq_append_getElem hk, e]
    rw [← List.take_append_drop (k + 1) l] at hb
    have h2 := okL_front _ _ _ hb
    rw [e2, okL_snoc] at h2
    exact h h2.2
theorem okL_go {M : Int} {l : List Spn} {k : Nat} {s : Spn} (hs : l[k]? = some s) (h0 : okL M 0 (l.take k)) (h : nxt 0 (l.take k) ≤ s.lo ∧ s.lo ≤ s.hi ∧ s.hi ≤ M) : okL M 0 (l.take (k + 1)) := by
  obtain ⟨hk, e⟩ := List.getElem?_eq_some_iff.1 hs
  rw [List.take_succ_eq_append_getElem hk, e, okL_snoc]
  exact ⟨h0, h⟩
theorem nxt_take {l : List Spn} {k : Nat} {s : Spn} (hs : l[k]? = some s) (c : Int) : nxt c (l.take (k + 1)) = s.hi + 2 := by
  obtain ⟨hk, e⟩ := List.getElem?_eq_some_iff.1 hs
  rw [List.take_succ_eq_append_getElem hk, e, nxt_snoc]
theorem okL_hi {M : Int} {l : List Spn} {k : Nat} {s : Spn} (hs : l[k]? = some s) (h0 : okL M 0 (l.take (k + 1))) : 0 ≤ s.hi ∧ s.hi ≤ M := by
  obtain ⟨hk, e⟩ := List.getElem?_eq_some_iff.1 hs
  rw [List.take_succ_eq_append_getElem hk, e, okL_snoc] at h0
  have hin : anyS (l.take k ++ [s]) s.hi = true := by
    rw [anyS_append, Bool.or_eq_true]
    right
    simp [anyS, inS]
    omega
  have := okL_ge ((okL_snoc s _ 0).2 h0) hin
  omega

theorem nxt_pos {M : Int} : ∀ {l : List Spn} {c : Int}, 0 ≤ c → okL M c l → 0 ≤ nxt c l
  | [], _, h, _ => h
  | x :: r, _, h, ⟨h1, h2, _, h4⟩ => nxt_pos (c := x.hi + 2) (by omega) h4
theorem below_drewN5 {w w' : World} {B : Nat} (h : Below B w w') (q : Nat) : Below B w (w'.drewN q) := ⟨h.os, h.tape, h.output, h.size, h.block⟩

set_option maxRecDepth 20000 in
theorem rvalid_any (A : Option Addr) (cap : Nat) (l : List Spn) (w : World) (h : SpL w A l) (hl : l.length ≤ 1000000) :
    Calls Try.prog 12 #[.slice A l.length cap] w fun e w' => e = .returned (.bool (okB 4294967296 0 l)) ∧ Below w.heap.size w w' := by
  obtain ⟨n, hn⟩ : ∃ n, n = l.length := ⟨_, rfl⟩
  have hn6 : n ≤ 1000000 := by omega
  obtain ⟨B, hB⟩ : ∃ B, B = okB 4294967296 0 l := ⟨_, rfl⟩
  rw [← hn, ← hB]
  obtain ⟨w0, hw0⟩ : ∃ w0, w0 = w := ⟨_, rfl⟩
  have H := Lib.hid h
  have HB := Lib.hid hB
  have HN := Lib.hid hn
  have HW := Lib.hid (Below.refl w.heap.size w)
  clear h hB hn hl
  go_enter Try.func12, Try.ntmps12
  go_wp2_with fail
  go_loopw [3] (fun i wr => ∃ k : Nat, k ≤ n ∧ i = .int .i64 k ∧ Hid (okL 4294967296 0 (l.take k)) ∧ Hid (SpL wr A l) ∧ Hid (Below w.heap.size w wr)) (fun i wr => n - (intOf i).toNat)
  case atStart => exact ⟨0, by omega, rfl, Lib.hid trivial, H, HW⟩
  case round =>
    obtain ⟨k, hk, rfl, HK, HS, HR⟩ := hrel
    clear H HW
    by_cases hlt : k < n
    · have hkl : k < l.length := by rw [← HN.out]; exact hlt
      obtain ⟨g, o, rfl, hg, hc⟩ := HS.out (by omega)
      obtain ⟨s, hget⟩ : ∃ s, l[k]? = some s := ⟨l[k], List.getElem?_eq_getElem hkl⟩
      obtain ⟨c0, c1⟩ := hc k _ hget
      have hki : (k : Int) < (n : Int) := by omega
      have hki0 : (0 : Int) ≤ (k : Int) := by omega
      have hfall : ¬ (nxt 0 (l.take k) ≤ s.lo ∧ s.lo ≤ s.hi ∧ s.hi ≤ 4294967296) → okB 4294967296 0 l = false := okB_fall hget
      have hgo : (nxt 0 (l.take k) ≤ s.lo ∧ s.lo ≤ s.hi ∧ s.hi ≤ 4294967296) → okL 4294967296 0 (l.take (k + 1)) := okL_go hget HK.out
      have hpos : 0 ≤ nxt 0 (l.take k) := nxt_pos (Int.le_refl 0) HK.out
      obtain ⟨lo, hlo⟩ : ∃ lo, lo = s.lo := ⟨_, rfl⟩
      obtain ⟨hi, hhi⟩ : ∃ hi, hi = s.hi := ⟨_, rfl⟩
      rw [← hlo] at c0 hfall hgo
      rw [← hhi] at c1 hfall hgo
      by_cases h1 : lo < 0
      · obtain rfl : B = false := HB.out.trans (hfall (by omega))
        have d1 : decide (lo < 0) = true := by simpa using h1
        clear hfall hgo hpos hc HS hget hlo hhi
        go_wp2_with fail
        go_quiet (fail)
        have hB2 := below_drewN5 HR.out nq
        clear HR
        go_wp2_with fail
        go_ret
        exact ⟨rfl, hB2⟩
      have d1 : decide (lo < 0) = false := by simpa using h1
      by_cases h2 : hi < lo
      · obtain rfl : B = false := HB.out.trans (hfall (by omega))
        have d2 : decide (hi < lo) = true := by simpa using h2
        clear hfall hgo hpos hc HS hget hlo hhi
        go_wp2_with fail
        go_quiet (fail)
        have hB2 := below_drewN5 HR.out nq
        clear HR
        go_wp2_with fail
        go_ret
        exact ⟨rfl, hB2⟩
      have d2 : decide (hi < lo) = false := by simpa using h2
      by_cases h3 : 4294967296 < hi
      · obtain rfl : B = false := HB.out.trans (hfall (by omega))
        have d3 : decide (4294967296 < hi) = true := by simpa using h3
        clear hfall hgo hpos hc HS hget hlo hhi
        go_wp2_with fail
        go_quiet (fail)
        have hB2 := below_drewN5 HR.out nq
        clear HR
        go_wp2_with fail
        go_ret
        exact ⟨rfl, hB2⟩
      have d3 : decide (4294967296 < hi) = false := by simpa using h3
      by_cases h4 : 0 < k
      · obtain ⟨j, rfl⟩ : ∃ j, k = j + 1 := ⟨k - 1, by omega⟩
        obtain ⟨t, htg⟩ : ∃ t, l[j]? = some t := ⟨l[j], List.getElem?_eq_getElem (by omega)⟩
        have c2 := (hc j _ htg).2
        have hnx := nxt_take htg 0
        have hth := okL_hi htg HK.out
        rw [hnx] at hfall hgo
        obtain ⟨ph, hph⟩ : ∃ ph, ph = t.hi := ⟨_, rfl⟩
        rw [← hph] at c2 hfall hgo hth
        have hj : ((j + 1 : Nat) : Int) = (j : Int) + 1 := by omega
        generalize hkj : j + 1 = k at *
        have hjk : (k : Int) - 1 = (j : Int) := by omega
        have hw1 : IntKind.i64.wrap ((k : Int) - 1) = (j : Int) := by rw [hjk]; exact IntWalk.i64_in _ (by omega)
        have hw2 : IntKind.i64.wrap (ph + 2) = ph + 2 := IntWalk.i64_in _ (by omega)
        have hj0 : (0 : Int) ≤ (j : Int) := by omega
        have hjn : (j : Int) < (n : Int) := by omega
        have d4 : decide ((0 : Int) < (k : Int)) = true := by simp; omega
        by_cases h5 : lo < ph + 2
        · obtain rfl : B = false := HB.out.trans (hfall (by omega))
          have d5 : decide (lo < ph + 2) = true := by simpa using h5
          clear hfall hgo hpos hc HS hget hlo hhi hnx hph htg hj hkj hjk
          go_wp2_with fail
          go_quiet (fail)
          have hB2 := below_drewN5 HR.out nq
          clear HR
          go_wp2_with fail
          go_ret
          exact ⟨rfl, hB2⟩
        · have HN2 := Lib.hid (hgo ⟨by omega, by omega, by omega⟩)
          have d5 : decide (lo < ph + 2) = false := by simpa using h5
          clear hfall hgo hpos hc hget hlo hhi hnx hph htg hj hkj hjk
          go_wp2_with fail
          go_quiet (fail)
          have HB2 := Lib.hid (below_drewN5 HR.out nq)
          have HS2 := Lib.hid (HS.out.drewN nq)
          clear HR HS c0 c1 c2
          generalize wr.drewN nq = w2 at *
          go_wp2_with fail
          go_round
          case rel => exact ⟨k + 1, by omega, by go_num, HN2, HS2, HB2⟩
          case measure => simp [intOf]; omega
      · have hk0 : k = 0 := by omega
        have HN2 := Lib.hid (hgo ⟨by rw [hk0]; show (0 : Int) ≤ lo; omega, by omega, by omega⟩)
        have d4 : decide ((0 : Int) < (k : Int)) = false := by simp; omega
        have d4b : decide (0 < k) = false := by simp; omega
        clear hfall hgo hpos hc hget hlo hhi hk0
        go_wp2_with fail
        go_quiet (fail)
        have HB2 := Lib.hid (below_drewN5 HR.out nq)
        have HS2 := Lib.hid (HS.out.drewN nq)
        clear HR HS c0 c1
        generalize wr.drewN nq = w2 at *
        go_wp2_with fail
        go_round
        case rel => exact ⟨k + 1, by omega, by go_num, HN2, HS2, HB2⟩
        case measure => simp [intOf]; omega
    · have hkn : k = l.length := by have := HN.out; omega
      obtain rfl : B = true := by
        have := HK.out
        rw [hkn, List.take_length] at this
        exact HB.out.trans ((okB_iff _ _).2 this)
      obtain rfl : k = n := by omega
      clear hkn
      have hd : decide ((k : Int) < (k : Int)) = false := by simp
      go_wp2_with fail
      go_ret
      exact ⟨rfl, HR.out⟩
end Go.Proofs.Ytlmjfbgigfmdhaa
