/- Contracts of the program of layer 5: Valid, hasNumbers, Contains. -/
import Derived.Test.YtlmjfbgigfmdhaaIntCnt
import Derived.Test.YtlmjfbgigfmdhaaIntLay
import Derived.Shelf.SlicesQ.IndexFunc
import Derived.BigQuiet
namespace Go.Proofs.Ytlmjfbgigfmdhaa
open Go.ChangeShapes Go.WideShapes Go.ChangeAt Go.RowKit
set_option linter.unusedVariables false

/-- Does an integer from 0 to M lie in a span? -/
def hasN (M : Int) (s : Spn) : Bool := decide (s.lo ≤ s.hi) && (decide (0 ≤ s.hi) && decide (s.lo ≤ M))

set_option maxRecDepth 20000 in
theorem phas_any (lo hi : Int) (w : World) :
    Calls Try.prog 31 #[.agg #[.int .i64 lo, .int .i64 hi]] w fun e w' => e = .returned (.bool (hasN 4294967296 ⟨lo, hi⟩)) ∧ Below w.heap.size w w' := by
  obtain ⟨B, hB⟩ : ∃ B, B = hasN 4294967296 ⟨lo, hi⟩ := ⟨_, rfl⟩
  rw [← hB]
  unfold hasN at hB
  simp only at hB
  have hb0 := Lib.hid (below_alloc5 w (.cells #[.int .i64 lo, .int .i64 hi] 34))
  by_cases h1 : lo ≤ hi
  · by_cases h2 : 0 ≤ hi
    · by_cases h3 : lo ≤ 4294967296
      · obtain rfl : B = true := by rw [hB]; simp [h1, h2, h3]
        clear hB
        go_enter Try.func31, Try.ntmps31
        go_wp2_with fail
        go_ret
        exact ⟨rfl, hb0.out⟩
      · obtain rfl : B = false := by rw [hB]; simp [h1, h2, h3]
        have d3 : decide (lo ≤ 4294967296) = false := by simpa using h3
        clear hB
        go_enter Try.func31, Try.ntmps31
        go_wp2_with fail
        go_ret
        exact ⟨rfl, hb0.out⟩
    · obtain rfl : B = false := by rw [hB]; simp [h1, h2]
      have d2 : decide (0 ≤ hi) = false := by simpa using h2
      clear hB
      go_enter Try.func31, Try.ntmps31
      go_wp2_with fail
      go_ret
      exact ⟨rfl, hb0.out⟩
  · obtain rfl : B = false := by rw [hB]; simp [h1]
    have d1 : decide (lo ≤ hi) = false := by simpa using h1
    clear hB
    go_enter Try.func31, Try.ntmps31
    go_wp2_with fail
    go_ret
    exact ⟨rfl, hb0.out⟩

set_option maxRecDepth 20000 in
theorem pvalid_any (A : Option Addr) (cap : Nat) (l : List Spn) (w : World) (h : SpL w A l) (hl : l.length ≤ 1000000) :
    Calls Try.prog 11 #[.slice A l.length cap] w fun e w' => e = .returned (.bool (okB 4294967296 0 l)) ∧ Below w.heap.size w w' := by
  obtain ⟨n, hn⟩ : ∃ n, n = l.length := ⟨_, rfl⟩
  have hn6 : n ≤ 1000000 := by omega
  obtain ⟨B, hB⟩ : ∃ B, B = okB 4294967296 0 l := ⟨_, rfl⟩
  rw [← hn, ← hB]
  have H := Lib.hid h
  have HB := Lib.hid hB
  have HN := Lib.hid hn
  have HW := Lib.hid (Below.refl w.heap.size w)
  clear h hB hn hl
  go_enter Try.func11, Try.ntmps11
  go_wp2_with fail
  go_loopw [3, 8] (fun v3 i wr => ∃ k : Nat, ∃ c : Int, k ≤ n ∧ i = .int .i64 k ∧ v3 = .int .i64 c ∧ -2 ≤ c ∧ c ≤ 4294967296 ∧ Hid (c + 2 = nxt 0 (l.take k)) ∧ Hid (okL 4294967296 0 (l.take k)) ∧ Hid (SpL wr A l) ∧ Hid (Below w.heap.size w wr)) (fun _ i wr => n - (intOf i).toNat)
  case atStart => exact ⟨0, -2, by omega, rfl, rfl, by omega, by omega, Lib.hid rfl, Lib.hid trivial, H, HW⟩
  case round =>
    obtain ⟨k, c, hk, rfl, rfl, hc1, hc2, HX, HK, HS, HR⟩ := hrel
    clear H HW
    by_cases hlt : k < n
    · have hkl : k < l.length := by rw [← HN.out]; exact hlt
      obtain ⟨g, o, rfl, hg, hc⟩ := HS.out (by omega)
      obtain ⟨s, hget⟩ : ∃ s, l[k]? = some s := ⟨l[k], List.getElem?_eq_getElem hkl⟩
      obtain ⟨c0, c1⟩ := hc k _ hget
      have hki : (k : Int) < (n : Int) := by omega
      have hki0 : (0 : Int) ≤ (k : Int) := by omega
      have hfall : ¬ (nxt 0 (l.take k) ≤ s.lo ∧ s.lo ≤ s.hi ∧ s.hi ≤ 4294967296) → okB 4294967296 0 l = false := okB_fall hget
      have hgo : (nxt 0 (l.take k) ≤ s.lo ∧ s.lo ≤ s.hi ∧ s.hi ≤ 4294967296) → okL 4294967296 0 (l.take (k + 1)) := okL_go hget HK.out
      have hpos : 0 ≤ nxt 0 (l.take k) := nxt_pos (Int.le_refl 0) HK.out
      have hnx : nxt 0 (l.take (k + 1)) = s.hi + 2 := nxt_take hget 0
      rw [← HX.out] at hfall hgo
      obtain ⟨lo, hi⟩ := s
      simp only at c0 c1 hfall hgo hnx
      have HB0 := Lib.hid (HR.out.alloc HR.out.size (.cells #[.int .i64 lo, .int .i64 hi] 34))
      have HS0 := Lib.hid (HS.out.kept (below_alloc5 wr (.cells #[.int .i64 lo, .int .i64 hi] 34)))
      have HNX := Lib.hid hnx
      have hpos2 : 0 ≤ c + 2 := by have := HX.out; omega
      by_cases h5 : lo < c + 2
      · obtain rfl : B = false := HB.out.trans (hfall (by omega))
        have d5 : decide (lo < c + 2) = true := by simpa using h5
        clear hfall hgo hpos hc HS hget hnx
        go_wp2_with fail
        go_ret
        exact ⟨rfl, HB0.out⟩
      have d5 : decide (lo < c + 2) = false := by simpa using h5
      by_cases h2 : hi < lo
      · obtain rfl : B = false := HB.out.trans (hfall (by omega))
        have d2 : decide (hi < lo) = true := by simpa using h2
        clear hfall hgo hpos hc HS hget hnx
        go_wp2_with fail
        go_ret
        exact ⟨rfl, HB0.out⟩
      have d2 : decide (hi < lo) = false := by simpa using h2
      by_cases h3 : 4294967296 < hi
      · obtain rfl : B = false := HB.out.trans (hfall (by omega))
        have d3 : decide (4294967296 < hi) = true := by simpa using h3
        clear hfall hgo hpos hc HS hget hnx
        go_wp2_with fail
        go_ret
        exact ⟨rfl, HB0.out⟩
      have d3 : decide (4294967296 < hi) = false := by simpa using h3
      have HK2 := Lib.hid (hgo ⟨by omega, by omega, by omega⟩)
      clear hfall hgo hpos hc HS hget hnx HX HK HR
      go_wp2_with fail
      go_roundw
      case rel => exact ⟨k + 1, hi, by omega, by go_num, rfl, by omega, by omega, Lib.hid HNX.out.symm, HK2, HS0, HB0⟩
      case measure => simp [intOf]; omega
    · have hkn : k = l.length := by have := HN.out; omega
      obtain rfl : B = true := by
        have := HK.out
        rw [hkn, List.take_length] at this
        exact HB.out.trans ((okB_iff _ _).2 this)
      obtain rfl : k = n := by omega
      clear hkn
      have hd : decide ((k : Int) < (k : Int)) = false := by simp
      go_wp2_with fail
      go_ret
      exact ⟨rfl, HR.out⟩

/-- The closure of Contains: does the span hold the number in the captured box? -/
theorem pcont1_any (lo hi m : Int) (b : Nat) (W : World) (hb : b < W.heap.size) (hc : W.cell? ⟨b, 0, none⟩ = some (.int .i64 m)) :
    Calls Try.prog 38 #[.agg #[.int .i64 lo, .int .i64 hi], .pointer (some ⟨b, 0, none⟩)] W fun e w' => e = .returned (.bool (inS ⟨lo, hi⟩ m)) ∧ w' = W.alloc (.cells #[.int .i64 lo, .int .i64 hi] 34) := by
  obtain ⟨B, hB⟩ : ∃ B, B = inS ⟨lo, hi⟩ m := ⟨_, rfl⟩
  rw [← hB]
  unfold inS at hB
  simp only at hB
  have hne : b ≠ W.heap.size := by omega
  by_cases h1 : lo ≤ m
  · by_cases h2 : m ≤ hi
    · obtain rfl : B = true := by rw [hB]; simp [h1, h2]
      clear hB
      go_enter Try.func38, Try.ntmps38
      go_wp2_with fail
      go_ret
      exact ⟨rfl, rfl⟩
    · obtain rfl : B = false := by rw [hB]; simp [h1, h2]
      have d2 : decide (m ≤ hi) = false := by simpa using h2
      clear hB
      go_enter Try.func38, Try.ntmps38
      go_wp2_with fail
      go_ret
      exact ⟨rfl, rfl⟩
  · obtain rfl : B = false := by rw [hB]; simp [h1]
    have d1 : decide (lo ≤ m) = false := by simpa using h1
    clear hB
    go_enter Try.func38, Try.ntmps38
    go_wp2_with fail
    go_ret
    exact ⟨rfl, rfl⟩
theorem pindex_nil (A : Option Addr) (cap : Nat) (fv : Value) (w : World) :
    Calls Try.prog 46 #[.slice A 0 cap, fv] w fun e w' => e = .returned (.int .i64 (-1)) ∧ w' = w := by
  go_enter Try.func46, Try.ntmps46
  go_wp2_with fail
  refine wp_loop_rounds 1 ?_
  rw [rounds_succ]
  go_wp2_with fail
  go_ret
  exact ⟨rfl, rfl⟩
theorem pcontf_nil (A : Option Addr) (cap : Nat) (fv : Value) (w : World) :
    Calls Try.prog 37 #[.slice A 0 cap, fv] w fun e w' => e = .returned (.bool false) ∧ w' = w := by
  have H := Lib.hid (pindex_nil A cap fv)
  go_enter Try.func37, Try.ntmps37
  go_wp2_with fail
  refine (H.out _).mono ?_
  rintro e w' ⟨rfl, rfl⟩
  go_wp2_with fail
  go_ret
  exact ⟨rfl, rfl⟩
instance : Inhabited Spn := ⟨⟨0, 0⟩⟩
theorem getb {l : List Spn} {j : Nat} (h : j < l.length) : l[j]? = some l[j]! := by
  rw [List.getElem?_eq_getElem h, getElem!_pos l j h]
theorem pcontf_any (A : Option Addr) (cap : Nat) (l : List Spn) (m : Int) (b : Nat) (w : World) (h : SpL w A l) (hl : l.length ≤ 1000000) (hb : b < w.heap.size) (hc : w.cell? ⟨b, 0, none⟩ = some (.int .i64 m)) :
    Calls Try.prog 37 #[.slice A l.length cap, .func (.func 38) #[] #[.pointer (some ⟨b, 0, none⟩)]] w fun e w' => e = .returned (.bool (anyS l m)) ∧ Below w.heap.size w w' := by
  cases l with
  | nil => exact (pcontf_nil A cap _ w).mono fun e w' ⟨he, hw⟩ => ⟨he, hw ▸ Below.refl _ _⟩
  | cons x r =>
    obtain ⟨g, o, rfl, hg, hcell⟩ := h (by simp)
    generalize hL : x :: r = L at *
    have eg : ∀ args w, (callFunc 38 args).run Try.prog w = .ok (.enter 38 args) w := enters_of Try.func38 (by kernel_rfl) rfl
    have hp : PredBelow Try.prog 38 #[.pointer (some ⟨b, 0, none⟩)] (fun s : Spn => .agg (spC s).toArray) (fun s => inS s m) w := fun W s hB =>
      (pcont1_any s.lo s.hi m b W (Nat.lt_of_lt_of_le hb hB.size) ((hB.cell (p := ⟨b, 0, none⟩) hb).trans hc)).mono fun e w' ⟨he, hw⟩ => ⟨he, by rw [hw]; exact hB.alloc hB.size _⟩
    have hcon := AnyQ.slices_ContainsFunc layCf 2 Try.isAgg34 Try.sizeOf34 spC (fun _ => rfl) (fun s => inS s m) 38 #[.pointer (some ⟨b, 0, none⟩)] eg g o L.length cap L w hp (Nat.le_refl _) (by omega) hg (fun j hj i v hi => by
      have hcj := hcell j _ (getb hj)
      generalize L[j]! = y at hi hcj
      match i, hi with
      | 0, hi => simp [spC] at hi; rw [← hi]; exact hcj.1
      | 1, hi => simp [spC] at hi; rw [← hi]; exact hcj.2
      | i + 2, hi => simp [spC] at hi)
    rw [List.take_length] at hcon
    exact hcon

set_option maxRecDepth 20000 in
theorem pcontains_any (A : Option Addr) (cap : Nat) (l : List Spn) (m : Int) (w : World) (h : SpL w A l) (hl : l.length ≤ 1000000) :
    Calls Try.prog 18 #[.slice A l.length cap, .int .i64 m] w fun e w' => e = .returned (.bool (memS 4294967296 l m)) ∧ Below w.heap.size w w' := by
  have hb0 := below_alloc5 w (.cells #[.int .i64 m] 3)
  have HC := Lib.hid (pcontf_any A cap l m w.heap.size (w.alloc (.cells #[.int .i64 m] 3)) (h.kept hb0) hl (alloc_lt5 w _) ((Cells.cell (show Cells (w.alloc (.cells #[.int .i64 m] 3)) w.heap.size 3 #[.int .i64 m] from heap_alloc_new w _) 0).trans rfl))
  have HB := Lib.hid hb0
  obtain ⟨n, hn⟩ : ∃ n, n = l.length := ⟨_, rfl⟩
  rw [← hn] at HC ⊢
  obtain ⟨C, hC⟩ : ∃ C, C = memS 4294967296 l m := ⟨_, rfl⟩
  rw [← hC]
  unfold memS at hC
  clear h hl hn hb0
  by_cases h0 : m < 0
  · obtain rfl : C = false := by rw [hC, show decide (0 ≤ m) = false by simp; omega]; rfl
    have d0 : decide (m < 0) = true := by simpa using h0
    clear hC HC
    go_enter Try.func18, Try.ntmps18
    go_wp2_with fail
    go_ret
    exact ⟨rfl, HB.out⟩
  have d0 : decide (m < 0) = false := by simpa using h0
  by_cases h1 : 4294967296 < m
  · obtain rfl : C = false := by rw [hC, show decide (m ≤ 4294967296) = false by simp; omega]; simp
    have d1 : decide (4294967296 < m) = true := by simpa using h1
    clear hC HC
    go_enter Try.func18, Try.ntmps18
    go_wp2_with fail
    go_ret
    exact ⟨rfl, HB.out⟩
  have d1 : decide (4294967296 < m) = false := by simpa using h1
  rw [show decide (0 ≤ m) = true by simp; omega, show decide (m ≤ 4294967296) = true by simp; omega, Bool.true_and, Bool.true_and] at hC
  rw [← hC] at HC
  clear hC
  go_enter Try.func18, Try.ntmps18
  go_wp2_with fail
  refine HC.out.mono ?_
  rintro e w' ⟨rfl, hb⟩
  have HB2 := Lib.hid (HB.out.trans (hb.mono HB.out.size))
  clear hb
  go_wp2_with fail
  go_ret
  exact ⟨rfl, HB2.out⟩
end Go.Proofs.Ytlmjfbgigfmdhaa
