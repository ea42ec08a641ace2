/- Contracts of the program of layer 5: Union, Intersect, Minus, Complement, Subset. -/
import Derived.Test.YtlmjfbgigfmdhaaIntComb
import Derived.Test.YtlmjfbgigfmdhaaIntPCnt
namespace Go.Proofs.Ytlmjfbgigfmdhaa
open Go.ChangeShapes Go.WideShapes Go.ChangeAt Go.RowKit
set_option linter.unusedVariables false

theorem por_any (x y : Bool) (W : World) : Calls Try.prog 40 #[.bool x, .bool y] W fun e w' => e = .returned (.bool (x || y)) ∧ w' = W := by
  cases x <;> cases y <;> (go_enter Try.func40, Try.ntmps40; go_wp2_with fail; go_ret; exact ⟨rfl, rfl⟩)
theorem pand_any (x y : Bool) (W : World) : Calls Try.prog 41 #[.bool x, .bool y] W fun e w' => e = .returned (.bool (x && y)) ∧ w' = W := by
  cases x <;> cases y <;> (go_enter Try.func41, Try.ntmps41; go_wp2_with fail; go_ret; exact ⟨rfl, rfl⟩)
theorem pbut_any (x y : Bool) (W : World) : Calls Try.prog 42 #[.bool x, .bool y] W fun e w' => e = .returned (.bool (x && !y)) ∧ w' = W := by
  cases x <;> cases y <;> (go_enter Try.func42, Try.ntmps42; go_wp2_with fail; go_ret; exact ⟨rfl, rfl⟩)
set_option maxRecDepth 20000 in
theorem punion_any (A1 A2 : Option Addr) (c1 c2 : Nat) (a b : List Spn) (w : World) (h1 : SpL w A1 a) (h2 : SpL w A2 b) (hl1 : a.length ≤ 90000) (hl2 : b.length ≤ 90000) :
    Calls Try.prog 22 #[.slice A1 a.length c1, .slice A2 b.length c2] w (SetP w (fun m => memS 4294967296 a m || memS 4294967296 b m) (2 * (a.length + b.length))) := by
  have HC := Lib.hid (pcombine_any 40 (fun x y => x || y) (enters_of Try.func40 (by kernel_rfl) rfl) por_any rfl A1 A2 c1 c2 a b w h1 h2 hl1 hl2)
  generalize a.length = la at *
  generalize b.length = lb at *
  clear h1 h2 hl1 hl2
  go_enter Try.func22, Try.ntmps22
  go_wp2_with fail
  refine HC.out.mono ?_
  rintro e w5 ⟨L, A, c, g1, g2, g3, rfl, g5, g6⟩
  go_wp2_with fail
  go_ret
  exact ⟨L, A, c, g1, g2, g3, rfl, g5, g6⟩
set_option maxRecDepth 20000 in
theorem pinter_any (A1 A2 : Option Addr) (c1 c2 : Nat) (a b : List Spn) (w : World) (h1 : SpL w A1 a) (h2 : SpL w A2 b) (hl1 : a.length ≤ 90000) (hl2 : b.length ≤ 90000) :
    Calls Try.prog 24 #[.slice A1 a.length c1, .slice A2 b.length c2] w (SetP w (fun m => memS 4294967296 a m && memS 4294967296 b m) (2 * (a.length + b.length))) := by
  have HC := Lib.hid (pcombine_any 41 (fun x y => x && y) (enters_of Try.func41 (by kernel_rfl) rfl) pand_any rfl A1 A2 c1 c2 a b w h1 h2 hl1 hl2)
  generalize a.length = la at *
  generalize b.length = lb at *
  clear h1 h2 hl1 hl2
  go_enter Try.func24, Try.ntmps24
  go_wp2_with fail
  refine HC.out.mono ?_
  rintro e w5 ⟨L, A, c, g1, g2, g3, rfl, g5, g6⟩
  go_wp2_with fail
  go_ret
  exact ⟨L, A, c, g1, g2, g3, rfl, g5, g6⟩
set_option maxRecDepth 20000 in
theorem pminus_any (A1 A2 : Option Addr) (c1 c2 : Nat) (a b : List Spn) (w : World) (h1 : SpL w A1 a) (h2 : SpL w A2 b) (hl1 : a.length ≤ 90000) (hl2 : b.length ≤ 90000) :
    Calls Try.prog 26 #[.slice A1 a.length c1, .slice A2 b.length c2] w (SetP w (fun m => memS 4294967296 a m && !memS 4294967296 b m) (2 * (a.length + b.length))) := by
  have HC := Lib.hid (pcombine_any 42 (fun x y => x && !y) (enters_of Try.func42 (by kernel_rfl) rfl) pbut_any rfl A1 A2 c1 c2 a b w h1 h2 hl1 hl2)
  generalize a.length = la at *
  generalize b.length = lb at *
  clear h1 h2 hl1 hl2
  go_enter Try.func26, Try.ntmps26
  go_wp2_with fail
  refine HC.out.mono ?_
  rintro e w5 ⟨L, A, c, g1, g2, g3, rfl, g5, g6⟩
  go_wp2_with fail
  go_ret
  exact ⟨L, A, c, g1, g2, g3, rfl, g5, g6⟩
theorem spl_one (w : World) (lo hi : Int) : SpL (w.alloc (.cells #[.int .i64 lo, .int .i64 hi] 34)) (some ⟨w.heap.size, 0, none⟩) [⟨lo, hi⟩] := fun _ =>
  ⟨w.heap.size, 0, rfl, alloc_lt5 w _, fun i s hs => by
    match i, hs with
    | 0, hs =>
      simp at hs
      subst hs
      exact ⟨(sb2_new w lo hi).c0, (sb2_new w lo hi).c1⟩⟩
theorem memS_one (lo hi m : Int) : memS 4294967296 [⟨lo, hi⟩] m = (decide (max lo 0 ≤ m) && decide (m ≤ min hi 4294967296)) := by
  unfold memS
  rw [Bool.eq_iff_iff]
  simp only [anyS, List.any_cons, List.any_nil, Bool.or_false, inS, Bool.and_eq_true, decide_eq_true_eq]
  omega
set_option maxRecDepth 20000 in
theorem pcomp_any (A : Option Addr) (cap : Nat) (l : List Spn) (lo hi : Int) (w : World) (h : SpL w A l) (hl : l.length ≤ 90000) :
    Calls Try.prog 28 #[.slice A l.length cap, .int .i64 lo, .int .i64 hi] w (SetP w (fun m => decide (max lo 0 ≤ m) && decide (m ≤ min hi 4294967296) && !memS 4294967296 l m) (2 * (1 + l.length))) := by
  have HC := Lib.hid (pminus_any (some ⟨w.heap.size, 0, none⟩) A 1 cap [⟨lo, hi⟩] l (w.alloc (.cells #[.int .i64 lo, .int .i64 hi] 34)) (spl_one w lo hi) (h.kept (below_alloc5 w _)) (by simp) hl)
  have HM := Lib.hid (show ∀ m, (memS 4294967296 [⟨lo, hi⟩] m && !memS 4294967296 l m) = (decide (max lo 0 ≤ m) && decide (m ≤ min hi 4294967296) && !memS 4294967296 l m) from fun m => by rw [memS_one])
  have HB := Lib.hid (below_alloc5 w (.cells #[.int .i64 lo, .int .i64 hi] 34))
  rw [show ([⟨lo, hi⟩] : List Spn).length = 1 from rfl] at HC
  generalize l.length = ll at *
  clear h hl
  go_enter Try.func28, Try.ntmps28
  go_wp2_with fail
  refine HC.out.mono ?_
  intro e w5 hset
  obtain ⟨L, A5, c5, g1, g2, g3, rfl, g5, g6⟩ := SetP.back HB.out hset HM.out (Nat.le_refl _)
  go_wp2_with fail
  go_ret
  exact ⟨L, A5, c5, g1, g2, g3, rfl, g5, g6⟩
set_option maxRecDepth 20000 in
theorem psubset_any (A1 A2 : Option Addr) (c1 c2 : Nat) (a b : List Spn) (w : World) (h1 : SpL w A1 a) (h2 : SpL w A2 b) (hl1 : a.length ≤ 90000) (hl2 : b.length ≤ 90000) :
    Calls Try.prog 20 #[.slice A1 a.length c1, .slice A2 b.length c2] w (SubP w (fun m => memS 4294967296 a m && !memS 4294967296 b m)) := by
  have HC := Lib.hid (pminus_any A1 A2 c1 c2 a b w h1 h2 hl1 hl2)
  generalize a.length = la at *
  generalize b.length = lb at *
  clear h1 h2 hl1 hl2
  go_enter Try.func20, Try.ntmps20
  go_wp2_with fail
  refine HC.out.mono ?_
  rintro e w1 ⟨L, A, c, ok, any, le, rfl, own, hb⟩
  have HF := Lib.hid (And.intro ok (And.intro any hb))
  obtain ⟨R, hR⟩ : ∃ R, R = decide (L.length = 0) := ⟨_, rfl⟩
  have HR := Lib.hid hR
  obtain ⟨nl, hnl⟩ : ∃ n, n = L.length := ⟨_, rfl⟩
  rw [← hnl] at hR ⊢
  clear ok any own hb HC hnl
  by_cases h0 : nl = 0
  · obtain rfl : R = true := by rw [hR]; simpa using h0
    have d0 : ((nl : Int) == 0) = true := by simp; omega
    subst h0
    clear hR le
    go_wp2_with fail
    go_ret
    exact ⟨L, HF.out.1, HF.out.2.1, congrArg (fun x => Ending.returned (.bool x)) HR.out, HF.out.2.2⟩
  · obtain rfl : R = false := by rw [hR]; simpa using h0
    have d0 : ((nl : Int) == 0) = false := by simp; omega
    clear hR le
    go_wp2_with fail
    go_ret
    exact ⟨L, HF.out.1, HF.out.2.1, congrArg (fun x => Ending.returned (.bool x)) HR.out, HF.out.2.2⟩
end Go.Proofs.Ytlmjfbgigfmdhaa
