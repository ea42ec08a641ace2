/- Contracts of the functions, part 42: Ip4Same, Ip4Law. -/
import Derived.Deep.QuietTactic
import Derived.Test.YtimilcjlogcfhaaPE18
import Derived.Test.YtimilcjlogcfhaaPE29
/- Contracts of the law package of layer 11: sameOptions and same, of equal packets. -/
namespace Go.Proofs.Ytimilcjlogcfhaa
open Go.ChangeShapes Go.WideShapes Go.ChangeAt Go.RowKit
set_option linter.unusedVariables false

theorem below_drewN11 {b : Nat} {w w' : World} (h : Below b w w') (q : Nat) : Below b w (w'.drewN q) := ⟨h.os, h.tape, h.output, h.size, h.block⟩
set_option maxHeartbeats 4000000 in
set_option maxRecDepth 20000 in
theorem sameOps_any (l : List OpR) (A1 A2 : Option Addr) (c1 c2 : Nat) (w : World) (h1 : RowL EOpt w A1 l) (h2 : RowL EOpt w A2 l) (hn : l.length ≤ 1000000) :
    Calls Try.prog 31 #[.slice A1 l.length c1, .slice A2 l.length c2] w fun e w' => e = .returned (.bool true) ∧ Below w.heap.size w w' := by
  obtain ⟨n, hnl⟩ : ∃ n, n = l.length := ⟨_, rfl⟩
  rw [← hnl] at hn ⊢
  have HN := Lib.hid hnl
  have H1 := Lib.hid h1
  have H2 := Lib.hid h2
  clear hnl h1 h2
  go_enter Try.func31, Try.ntmps31
  go_wp2_with fail
  go_loopw [13] (fun i wr => ∃ k : Nat, k ≤ n ∧ i = .int .i64 k ∧ Hid (Below w.heap.size w wr)) (fun i _ => n - (intOf i).toNat)
  case atStart => exact ⟨0, Nat.zero_le _, rfl, Lib.hid (Below.refl _ _)⟩
  case round =>
    obtain ⟨k, hk, rfl, HB⟩ := hrel
    by_cases hlt : k < n
    · obtain ⟨x, hget⟩ : ∃ x, l[k]? = some x := ⟨l[k]'(by have := HN.out; omega), List.getElem?_eq_getElem _⟩
      obtain ⟨ga, oa, rfl, hga⟩ := H1.out.shapeA (by have := HN.out; omega)
      obtain ⟨gb, ob, rfl, hgb⟩ := H2.out.shapeA (by have := HN.out; omega)
      obtain ⟨a0, a1⟩ := opt_at H1.out hget HB.out
      obtain ⟨b0, b1⟩ := opt_at H2.out hget HB.out
      have hki : (k : Int) < (n : Int) := by omega
      have dlt : decide ((k : Int) < (n : Int)) = true := by simp; omega
      have hki0 : (0 : Int) ≤ (k : Int) := by omega
      generalize str x.dat = D at *
      generalize x.kd = T at *
      clear hget
      go_wp2_with fail
      go_quiet (fail)
      have HB2 := Lib.hid (below_drewN11 HB.out nq)
      clear HB a0 b0 a1 b1
      generalize wr.drewN nq = w2 at *
      go_wp2_with fail
      go_roundw
      case rel => exact ⟨k + 1, by omega, by go_num, HB2⟩
      case measure => simp [intOf]; omega
    · obtain rfl : k = n := by omega
      have hd : decide ((k : Int) < (k : Int)) = false := by simp
      go_wp2_with fail
      go_ret
      exact ⟨rfl, HB.out⟩
/-! same -/
theorem twoS_below (w : World) (a b : Obj) : Below w.heap.size w ((w.alloc a).alloc b) := ((Below.refl _ w).alloc (Nat.le_refl _) a).alloc (by simp) b
set_option maxHeartbeats 8000000 in
set_option maxRecDepth 20000 in
theorem same11_any (x : Ip4R) (A1 A2 : Option Addr) (c1 c2 : Nat) (w : World) (h1 : RowL EOpt w A1 x.ops) (h2 : RowL EOpt w A2 x.ops) (hn : x.ops.length ≤ 1000000) :
    Calls Try.prog 13 #[.agg #[.int .i64 x.tos, .int .i64 x.id, .int .i64 x.ttl, .int .i64 x.proto, .bool x.dont, .bool x.more, .int .i64 x.off, .bool x.src.v6, .int .u64 (x.src.hi : Int), .int .u64 (x.src.lo : Int), .bool x.dst.v6, .int .u64 (x.dst.hi : Int), .int .u64 (x.dst.lo : Int), .slice A1 x.ops.length c1, .string (str x.pay)], .agg #[.int .i64 x.tos, .int .i64 x.id, .int .i64 x.ttl, .int .i64 x.proto, .bool x.dont, .bool x.more, .int .i64 x.off, .bool x.src.v6, .int .u64 (x.src.hi : Int), .int .u64 (x.src.lo : Int), .bool x.dst.v6, .int .u64 (x.dst.hi : Int), .int .u64 (x.dst.lo : Int), .slice A2 x.ops.length c2, .string (str x.pay)]] w fun e w' => e = .returned (.bool true) ∧ Below w.heap.size w w' := by
  obtain ⟨tos, id, ttl, proto, dont, more, off, ⟨sv, sh, sl⟩, ⟨dv, dh, dl⟩, l, pay⟩ := x
  simp only at *
  have HSO := Lib.hid (fun (W : World) (hb : Below w.heap.size w W) => sameOps_any l A1 A2 c1 c2 W (h1.kept hb) (h2.kept hb) hn)
  obtain ⟨n, hnl⟩ : ∃ n, n = l.length := ⟨_, rfl⟩
  rw [← hnl] at HSO hn ⊢
  generalize str pay = P at *
  obtain ⟨W1, hW1⟩ : ∃ W, W = (w.alloc (.cells #[.int .i64 tos, .int .i64 id, .int .i64 ttl, .int .i64 proto, .bool dont, .bool more, .int .i64 off, .bool sv, .int .u64 (sh : Int), .int .u64 (sl : Int), .bool dv, .int .u64 (dh : Int), .int .u64 (dl : Int), .slice A1 n c1, .string P] 28)).alloc (.cells #[.int .i64 tos, .int .i64 id, .int .i64 ttl, .int .i64 proto, .bool dont, .bool more, .int .i64 off, .bool sv, .int .u64 (sh : Int), .int .u64 (sl : Int), .bool dv, .int .u64 (dh : Int), .int .u64 (dl : Int), .slice A2 n c2, .string P] 28) := ⟨_, rfl⟩
  obtain ⟨g, hg⟩ : ∃ g, g = w.heap.size := ⟨_, rfl⟩
  obtain ⟨g2, hg2⟩ : ∃ g, g = w.heap.size + 1 := ⟨_, rfl⟩
  have HX := Lib.hid (show Cells W1 g 28 #[.int .i64 tos, .int .i64 id, .int .i64 ttl, .int .i64 proto, .bool dont, .bool more, .int .i64 off, .bool sv, .int .u64 (sh : Int), .int .u64 (sl : Int), .bool dv, .int .u64 (dh : Int), .int .u64 (dl : Int), .slice A1 n c1, .string P] by rw [hW1, hg]; exact (Cells.kept (heap_alloc_new w _) (below_alloc6 _ _) (by simp)))
  have HY := Lib.hid (show Cells W1 g2 28 #[.int .i64 tos, .int .i64 id, .int .i64 ttl, .int .i64 proto, .bool dont, .bool more, .int .i64 off, .bool sv, .int .u64 (sh : Int), .int .u64 (sl : Int), .bool dv, .int .u64 (dh : Int), .int .u64 (dl : Int), .slice A2 n c2, .string P] by rw [hW1, hg2]; exact heap2 w _ _)
  have HB1 := Lib.hid (show Below w.heap.size w W1 by rw [hW1]; exact twoS_below w _ _)
  have HW := Lib.hid (fun (W : World) (hb : Below W1.heap.size W1 W) => HB1.out.trans (hb.mono HB1.out.size))
  have x0 := box_cell HX.out (Below.refl _ _) 0 (.int .i64 tos) rfl
  have y0 := box_cell HY.out (Below.refl _ _) 0 (.int .i64 tos) rfl
  have x1 := box_cell HX.out (Below.refl _ _) 1 (.int .i64 id) rfl
  have y1 := box_cell HY.out (Below.refl _ _) 1 (.int .i64 id) rfl
  have x2 := box_cell HX.out (Below.refl _ _) 2 (.int .i64 ttl) rfl
  have y2 := box_cell HY.out (Below.refl _ _) 2 (.int .i64 ttl) rfl
  have x3 := box_cell HX.out (Below.refl _ _) 3 (.int .i64 proto) rfl
  have y3 := box_cell HY.out (Below.refl _ _) 3 (.int .i64 proto) rfl
  have x4 := box_cell HX.out (Below.refl _ _) 4 (.bool dont) rfl
  have y4 := box_cell HY.out (Below.refl _ _) 4 (.bool dont) rfl
  have x5 := box_cell HX.out (Below.refl _ _) 5 (.bool more) rfl
  have y5 := box_cell HY.out (Below.refl _ _) 5 (.bool more) rfl
  have x6 := box_cell HX.out (Below.refl _ _) 6 (.int .i64 off) rfl
  have y6 := box_cell HY.out (Below.refl _ _) 6 (.int .i64 off) rfl
  have x7 := box_cell HX.out (Below.refl _ _) 7 (.bool sv) rfl
  have y7 := box_cell HY.out (Below.refl _ _) 7 (.bool sv) rfl
  have x8 := box_cell HX.out (Below.refl _ _) 8 (.int .u64 (sh : Int)) rfl
  have y8 := box_cell HY.out (Below.refl _ _) 8 (.int .u64 (sh : Int)) rfl
  have x9 := box_cell HX.out (Below.refl _ _) 9 (.int .u64 (sl : Int)) rfl
  have y9 := box_cell HY.out (Below.refl _ _) 9 (.int .u64 (sl : Int)) rfl
  have x10 := box_cell HX.out (Below.refl _ _) 10 (.bool dv) rfl
  have y10 := box_cell HY.out (Below.refl _ _) 10 (.bool dv) rfl
  have x11 := box_cell HX.out (Below.refl _ _) 11 (.int .u64 (dh : Int)) rfl
  have y11 := box_cell HY.out (Below.refl _ _) 11 (.int .u64 (dh : Int)) rfl
  have x12 := box_cell HX.out (Below.refl _ _) 12 (.int .u64 (dl : Int)) rfl
  have y12 := box_cell HY.out (Below.refl _ _) 12 (.int .u64 (dl : Int)) rfl
  have x13 := box_cell HX.out (Below.refl _ _) 13 (.slice A1 n c1) rfl
  have y13 := box_cell HY.out (Below.refl _ _) 13 (.slice A2 n c2) rfl
  have x14 := box_cell HX.out (Below.refl _ _) 14 (.string P) rfl
  have y14 := box_cell HY.out (Below.refl _ _) 14 (.string P) rfl
  clear hnl h1 h2
  go_enter Try.func13, Try.ntmps13
  go_wp2_with fail
  rw [← hW1, ← hg2, ← hg]
  clear hW1 hg hg2
  refine (HSO.out _ HB1.out).mono ?_
  rintro e w2 ⟨rfl, hb2⟩
  have HB2 := Lib.hid (HW.out _ hb2)
  clear x0 x1 x2 x3 x4 x5 x6 x7 x8 x9 x10 x11 x12 x13 x14 y0 y1 y2 y3 y4 y5 y6 y7 y8 y9 y10 y11 y12 y13 y14 hb2
  go_wp2_with fail
  go_ret
  exact ⟨rfl, HB2.out⟩
end Go.Proofs.Ytimilcjlogcfhaa

/- Contracts of the law package of layer 11: large and example. -/
namespace Go.Proofs.Ytimilcjlogcfhaa
open Go.ChangeShapes Go.WideShapes Go.ChangeAt Go.RowKit
set_option linter.unusedVariables false

def largeI (p : Ip4R) : Prop := 70000 < p.pay.length ∨ 60 < p.ops.length
instance (p : Ip4R) : Decidable (largeI p) := inferInstanceAs (Decidable (_ ∨ _))
set_option maxHeartbeats 4000000 in
set_option maxRecDepth 20000 in
theorem large_raw (tos id ttl proto off : Int) (dont more sv dv : Bool) (sh sl dh dl n c : Nat) (A : Option Addr) (P : ByteArray) (w : World) :
    Calls Try.prog 14 #[.agg #[.int .i64 tos, .int .i64 id, .int .i64 ttl, .int .i64 proto, .bool dont, .bool more, .int .i64 off, .bool sv, .int .u64 (sh : Int), .int .u64 (sl : Int), .bool dv, .int .u64 (dh : Int), .int .u64 (dl : Int), .slice A n c, .string P]] w fun e w' => e = .returned (.bool (decide (70000 < P.size ∨ 60 < n))) ∧ Below w.heap.size w w' := by
  obtain ⟨W1, hW1⟩ : ∃ W, W = w.alloc (.cells #[.int .i64 tos, .int .i64 id, .int .i64 ttl, .int .i64 proto, .bool dont, .bool more, .int .i64 off, .bool sv, .int .u64 (sh : Int), .int .u64 (sl : Int), .bool dv, .int .u64 (dh : Int), .int .u64 (dl : Int), .slice A n c, .string P] 28) := ⟨_, rfl⟩
  obtain ⟨g, hg⟩ : ∃ g, g = w.heap.size := ⟨_, rfl⟩
  have HX := Lib.hid (show Cells W1 g 28 #[.int .i64 tos, .int .i64 id, .int .i64 ttl, .int .i64 proto, .bool dont, .bool more, .int .i64 off, .bool sv, .int .u64 (sh : Int), .int .u64 (sl : Int), .bool dv, .int .u64 (dh : Int), .int .u64 (dl : Int), .slice A n c, .string P] by rw [hW1, hg]; exact heap_alloc_new w _)
  have HB1 := Lib.hid (show Below w.heap.size w W1 by rw [hW1]; exact below_alloc6 w _)
  have x13 := box_cell HX.out (Below.refl _ _) 13 (.slice A n c) rfl
  have x14 := box_cell HX.out (Below.refl _ _) 14 (.string P) rfl
  by_cases h1 : 70000 < P.size
  · rw [decide_eq_true (Or.inl h1)]
    have d1 : decide ((70000 : Int) < (P.size : Int)) = true := by simp; omega
    have d2 : (70000 : Int) < (P.size : Int) := by omega
    go_enter Try.func14, Try.ntmps14
    go_wp2_with fail
    rw [← hW1, ← hg]
    go_wp2_with fail
    go_ret
    exact ⟨rfl, hg ▸ HB1.out⟩
  · have d1 : decide ((70000 : Int) < (P.size : Int)) = false := by simp; omega
    have d2 : ¬ (70000 : Int) < (P.size : Int) := by omega
    by_cases h2 : 60 < n
    · rw [decide_eq_true (Or.inr h2)]
      have d3 : decide ((60 : Int) < (n : Int)) = true := by simp; omega
      have d4 : (60 : Int) < (n : Int) := by omega
      go_enter Try.func14, Try.ntmps14
      go_wp2_with fail
      rw [← hW1, ← hg]
      go_wp2_with fail
      go_ret
      exact ⟨rfl, hg ▸ HB1.out⟩
    · rw [decide_eq_false (show ¬ (70000 < P.size ∨ 60 < n) by omega)]
      have d3 : decide ((60 : Int) < (n : Int)) = false := by simp; omega
      have d4 : ¬ (60 : Int) < (n : Int) := by omega
      go_enter Try.func14, Try.ntmps14
      go_wp2_with fail
      rw [← hW1, ← hg]
      go_wp2_with fail
      go_ret
      exact ⟨rfl, hg ▸ HB1.out⟩
def exI : Ip4R := ⟨0, 0, 64, 17, false, false, 0, ⟨false, 0, 167772161⟩, ⟨false, 0, 167772162⟩, [], [97, 98]⟩
set_option maxHeartbeats 4000000 in
set_option maxRecDepth 20000 in
theorem example_any (w : World) :
    Calls Try.prog 24 #[] w fun e w' => e = .returned (.agg (ipC exI 0 none 0 (str [97, 98]))) ∧ Below w.heap.size w w' := by
  go_enter Try.func24, Try.ntmps24
  go_wp2_with fail
  refine bodyPost_ret (res_box1 (g := w.heap.size) (cs := #[.int .i64 0, .int .i64 0, .int .i64 64, .int .i64 17, .bool false, .bool false, .int .i64 0, .bool false, .int .u64 0, .int .u64 167772161, .bool false, .int .u64 0, .int .u64 167772162, .slice none 0 0, .string ⟨#[97, 98]⟩]) ipTy rfl _ _ rfl (heap_alloc_new w _)) rfl ?_
  exact ⟨rfl, below_alloc6 w _⟩
end Go.Proofs.Ytimilcjlogcfhaa
