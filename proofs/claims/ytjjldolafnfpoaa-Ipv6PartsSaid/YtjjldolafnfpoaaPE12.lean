/- Contracts of the functions, part 12: Ip6Sm. -/
import Derived.Deep.Cut
import Derived.Deep.QuietTactic
import Derived.Test.YtjjldolafnfpoaaPE10
import Derived.Test.YtjjldolafnfpoaaPE11
/- Contracts of the reference of layer 12: Fragment, Routed, Same, Long. -/
namespace Go.Proofs.Ytjjldolafnfpoaa
open Go.ChangeShapes Go.WideShapes Go.ChangeAt Go.RowKit
set_option linter.unusedVariables false

theorem frg6Ty : BoxTy 44 12 := ⟨⟨_, Try.underlying44⟩, by kernel_rfl⟩
theorem twoS_below6 (w : World) (a b : Obj) : Below w.heap.size w ((w.alloc a).alloc b) := ((Below.refl _ w).alloc (Nat.le_refl _) a).alloc (by simp) b
theorem below_dN12 {b : Nat} {w w' : World} (h : Below b w w') (q : Nat) : Below b w (w'.drewN q) := ⟨h.os, h.tape, h.output, h.size, h.block⟩
theorem alloc2_6 (w : World) (a b : Obj) : ((w.alloc a).alloc b).heap[w.heap.size + 1]? = some b := by
  have := heap_alloc_new (w.alloc a) b
  rwa [show (w.alloc a).heap.size = w.heap.size + 1 by simp] at this
set_option maxHeartbeats 8000000 in
set_option maxRecDepth 100000 in
theorem rfragment12_any (cls lab hops nxt id off : Int) (sv dv frg more : Bool) (sh sl dh dl : Nat) (n : Nat) (A : Option Addr) (c : Nat) (D : ByteArray) (w : World) :
    Calls Try.prog 21 #[.agg #[.int .i64 cls, .int .i64 lab, .int .i64 hops, .int .i64 nxt, .bool sv, .int .u64 (sh : Int), .int .u64 (sl : Int), .bool dv, .int .u64 (dh : Int), .int .u64 (dl : Int), .slice A n c, .bool frg, .int .i64 id, .int .i64 off, .bool more, .string D]] w fun e w' => e = .returned (.agg #[.bool sv, .int .u64 (sh : Int), .int .u64 (sl : Int), .bool dv, .int .u64 (dh : Int), .int .u64 (dl : Int), .int .i64 nxt, .int .i64 id, .int .i64 hops, .int .i64 off, .bool more, .string D]) ∧ Below w.heap.size w w' := by
  have HB0 := Lib.hid (below_alloc6 w (.cells #[.int .i64 cls, .int .i64 lab, .int .i64 hops, .int .i64 nxt, .bool sv, .int .u64 (sh : Int), .int .u64 (sl : Int), .bool dv, .int .u64 (dh : Int), .int .u64 (dl : Int), .slice A n c, .bool frg, .int .i64 id, .int .i64 off, .bool more, .string D] 28))
  go_enter Try.func21, Try.ntmps21
  go_wp2_with fail
  exact bodyPost_ret (res_box1 (g := w.heap.size + 1) (cs := #[.bool sv, .int .u64 (sh : Int), .int .u64 (sl : Int), .bool dv, .int .u64 (dh : Int), .int .u64 (dl : Int), .int .i64 nxt, .int .i64 id, .int .i64 hops, .int .i64 off, .bool more, .string D]) frg6Ty rfl _ _ rfl (alloc2_6 _ _ _)) rfl ⟨rfl, HB0.out.alloc HB0.out.size _⟩
set_option maxHeartbeats 8000000 in
set_option maxRecDepth 100000 in
theorem rrouted12_any (cls lab hops nxt id off : Int) (sv dv frg more : Bool) (sh sl dh dl : Nat) (l : List OpR) (A : Option Addr) (c : Nat) (D : ByteArray) (w : World) (h : RowL EOpt w A l) (hl : l.length ≤ 1000000000) :
    Calls Try.prog 23 #[.agg #[.int .i64 cls, .int .i64 lab, .int .i64 hops, .int .i64 nxt, .bool sv, .int .u64 (sh : Int), .int .u64 (sl : Int), .bool dv, .int .u64 (dh : Int), .int .u64 (dl : Int), .slice A l.length c, .bool frg, .int .i64 id, .int .i64 off, .bool more, .string D]] w fun e w' => e = .returned (.bool (l.any fun x => x.kd == 43)) ∧ Below w.heap.size w w' := by
  obtain ⟨Q, hR⟩ : ∃ Q, Q = l.any fun x => x.kd == 43 := ⟨_, rfl⟩
  rw [← hR]
  obtain ⟨n, hn⟩ : ∃ n, n = l.length := ⟨_, rfl⟩
  rw [← hn] at hl ⊢
  have HR := Lib.hid hR
  have HN := Lib.hid hn
  have HS := Lib.hid h
  clear hR hn h
  obtain ⟨W1, hW1⟩ : ∃ W, W = w.alloc (.cells #[.int .i64 cls, .int .i64 lab, .int .i64 hops, .int .i64 nxt, .bool sv, .int .u64 (sh : Int), .int .u64 (sl : Int), .bool dv, .int .u64 (dh : Int), .int .u64 (dl : Int), .slice A n c, .bool frg, .int .i64 id, .int .i64 off, .bool more, .string D] 28) := ⟨_, rfl⟩
  obtain ⟨g, hg⟩ : ∃ g, g = w.heap.size := ⟨_, rfl⟩
  have HX := Lib.hid (show Cells W1 g 28 #[.int .i64 cls, .int .i64 lab, .int .i64 hops, .int .i64 nxt, .bool sv, .int .u64 (sh : Int), .int .u64 (sl : Int), .bool dv, .int .u64 (dh : Int), .int .u64 (dl : Int), .slice A n c, .bool frg, .int .i64 id, .int .i64 off, .bool more, .string D] by rw [hW1, hg]; exact heap_alloc_new w _)
  have HB1 := Lib.hid (show Below w.heap.size w W1 by rw [hW1]; exact below_alloc6 w _)
  have hc := (Cells.cell HX.out 10).trans (show _ = some (Value.slice A n c) from rfl)
  go_enter Try.func23, Try.ntmps23
  go_upto_region 1 with fail
  rw [← hW1, ← hg]
  clear hW1 hg
  go_wp2_with fail
  go_loop [3] (fun i => ∃ k : Nat, i = .int .i64 (k : Int) ∧ k ≤ n ∧ Hid (((l.take k).any fun x => x.kd == 43) = false)) (fun i => n - (intOf i).toNat)
  case atStart => exact ⟨0, rfl, Nat.zero_le _, Lib.hid (by simp)⟩
  case round =>
    obtain ⟨k, rfl, hk, HK⟩ := hrel
    by_cases hlt : k < n
    · have hki : (k : Int) < (n : Int) := by omega
      have hki0 : (0 : Int) ≤ (k : Int) := by omega
      have dlt : decide ((k : Int) < (n : Int)) = true := by simp; omega
      obtain ⟨x, hget⟩ : ∃ x, l[k]? = some x := ⟨l[k]'(by have := HN.out; omega), List.getElem?_eq_getElem _⟩
      obtain ⟨g9, ob, rfl, hg9, -⟩ := HS.out (by have := HN.out; omega)
      obtain ⟨c0, -⟩ := opt_at HS.out hget HB1.out
      have hmem := List.mem_of_getElem? hget
      by_cases h1 : x.kd = 43
      · have d1 : (x.kd == 43) = true := by simp [h1]
        have HF := Lib.hid (show Q = true by rw [HR.out]; exact List.any_eq_true.2 ⟨x, hmem, d1⟩)
        clear hget hmem
        go_wp2_with fail
        go_ret
        exact ⟨by rw [HF.out]; rfl, HB1.out⟩
      · have d1 : (x.kd == 43) = false := by simp [h1]
        have HK1 := Lib.hid (show ((l.take (k + 1)).any fun x => x.kd == 43) = false by
          obtain ⟨hk', e⟩ := List.getElem?_eq_some_iff.1 hget
          rw [List.take_succ_eq_append_getElem hk', e, List.any_append, HK.out]
          simp [d1])
        clear hget hmem
        go_wp2_with fail
        go_round
        case rel => exact ⟨k + 1, by go_num, by omega, HK1⟩
        case measure => simp [intOf]; omega
    · obtain rfl : k = n := by omega
      have dlt : decide ((k : Int) < (k : Int)) = false := by simp
      have nlt : ¬ (k : Int) < (k : Int) := by omega
      have HT := Lib.hid (show Q = false by rw [HR.out]; have := HK.out; rw [HN.out, List.take_length] at this; exact this)
      go_wp2_with fail
      go_ret
      exact ⟨by rw [HT.out]; rfl, HB1.out⟩
def longB (l : List OpR) (pay most : Nat) : Bool := (l.take 11).any (fun x => decide (2100 < x.dat.length)) || decide (10 < l.length ∨ most < pay)
set_option maxHeartbeats 8000000 in
set_option maxRecDepth 100000 in
theorem rlong12_any (cls lab hops nxt id off : Int) (sv dv frg more : Bool) (sh sl dh dl : Nat) (l : List OpR) (A : Option Addr) (c : Nat) (D : ByteArray) (most : Nat) (M : Int) (hM : (most : Int) = M) (w : World) (h : RowL EOpt w A l) (hl : l.length ≤ 9223372036854775807) (hd : ∀ x ∈ l, x.dat.length ≤ 4611686018427387904) (hp : D.size ≤ 9223372036854775807) :
    Calls Try.prog 14 #[.agg #[.int .i64 cls, .int .i64 lab, .int .i64 hops, .int .i64 nxt, .bool sv, .int .u64 (sh : Int), .int .u64 (sl : Int), .bool dv, .int .u64 (dh : Int), .int .u64 (dl : Int), .slice A l.length c, .bool frg, .int .i64 id, .int .i64 off, .bool more, .string D], .int .i64 M] w fun e w' => e = .returned (.bool (longB l D.size most)) ∧ Below w.heap.size w w' := by
  subst hM
  obtain ⟨Q, hR⟩ : ∃ Q, Q = longB l D.size most := ⟨_, rfl⟩
  rw [← hR]
  obtain ⟨n, hn⟩ : ∃ n, n = l.length := ⟨_, rfl⟩
  rw [← hn] at hl ⊢
  have HR := Lib.hid hR
  have HN := Lib.hid hn
  have HS := Lib.hid h
  have HD := Lib.hid hd
  clear hR hn h hd
  obtain ⟨W1, hW1⟩ : ∃ W, W = w.alloc (.cells #[.int .i64 cls, .int .i64 lab, .int .i64 hops, .int .i64 nxt, .bool sv, .int .u64 (sh : Int), .int .u64 (sl : Int), .bool dv, .int .u64 (dh : Int), .int .u64 (dl : Int), .slice A n c, .bool frg, .int .i64 id, .int .i64 off, .bool more, .string D] 28) := ⟨_, rfl⟩
  obtain ⟨g, hg⟩ : ∃ g, g = w.heap.size := ⟨_, rfl⟩
  have HX := Lib.hid (show Cells W1 g 28 #[.int .i64 cls, .int .i64 lab, .int .i64 hops, .int .i64 nxt, .bool sv, .int .u64 (sh : Int), .int .u64 (sl : Int), .bool dv, .int .u64 (dh : Int), .int .u64 (dl : Int), .slice A n c, .bool frg, .int .i64 id, .int .i64 off, .bool more, .string D] by rw [hW1, hg]; exact heap_alloc_new w _)
  have HB1 := Lib.hid (show Below w.heap.size w W1 by rw [hW1]; exact below_alloc6 w _)
  have hc := (Cells.cell HX.out 10).trans (show _ = some (Value.slice A n c) from rfl)
  have hc5 := (Cells.cell HX.out 15).trans (show _ = some (Value.string D) from rfl)
  go_enter Try.func14, Try.ntmps14
  go_upto_region 1 with fail
  rw [← hW1, ← hg]
  clear hW1 hg
  go_wp2_with fail
  go_loop [5] (fun i => ∃ k : Nat, i = .int .i64 (k : Int) ∧ k ≤ n ∧ k ≤ 11 ∧ Hid (((l.take k).any fun x => decide (2100 < x.dat.length)) = false)) (fun i => n - (intOf i).toNat)
  case atStart => exact ⟨0, rfl, Nat.zero_le _, Nat.zero_le _, Lib.hid (by simp)⟩
  case round =>
    obtain ⟨k, rfl, hk, hk11, HK⟩ := hrel
    by_cases hlt : k < n ∧ k < 11
    · obtain ⟨hlt, hlt2⟩ := hlt
      have hki : (k : Int) < (n : Int) := by omega
      have hki2 : (k : Int) < 11 := by omega
      have hki0 : (0 : Int) ≤ (k : Int) := by omega
      have dlt : decide ((k : Int) < (n : Int)) = true := by simp; omega
      have dlt2 : decide ((k : Int) < 11) = true := by simp; omega
      obtain ⟨x, hget⟩ : ∃ x, l[k]? = some x := ⟨l[k]'(by have := HN.out; omega), List.getElem?_eq_getElem _⟩
      obtain ⟨g9, ob, rfl, hg9, -⟩ := HS.out (by have := HN.out; omega)
      obtain ⟨-, c0⟩ := opt_at HS.out hget HB1.out
      have hmem := List.mem_of_getElem? hget
      have hxl := HD.out x hmem
      obtain ⟨S, hS⟩ : ∃ S, S = str x.dat := ⟨_, rfl⟩
      have hSz : S.size = x.dat.length := by rw [hS, str_size]
      rw [← hS] at c0
      have hSl : S.size ≤ 4611686018427387904 := by omega
      by_cases h1 : 2100 < x.dat.length
      · have d1 : decide ((2100 : Int) < (S.size : Int)) = true := by simp; omega
        have d2 : (2100 : Int) < (S.size : Int) := by omega
        have HF := Lib.hid (show Q = true by
          rw [HR.out]
          unfold longB
          rw [Bool.or_eq_true]
          left
          refine List.any_eq_true.2 ⟨x, ?_, by simpa using h1⟩
          exact List.mem_of_getElem? (i := k) (by rw [List.getElem?_take, if_pos hlt2]; exact hget))
        clear hget hmem hS hSz hxl h1
        go_wp2_with fail
        go_ret
        exact ⟨by rw [HF.out]; rfl, HB1.out⟩
      · have d1 : decide ((2100 : Int) < (S.size : Int)) = false := by simp; omega
        have d2 : ¬ (2100 : Int) < (S.size : Int) := by omega
        have HK1 := Lib.hid (show ((l.take (k + 1)).any fun x => decide (2100 < x.dat.length)) = false by
          obtain ⟨hk', e⟩ := List.getElem?_eq_some_iff.1 hget
          rw [List.take_succ_eq_append_getElem hk', e, List.any_append, HK.out]
          simp
          omega)
        clear hget hmem hS hSz hxl h1
        go_wp2_with fail
        go_round
        case rel => exact ⟨k + 1, by go_num, by omega, by omega, HK1⟩
        case measure => simp [intOf]; omega
    · have HT := Lib.hid (show Q = decide (10 < n ∨ most < D.size) by
        rw [HR.out]
        unfold longB
        have hK := HK.out
        have e : l.take 11 = l.take k := by
          rcases Nat.lt_or_ge k 11 with h | h
          · have hkn : k = n := by omega
            rw [hkn, HN.out, List.take_length, List.take_of_length_le (by have := HN.out; omega)]
          · rw [show k = 11 by omega]
        rw [e, hK, HN.out]
        rfl)
      have hcs : (decide ((k : Int) < (n : Int)) = false ∧ ¬ (k : Int) < (n : Int)) ∨ (decide ((k : Int) < (n : Int)) = true ∧ (k : Int) < (n : Int) ∧ decide ((k : Int) < 11) = false ∧ ¬ (k : Int) < 11) := by
        simp only [decide_eq_true_eq, decide_eq_false_iff_not]
        omega
      have htail : (Q = true ∧ decide ((10 : Int) < (n : Int)) = true ∧ (10 : Int) < (n : Int)) ∨ (decide ((10 : Int) < (n : Int)) = false ∧ ¬ (10 : Int) < (n : Int) ∧ Q = true ∧ decide ((most : Int) < (D.size : Int)) = true ∧ (most : Int) < (D.size : Int)) ∨ (decide ((10 : Int) < (n : Int)) = false ∧ ¬ (10 : Int) < (n : Int) ∧ Q = false ∧ decide ((most : Int) < (D.size : Int)) = false ∧ ¬ (most : Int) < (D.size : Int)) := by
        rw [HT.out]
        simp only [decide_eq_true_eq, decide_eq_false_iff_not]
        omega
      have HTL := Lib.hid htail
      clear htail hlt
      rcases hcs with ⟨y1, y2⟩ | ⟨y1, y2, y3, y4⟩
      all_goals
        rcases HTL.out with ⟨hq, z1, z2⟩ | ⟨z1, z2, hq, z3, z4⟩ | ⟨z1, z2, hq, z3, z4⟩
        all_goals
          have HQ := Lib.hid hq
          clear hq
          try (exfalso; omega)
        all_goals
          go_wp2_with fail
          go_ret
          exact ⟨by rw [HQ.out]; rfl, HB1.out⟩
set_option maxHeartbeats 8000000 in
set_option maxRecDepth 100000 in
theorem rsame12_any (cls lab hops nxt id off : Int) (sv dv frg more : Bool) (sh sl dh dl : Nat) (l : List OpR) (A1 A2 : Option Addr) (c1 c2 : Nat) (D : ByteArray) (w : World) (h1 : RowL EOpt w A1 l) (h2 : RowL EOpt w A2 l) (hn : l.length ≤ 1000000) :
    Calls Try.prog 13 #[.agg #[.int .i64 cls, .int .i64 lab, .int .i64 hops, .int .i64 nxt, .bool sv, .int .u64 (sh : Int), .int .u64 (sl : Int), .bool dv, .int .u64 (dh : Int), .int .u64 (dl : Int), .slice A1 l.length c1, .bool frg, .int .i64 id, .int .i64 off, .bool more, .string D], .agg #[.int .i64 cls, .int .i64 lab, .int .i64 hops, .int .i64 nxt, .bool sv, .int .u64 (sh : Int), .int .u64 (sl : Int), .bool dv, .int .u64 (dh : Int), .int .u64 (dl : Int), .slice A2 l.length c2, .bool frg, .int .i64 id, .int .i64 off, .bool more, .string D]] w fun e w' => e = .returned (.bool true) ∧ Below w.heap.size w w' := by
  obtain ⟨n, hnl⟩ : ∃ n, n = l.length := ⟨_, rfl⟩
  rw [← hnl] at hn ⊢
  have HN := Lib.hid hnl
  have H1 := Lib.hid h1
  have H2 := Lib.hid h2
  clear hnl h1 h2
  obtain ⟨W1, hW1⟩ : ∃ W, W = (w.alloc (.cells #[.int .i64 cls, .int .i64 lab, .int .i64 hops, .int .i64 nxt, .bool sv, .int .u64 (sh : Int), .int .u64 (sl : Int), .bool dv, .int .u64 (dh : Int), .int .u64 (dl : Int), .slice A1 n c1, .bool frg, .int .i64 id, .int .i64 off, .bool more, .string D] 28)).alloc (.cells #[.int .i64 cls, .int .i64 lab, .int .i64 hops, .int .i64 nxt, .bool sv, .int .u64 (sh : Int), .int .u64 (sl : Int), .bool dv, .int .u64 (dh : Int), .int .u64 (dl : Int), .slice A2 n c2, .bool frg, .int .i64 id, .int .i64 off, .bool more, .string D] 28) := ⟨_, rfl⟩
  obtain ⟨g, hg⟩ : ∃ g, g = w.heap.size := ⟨_, rfl⟩
  obtain ⟨g2, hg2⟩ : ∃ g, g = w.heap.size + 1 := ⟨_, rfl⟩
  have HX := Lib.hid (show Cells W1 g 28 #[.int .i64 cls, .int .i64 lab, .int .i64 hops, .int .i64 nxt, .bool sv, .int .u64 (sh : Int), .int .u64 (sl : Int), .bool dv, .int .u64 (dh : Int), .int .u64 (dl : Int), .slice A1 n c1, .bool frg, .int .i64 id, .int .i64 off, .bool more, .string D] by rw [hW1, hg]; exact (Cells.kept (heap_alloc_new w _) (below_alloc6 _ _) (by simp)))
  have HY := Lib.hid (show Cells W1 g2 28 #[.int .i64 cls, .int .i64 lab, .int .i64 hops, .int .i64 nxt, .bool sv, .int .u64 (sh : Int), .int .u64 (sl : Int), .bool dv, .int .u64 (dh : Int), .int .u64 (dl : Int), .slice A2 n c2, .bool frg, .int .i64 id, .int .i64 off, .bool more, .string D] by rw [hW1, hg2]; exact heap2 w _ _)
  have HB1 := Lib.hid (show Below w.heap.size w W1 by rw [hW1]; exact twoS_below6 w _ _)
  have x0 := box_cell HX.out (Below.refl _ _) 0 (Value.int .i64 cls) rfl
  have y0 := box_cell HY.out (Below.refl _ _) 0 (Value.int .i64 cls) rfl
  have x1 := box_cell HX.out (Below.refl _ _) 1 (Value.int .i64 lab) rfl
  have y1 := box_cell HY.out (Below.refl _ _) 1 (Value.int .i64 lab) rfl
  have x2 := box_cell HX.out (Below.refl _ _) 2 (Value.int .i64 hops) rfl
  have y2 := box_cell HY.out (Below.refl _ _) 2 (Value.int .i64 hops) rfl
  have x3 := box_cell HX.out (Below.refl _ _) 3 (Value.int .i64 nxt) rfl
  have y3 := box_cell HY.out (Below.refl _ _) 3 (Value.int .i64 nxt) rfl
  have x4 := box_cell HX.out (Below.refl _ _) 4 (Value.bool sv) rfl
  have y4 := box_cell HY.out (Below.refl _ _) 4 (Value.bool sv) rfl
  have x5 := box_cell HX.out (Below.refl _ _) 5 (Value.int .u64 (sh : Int)) rfl
  have y5 := box_cell HY.out (Below.refl _ _) 5 (Value.int .u64 (sh : Int)) rfl
  have x6 := box_cell HX.out (Below.refl _ _) 6 (Value.int .u64 (sl : Int)) rfl
  have y6 := box_cell HY.out (Below.refl _ _) 6 (Value.int .u64 (sl : Int)) rfl
  have x7 := box_cell HX.out (Below.refl _ _) 7 (Value.bool dv) rfl
  have y7 := box_cell HY.out (Below.refl _ _) 7 (Value.bool dv) rfl
  have x8 := box_cell HX.out (Below.refl _ _) 8 (Value.int .u64 (dh : Int)) rfl
  have y8 := box_cell HY.out (Below.refl _ _) 8 (Value.int .u64 (dh : Int)) rfl
  have x9 := box_cell HX.out (Below.refl _ _) 9 (Value.int .u64 (dl : Int)) rfl
  have y9 := box_cell HY.out (Below.refl _ _) 9 (Value.int .u64 (dl : Int)) rfl
  have x10 := box_cell HX.out (Below.refl _ _) 10 (Value.slice A1 n c1) rfl
  have y10 := box_cell HY.out (Below.refl _ _) 10 (Value.slice A2 n c2) rfl
  have x11 := box_cell HX.out (Below.refl _ _) 11 (Value.bool frg) rfl
  have y11 := box_cell HY.out (Below.refl _ _) 11 (Value.bool frg) rfl
  have x12 := box_cell HX.out (Below.refl _ _) 12 (Value.int .i64 id) rfl
  have y12 := box_cell HY.out (Below.refl _ _) 12 (Value.int .i64 id) rfl
  have x13 := box_cell HX.out (Below.refl _ _) 13 (Value.int .i64 off) rfl
  have y13 := box_cell HY.out (Below.refl _ _) 13 (Value.int .i64 off) rfl
  have x14 := box_cell HX.out (Below.refl _ _) 14 (Value.bool more) rfl
  have y14 := box_cell HY.out (Below.refl _ _) 14 (Value.bool more) rfl
  have x15 := box_cell HX.out (Below.refl _ _) 15 (Value.string D) rfl
  have y15 := box_cell HY.out (Below.refl _ _) 15 (Value.string D) rfl
  go_enter Try.func13, Try.ntmps13
  go_upto_region 3 with fail
  rw [← hW1, ← hg2, ← hg]
  clear hW1 hg hg2
  clear x0 y0 x1 y1 x2 y2 x3 y3 x4 y4 x5 y5 x6 y6 x7 y7 x8 y8 x9 y9 x10 y10 x11 y11 x12 y12 x13 y13 x14 y14 x15 y15
  go_wp2_with fail
  go_loopw [5] (fun i wr => ∃ k : Nat, k ≤ n ∧ i = .int .i64 k ∧ Hid (Below W1.heap.size W1 wr)) (fun i _ => n - (intOf i).toNat)
  case atStart => exact ⟨0, Nat.zero_le _, rfl, Lib.hid (Below.refl _ _)⟩
  case round =>
    obtain ⟨k, hk, rfl, HB⟩ := hrel
    have x10 := box_cell HX.out HB.out 10 (Value.slice A1 n c1) rfl
    have y10 := box_cell HY.out HB.out 10 (Value.slice A2 n c2) rfl
    have HBW := Lib.hid (HB1.out.trans (HB.out.mono HB1.out.size))
    by_cases hlt : k < n
    · obtain ⟨x, hget⟩ : ∃ x, l[k]? = some x := ⟨l[k]'(by have := HN.out; omega), List.getElem?_eq_getElem _⟩
      obtain ⟨ga, oa, rfl, hga⟩ := H1.out.shapeA (by have := HN.out; omega)
      obtain ⟨gb, ob, rfl, hgb⟩ := H2.out.shapeA (by have := HN.out; omega)
      obtain ⟨a0, a1⟩ := opt_at H1.out hget HBW.out
      obtain ⟨b0, b1⟩ := opt_at H2.out hget HBW.out
      have hki : (k : Int) < (n : Int) := by omega
      have dlt : decide ((k : Int) < (n : Int)) = true := by simp; omega
      have hki0 : (0 : Int) ≤ (k : Int) := by omega
      generalize str x.dat = E at *
      generalize x.kd = T at *
      clear hget
      go_wp2_with fail
      go_quiet (fail)
      have HB2 := Lib.hid (below_dN12 HB.out nq)
      clear HB a0 b0 a1 b1 x10 y10 HBW
      generalize wr.drewN nq = w2 at *
      go_wp2_with fail
      go_roundw
      case rel => exact ⟨k + 1, by omega, by go_num, HB2⟩
      case measure => simp [intOf]; omega
    · obtain rfl : k = n := by omega
      have hd : decide ((k : Int) < (k : Int)) = false := by simp
      go_wp2_with fail
      go_ret
      exact ⟨rfl, HBW.out⟩
end Go.Proofs.Ytjjldolafnfpoaa
