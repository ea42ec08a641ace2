/- Contracts of the reference of layer 6 in the program's words: with; ValidPrefix. -/
import Derived.Test.YtcblgbonijloiaaDoorAdqBnd
import Derived.Test.YtcblgbonijloiaaDoorAdrCont
import Derived.Test.YtcblgbonijloiaaDoorPick
namespace Go.Proofs.YtcblgbonijloiaaDoor
open Go.ChangeShapes Go.WideShapes Go.ChangeAt Go.RowKit
set_option linter.unusedVariables false

theorem width_le (v : Bool) : width v ≤ 128 := by unfold width; split <;> omega
theorem wst_mk {v : Bool} {hi lo k hi' lo' : Nat} (h : Wst (numA hi lo) (width v) k (width v) false hi' lo') (h1 : hi < 18446744073709551616) (h2 : lo < 18446744073709551616) : hi' = mkH v k hi ∧ lo' = mkL v k lo := by
  have he := wst_end h (numA_lt h1 h2) (by have := width_le v; omega)
  rw [if_neg (by decide), ← low_cut v k h2] at he
  exact (numA_inj h.h2 (Nat.lt_of_le_of_lt (lowZ_le _ _) h2)).1 he
theorem wst_fill {v : Bool} {hi lo k hi' lo' : Nat} (h : Wst (numA hi lo) (width v) k (width v) true hi' lo') (h1 : hi < 18446744073709551616) (h2 : lo < 18446744073709551616) : hi' = lowO (frH v k) hi ∧ lo' = lowO (frL v k) lo := by
  have he := wst_end h (numA_lt h1 h2) (by have := width_le v; omega)
  rw [if_pos rfl, ← low_fill v k h2] at he
  exact (numA_inj h.h2 (lowO_lt h2 (frL_le _ _))).1 he
theorem rwithF_any (v6 : Bool) (hi lo k : Nat) (w : World) (h1 : hi < 18446744073709551616) (h2 : lo < 18446744073709551616) (hb : k ≤ width v6) :
    Calls Tryd.prog 50 #[.agg #[.bool v6, .int .u64 hi, .int .u64 lo], .int .i64 k, .bool false] w fun e w' => e = .returned (.agg #[.bool v6, .int .u64 (mkH v6 k hi : Nat), .int .u64 (mkL v6 k lo : Nat)]) ∧ Below w.heap.size w w' := by
  refine (rwith6_any v6 false hi lo k w h1 h2 hb).mono ?_
  rintro e w' ⟨⟨hi', lo', rfl, hst⟩, hbel⟩
  obtain ⟨e1, e2⟩ := wst_mk hst h1 h2
  subst e1 e2
  exact ⟨rfl, hbel⟩
theorem rwithT_any (v6 : Bool) (hi lo k : Nat) (w : World) (h1 : hi < 18446744073709551616) (h2 : lo < 18446744073709551616) (hb : k ≤ width v6) :
    Calls Tryd.prog 50 #[.agg #[.bool v6, .int .u64 hi, .int .u64 lo], .int .i64 k, .bool true] w fun e w' => e = .returned (.agg #[.bool v6, .int .u64 (lowO (frH v6 k) hi : Nat), .int .u64 (lowO (frL v6 k) lo : Nat)]) ∧ Below w.heap.size w w' := by
  refine (rwith6_any v6 true hi lo k w h1 h2 hb).mono ?_
  rintro e w' ⟨⟨hi', lo', rfl, hst⟩, hbel⟩
  obtain ⟨e1, e2⟩ := wst_fill hst h1 h2
  subst e1 e2
  exact ⟨rfl, hbel⟩
set_option maxHeartbeats 4000000 in
set_option maxRecDepth 20000 in
/-- Not an address, or a number of bits below 0. -/
theorem rvalidp_case (v6 : Bool) (hi lo : Nat) (k : Int) (w : World) (b1 : hi < 18446744073709551616) (b2 : lo < 18446744073709551616) (a d1 d2 q : Bool)
    (ha : a = vldA v6 hi lo) (hd1 : d1 = decide (0 ≤ k)) (hd2 : d2 = decide (k ≤ (width v6 : Nat))) (hq : q = (v6 == v6 && (((mkH v6 k.toNat hi : Nat) : Int) == (hi : Int) && ((mkL v6 k.toNat lo : Nat) : Int) == (lo : Int)))) :
    Calls Tryd.prog 18 #[.agg #[.bool v6, .int .u64 hi, .int .u64 lo, .int .i64 k]] w fun e w' => e = .returned (.bool (a && (d1 && d2 && q))) ∧ Below w.heap.size w w' := by
  have hm := addr_guard
  have HX := Lib.hid (pb_new w v6 hi lo k)
  have HB := Lib.hid (below_alloc6 w (.cells #[.bool v6, .int .u64 hi, .int .u64 lo, .int .i64 k] 30))
  have HV := Lib.hid (fun W => rvalid6_any v6 hi lo W)
  rw [← ha] at HV
  have HWD := Lib.hid (fun W => rwidth_any v6 hi lo W)
  have HWI := Lib.hid (fun (h : 0 ≤ k ∧ k ≤ (width v6 : Nat)) W => show Calls Tryd.prog 50 #[.agg #[.bool v6, .int .u64 hi, .int .u64 lo], .int .i64 k, .bool false] W fun e w' => e = .returned (.agg #[.bool v6, .int .u64 (mkH v6 k.toNat hi : Nat), .int .u64 (mkL v6 k.toNat lo : Nat)]) ∧ Below W.heap.size W w' from by
    have := rwithF_any v6 hi lo k.toNat W b1 b2 (by omega)
    rwa [Int.toNat_of_nonneg h.1] at this)
  have qe := fun W => addr_eql v6 v6 (mkH v6 k.toNat hi : Nat) hi (mkL v6 k.toNat lo : Nat) lo W
  rw [← hq] at qe
  generalize mkH v6 k.toNat hi = hi' at *
  generalize mkL v6 k.toNat lo = lo' at *
  generalize width v6 = wd at *
  have HD := Lib.hid (And.intro hd1 hd2)
  clear ha hd1 hd2 hq b1 b2
  go_enter Tryd.func18, Tryd.ntmps18
  go_wp2_with fail
  have x0 := HX.out.c0
  generalize w.alloc (.cells #[.bool v6, .int .u64 hi, .int .u64 lo, .int .i64 k] 30) = W at *
  refine wp_region_pick (fun w' => Below W.heap.size W w') (by kernel_rfl) (by kernel_rfl) (Below.refl _ _) ⟨rfl, rfl, rfl, Nat.le_refl _, fun _ _ => rfl⟩ (fun p hp hq => ?_)
  have p0 : ∀ u, (p u).cell? ⟨w.heap.size, 0, none⟩ = some (.bool v6) := fun u => (HX.out.kept (hp u) HX.out.lt).c0
  have p1 : ∀ u, (p u).cell? ⟨w.heap.size, 1, none⟩ = some (.int .u64 hi) := fun u => (HX.out.kept (hp u) HX.out.lt).c1
  have p2 : ∀ u, (p u).cell? ⟨w.heap.size, 2, none⟩ = some (.int .u64 lo) := fun u => (HX.out.kept (hp u) HX.out.lt).c2
  have p3 : ∀ u, (p u).cell? ⟨w.heap.size, 3, none⟩ = some (.int .i64 k) := fun u => (HX.out.kept (hp u) HX.out.lt).c3
  have HP := Lib.hid hp
  have HQ := Lib.hid hq
  clear hp hq x0
  have key : Hid (d1 = true → d2 = true → 0 ≤ k ∧ k ≤ (wd : Int)) := Lib.hid (fun h1 h2 => by
    have := HD.out
    rw [h1, h2] at this
    exact ⟨of_decide_eq_true this.1.symm, of_decide_eq_true this.2.symm⟩)
  cases a
  · repeat (go_big_quiet_step ((first | with_reducible exact Calls.pick_of HQ.out (fun W' hb => (HP.out _).trans (hb.mono (HP.out _).size)) (HV.out _))))
    refine wpQuiet_nil ?_
    rintro _ ⟨u, rfl⟩
    have HS := Lib.hid (HP.out u)
    generalize p u = W2 at *
    clear p0 p1 p2 p3 HQ HP
    go_wp2_with fail
    go_ret
    exact ⟨rfl, HB.out.trans (HS.out.mono HB.out.size)⟩
  · cases d1
    · have t1 : decide (0 ≤ k) = false := HD.out.1.symm
      repeat (go_big_quiet_step ((first | with_reducible exact Calls.pick_of HQ.out (fun W' hb => (HP.out _).trans (hb.mono (HP.out _).size)) (HV.out _))))
      refine wpQuiet_nil ?_
      rintro _ ⟨u, rfl⟩
      have HS := Lib.hid (HP.out u)
      generalize p u = W2 at *
      clear p0 p1 p2 p3 HQ HP
      go_wp2_with fail
      go_ret
      exact ⟨rfl, HB.out.trans (HS.out.mono HB.out.size)⟩
    · have t1 : decide (0 ≤ k) = true := HD.out.1.symm
      cases d2
      · have t2 : decide (k ≤ (wd : Int)) = false := HD.out.2.symm
        repeat (go_big_quiet_step ((first | with_reducible exact Calls.pick_of HQ.out (fun W' hb => (HP.out _).trans (hb.mono (HP.out _).size)) (HV.out _) | with_reducible exact Calls.pick_of HQ.out (fun W' hb => (HP.out _).trans (hb.mono (HP.out _).size)) (HWD.out _))))
        refine wpQuiet_nil ?_
        rintro _ ⟨u, rfl⟩
        have HS := Lib.hid (HP.out u)
        generalize p u = W2 at *
        clear p0 p1 p2 p3 HQ HP
        go_wp2_with fail
        go_ret
        exact ⟨rfl, HB.out.trans (HS.out.mono HB.out.size)⟩
      · have t2 : decide (k ≤ (wd : Int)) = true := HD.out.2.symm
        repeat (go_big_quiet_step ((first | with_reducible exact Calls.pick_of HQ.out (fun W' hb => (HP.out _).trans (hb.mono (HP.out _).size)) (HV.out _) | with_reducible exact Calls.pick_of HQ.out (fun W' hb => (HP.out _).trans (hb.mono (HP.out _).size)) (HWD.out _) | with_reducible exact Calls.pick_of HQ.out (fun W' hb => (HP.out _).trans (hb.mono (HP.out _).size)) (HWI.out (key.out rfl rfl) _))))
        refine wpQuiet_nil ?_
        rintro _ ⟨u, rfl⟩
        have HS := Lib.hid (HP.out u)
        generalize p u = W2 at *
        clear p0 p1 p2 p3 HQ HP
        go_wp2_with fail
        go_ret
        exact ⟨rfl, HB.out.trans (HS.out.mono HB.out.size)⟩
theorem rvalidp_any (v6 : Bool) (hi lo : Nat) (k : Int) (w : World) (b1 : hi < 18446744073709551616) (b2 : lo < 18446744073709551616) :
    Calls Tryd.prog 18 #[.agg #[.bool v6, .int .u64 hi, .int .u64 lo, .int .i64 k]] w fun e w' => e = .returned (.bool (vldP v6 hi lo k)) ∧ Below w.heap.size w w' := by
  have h := rvalidp_case v6 hi lo k w b1 b2 _ _ _ _ rfl rfl rfl rfl
  rwa [show (vldA v6 hi lo && (decide (0 ≤ k) && decide (k ≤ (width v6 : Nat)) && (v6 == v6 && (((mkH v6 k.toNat hi : Nat) : Int) == (hi : Int) && ((mkL v6 k.toNat lo : Nat) : Int) == (lo : Int))))) = vldP v6 hi lo k from by
    unfold vldP cntB
    rw [show decide (0 ≤ k ∧ k ≤ (width v6 : Nat)) = (decide (0 ≤ k) && decide (k ≤ (width v6 : Nat))) from by rw [Bool.eq_iff_iff]; simp]] at h
end Go.Proofs.YtcblgbonijloiaaDoor
