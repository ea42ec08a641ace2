/- Contracts of the functions, further part 1: SetRMask, SetRRgt, SetRBlk, SetROf, SetREv. -/
import Derived.Test.YtmcelgnifpfjpaaAOp4
import Derived.Test.YtmcelgnifpfjpaaAOp6
import Derived.Test.YtmcelgnifpfjpaaAOp7
import Derived.Test.YtmcelgnifpfjpaaAOp8
/- Contracts of the reference of layer 7: low, Mask, Size. -/
namespace Go.Proofs.Ytmcelgnifpfjpaa
open Go.ChangeShapes Go.WideShapes Go.ChangeAt Go.RowKit
set_option linter.unusedVariables false

def loM (k : Nat) : Nat := if 64 ≤ k then 18446744073709551615 else 2 ^ k - 1
theorem loM_min {k : Nat} (h : k ≤ 64) : loM k = 2 ^ min k 64 - 1 := by
  unfold loM
  by_cases c : 64 ≤ k
  · rw [if_pos c, show min k 64 = 64 by omega]
  · rw [if_neg c, show min k 64 = k by omega]
theorem rlow_any (k : Nat) (w : World) (hk : k ≤ 1000) :
    Calls Try.prog 88 #[.int .i64 k] w fun e w' => e = .returned (.int .u64 (loM k)) ∧ w' = w := by
  by_cases h : 64 ≤ k
  · have d : decide ((k : Int) ≥ 64) = true := decide_eq_true (by omega)
    have hi : (64 : Int) ≤ (k : Int) := by omega
    unfold loM
    rw [if_pos h]
    go_enter Try.func88, Try.ntmps88
    go_wp2_with fail
    go_ret
    exact ⟨rfl, rfl⟩
  · have d : decide ((k : Int) ≥ 64) = false := decide_eq_false (by omega)
    have hi : ¬ (64 : Int) ≤ (k : Int) := by omega
    have h0 : (0 : Int) ≤ (k : Int) := by omega
    have hp : 2 ^ k ≤ 2 ^ 63 := Nat.pow_le_pow_right (by omega) (by omega)
    have hp1 : 0 < 2 ^ k := Nat.two_pow_pos k
    have e2 : (2 : Int) ^ k = ((2 ^ k : Nat) : Int) := by simp
    have hw : IntKind.u64.wrap (IntKind.u64.wrap ((2 : Int) ^ k) - 1) = ((2 ^ k - 1 : Nat) : Int) := by
      rw [e2]
      generalize 2 ^ k = q at *
      have h1 : IntKind.u64.wrap (q : Int) = (q : Int) := IntWalk.u64_in _ (by omega)
      rw [h1, show (q : Int) - 1 = ((q - 1 : Nat) : Int) by omega]
      exact IntWalk.u64_in _ (by omega)
    clear hp hp1 e2
    unfold loM
    rw [if_neg h]
    obtain ⟨q, hq⟩ : ∃ q, q = 2 ^ k - 1 := ⟨_, rfl⟩
    rw [← hq] at hw ⊢
    clear hq
    go_enter Try.func88, Try.ntmps88
    go_wp2_with fail
    go_ret
    exact ⟨by simp, rfl⟩
theorem res_two7 {fn : Func} {p u : Tmp} (h : fn.results = #[.tmp p, .tmp u]) (tmps : Array Value) (w : World) : (results fn tmps).run Try.prog w = .ok (.tuple #[tmps.getD p undef, tmps.getD u undef]) w := by
  simp [results, h]
/-- The two numbers of an address whose lowest k bits are 1. -/
theorem rmask_any (k : Nat) (w : World) (hk : k ≤ 128) :
    Calls Try.prog 74 #[.int .i64 k] w fun e w' => e = .returned (.tuple #[.int .u64 (2 ^ (k - 64) - 1 : Nat), .int .u64 (2 ^ min k 64 - 1 : Nat)]) ∧ w' = w := by
  by_cases h : k ≤ 64
  · have d : decide ((k : Int) ≤ 64) = true := decide_eq_true (by omega)
    have hi : (k : Int) ≤ 64 := by omega
    have HL := Lib.hid (show ∀ W, Calls Try.prog 88 #[.int .i64 k] W fun e w' => e = .returned (.int .u64 (2 ^ min k 64 - 1 : Nat)) ∧ w' = W from fun W => by
      have h1 := rlow_any k W (by omega)
      rwa [loM_min h] at h1)
    rw [show k - 64 = 0 by omega]
    generalize 2 ^ min k 64 - 1 = q at *
    go_enter Try.func74, Try.ntmps74
    go_wp2_with fail
    refine (HL.out _).mono ?_
    rintro e w' ⟨rfl, rfl⟩
    go_wp2_with fail
    exact bodyPost_ret (res_two7 rfl _ _) rfl ⟨rfl, rfl⟩
  · have d : decide ((k : Int) ≤ 64) = false := decide_eq_false (by omega)
    have hi : ¬ (k : Int) ≤ 64 := by omega
    obtain ⟨j, rfl⟩ : ∃ j, k = j + 64 := ⟨k - 64, by omega⟩
    have e1 : ((j + 64 : Nat) : Int) - 64 = (j : Int) := by omega
    have hw : IntKind.i64.wrap (((j + 64 : Nat) : Int) - 64) = (j : Int) := by rw [e1]; exact IntWalk.i64_in _ (by omega)
    have HL := Lib.hid (show ∀ W, Calls Try.prog 88 #[.int .i64 j] W fun e w' => e = .returned (.int .u64 (2 ^ j - 1 : Nat)) ∧ w' = W from fun W => by
      have h1 := rlow_any j W (by omega)
      rwa [loM_min (by omega), show min j 64 = j by omega] at h1)
    have HK := Lib.hid (show ∀ W, Calls Try.prog 88 #[.int .i64 64] W fun e w' => e = .returned (.int .u64 18446744073709551615) ∧ w' = W from fun W => rlow_any 64 W (by omega))
    rw [show j + 64 - 64 = j by omega, show min (j + 64) 64 = 64 by omega]
    generalize 2 ^ j - 1 = q at *
    obtain ⟨k, hk2⟩ : ∃ k, k = j + 64 := ⟨_, rfl⟩
    rw [← hk2] at d hi e1 hw ⊢
    clear hk2
    go_enter Try.func74, Try.ntmps74
    go_wp2_with fail
    refine (HL.out _).mono ?_
    rintro e w1 ⟨rfl, rfl⟩
    go_wp2_with fail
    refine (HK.out _).mono ?_
    rintro e w1 ⟨rfl, rfl⟩
    go_wp2_with fail
    exact bodyPost_ret (res_two7 rfl _ _) rfl ⟨rfl, rfl⟩
theorem rsize_any (v : Bool) (h l : Nat) (w : World) :
    Calls Try.prog 73 #[.agg #[.bool v, .int .u64 h, .int .u64 l]] w fun e w' => e = .returned (.int .i64 (width v : Nat)) ∧ Below w.heap.size w w' := by
  have HX := Lib.hid (ab_new w v h l)
  have x0 := HX.out.c0
  have xl := HX.out.lt
  unfold width
  cases v with
  | true =>
    go_enter Try.func73, Try.ntmps73
    go_wp2_with fail
    go_ret
    exact ⟨rfl, below_alloc6 _ _⟩
  | false =>
    go_enter Try.func73, Try.ntmps73
    go_wp2_with fail
    go_ret
    exact ⟨rfl, below_alloc6 _ _⟩
end Go.Proofs.Ytmcelgnifpfjpaa

/- Contracts of the reference of layer 7: Right, Block. -/
namespace Go.Proofs.Ytmcelgnifpfjpaa
open Go.ChangeShapes Go.WideShapes Go.ChangeAt Go.RowKit
set_option linter.unusedVariables false

theorem and64 (n k : Nat) (h : n < 18446744073709551616) (hk : k ≤ 64) : bits .and .u64 (n : Int) ((2 ^ k - 1 : Nat) : Int) = ((n % 2 ^ k : Nat) : Int) := by
  have hp : 2 ^ k ≤ 2 ^ 64 := Nat.pow_le_pow_right (by omega) hk
  have h64 : (2 : Nat) ^ 64 = 18446744073709551616 := by decide
  have h0 := Nat.two_pow_pos k
  rw [u64_and_nat n _ h (by omega), Nat.and_two_pow_sub_one_eq_mod]
theorem lowZ_mod (n k : Nat) : (lowZ k n = n) ↔ n % 2 ^ k = 0 := by
  unfold lowZ
  have := Nat.div_add_mod n (2 ^ k)
  rw [Nat.mul_comm] at this
  constructor <;> intro h <;> omega
theorem vldP_in7 {v : Bool} {hi lo n : Nat} (hv : vldA v hi lo = true) (hn : n ≤ width v) : vldP v hi lo (n : Int) = decide (mkH v n hi = hi ∧ mkL v n lo = lo) := by
  unfold vldP cntB
  rw [hv, Bool.eq_iff_iff]
  simp
  omega
/-- Right, by tests of numbers. -/
theorem vP_tests (v : Bool) (h l : Nat) (n : Nat) (hn : n ≤ width v) : vP ⟨v, h, l, (n : Int)⟩ = (vldA v h l && (decide (h % 2 ^ frH v n = 0) && decide (l % 2 ^ frL v n = 0))) := by
  unfold vP
  cases hv : vldA v h l with
  | false => simp [vldP, hv]
  | true =>
    rw [vldP_in7 hv hn, Bool.true_and]
    unfold mkH mkL
    rw [Bool.eq_iff_iff, decide_eq_true_eq, Bool.and_eq_true, decide_eq_true_eq, decide_eq_true_eq, lowZ_mod, lowZ_mod]
theorem vP_out {v : Bool} {h l : Nat} {k : Int} (hk : ¬ (0 ≤ k ∧ k ≤ (width v : Nat))) : vP ⟨v, h, l, k⟩ = false := by
  unfold vP vldP cntB
  rw [decide_eq_false hk, Bool.false_and, Bool.and_false]
set_option maxHeartbeats 4000000 in
set_option maxRecDepth 20000 in
theorem rright_any (v : Bool) (h l : Nat) (k : Int) (w : World) (b1 : h < 18446744073709551616) (b2 : l < 18446744073709551616) (bk : -9223372036854775808 ≤ k ∧ k ≤ 9223372036854775807) :
    Calls Try.prog 56 #[.agg #[.bool v, .int .u64 h, .int .u64 l, .int .i64 k]] w fun e w' => e = .returned (.bool (vP ⟨v, h, l, k⟩)) ∧ Below w.heap.size w w' := by
  have HF := Lib.hid (fun W => rfine_any v h l W)
  have HZ := Lib.hid (fun W => rsize_any v h l W)
  obtain ⟨W1, hW1⟩ : ∃ W, W = w.alloc (.cells #[.bool v, .int .u64 h, .int .u64 l, .int .i64 k] 37) := ⟨_, rfl⟩
  have HX := Lib.hid (show PB W1 w.heap.size v h l k from by rw [hW1]; exact pb_new w v h l k)
  have HB1 := Lib.hid (show Below w.heap.size w W1 from by rw [hW1]; exact below_alloc6 _ _)
  have hwd : width v ≤ 128 := by unfold width; split <;> omega
  cases hv : vldA v h l with
  | false =>
    rw [hv] at HF
    have hR : vP ⟨v, h, l, k⟩ = false := by unfold vP vldP; simp only; rw [hv, Bool.false_and]
    rw [hR]
    clear hR hv b1 b2 hwd
    go_enter Try.func56, Try.ntmps56
    go_wp2_with fail
    rw [← hW1]
    clear hW1
    refine wp_region_pick (fun w' => Below W1.heap.size W1 w') (by kernel_rfl) (by kernel_rfl) (Below.refl _ _) ⟨rfl, rfl, rfl, Nat.le_refl _, fun _ _ => rfl⟩ (fun p hp hq => ?_)
    have pp0 : ∀ u, (p u).cell? ⟨w.heap.size, 0, none⟩ = some (.bool v) := fun u => (HX.out.kept (hp u) HX.out.lt).c0
    have pp1 : ∀ u, (p u).cell? ⟨w.heap.size, 1, none⟩ = some (.int .u64 h) := fun u => (HX.out.kept (hp u) HX.out.lt).c1
    have pp2 : ∀ u, (p u).cell? ⟨w.heap.size, 2, none⟩ = some (.int .u64 l) := fun u => (HX.out.kept (hp u) HX.out.lt).c2
    have pp3 : ∀ u, (p u).cell? ⟨w.heap.size, 3, none⟩ = some (.int .i64 k) := fun u => (HX.out.kept (hp u) HX.out.lt).c3
    have HP := Lib.hid hp
    have HQ := Lib.hid hq
    clear hp hq
    repeat (go_big_quiet_step ((first | with_reducible exact Calls.pick_of HQ.out (fun W' hb => (HP.out _).trans (hb.mono (HP.out _).size)) (HF.out _))))
    refine wpQuiet_nil ?_
    rintro _ ⟨u, rfl⟩
    have hbp := HP.out u
    generalize p u = w2 at *
    clear HP HQ pp0 pp1 pp2 pp3
    have HB2 := Lib.hid (HB1.out.trans (hbp.mono HB1.out.size))
    go_wp2_with fail
    go_ret
    exact ⟨rfl, HB2.out⟩
  | true =>
    rw [hv] at HF
    by_cases hk0 : k < 0
    · have d0 : decide (k < 0) = true := decide_eq_true hk0
      rw [vP_out (v := v) (h := h) (l := l) (k := k) (by omega)]
      clear hv b1 b2 hwd
      go_enter Try.func56, Try.ntmps56
      go_wp2_with fail
      rw [← hW1]
      clear hW1
      refine wp_region_pick (fun w' => Below W1.heap.size W1 w') (by kernel_rfl) (by kernel_rfl) (Below.refl _ _) ⟨rfl, rfl, rfl, Nat.le_refl _, fun _ _ => rfl⟩ (fun p hp hq => ?_)
      have pp0 : ∀ u, (p u).cell? ⟨w.heap.size, 0, none⟩ = some (.bool v) := fun u => (HX.out.kept (hp u) HX.out.lt).c0
      have pp1 : ∀ u, (p u).cell? ⟨w.heap.size, 1, none⟩ = some (.int .u64 h) := fun u => (HX.out.kept (hp u) HX.out.lt).c1
      have pp2 : ∀ u, (p u).cell? ⟨w.heap.size, 2, none⟩ = some (.int .u64 l) := fun u => (HX.out.kept (hp u) HX.out.lt).c2
      have pp3 : ∀ u, (p u).cell? ⟨w.heap.size, 3, none⟩ = some (.int .i64 k) := fun u => (HX.out.kept (hp u) HX.out.lt).c3
      have HP := Lib.hid hp
      have HQ := Lib.hid hq
      clear hp hq
      repeat (go_big_quiet_step ((first | with_reducible exact Calls.pick_of HQ.out (fun W' hb => (HP.out _).trans (hb.mono (HP.out _).size)) (HF.out _))))
      refine wpQuiet_nil ?_
      rintro _ ⟨u, rfl⟩
      have hbp := HP.out u
      generalize p u = w2 at *
      clear HP HQ pp0 pp1 pp2 pp3
      have HB2 := Lib.hid (HB1.out.trans (hbp.mono HB1.out.size))
      go_wp2_with fail
      go_ret
      exact ⟨rfl, HB2.out⟩
    · have d0 : decide (k < 0) = false := decide_eq_false hk0
      by_cases hk1 : k > (width v : Nat)
      · have d1 : decide (k > (width v : Nat)) = true := decide_eq_true hk1
        rw [vP_out (v := v) (h := h) (l := l) (k := k) (by omega)]
        clear hv b1 b2
        generalize width v = wd at *
        go_enter Try.func56, Try.ntmps56
        go_wp2_with fail
        rw [← hW1]
        clear hW1
        refine wp_region_pick (fun w' => Below W1.heap.size W1 w') (by kernel_rfl) (by kernel_rfl) (Below.refl _ _) ⟨rfl, rfl, rfl, Nat.le_refl _, fun _ _ => rfl⟩ (fun p hp hq => ?_)
        have pp0 : ∀ u, (p u).cell? ⟨w.heap.size, 0, none⟩ = some (.bool v) := fun u => (HX.out.kept (hp u) HX.out.lt).c0
        have pp1 : ∀ u, (p u).cell? ⟨w.heap.size, 1, none⟩ = some (.int .u64 h) := fun u => (HX.out.kept (hp u) HX.out.lt).c1
        have pp2 : ∀ u, (p u).cell? ⟨w.heap.size, 2, none⟩ = some (.int .u64 l) := fun u => (HX.out.kept (hp u) HX.out.lt).c2
        have pp3 : ∀ u, (p u).cell? ⟨w.heap.size, 3, none⟩ = some (.int .i64 k) := fun u => (HX.out.kept (hp u) HX.out.lt).c3
        have HP := Lib.hid hp
        have HQ := Lib.hid hq
        clear hp hq
        repeat (go_big_quiet_step ((first | with_reducible exact Calls.pick_of HQ.out (fun W' hb => (HP.out _).trans (hb.mono (HP.out _).size)) (HF.out _) | with_reducible exact Calls.pick_of HQ.out (fun W' hb => (HP.out _).trans (hb.mono (HP.out _).size)) (HZ.out _))))
        refine wpQuiet_nil ?_
        rintro _ ⟨u, rfl⟩
        have hbp := HP.out u
        generalize p u = w2 at *
        clear HP HQ pp0 pp1 pp2 pp3
        have HB2 := Lib.hid (HB1.out.trans (hbp.mono HB1.out.size))
        go_wp2_with fail
        go_ret
        exact ⟨rfl, HB2.out⟩
      · have d1 : decide (k > (width v : Nat)) = false := decide_eq_false hk1
        obtain ⟨n, rfl⟩ := Int.eq_ofNat_of_zero_le (show 0 ≤ k by omega)
        have hn : n ≤ width v := by omega
        rw [vP_tests v h l n hn, hv, Bool.true_and]
        have hj : ((width v : Nat) : Int) - (n : Int) = ((width v - n : Nat) : Int) := by omega
        have hw : IntKind.i64.wrap (((width v : Nat) : Int) - (n : Int)) = ((width v - n : Nat) : Int) := by rw [hj]; exact IntWalk.i64_in _ (by omega)
        have HM := Lib.hid (fun W => (rmask_any (width v - n) W (by omega)).mono (R' := fun e w' => e = .returned (.tuple #[.int .u64 (2 ^ frH v n - 1 : Nat), .int .u64 (2 ^ frL v n - 1 : Nat)]) ∧ Below W.heap.size W w') fun e w' hh => ⟨hh.1, by rw [hh.2]; exact Below.refl _ _⟩)
        have a1 := and64 h (frH v n) b1 (frH_le v n)
        have a2 := and64 l (frL v n) b2 (frL_le v n)
        have e1 : (((h % 2 ^ frH v n : Nat) : Int) == 0) = decide (h % 2 ^ frH v n = 0) := by rw [Bool.eq_iff_iff, beq_iff_eq, decide_eq_true_eq]; omega
        have e2 : (((l % 2 ^ frL v n : Nat) : Int) == 0) = decide (l % 2 ^ frL v n = 0) := by rw [Bool.eq_iff_iff, beq_iff_eq, decide_eq_true_eq]; omega
        generalize 2 ^ frH v n - 1 = mh at *
        generalize 2 ^ frL v n - 1 = ml at *
        generalize decide (h % 2 ^ frH v n = 0) = zh at *
        generalize decide (l % 2 ^ frL v n = 0) = zl at *
        generalize h % 2 ^ frH v n = rh at *
        generalize l % 2 ^ frL v n = rl at *
        generalize width v - n = j at *
        generalize width v = wd at *
        clear hv b1 b2 hj hn
        go_enter Try.func56, Try.ntmps56
        go_wp2_with fail
        rw [← hW1]
        clear hW1
        refine wp_region_pick (fun w' => Below W1.heap.size W1 w') (by kernel_rfl) (by kernel_rfl) (Below.refl _ _) ⟨rfl, rfl, rfl, Nat.le_refl _, fun _ _ => rfl⟩ (fun p hp hq => ?_)
        have pp0 : ∀ u, (p u).cell? ⟨w.heap.size, 0, none⟩ = some (.bool v) := fun u => (HX.out.kept (hp u) HX.out.lt).c0
        have pp1 : ∀ u, (p u).cell? ⟨w.heap.size, 1, none⟩ = some (.int .u64 h) := fun u => (HX.out.kept (hp u) HX.out.lt).c1
        have pp2 : ∀ u, (p u).cell? ⟨w.heap.size, 2, none⟩ = some (.int .u64 l) := fun u => (HX.out.kept (hp u) HX.out.lt).c2
        have pp3 : ∀ u, (p u).cell? ⟨w.heap.size, 3, none⟩ = some (.int .i64 n) := fun u => (HX.out.kept (hp u) HX.out.lt).c3
        have HP := Lib.hid hp
        have HQ := Lib.hid hq
        clear hp hq
        repeat (go_big_quiet_step ((first | with_reducible exact Calls.pick_of HQ.out (fun W' hb => (HP.out _).trans (hb.mono (HP.out _).size)) (HF.out _) | with_reducible exact Calls.pick_of HQ.out (fun W' hb => (HP.out _).trans (hb.mono (HP.out _).size)) (HZ.out _))))
        refine wpQuiet_nil ?_
        rintro _ ⟨u, rfl⟩
        have hbp := HP.out u
        generalize p u = w2 at *
        clear HP HQ pp0 pp1 pp2 pp3
        have HB2 := Lib.hid (HB1.out.trans (hbp.mono HB1.out.size))
        have HX2 := Lib.hid (HX.out.kept hbp HX.out.lt)
        clear hbp HB1 HX
        go_wp2_with fail
        refine wp_region_pick (fun w' => Below w2.heap.size w2 w') (by kernel_rfl) (by kernel_rfl) (Below.refl _ _) ⟨rfl, rfl, rfl, Nat.le_refl _, fun _ _ => rfl⟩ (fun p hp hq => ?_)
        have pp0 : ∀ u, (p u).cell? ⟨w.heap.size, 0, none⟩ = some (.bool v) := fun u => (HX2.out.kept (hp u) HX2.out.lt).c0
        have pp1 : ∀ u, (p u).cell? ⟨w.heap.size, 1, none⟩ = some (.int .u64 h) := fun u => (HX2.out.kept (hp u) HX2.out.lt).c1
        have pp2 : ∀ u, (p u).cell? ⟨w.heap.size, 2, none⟩ = some (.int .u64 l) := fun u => (HX2.out.kept (hp u) HX2.out.lt).c2
        have pp3 : ∀ u, (p u).cell? ⟨w.heap.size, 3, none⟩ = some (.int .i64 n) := fun u => (HX2.out.kept (hp u) HX2.out.lt).c3
        have HP := Lib.hid hp
        have HQ := Lib.hid hq
        clear hp hq
        repeat (go_big_quiet_step ((first | with_reducible exact Calls.pick_of HQ.out (fun W' hb => (HP.out _).trans (hb.mono (HP.out _).size)) (HZ.out _) | with_reducible exact Calls.pick_of HQ.out (fun W' hb => (HP.out _).trans (hb.mono (HP.out _).size)) (HM.out _))))
        refine wpQuiet_nil ?_
        rintro _ ⟨u, rfl⟩
        have hbp := HP.out u
        generalize p u = w3 at *
        clear HP HQ pp0 pp1 pp2 pp3
        have HB3 := Lib.hid (HB2.out.trans (hbp.mono HB2.out.size))
        have HX3 := Lib.hid (HX2.out.kept hbp HX2.out.lt)
        clear hbp HB2 HX2
        have y0 := HX3.out.c0
        have y1 := HX3.out.c1
        have y2 := HX3.out.c2
        have y3 := HX3.out.c3
        have yl := HX3.out.lt
        cases zh <;> cases zl
        all_goals
          go_wp2_with fail
          go_ret
          exact ⟨rfl, HB3.out⟩
end Go.Proofs.Ytmcelgnifpfjpaa

/- Contract of the reference of layer 7: Block. -/
namespace Go.Proofs.Ytmcelgnifpfjpaa
open Go.ChangeShapes Go.WideShapes Go.ChangeAt Go.RowKit
set_option linter.unusedVariables false

set_option maxHeartbeats 4000000 in
set_option maxRecDepth 20000 in
theorem rblock_any (v : Bool) (h l k : Nat) (w : World) (b1 : h < 18446744073709551616) (b2 : l < 18446744073709551616) (hv : vP ⟨v, h, l, (k : Int)⟩ = true) :
    Calls Try.prog 57 #[.agg #[.bool v, .int .u64 h, .int .u64 l, .int .i64 k]] w fun e w' => e = .returned (.agg #[.bool v, .int .u64 h, .int .u64 l, .bool v, .int .u64 (lowO (frH v k) h : Nat), .int .u64 (lowO (frL v k) l : Nat)]) ∧ Below w.heap.size w w' := by
  obtain ⟨a1, a2, a3, a4⟩ := vldP_out hv
  simp only at a1 a2 a3 a4
  have hwd : width v ≤ 128 := by unfold width; split <;> omega
  have HZ := Lib.hid (fun W => rsize_any v h l W)
  obtain ⟨W1, hW1⟩ : ∃ W, W = (w.alloc (.cells #[.bool v, .int .u64 h, .int .u64 l, .int .i64 k] 37)).alloc (.cells #[.bool false, .int .u64 0, .int .u64 0, .bool false, .int .u64 0, .int .u64 0] 43) := ⟨_, rfl⟩
  have HX := Lib.hid (show PB W1 w.heap.size v h l k from by rw [hW1]; exact pb_new w v h l k |>.kept (below_alloc6 _ _) (alloc_lt6 w _))
  have HR := Lib.hid (show RB W1 (w.heap.size + 1) false 0 0 false 0 0 from by
    rw [hW1]
    have := rb_new (w.alloc (.cells #[.bool v, .int .u64 h, .int .u64 l, .int .i64 k] 37)) false 0 0 false 0 0
    rwa [show (w.alloc (.cells #[.bool v, .int .u64 h, .int .u64 l, .int .i64 k] 37)).heap.size = w.heap.size + 1 by simp] at this)
  have HB1 := Lib.hid (show Below w.heap.size w W1 from by rw [hW1]; exact below2 w _ _)
  have hj : ((width v : Nat) : Int) - (k : Int) = ((width v - k : Nat) : Int) := by omega
  have hw : IntKind.i64.wrap (((width v : Nat) : Int) - (k : Int)) = ((width v - k : Nat) : Int) := by rw [hj]; exact IntWalk.i64_in _ (by omega)
  have HM := Lib.hid (fun W => (rmask_any (width v - k) W (by omega)).mono (R' := fun e w' => e = .returned (.tuple #[.int .u64 (2 ^ frH v k - 1 : Nat), .int .u64 (2 ^ frL v k - 1 : Nat)]) ∧ Below W.heap.size W w') fun e w' hh => ⟨hh.1, by rw [hh.2]; exact Below.refl _ _⟩)
  have o1 := or64 h (frH v k) b1 (frH_le v k) a3
  have o2 := or64 l (frL v k) b2 (frL_le v k) a4
  generalize lowO (frH v k) h = h' at *
  generalize lowO (frL v k) l = l' at *
  generalize 2 ^ frH v k - 1 = mh at *
  generalize 2 ^ frL v k - 1 = ml at *
  generalize width v - k = j at *
  generalize width v = wd at *
  clear a1 a2 a3 a4 hv b1 b2 hj hwd
  go_enter Try.func57, Try.ntmps57
  go_wp2_with fail
  rw [← hW1]
  clear hW1
  refine wp_region_pick (fun w' => Below W1.heap.size W1 w') (by kernel_rfl) (by kernel_rfl) (Below.refl _ _) ⟨rfl, rfl, rfl, Nat.le_refl _, fun _ _ => rfl⟩ (fun p hp hq => ?_)
  have pp0 : ∀ u, (p u).cell? ⟨w.heap.size, 0, none⟩ = some (.bool v) := fun u => (HX.out.kept (hp u) HX.out.lt).c0
  have pp1 : ∀ u, (p u).cell? ⟨w.heap.size, 1, none⟩ = some (.int .u64 h) := fun u => (HX.out.kept (hp u) HX.out.lt).c1
  have pp2 : ∀ u, (p u).cell? ⟨w.heap.size, 2, none⟩ = some (.int .u64 l) := fun u => (HX.out.kept (hp u) HX.out.lt).c2
  have pp3 : ∀ u, (p u).cell? ⟨w.heap.size, 3, none⟩ = some (.int .i64 k) := fun u => (HX.out.kept (hp u) HX.out.lt).c3
  have HP := Lib.hid hp
  have HQ := Lib.hid hq
  clear hp hq
  repeat (go_big_quiet_step ((first | with_reducible exact Calls.pick_of HQ.out (fun W' hb => (HP.out _).trans (hb.mono (HP.out _).size)) (HZ.out _) | with_reducible exact Calls.pick_of HQ.out (fun W' hb => (HP.out _).trans (hb.mono (HP.out _).size)) (HM.out _))))
  refine wpQuiet_nil ?_
  rintro _ ⟨u, rfl⟩
  have hbp := HP.out u
  generalize p u = w2 at *
  clear HP HQ pp0 pp1 pp2 pp3
  have HB2 := Lib.hid (HB1.out.trans (hbp.mono HB1.out.size))
  have HX2 := Lib.hid (HX.out.kept hbp HX.out.lt)
  have HR2 := Lib.hid (HR.out.kept hbp HR.out.lt)
  clear hbp HB1 HX HR
  have y0 := HX2.out.c0
  have y1 := HX2.out.c1
  have y2 := HX2.out.c2
  have y3 := HX2.out.c3
  have yl := HX2.out.lt
  have z0 : w2.cell? ⟨w.heap.size + 1, 0, none⟩ = some (.bool false) := (HR2.out.c 0).trans rfl
  have z1 : w2.cell? ⟨w.heap.size + 1, 1, none⟩ = some (.int .u64 0) := (HR2.out.c 1).trans rfl
  have z2 : w2.cell? ⟨w.heap.size + 1, 2, none⟩ = some (.int .u64 0) := (HR2.out.c 2).trans rfl
  have z3 : w2.cell? ⟨w.heap.size + 1, 3, none⟩ = some (.bool false) := (HR2.out.c 3).trans rfl
  have z4 : w2.cell? ⟨w.heap.size + 1, 4, none⟩ = some (.int .u64 0) := (HR2.out.c 4).trans rfl
  have z5 : w2.cell? ⟨w.heap.size + 1, 5, none⟩ = some (.int .u64 0) := (HR2.out.c 5).trans rfl
  have zf0 := HR2.out.f 0
  have zf1 := HR2.out.f 1
  have zf2 := HR2.out.f 2
  have zf3 := HR2.out.f 3
  have zf4 := HR2.out.f 4
  have zf5 := HR2.out.f 5
  have zl := HR2.out.lt
  go_wp2_with fail
  exact bodyPost_ret (res_rng1 rfl _ _ rfl (HR2.out.set v h l v h' l')) rfl ⟨rfl, rset_below HB2.out (by omega) v h l v h' l'⟩
end Go.Proofs.Ytmcelgnifpfjpaa

/- Contract of the reference of layer 7: Of. -/
namespace Go.Proofs.Ytmcelgnifpfjpaa
open Go.ChangeShapes Go.WideShapes Go.ChangeAt Go.RowKit
set_option linter.unusedVariables false

theorem ofL_step {l : List Pf} {k : Nat} {p : Pf} (hp : l[k]? = some p) (m : Int) : anyS (spnL (ofL (l.take (k + 1)))) m = (anyS (spnL (ofL (l.take k))) m || (vP p && (someR (blk p) && inS (spn (blk p)) m))) := by
  rw [ofL_take hp]
  cases vP p with
  | false => simp
  | true => rw [if_pos rfl, spnL_snoc, Bool.true_and]
def bitsOk (p : Pf) : Prop := -9223372036854775808 ≤ p.k ∧ p.k ≤ 9223372036854775807
set_option maxHeartbeats 2000000 in
set_option maxRecDepth 20000 in
theorem rof_any (A : Option Addr) (cap : Nat) (l : List Pf) (w : World) (h : RowL EP w A l) (hf : ∀ p ∈ l, p.fits ∧ bitsOk p) (hl : l.length ≤ 10000) :
    Calls Try.prog 30 #[.slice A l.length cap] w (SetO w w.heap.size (fun m => anyS (spnL (ofL l)) m) l.length) := by
  obtain ⟨N, hN⟩ : ∃ n, n = l.length := ⟨_, rfl⟩
  have hn6 : N ≤ 10000 := by omega
  rw [← hN]
  have H := Lib.hid h
  have HF := Lib.hid hf
  have HN := Lib.hid hN
  have HB0 := Lib.hid (Below.refl w.heap.size w)
  have HO0 := Lib.hid (OwnR.nil w w.heap.size)
  have HA0 := Lib.hid (show ∀ m, anyS (([] : List Rg).map spn) m = anyS (spnL (ofL (l.take 0))) m from fun m => by simp [spnL, anyS, ofL])
  clear h hf hl hN
  go_enter Try.func30, Try.ntmps30
  go_wp2_with fail
  go_loopw [3, 4] (fun s3 s4 wr => ∃ k n c' : Nat, ∃ A' : Option Addr, ∃ out : List Rg, k ≤ N ∧ n ≤ k ∧ s4 = .int .i64 k ∧ s3 = .slice A' n c' ∧ Hid (GoodL out) ∧ Hid (∀ m, anyS (out.map spn) m = anyS (spnL (ofL (l.take k))) m) ∧ Hid (Below w.heap.size w wr) ∧ Hid (OwnR wr w.heap.size A' n c' out)) (fun _ s4 _ => N - (intOf s4).toNat)
  case atStart => exact ⟨0, 0, 0, none, [], by omega, by omega, rfl, rfl, Lib.hid good_nil, HA0, HB0, HO0⟩
  case round =>
    clear HA0 HB0 HO0
    obtain ⟨k, n, c', A', out, hk, hnk, rfl, rfl, HG, HA, HB, HO⟩ := hrel
    by_cases hlt : k < N
    · have hkl : k < l.length := by rw [← HN.out]; exact hlt
      obtain ⟨g, o, rfl, hg⟩ := H.out.shape (by omega)
      obtain ⟨⟨v3, h3, l3, b3⟩, hget⟩ : ∃ s, l[k]? = some s := ⟨l[k], List.getElem?_eq_getElem hkl⟩
      obtain ⟨c0, c1, c2, c3⟩ := pf_at H.out hget HB.out
      have hki : (k : Int) < (N : Int) := by omega
      have hki0 : (0 : Int) ≤ (k : Int) := by omega
      have hxf := HF.out _ (List.mem_of_getElem? hget)
      have HS := Lib.hid (fun W => rright_any v3 h3 l3 b3 W hxf.1.1 hxf.1.2 hxf.2)
      have HT := Lib.hid (ofL_step hget)
      have hgw : g < wr.heap.size := Nat.lt_of_lt_of_le hg HB.out.size
      cases hs : vP ⟨v3, h3, l3, b3⟩ with
      | false =>
        rw [hs] at HS
        have HA2 := Lib.hid (show ∀ m, anyS (out.map spn) m = anyS (spnL (ofL (l.take (k + 1)))) m from fun m => by rw [HT.out, hs, HA.out]; simp)
        clear hs hget hg hkl hxf HT
        go_wp2_with fail
        refine (HS.out _).mono ?_
        rintro e w2 ⟨rfl, hb⟩
        have HB2 := Lib.hid (HB.out.trans (hb.mono HB.out.size))
        have HO2 := Lib.hid (HO.out.kept hb)
        clear hb HB HO c0 c1 c2 c3 hgw
        go_wp2_with fail
        go_roundw
        case rel => exact ⟨k + 1, n, c', A', out, by omega, by omega, by go_num, rfl, HG, HA2, HB2, HO2⟩
        case measure => simp [intOf]; omega
      | true =>
        rw [hs] at HS
        have hk0 : 0 ≤ b3 := by
          by_cases c : 0 ≤ b3
          · exact c
          · rw [vP_out (by omega)] at hs; cases hs
        obtain ⟨q, rfl⟩ := Int.eq_ofNat_of_zero_le hk0
        have HBL := Lib.hid (fun W => rblock_any v3 h3 l3 q W hxf.1.1 hxf.1.2 hs)
        have hbs := blk_some hxf.1 hs
        have hbe : blk ⟨v3, h3, l3, (q : Int)⟩ = ⟨⟨v3, h3, l3⟩, ⟨v3, lowO (frH v3 q) h3, lowO (frL v3 q) l3⟩⟩ := rfl
        have HA2 := Lib.hid (show ∀ m, (anyS (out.map spn) m || inS (spn ⟨⟨v3, h3, l3⟩, ⟨v3, lowO (frH v3 q) h3, lowO (frL v3 q) l3⟩⟩) m) = anyS (spnL (ofL (l.take (k + 1)))) m from fun m => by rw [HT.out, hs, hbs.1, HA.out, hbe]; simp)
        rw [hbe] at hbs
        generalize lowO (frH v3 q) h3 = h4 at *
        generalize lowO (frL v3 q) l3 = l4 at *
        have HADD := Lib.hid (fun W (hW : OwnR W w.heap.size A' n c' out) (hsz : w.heap.size ≤ W.heap.size) => show Calls Try.prog 41 #[.slice A' n c', .agg #[.bool v3, .int .u64 h3, .int .u64 l3, .bool v3, .int .u64 h4, .int .u64 l4]] W (SetO W w.heap.size (fun m => anyS (out.map spn) m || inS (spn ⟨⟨v3, h3, l3⟩, ⟨v3, h4, l4⟩⟩) m) (n + 1)) from by
          rw [hW.1]
          exact (radd_any A' c' out v3 h3 l3 v3 h4 l4 W hW.row HG.out hbs.1 hbs.2 (by rw [← hW.1]; omega)).mono fun _ _ hh => hh.own hsz)
        clear hs hget hg hkl hxf HT hbs hbe hk0
        go_wp2_with fail
        refine (HS.out _).mono ?_
        rintro e w2 ⟨rfl, hb⟩
        have HB2 := Lib.hid (HB.out.trans (hb.mono HB.out.size))
        have HO2 := Lib.hid (HO.out.kept hb)
        have d0 := (hb.cell (p := ⟨g, o + k * 4, none⟩) hgw).trans c0
        have d1 := (hb.cell (p := ⟨g, o + k * 4 + 1, none⟩) hgw).trans c1
        have d2 := (hb.cell (p := ⟨g, o + k * 4 + 2, none⟩) hgw).trans c2
        have d3 := (hb.cell (p := ⟨g, o + k * 4 + 3, none⟩) hgw).trans c3
        clear hb HB HO c0 c1 c2 c3 hgw
        go_wp2_with fail
        refine (HBL.out _).mono ?_
        rintro e w3 ⟨rfl, hb⟩
        have HB3 := Lib.hid (HB2.out.trans (hb.mono HB2.out.size))
        have HO3 := Lib.hid (HO2.out.kept hb)
        clear hb HB2 HO2 d0 d1 d2 d3
        go_wp2_with fail
        refine (HADD.out _ HO3.out HB3.out.size).mono ?_
        rintro e w4 ⟨L, A5, n5, c5, g1, g2, g3, rfl, g5, hb⟩
        have HB4 := Lib.hid (HB3.out.trans (hb.mono HB3.out.size))
        have HO4 := Lib.hid g5
        have HG4 := Lib.hid g1
        have HA4 := Lib.hid (fun m => (g2 m).trans (HA2.out m))
        clear hb g1 g2 g5 HB3 HO3
        go_wp2_with fail
        go_roundw
        case rel => exact ⟨k + 1, n5, c5, A5, L, by omega, by omega, by go_num, rfl, HG4, HA4, HB4, HO4⟩
        case measure => simp [intOf]; omega
    · have hkn : k = l.length := by have := HN.out; omega
      have HA2 := Lib.hid (show ∀ m, anyS (out.map spn) m = anyS (spnL (ofL l)) m from fun m => by rw [HA.out, hkn, List.take_length])
      have HNN := Lib.hid (show n ≤ N by omega)
      have hd : decide ((k : Int) < (N : Int)) = false := by simp; omega
      clear hkn HA
      go_wp2_with fail
      go_ret
      exact ⟨out, A', n, c', HG.out, HA2.out, HNN.out, rfl, HO.out, HB.out⟩
end Go.Proofs.Ytmcelgnifpfjpaa

/- Contract of the reference of layer 7: Eval. -/
namespace Go.Proofs.Ytmcelgnifpfjpaa
open Go.ChangeShapes Go.WideShapes Go.ChangeAt Go.RowKit
set_option linter.unusedVariables false

theorem rminus_n (A1 A2 : Option Addr) (n1 n2 c1 c2 : Nat) (a b : List Rg) (w : World) (h1 : RowL ER w A1 a) (h2 : RowL ER w A2 b) (f1 : ∀ r ∈ a, r.fits) (f2 : ∀ r ∈ b, r.fits) (e1 : n1 = a.length) (e2 : n2 = b.length) (hl1 : n1 ≤ 100) (hl2 : n2 ≤ 100) :
    Calls Try.prog 24 #[.slice A1 n1 c1, .slice A2 n2 c2] w (SetO w w.heap.size (fun m => anyS (spnL a) m && !anyS (spnL b) m) 30000) := by
  subst e1; subst e2
  exact rminus_any A1 A2 c1 c2 a b w h1 h2 f1 f2 hl1 hl2
set_option maxHeartbeats 1000000 in
theorem reval_any (A1 A2 : Option Addr) (c1 c2 : Nat) (a b : List Pf) (w : World) (h1 : RowL EP w A1 a) (h2 : RowL EP w A2 b) (f1 : ∀ p ∈ a, p.fits ∧ bitsOk p) (f2 : ∀ p ∈ b, p.fits ∧ bitsOk p) (hl1 : a.length ≤ 100) (hl2 : b.length ≤ 100) :
    Calls Try.prog 32 #[.slice A1 a.length c1, .slice A2 b.length c2] w (SetO w w.heap.size (evF a b) 30000) := by
  have HA := Lib.hid (fun W (hb : Below w.heap.size w W) => rof_any A1 c1 a W (h1.kept hb) f1 (by omega))
  have HB := Lib.hid (fun W (hb : Below w.heap.size w W) => rof_any A2 c2 b W (h2.kept hb) f2 (by omega))
  have HM := Lib.hid (fun (W : World) (B1 B2 : Option Addr) (n1 n2 d1 d2 b1 b2 : Nat) (K L : List Rg) (k1 : OwnR W b1 B1 n1 d1 K) (k2 : OwnR W b2 B2 n2 d2 L) (g1 : GoodL K) (g2 : GoodL L) (l1 : n1 ≤ 100) (l2 : n2 ≤ 100) => rminus_n B1 B2 n1 n2 d1 d2 K L W k1.row k2.row (okL_fits g1) (okL_fits g2) k1.1 k2.1 (by omega) (by omega))
  have HEV := Lib.hid (show ∀ (K L : List Rg), GoodL K → GoodL L → (∀ m, anyS (K.map spn) m = (if a.length = 0 then isU m else anyS (spnL (ofL a)) m)) → (∀ m, anyS (L.map spn) m = anyS (spnL (ofL b)) m) → ∀ m, (anyS (spnL K) m && !anyS (spnL L) m) = evF a b m from fun K L g1 g2 k1 k2 m => by rw [spnL_good g1, spnL_good g2, k1, k2]; rfl)
  obtain ⟨N, hN⟩ : ∃ n, n = a.length := ⟨_, rfl⟩
  obtain ⟨M, hM⟩ : ∃ n, n = b.length := ⟨_, rfl⟩
  rw [← hN] at HA HEV
  rw [← hM] at HB
  rw [← hN, ← hM]
  have hN1 : N ≤ 100 := by omega
  have hM1 : M ≤ 100 := by omega
  clear h1 h2 f1 f2 hl1 hl2 hN hM
  have go : ∀ (w2 : World) (B1 : Option Addr) (n1 d1 : Nat) (K : List Rg), Below w.heap.size w w2 → OwnR w2 w.heap.size B1 n1 d1 K → GoodL K → n1 ≤ 100 → (∀ m, anyS (K.map spn) m = (if N = 0 then isU m else anyS (spnL (ofL a)) m)) →
      Calls Try.prog 30 #[.slice A2 M c2] w2 fun e w3 => ∃ B2 n2 d2, e = .returned (.slice B2 n2 d2) ∧ Calls Try.prog 24 #[.slice B1 n1 d1, .slice B2 n2 d2] w3 fun e w4 => ∃ B3 n3 d3, e = .returned (.slice B3 n3 d3) ∧ SetO w w.heap.size (evF a b) 30000 e w4 := fun w2 B1 n1 d1 K b2 o2 k1 k2 k3 => by
    refine (HB.out w2 b2).mono ?_
    rintro e w3 ⟨L, B2, n2, d2, g1, g2, g3, rfl, g5, hb⟩
    refine ⟨B2, n2, d2, rfl, (HM.out w3 B1 B2 n1 n2 d1 d2 _ _ K L (o2.kept hb) g5 k1 g1 k2 (by omega)).mono ?_⟩
    intro e w4 hs
    have he := hs.back (g := evF a b) (b' := 30000) (b2.trans (hb.mono b2.size)) (fun m => HEV.out K L k1 g1 k3 g2 m) (by omega)
    obtain ⟨_, B3, n3, d3, _, _, _, rfl, _, _⟩ := hs
    exact ⟨B3, n3, d3, rfl, he⟩
  have GO := Lib.hid go
  clear go HB HM HEV
  cases N with
  | zero =>
    go_enter Try.func32, Try.ntmps32
    go_wp2_with fail
    refine (rall_any w).mono ?_
    rintro e w1 ⟨rfl, ho, hb⟩
    have HC := Lib.hid (GO.out w1 _ 2 2 allR hb ho allR_good (by omega) (fun m => by rw [allR_any m]; simp))
    clear GO HA ho hb
    go_wp2_with fail
    refine HC.out.mono ?_
    rintro e w3 ⟨B2, n2, d2, rfl, hc⟩
    have HC := Lib.hid hc
    clear hc
    go_wp2_with fail
    refine HC.out.mono ?_
    rintro e w4 ⟨B3, n3, d3, rfl, hs⟩
    have HE := Lib.hid hs
    clear hs HC
    go_wp2_with fail
    go_ret
    exact HE.out
  | succ k =>
    have hd : (((k + 1 : Nat) : Int) == 0) = false := by simp; omega
    have hd2 : decide (((k + 1 : Nat) : Int) = 0) = false := decide_eq_false (by omega)
    obtain ⟨N, hN⟩ : ∃ N, N = k + 1 := ⟨_, rfl⟩
    rw [← hN] at hd hd2 HA hN1 GO ⊢
    have HN0 := Lib.hid (show ¬ N = 0 by omega)
    clear hN
    go_enter Try.func32, Try.ntmps32
    go_wp2_with fail
    refine (HA.out w (Below.refl _ _)).mono ?_
    rintro e w2 ⟨L, B1, n1, d1, g1, g2, g3, rfl, g5, hb⟩
    have HC := Lib.hid (GO.out w2 B1 n1 d1 L hb g5 g1 (by omega) (fun m => by rw [if_neg HN0.out]; exact g2 m))
    clear GO HA g1 g2 g3 g5 hb
    go_wp2_with fail
    refine HC.out.mono ?_
    rintro e w3 ⟨B2, n2, d2, rfl, hc⟩
    have HC := Lib.hid hc
    clear hc
    go_wp2_with fail
    refine HC.out.mono ?_
    rintro e w4 ⟨B3, n3, d3, rfl, hs⟩
    have HE := Lib.hid hs
    clear hs HC
    go_wp2_with fail
    go_ret
    exact HE.out
end Go.Proofs.Ytmcelgnifpfjpaa
