/- AddressSteps holds: for every three addresses the law about Next, Previous and Compare returns true and leaves memory as it was; the library's tables are tied to the program's text. No other condition. -/
import Derived.Test.YtcblgbonijloiaaDoorStepsA
import Derived.Test.YtcblgbonijloiaaDoorStepsB
import Derived.Test.YtcblgbonijloiaaDoorStepsC
namespace Go.Proofs.YtcblgbonijloiaaDoor.addressSteps
open Go.ChangeShapes Go.WideShapes Go.ChangeAt Go.RowKit
open Go.Joins
set_option linter.unusedVariables false

theorem walk (va : Bool) (xa za : Nat) (vb : Bool) (xb zb : Nat) (vc : Bool) (xc zc : Nat) (w : World) (ht : TW w) (hxa : xa < 18446744073709551616) (hza : za < 18446744073709551616) (hxb : xb < 18446744073709551616) (hzb : zb < 18446744073709551616) (hxc : xc < 18446744073709551616) (hzc : zc < 18446744073709551616) :
    Calls Tryd.prog 8 #[.agg #[.bool va, .int .u64 xa, .int .u64 za], .agg #[.bool vb, .int .u64 xb, .int .u64 zb], .agg #[.bool vc, .int .u64 xc, .int .u64 zc]] w fun e w' => e = .returned (.bool true) ∧ Below w.heap.size w w' := by
  cases v0 : vldA va xa za with
  | false => exact inv0 va xa za vb xb zb vc xc zc w ht hxa hza hxb hzb hxc hzc v0
  | true =>
    cases v1 : vldA vb xb zb with
    | false => exact inv1 va xa za vb xb zb vc xc zc w ht hxa hza hxb hzb hxc hzc v0 v1
    | true =>
      cases v2 : vldA vc xc zc with
      | false => exact inv2 va xa za vb xb zb vc xc zc w ht hxa hza hxb hzb hxc hzc v0 v1 v2
      | true =>
        cases hn : nxtA va xa za with
        | none => exact last va xa za vb xb zb vc xc zc w ht hxa hza hxb hzb hxc hzc v0 v1 v2 hn
        | some p =>
          obtain ⟨vn, xn, zn⟩ := p
          by_cases p0 : cmpA va xa za vb xb zb < 0
          · exact midA va xa za vb xb zb vc xc zc w ht hxa hza hxb hzb hxc hzc v0 v1 v2 vn xn zn hn p0
          · exact midB va xa za vb xb zb vc xc zc w ht hxa hza hxb hzb hxc hzc v0 v1 v2 vn xn zn hn p0

set_option maxRecDepth 100000 in
theorem lifted (os : Os) (started : os.Started) (H : Type) (enc : TypeId × Value → H) :
    ReturnsInHanded {} Tryd.checked os 8 .any (fun w args => (Rows.addressStepsSpec.pre enc Tryd.prog Tryd.f8 [] false w args ∧ laidMetH Tryd.prog laidL w) ∧ sizedMet enc Tryd.prog Tryd.f8 (OpenSpec.ofChange Rows.addressStepsSpec) false w args) (Rows.addressStepsSpec.post enc Tryd.prog Tryd.f8 false true false false) := by
  refine wrap6 (C := Tryd.checked) (X := fun w _ => laidMetH Tryd.prog laidL w) (fun _ _ _ hh h => h.of_heap hh) own started (by kernel_rfl) Tryd.func8
    (ChangeSpec.witness_shaped (enc := enc) (C := Tryd.checked) (os := os) (X := fun w _ => laidMetH Tryd.prog laidL w) false (World.laidAll Tryd.prog os laidL) #[(.agg #[.bool false, .int .u64 0, .int .u64 0]), (.agg #[.bool false, .int .u64 0, .int .u64 0]), (.agg #[.bool false, .int .u64 0, .int .u64 0])] 8 (World.laidAll_os _ _ _) (World.shaped_of_ZipB (by kernel_rfl) (by kernel_rfl)) (by kernel_rfl) (by kernel_rfl) (by kernel_rfl) (door_met os _)) ?_
  intro W base args ds gs before hval0 hW hL hsh
  have hval : ∀ (j : Nat) t v, Tryd.f8.params[j]? = some t → args[j]? = some v → Value.okWide Tryd.prog W .any base t v := hval0
  have hW' := hW
  obtain ⟨p, q, hA0, hV, rfl, hfz, hnd⟩ := hW
  have hA : DataW.TrodAll enc Tryd.prog W 0 (fun _ => true) true Tryd.f8.params.toList args.toList ds p := hA0
  rw [Tryd.params8] at hA hval
  obtain ⟨v0, vs0, d0, ds0, p0, q0, hargs, rfl, rfl, h0, r0⟩ := trodAll_cons hA
  obtain ⟨v1, vs1, d1, ds1, p1, q1, rfl, rfl, rfl, h1, r1⟩ := trodAll_cons r0
  obtain ⟨v2, vs2, d2, ds2, p2, q2, rfl, rfl, rfl, h2, r2⟩ := trodAll_cons r1
  obtain ⟨rfl, rfl, rfl⟩ := trodAll_nil r2
  obtain rfl : args = #[v0, v1, v2] := by cases args; simp_all
  obtain ⟨rfl, rfl⟩ := trodVars_none hV
  have k0 := h0
  have lt0 : ∀ x ∈ p0, x.block < W.heap.size := by obtain ⟨m, hm⟩ := k0; exact DataW.trod_lt m _ _ _ hm
  obtain ⟨c00, c01, c02, y00, y01, y02, m0, rfl, rfl, rfl, hy00, hy01, hy02⟩ := open_agg3 Tryd.underlying25 (by kernel_rfl) cellsAddr6 (hval 0 25 v0 rfl rfl) h0
  obtain ⟨b0, e00, rfl⟩ := DataW.trod_bool Tryd.underlying4 hy00
  obtain ⟨x0, e01, rfl, wx0⟩ := DataW.trod_int Tryd.underlying23 hy01
  obtain ⟨z0, e02, rfl, wz0⟩ := DataW.trod_int Tryd.underlying23 hy02
  simp at e00 e01 e02
  subst e00 e01 e02
  obtain ⟨X0, rfl, hX0⟩ := nat_of_wf6 wx0
  obtain ⟨Z0, rfl, hZ0⟩ := nat_of_wf6 wz0
  have k1 := h1
  have lt1 : ∀ x ∈ p1, x.block < W.heap.size := by obtain ⟨m, hm⟩ := k1; exact DataW.trod_lt m _ _ _ hm
  obtain ⟨c10, c11, c12, y10, y11, y12, m1, rfl, rfl, rfl, hy10, hy11, hy12⟩ := open_agg3 Tryd.underlying25 (by kernel_rfl) cellsAddr6 (hval 1 25 v1 rfl rfl) h1
  obtain ⟨b1, e10, rfl⟩ := DataW.trod_bool Tryd.underlying4 hy10
  obtain ⟨x1, e11, rfl, wx1⟩ := DataW.trod_int Tryd.underlying23 hy11
  obtain ⟨z1, e12, rfl, wz1⟩ := DataW.trod_int Tryd.underlying23 hy12
  simp at e10 e11 e12
  subst e10 e11 e12
  obtain ⟨X1, rfl, hX1⟩ := nat_of_wf6 wx1
  obtain ⟨Z1, rfl, hZ1⟩ := nat_of_wf6 wz1
  have k2 := h2
  have lt2 : ∀ x ∈ p2, x.block < W.heap.size := by obtain ⟨m, hm⟩ := k2; exact DataW.trod_lt m _ _ _ hm
  obtain ⟨c20, c21, c22, y20, y21, y22, m2, rfl, rfl, rfl, hy20, hy21, hy22⟩ := open_agg3 Tryd.underlying25 (by kernel_rfl) cellsAddr6 (hval 2 25 v2 rfl rfl) h2
  obtain ⟨b2, e20, rfl⟩ := DataW.trod_bool Tryd.underlying4 hy20
  obtain ⟨x2, e21, rfl, wx2⟩ := DataW.trod_int Tryd.underlying23 hy21
  obtain ⟨z2, e22, rfl, wz2⟩ := DataW.trod_int Tryd.underlying23 hy22
  simp at e20 e21 e22
  subst e20 e21 e22
  obtain ⟨X2, rfl, hX2⟩ := nat_of_wf6 wx2
  obtain ⟨Z2, rfl, hZ2⟩ := nat_of_wf6 wz2
  clear hA0 hval0
  refine (walk b0 X0 Z0 b1 X1 Z1 b2 X2 Z2 W (tied_of_laid hL hsh) hX0 hZ0 hX1 hZ1 hX2 hZ2).mono fun e W' ⟨he, bel⟩ => ?_
  subst he
  exact ⟨_, rfl, _, _, _, [], _, [], hW', trodAll_mk1 (shut_bool Tryd.underlying4 _), (trodAll_cons_mk (Below.trod laidOut (by kernel_rfl) (of_decide_eq_true (by kernel_rfl)) k0 bel lt0) (trodAll_cons_mk (Below.trod laidOut (by kernel_rfl) (of_decide_eq_true (by kernel_rfl)) k1 bel lt1) (trodAll_cons_mk (Below.trod laidOut (by kernel_rfl) (of_decide_eq_true (by kernel_rfl)) k2 bel lt2) trodAll_mk0))), rfl, bel.frame _, fun h => by cases h⟩

theorem over : Rows.addressStepsRow.holds Tryd.pinned (OpenSpec.ofChange Rows.addressStepsSpec) :=
  OpenClaim.holds_of_wide 8 Tryd.f8 rfl rfl rfl rfl rfl rfl rfl ⟨rfl, rfl, rfl, rfl, rfl⟩ rfl rfl rfl rfl rfl (by kernel_rfl) Tryd.func8 (by kernel_rfl)
    (of_decide_eq_true (by kernel_rfl)) (by unfold Func.isWrapper; first | (rw [if_pos (by decide +kernel)]; kernel_rfl) | (rw [if_neg (by decide +kernel)]; exact ⟨rfl, rfl⟩))
    (fun os started H enc _ => lifted os started H enc)

theorem bare : Rows.AddressStepsSaid := over

/-- The tied card. -/
theorem proved : Rows.AddressStepsCardSaid :=
  Claim7.holds_tied_plain_at .later [] _ true _ false
    bare (fun _ h => by cases h) (by kernel_rfl) (fun _ h => by cases h) addressSteps_row_tie rfl ⟨rfl, rfl⟩ (by kernel_rfl) rfl
    (fun f fn hf hfn => by
      obtain rfl : f = 8 := Option.some.inj ((show Tryd.prog.funcNamed "intrusion/intrusionlaw06.AddressSteps" = some 8 by kernel_rfl).symm.trans hf) |>.symm
      obtain rfl : fn = Tryd.f8 := (Option.some.inj (Tryd.func8.symm.trans hfn)).symm
      exact ⟨by kernel_rfl, fun j t ht => by
        rw [Tryd.params8] at ht
        have hm : t ∈ [25, 25, 25] := by simpa using Array.mem_of_getElem? ht
        have hall : ([25, 25, 25].all fun u => !Tryd.prog.wantsStandIn u) = true := by kernel_rfl
        exact (show Tryd.prog.wantsStandIn t = false by simpa using List.all_eq_true.1 hall t hm)⟩)
    (by kernel_rfl)
#print axioms proved


end Go.Proofs.YtcblgbonijloiaaDoor.addressSteps
