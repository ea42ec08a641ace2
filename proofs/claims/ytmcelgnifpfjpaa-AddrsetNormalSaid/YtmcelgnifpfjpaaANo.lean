/- The statement AddrsetNormal. -/
import Derived.Test.YtmcelgnifpfjpaaRows
import Derived.Test.YtmcelgnifpfjpaaANo1
import Derived.Test.YtmcelgnifpfjpaaAOp8
namespace Go.Proofs.Ytmcelgnifpfjpaa.addrsetNormal
open Go.ChangeShapes Go.WideShapes Go.ChangeAt Go.RowKit
set_option linter.unusedVariables false

theorem own : ownKnob Try.prog.godebug = none := by kernel_rfl
theorem laidOut : laidOutB Try.prog = true := by kernel_rfl
set_option maxHeartbeats 8000000 in
set_option maxRecDepth 20000 in
theorem walk (A0 : Option Addr) (c0 : Nat) (l0 : List Rg) (va : Bool) (ha la : Nat) (w : World) (s0 : RowL ER w A0 l0) (n0 : A0 = none → c0 = 0) (f0 : ∀ r ∈ l0, r.fits) (fa : (⟨va, ha, la⟩ : Ad).fits) :
    Calls Try.prog 3 #[.slice A0 l0.length c0, .agg #[.bool va, .int .u64 ha, .int .u64 la]] w fun e w' => e = .returned (.bool true) ∧ Below w.heap.size w w' := by
  obtain ⟨W0, hW0⟩ : ∃ W, W = w.alloc (.cells #[.bool va, .int .u64 ha, .int .u64 la] 25) := ⟨_, rfl⟩
  obtain ⟨gb, hgb⟩ : ∃ g, g = w.heap.size := ⟨_, rfl⟩
  have HB0 := Lib.hid (show Below w.heap.size w W0 from by rw [hW0]; exact below_alloc6 _ _)
  have HX := Lib.hid (show AB W0 gb va ha la from by rw [hW0, hgb]; exact ab_new w va ha la)
  have HW := Lib.hid (few_any A0 none l0.length c0 0 0 W0)
  have HAW := Lib.hid awake_any
  rw [show decide (0 ≤ 16) = true by decide, Bool.and_true] at HW
  cases hfew : decide (l0.length ≤ 16) with
  | false =>
    rw [hfew] at HW
    generalize l0.length = q0 at *
    clear s0 n0 f0 fa hfew HX
    go_enter Try.func3, Try.ntmps3
    go_wp2_with fail
    rw [← hW0]
    clear hW0 hgb
    refine (HW.out).mono ?_
    rintro e w1 ⟨rfl, hw⟩
    have hw := hw.symm
    subst hw
    go_wp2_with fail
    refine (HAW.out _).mono ?_
    rintro e w2 ⟨rfl, hb⟩
    go_wp2_with fail
    go_ret
    exact ⟨rfl, HB0.out.trans (hb.mono HB0.out.size)⟩
  | true =>
    rw [hfew] at HW
    have b0 := of_decide_eq_true hfew
    have HC := Lib.hid (show ∀ W, Below W0.heap.size W0 W → W.cell? ⟨gb, 0, none⟩ = some (.bool va) ∧ W.cell? ⟨gb, 1, none⟩ = some (.int .u64 ha) ∧ W.cell? ⟨gb, 2, none⟩ = some (.int .u64 la) from fun W hb => by
      have h := HX.out.kept hb HX.out.lt
      exact ⟨h.c0, h.c1, h.c2⟩)
    have HN1 := Lib.hid (fun (W : World) (hb : Below W0.heap.size W0 W) => pnormal_any A0 c0 l0 W ((s0.kept HB0.out).kept hb) f0 (by omega))
    have HN2 := Lib.hid (fun (W : World) (hb : Below W0.heap.size W0 W) => rnormal_any A0 c0 l0 W ((s0.kept HB0.out).kept hb) f0 (by omega))
    have HV1 := Lib.hid (fun (W : World) (hb : Below W0.heap.size W0 W) => pvalid_any A0 c0 l0 W ((s0.kept HB0.out).kept hb) f0 (by omega))
    have HV2 := Lib.hid (fun (W : World) (hb : Below W0.heap.size W0 W) => rvalid7_any A0 c0 l0 W ((s0.kept HB0.out).kept hb) f0 (by omega))
    have HC1 := Lib.hid (fun (W : World) (hb : Below W0.heap.size W0 W) => pcontains_any A0 c0 l0 va ha la W ((s0.kept HB0.out).kept hb) f0 fa (by omega))
    have HC2 := Lib.hid (fun (W : World) (hb : Below W0.heap.size W0 W) => rcontains_any A0 c0 l0 va ha la W ((s0.kept HB0.out).kept hb) f0 fa (by omega))
    have hq : l0.length ≤ 16 := b0
    obtain ⟨z1, hz1⟩ : ∃ z, z = okR l0 := ⟨_, rfl⟩
    obtain ⟨z2, hz2⟩ : ∃ z, z = (vA ⟨va, ha, la⟩ && anyS (spnL l0) (kA ⟨va, ha, la⟩)) := ⟨_, rfl⟩
    have hz3 : hasA l0 ⟨va, ha, la⟩ = z2 := by rw [hz2]; exact rfl
    rw [hz3] at HC2
    rw [← hz1] at HV1 HV2
    rw [← hz2] at HC1
    have e1 : (z1 == z1) = true := by cases z1 <;> rfl
    have e2 : (z2 == z2) = true := by cases z2 <;> rfl
    have HLT := HX.out.lt
    generalize l0.length = q0 at *
    clear s0 n0 f0 fa hz1 hz2 hz3 hfew b0
    go_enter Try.func3, Try.ntmps3
    go_wp2_with fail
    rw [← hW0, ← hgb]
    clear hW0 hgb
    refine (HW.out).mono ?_
    rintro e w1 ⟨rfl, hw⟩
    have hw := hw.symm
    subst hw
    go_wp2_with fail
    obtain ⟨y0, y1, y2⟩ := HC.out W0 (Below.refl _ _)
    go_region_held3 (fun w' => w'.cell? ⟨gb, 0, none⟩ = some (.bool va) ∧ w'.cell? ⟨gb, 1, none⟩ = some (.int .u64 ha) ∧ w'.cell? ⟨gb, 2, none⟩ = some (.int .u64 la)) (go_keep) (first
      | (have _hh := D10; go_at_call 9; refine (HAW.out _).mono ?_; rintro e x11 ⟨rfl, hb3d⟩; have hb11 : Below x10.heap.size x10 x11 := ⟨hb3d.os, hb3d.tape, hb3d.output, hb3d.size, hb3d.block⟩; have D11 : Below W0.heap.size W0 x11 := D10.trans (hb11.mono D10.size); obtain ⟨j110, j111, j112⟩ := HC.out x11 D11)
      | (have _hh := D9; go_at_call 10; refine (same7_own _ _ Ac _ nc 2 cc 2 Lc allR _ R9.out S9.out (good_uniq m1 allR_good (fun m => (m2 m).trans (allR_any m).symm)) (by omega)).mono ?_; rintro e x10 ⟨rfl, hb3d⟩; have hb10 : Below x9.heap.size x9 x10 := ⟨hb3d.os, hb3d.tape, hb3d.output, hb3d.size, hb3d.block⟩; have D10 : Below W0.heap.size W0 x10 := D9.trans (hb10.mono D9.size); obtain ⟨j100, j101, j102⟩ := HC.out x10 D10)
      | (have _hh := D8; go_at_call 18; refine (rall_any _).mono ?_; rintro e x9 ⟨rfl, o5, hb3d⟩; have hb9 : Below x8.heap.size x8 x9 := ⟨hb3d.os, hb3d.tape, hb3d.output, hb3d.size, hb3d.block⟩; have D9 : Below W0.heap.size W0 x9 := D8.trans (hb9.mono D8.size); have R9 := Lib.hid (R8.out.kept hb9); have S9 := Lib.hid o5; obtain ⟨j90, j91, j92⟩ := HC.out x9 D9)
      | (have _hh := D7; go_at_call 17; refine (pall_any _).mono ?_; rintro e x8 ⟨Lc, Ac, nc, cc, m1, m2, m3, rfl, m5, hb3d⟩; have hb8 : Below x7.heap.size x7 x8 := ⟨hb3d.os, hb3d.tape, hb3d.output, hb3d.size, hb3d.block⟩; have D8 : Below W0.heap.size W0 x8 := D7.trans (hb8.mono D7.size); have R8 := Lib.hid m5; obtain ⟨j80, j81, j82⟩ := HC.out x8 D8)
      | (have _hh := D6; go_at_call 16; refine (HC2.out _ D6).mono ?_; rintro e x7 ⟨rfl, hb3d⟩; have hb7 : Below x6.heap.size x6 x7 := ⟨hb3d.os, hb3d.tape, hb3d.output, hb3d.size, hb3d.block⟩; have D7 : Below W0.heap.size W0 x7 := D6.trans (hb7.mono D6.size); obtain ⟨j70, j71, j72⟩ := HC.out x7 D7)
      | (have _hh := D5; go_at_call 15; refine (HC1.out _ D5).mono ?_; rintro e x6 ⟨rfl, hb3d⟩; have hb6 : Below x5.heap.size x5 x6 := ⟨hb3d.os, hb3d.tape, hb3d.output, hb3d.size, hb3d.block⟩; have D6 : Below W0.heap.size W0 x6 := D5.trans (hb6.mono D5.size); obtain ⟨j60, j61, j62⟩ := HC.out x6 D6)
      | (have _hh := D4; go_at_call 14; refine (HV2.out _ D4).mono ?_; rintro e x5 ⟨rfl, hb3d⟩; have hb5 : Below x4.heap.size x4 x5 := ⟨hb3d.os, hb3d.tape, hb3d.output, hb3d.size, hb3d.block⟩; have D5 : Below W0.heap.size W0 x5 := D4.trans (hb5.mono D4.size); obtain ⟨j50, j51, j52⟩ := HC.out x5 D5)
      | (have _hh := D3; go_at_call 13; refine (HV1.out _ D3).mono ?_; rintro e x4 ⟨rfl, hb3d⟩; have hb4 : Below x3.heap.size x3 x4 := ⟨hb3d.os, hb3d.tape, hb3d.output, hb3d.size, hb3d.block⟩; have D4 : Below W0.heap.size W0 x4 := D3.trans (hb4.mono D3.size); obtain ⟨j40, j41, j42⟩ := HC.out x4 D4)
      | (have _hh := D2; go_at_call 10; refine (same7_own _ _ Aa Ab na nb ca cb La Lb _ R2.out S2.out (good_uniq g1 k1 (fun m => (g2 m).trans (k2 m).symm)) (by omega)).mono ?_; rintro e x3 ⟨rfl, hb3d⟩; have hb3 : Below x2.heap.size x2 x3 := ⟨hb3d.os, hb3d.tape, hb3d.output, hb3d.size, hb3d.block⟩; have D3 : Below W0.heap.size W0 x3 := D2.trans (hb3.mono D2.size); obtain ⟨j30, j31, j32⟩ := HC.out x3 D3)
      | (have _hh := D1; go_at_call 12; refine (HN2.out _ D1).mono ?_; rintro e x2 ⟨Lb, Ab, nb, cb, k1, k2, k3, rfl, k5, hb3d⟩; have hb2 : Below x1.heap.size x1 x2 := ⟨hb3d.os, hb3d.tape, hb3d.output, hb3d.size, hb3d.block⟩; have D2 : Below W0.heap.size W0 x2 := D1.trans (hb2.mono D1.size); have R2 := Lib.hid (R1.out.kept hb2); have S2 := Lib.hid k5; obtain ⟨j20, j21, j22⟩ := HC.out x2 D2)
      | (go_at_call 11; refine (HN1.out _ ?_).mono ?_; exact ⟨rfl, rfl, rfl, Nat.le_refl _, fun _ _ => rfl⟩; rintro e x1 ⟨La, Aa, na, ca, g1, g2, g3, rfl, g5, hb3d⟩; have D1 : Below W0.heap.size W0 x1 := ⟨hb3d.os, hb3d.tape, hb3d.output, hb3d.size, hb3d.block⟩; have R1 := Lib.hid g5; obtain ⟨j10, j11, j12⟩ := HC.out x1 D1))
    all_goals
      go_wp2_with fail
      go_ret
      exact ⟨rfl, HB0.out.trans (D11.mono HB0.out.size)⟩
set_option maxRecDepth 100000 in
theorem lifted (os : Os) (started : os.Started) (H : Type) (enc : TypeId × Value → H) :
    ReturnsInHanded {} Try.checked os 3 .any (Rows.addrsetNormalSpec.pre6 enc Try.prog Try.f3 Rows.addrsetNormalRow.domain false) (Rows.addrsetNormalSpec.post enc Try.prog Try.f3 false true false false) := by
  refine returnsInHanded_of_change (C := Try.checked) own started (by kernel_rfl) Try.func3
    (ChangeSpec.witness6 (enc := enc) (C := Try.checked) false ⟨#[], #[.slice none 0 0, (.agg #[.bool false, .int .u64 0, .int .u64 0])], []⟩ 8 (by kernel_rfl) (by kernel_rfl) (by kernel_rfl) (by kernel_rfl)) ?_
  intro W base args ds gs before hval0 hW hcnd _
  have hval : ∀ (j : Nat) t v, Try.f3.params[j]? = some t → args[j]? = some v → Value.okWide Try.prog W .any base t v := hval0
  have hW' := hW
  obtain ⟨p, q, hA0, hV, rfl, hfz, hnd⟩ := hW
  have hA : DataW.TrodAll enc Try.prog W 0 (fun _ => true) true Try.f3.params.toList args.toList ds p := hA0
  rw [Try.params3] at hA hval
  obtain ⟨v0, vs0, d0, ds0, p0, q0, hargs, rfl, rfl, h0, r0⟩ := trodAll_cons hA
  obtain ⟨v1, vs1, d1, ds1, p1, q1, rfl, rfl, rfl, h1, r1⟩ := trodAll_cons r0
  obtain ⟨rfl, rfl, rfl⟩ := trodAll_nil r1
  obtain rfl : args = #[v0, v1] := by cases args; simp_all
  obtain ⟨rfl, rfl⟩ := trodVars_none hV
  obtain ⟨a0, len0, cap0, rfl⟩ := okWide_slice Try.underlying22 (hval 0 22 v0 rfl rfl)
  have k0 := h0
  have lt0 : ∀ x ∈ p0, x.block < W.heap.size := by obtain ⟨m, hm⟩ := k0; exact DataW.trod_lt m _ _ _ hm
  obtain ⟨l0, s0, e0, n0, m0, f0⟩ := in_ranges h0
  have k1 := h1
  have lt1 : ∀ x ∈ p1, x.block < W.heap.size := by obtain ⟨m, hm⟩ := k1; exact DataW.trod_lt m _ _ _ hm
  obtain ⟨x1, fx1, rfl⟩ := in_addr7 (hval 1 25 v1 rfl rfl) h1
  subst e0
  clear hA0 hval0
  refine (walk a0 cap0 l0 x1.v x1.h x1.l W s0 n0 f0 fx1).mono fun e W' ⟨he, bel⟩ => ?_
  subst he
  exact ⟨_, rfl, _, _, _, [], _, [], hW', trodAll_mk1 (shut_bool Try.underlying4 _), (trodAll_cons_mk (Below.trod laidOut (by kernel_rfl) (of_decide_eq_true (by kernel_rfl)) k0 bel lt0) (trodAll_cons_mk (Below.trod laidOut (by kernel_rfl) (of_decide_eq_true (by kernel_rfl)) k1 bel lt1) trodAll_mk0)), rfl, bel.frame _, fun h => by cases h⟩

theorem over : Rows.addrsetNormalRow.holds Try.pinned (OpenSpec.ofChange Rows.addrsetNormalSpec) :=
  OpenClaim.holds_of_wide 3 Try.f3 rfl rfl rfl rfl rfl rfl rfl ⟨rfl, rfl, rfl, rfl, rfl⟩ rfl rfl rfl rfl rfl (by kernel_rfl) Try.func3 (by kernel_rfl)
    (of_decide_eq_true (by kernel_rfl)) (by unfold Func.isWrapper; first | (rw [if_pos (by decide +kernel)]; kernel_rfl) | (rw [if_neg (by decide +kernel)]; exact ⟨rfl, rfl⟩))
    (fun os started H enc _ => lifted os started H enc)

theorem proved : Rows.AddrsetNormalSaid := over
#print axioms proved

end Go.Proofs.Ytmcelgnifpfjpaa.addrsetNormal
