/- The statement AddrsetAlgebra. -/
import Derived.Test.YtmcelgnifpfjpaaRows
import Derived.Test.YtmcelgnifpfjpaaAAl1
namespace Go.Proofs.Ytmcelgnifpfjpaa.addrsetAlgebra
open Go.ChangeShapes Go.WideShapes Go.ChangeAt Go.RowKit
set_option linter.unusedVariables false

theorem own : ownKnob Try.prog.godebug = none := by kernel_rfl
theorem laidOut : laidOutB Try.prog = true := by kernel_rfl
set_option maxHeartbeats 8000000 in
set_option maxRecDepth 20000 in
theorem walk (A0 : Option Addr) (c0 : Nat) (l0 : List Rg) (A1 : Option Addr) (c1 : Nat) (l1 : List Rg) (va : Bool) (ha la : Nat) (w : World) (s0 : RowL ER w A0 l0) (n0 : A0 = none → c0 = 0) (f0 : ∀ r ∈ l0, r.fits) (s1 : RowL ER w A1 l1) (n1 : A1 = none → c1 = 0) (f1 : ∀ r ∈ l1, r.fits) (fa : (⟨va, ha, la⟩ : Ad).fits) :
    Calls Try.prog 5 #[.slice A0 l0.length c0, .slice A1 l1.length c1, .agg #[.bool va, .int .u64 ha, .int .u64 la]] w fun e w' => e = .returned (.bool true) ∧ Below w.heap.size w w' := by
  obtain ⟨W0, hW0⟩ : ∃ W, W = w.alloc (.cells #[.bool va, .int .u64 ha, .int .u64 la] 25) := ⟨_, rfl⟩
  obtain ⟨gb, hgb⟩ : ∃ g, g = w.heap.size := ⟨_, rfl⟩
  have HB0 := Lib.hid (show Below w.heap.size w W0 from by rw [hW0]; exact below_alloc6 _ _)
  have HX := Lib.hid (show AB W0 gb va ha la from by rw [hW0, hgb]; exact ab_new w va ha la)
  have HW := Lib.hid (few_any A0 A1 l0.length c0 l1.length c1 W0)
  have HAW := Lib.hid awake_any
  cases hfew : (decide (l0.length ≤ 16) && decide (l1.length ≤ 16)) with
  | false =>
    rw [hfew] at HW
    generalize l0.length = q0 at *
    generalize l1.length = q1 at *
    clear s0 n0 f0 s1 n1 f1 fa hfew HX
    go_enter Try.func5, Try.ntmps5
    go_wp2_with fail
    rw [← hW0]
    clear hW0 hgb
    refine (HW.out).mono ?_
    rintro e w1 ⟨rfl, hw⟩
    have hw := hw.symm
    subst hw
    go_wp2_with fail
    refine (HAW.out _).mono ?_
    rintro e w2 ⟨rfl, hb⟩
    go_wp2_with fail
    go_ret
    exact ⟨rfl, HB0.out.trans (hb.mono HB0.out.size)⟩
  | true =>
    rw [hfew] at HW
    rw [Bool.and_eq_true, decide_eq_true_eq, decide_eq_true_eq] at hfew
    obtain ⟨b0, b1⟩ := hfew
    have HC := Lib.hid (show ∀ W, Below W0.heap.size W0 W → W.cell? ⟨gb, 0, none⟩ = some (.bool va) ∧ W.cell? ⟨gb, 1, none⟩ = some (.int .u64 ha) ∧ W.cell? ⟨gb, 2, none⟩ = some (.int .u64 la) from fun W hb => by
      have h := HX.out.kept hb HX.out.lt
      exact ⟨h.c0, h.c1, h.c2⟩)
    have H0 := Lib.hid (fun (W : World) (hb : Below W0.heap.size W0 W) => (s0.kept HB0.out).kept hb)
    have H1 := Lib.hid (fun (W : World) (hb : Below W0.heap.size W0 W) => (s1.kept HB0.out).kept hb)
    have HFF := Lib.hid (And.intro f0 f1)
    have HNN := Lib.hid (And.intro n0 n1)
    have HFA := Lib.hid fa
    obtain ⟨zp, hzp⟩ : ∃ z, z = (vA ⟨va, ha, la⟩ && anyS (spnL l0) (kA ⟨va, ha, la⟩)) := ⟨_, rfl⟩
    obtain ⟨zq, hzq⟩ : ∃ z, z = (vA ⟨va, ha, la⟩ && anyS (spnL l1) (kA ⟨va, ha, la⟩)) := ⟨_, rfl⟩
    have HPA := Lib.hid (fun (W : World) (hb : Below W0.heap.size W0 W) => pcontains_any A0 c0 l0 va ha la W (H0.out W hb) f0 fa (by omega))
    have HPB := Lib.hid (fun (W : World) (hb : Below W0.heap.size W0 W) => pcontains_any A1 c1 l1 va ha la W (H1.out W hb) f1 fa (by omega))
    rw [← hzp] at HPA
    rw [← hzq] at HPB
    have HZ := Lib.hid (And.intro hzp hzq)
    have HU := Lib.hid (fun (W : World) (hb : Below W0.heap.size W0 W) => punion_any A0 A1 c0 c1 l0 l1 W (H0.out W hb) (H1.out W hb) n0 n1 f0 f1 (by omega) (by omega))
    have HI := Lib.hid (fun (W : World) (hb : Below W0.heap.size W0 W) => pinter_any A0 A1 c0 c1 l0 l1 W (H0.out W hb) (H1.out W hb) f0 f1 (by omega) (by omega))
    have HM := Lib.hid (fun (W : World) (hb : Below W0.heap.size W0 W) => pminus_any A0 A1 c0 c1 l0 l1 W (H0.out W hb) (H1.out W hb) f0 f1 (by omega) (by omega))
    have HNO := Lib.hid (fun (W : World) (hb : Below W0.heap.size W0 W) => pnormal_any A0 c0 l0 W (H0.out W hb) f0 (by omega))
    have HLT := HX.out.lt
    obtain ⟨q0, hq0⟩ : ∃ q, q = l0.length := ⟨_, rfl⟩
    obtain ⟨q1, hq1⟩ : ∃ q, q = l1.length := ⟨_, rfl⟩
    have HQ := Lib.hid (And.intro hq0 hq1)
    rw [← hq0] at b0 HW HPA HU HI HM HNO ⊢
    rw [← hq1] at b1 HW HPB HU HI HM ⊢
    clear s0 n0 f0 s1 n1 f1 fa hzp hzq hq0 hq1 HX
    cases zp <;> cases zq
    · have B0 := Lib.hid (Below.refl W0.heap.size W0)
      go_enter Try.func5, Try.ntmps5
      go_wp2_with fail
      rw [← hW0, ← hgb]
      clear hW0 hgb
      refine (HW.out).mono ?_
      rintro e w1 ⟨rfl, hw⟩
      have hw := hw.symm
      subst hw
      go_wp2_with fail
      refine (HU.out _ B0.out).mono ?_
      rintro e w1 ⟨Lu, Au, nu, cu, g1, g2, g3, rfl, g5, hb⟩
      have Gu := Lib.hid (And.intro g1 (And.intro g2 g3))
      have B1 := Lib.hid (B0.out.trans (hb.mono B0.out.size))
      clear hb B0
      have HOu := Lib.hid g5
      have hnu := g3
      clear g1 g2 g3 g5
      go_wp2_with fail
      refine (HI.out _ B1.out).mono ?_
      rintro e w2 ⟨Li, Ai, ni, ci, g1, g2, g3, rfl, g5, hb⟩
      have Gi := Lib.hid (And.intro g1 (And.intro g2 g3))
      have B2 := Lib.hid (B1.out.trans (hb.mono B1.out.size))
      have HOu_2 := Lib.hid (HOu.out.kept hb)
      clear hb B1
      have HOi := Lib.hid g5
      have hni := g3
      clear g1 g2 g3 g5
      go_wp2_with fail
      refine (HM.out _ B2.out).mono ?_
      rintro e w3 ⟨Lm, Am, nm, cm, g1, g2, g3, rfl, g5, hb⟩
      have Gm := Lib.hid (And.intro g1 (And.intro g2 g3))
      have B3 := Lib.hid (B2.out.trans (hb.mono B2.out.size))
      have HOu_3 := Lib.hid (HOu_2.out.kept hb)
      have HOi_3 := Lib.hid (HOi.out.kept hb)
      clear hb B2
      have HOm := Lib.hid g5
      have hnm := g3
      clear g1 g2 g3 g5
      go_wp2_with fail
      refine (pvalid_own HOu_3.out Gu.out.1 (by omega)).mono ?_
      rintro e w4 ⟨rfl, hb⟩
      have B4 := Lib.hid (B3.out.trans (hb.mono B3.out.size))
      have HOu_4 := Lib.hid (HOu_3.out.kept hb)
      have HOi_4 := Lib.hid (HOi_3.out.kept hb)
      have HOm_4 := Lib.hid (HOm.out.kept hb)
      clear hb B3
      go_wp2_with fail
      refine (pvalid_own HOi_4.out Gi.out.1 (by omega)).mono ?_
      rintro e w5 ⟨rfl, hb⟩
      have B5 := Lib.hid (B4.out.trans (hb.mono B4.out.size))
      have HOu_5 := Lib.hid (HOu_4.out.kept hb)
      have HOi_5 := Lib.hid (HOi_4.out.kept hb)
      have HOm_5 := Lib.hid (HOm_4.out.kept hb)
      clear hb B4
      go_wp2_with fail
      refine (pvalid_own HOm_5.out Gm.out.1 (by omega)).mono ?_
      rintro e w6 ⟨rfl, hb⟩
      have B6 := Lib.hid (B5.out.trans (hb.mono B5.out.size))
      have HOu_6 := Lib.hid (HOu_5.out.kept hb)
      have HOi_6 := Lib.hid (HOi_5.out.kept hb)
      have HOm_6 := Lib.hid (HOm_5.out.kept hb)
      clear hb B5
      go_wp2_with fail
      obtain ⟨y0, y1, y2⟩ := HC.out w6 B6.out
      go_region_held3 (fun w' => w'.cell? ⟨gb, 0, none⟩ = some (.bool va) ∧ w'.cell? ⟨gb, 1, none⟩ = some (.int .u64 ha) ∧ w'.cell? ⟨gb, 2, none⟩ = some (.int .u64 la)) (go_keep) (first
        | (have _hh := D1; go_at_call 15; refine (HPB.out _ D1).mono ?_; rintro e w7 ⟨rfl, hb3d⟩; have hb9 : Below x1.heap.size x1 w7 := ⟨hb3d.os, hb3d.tape, hb3d.output, hb3d.size, hb3d.block⟩; have hb : Below w6.heap.size w6 w7 := hb1.trans (hb9.mono hb1.size); obtain ⟨j20, j21, j22⟩ := HC.out w7 (B6.out.trans (hb.mono B6.out.size)))
        | (go_at_call 15; refine (HPA.out _ ?_).mono ?_; exact ⟨B6.out.os, B6.out.tape, B6.out.output, B6.out.size, B6.out.block⟩; rintro e x1 ⟨rfl, hb3d⟩; have hb1 : Below w6.heap.size w6 x1 := ⟨hb3d.os, hb3d.tape, hb3d.output, hb3d.size, hb3d.block⟩; have D1 : Below W0.heap.size W0 x1 := B6.out.trans (hb1.mono B6.out.size); obtain ⟨j10, j11, j12⟩ := HC.out x1 D1))
      all_goals
        clear y0 y1 y2 j10 j11 j12 j20 j21 j22 hb9 D1 hb1 hb3d
        have B7 := Lib.hid (B6.out.trans (hb.mono B6.out.size))
        have HOu_7 := Lib.hid (HOu_6.out.kept hb)
        have HOi_7 := Lib.hid (HOi_6.out.kept hb)
        have HOm_7 := Lib.hid (HOm_6.out.kept hb)
        clear hb B6
        obtain ⟨y0, y1, y2⟩ := HC.out w7 B7.out
        go_wp2_with fail
        clear y0 y1 y2
        refine (pcontains_own (z := false) HOu_7.out Gu.out.1 (by omega) HFA.out (by
          have h1 := HZ.out.1
          have h2 := HZ.out.2
          rw [Gu.out.2.1]
          revert h1 h2
          cases vA ⟨va, ha, la⟩ <;> cases anyS (spnL l0) (kA ⟨va, ha, la⟩) <;> cases anyS (spnL l1) (kA ⟨va, ha, la⟩) <;> decide)).mono ?_
        rintro e w8 ⟨rfl, hb⟩
        have B8 := Lib.hid (B7.out.trans (hb.mono B7.out.size))
        have HOu_8 := Lib.hid (HOu_7.out.kept hb)
        have HOi_8 := Lib.hid (HOi_7.out.kept hb)
        have HOm_8 := Lib.hid (HOm_7.out.kept hb)
        clear hb B7
        obtain ⟨y0, y1, y2⟩ := HC.out w8 B8.out
        go_wp2_with fail
        clear y0 y1 y2
        refine (pcontains_own (z := false) HOi_8.out Gi.out.1 (by omega) HFA.out (by
          have h1 := HZ.out.1
          have h2 := HZ.out.2
          rw [Gi.out.2.1]
          revert h1 h2
          cases vA ⟨va, ha, la⟩ <;> cases anyS (spnL l0) (kA ⟨va, ha, la⟩) <;> cases anyS (spnL l1) (kA ⟨va, ha, la⟩) <;> decide)).mono ?_
        rintro e w9 ⟨rfl, hb⟩
        have B9 := Lib.hid (B8.out.trans (hb.mono B8.out.size))
        have HOu_9 := Lib.hid (HOu_8.out.kept hb)
        have HOi_9 := Lib.hid (HOi_8.out.kept hb)
        have HOm_9 := Lib.hid (HOm_8.out.kept hb)
        clear hb B8
        obtain ⟨y0, y1, y2⟩ := HC.out w9 B9.out
        go_wp2_with fail
        clear y0 y1 y2
        refine (pcontains_own (z := false) HOm_9.out Gm.out.1 (by omega) HFA.out (by
          have h1 := HZ.out.1
          have h2 := HZ.out.2
          rw [Gm.out.2.1]
          revert h1 h2
          cases vA ⟨va, ha, la⟩ <;> cases anyS (spnL l0) (kA ⟨va, ha, la⟩) <;> cases anyS (spnL l1) (kA ⟨va, ha, la⟩) <;> decide)).mono ?_
        rintro e w10 ⟨rfl, hb⟩
        have B10 := Lib.hid (B9.out.trans (hb.mono B9.out.size))
        have HOu_10 := Lib.hid (HOu_9.out.kept hb)
        have HOi_10 := Lib.hid (HOi_9.out.kept hb)
        have HOm_10 := Lib.hid (HOm_9.out.kept hb)
        clear hb B9
        obtain ⟨y0, y1, y2⟩ := HC.out w10 B10.out
        go_wp2_with fail
        clear y0 y1 y2
        refine (pminus_n A0 Am q0 nm c0 cm l0 Lm _ (H0.out _ B10.out) HOm_10.out.row HFF.out.1 (okL_fits Gm.out.1) HQ.out.1 HOm_10.out.1 (by omega) (by omega)).mono ?_
        rintro e w11 ⟨Ld, Ad, nd, cd, g1, g2, g3, rfl, g5, hb⟩
        have Gd := Lib.hid (And.intro g1 (And.intro g2 g3))
        have B11 := Lib.hid (B10.out.trans (hb.mono B10.out.size))
        have HOu_11 := Lib.hid (HOu_10.out.kept hb)
        have HOi_11 := Lib.hid (HOi_10.out.kept hb)
        have HOm_11 := Lib.hid (HOm_10.out.kept hb)
        clear hb B10
        have HOd := Lib.hid g5
        have hnd := g3
        clear g1 g2 g3 g5
        go_wp2_with fail
        refine (same7_own _ _ Ad Ai nd ni cd ci Ld Li _ HOd.out HOi_11.out (good_uniq Gd.out.1 Gi.out.1 (fun m => by rw [Gd.out.2.1 m, spnL_good Gm.out.1, Gm.out.2.1 m, Gi.out.2.1 m]; cases anyS (spnL l0) m <;> cases anyS (spnL l1) m <;> rfl)) (by omega)).mono ?_
        rintro e w12 ⟨rfl, hb⟩
        have B12 := Lib.hid (B11.out.trans (hb.mono B11.out.size))
        have HOu_12 := Lib.hid (HOu_11.out.kept hb)
        have HOi_12 := Lib.hid (HOi_11.out.kept hb)
        have HOm_12 := Lib.hid (HOm_11.out.kept hb)
        have HOd_12 := Lib.hid (HOd.out.kept hb)
        clear hb B11
        go_wp2_with fail
        refine (punion_n Am Ai nm ni cm ci Lm Li _ HOm_12.out.row HOi_12.out.row (own_nil HOm_12.out) (own_nil HOi_12.out) (okL_fits Gm.out.1) (okL_fits Gi.out.1) HOm_12.out.1 HOi_12.out.1 (by omega) (by omega)).mono ?_
        rintro e w13 ⟨Lv, Av, nv, cv, g1, g2, g3, rfl, g5, hb⟩
        have Gv := Lib.hid (And.intro g1 (And.intro g2 g3))
        have B13 := Lib.hid (B12.out.trans (hb.mono B12.out.size))
        have HOu_13 := Lib.hid (HOu_12.out.kept hb)
        have HOi_13 := Lib.hid (HOi_12.out.kept hb)
        have HOm_13 := Lib.hid (HOm_12.out.kept hb)
        have HOd_13 := Lib.hid (HOd_12.out.kept hb)
        clear hb B12
        have HOv := Lib.hid g5
        have hnv := g3
        clear g1 g2 g3 g5
        go_wp2_with fail
        refine (HNO.out _ B13.out).mono ?_
        rintro e w14 ⟨Ln, An, nn, cn, g1, g2, g3, rfl, g5, hb⟩
        have Gn := Lib.hid (And.intro g1 (And.intro g2 g3))
        have B14 := Lib.hid (B13.out.trans (hb.mono B13.out.size))
        have HOu_14 := Lib.hid (HOu_13.out.kept hb)
        have HOi_14 := Lib.hid (HOi_13.out.kept hb)
        have HOm_14 := Lib.hid (HOm_13.out.kept hb)
        have HOd_14 := Lib.hid (HOd_13.out.kept hb)
        have HOv_14 := Lib.hid (HOv.out.kept hb)
        clear hb B13
        have HOn := Lib.hid g5
        have hnn := g3
        clear g1 g2 g3 g5
        go_wp2_with fail
        refine (same7_own _ _ Av An nv nn cv cn Lv Ln _ HOv_14.out HOn.out (good_uniq Gv.out.1 Gn.out.1 (fun m => by rw [Gv.out.2.1 m, spnL_good Gm.out.1, spnL_good Gi.out.1, Gm.out.2.1 m, Gi.out.2.1 m, Gn.out.2.1 m]; cases anyS (spnL l0) m <;> cases anyS (spnL l1) m <;> rfl)) (by omega)).mono ?_
        rintro e w15 ⟨rfl, hb⟩
        have B15 := Lib.hid (B14.out.trans (hb.mono B14.out.size))
        have HOu_15 := Lib.hid (HOu_14.out.kept hb)
        have HOi_15 := Lib.hid (HOi_14.out.kept hb)
        have HOm_15 := Lib.hid (HOm_14.out.kept hb)
        have HOd_15 := Lib.hid (HOd_14.out.kept hb)
        have HOv_15 := Lib.hid (HOv_14.out.kept hb)
        have HOn_15 := Lib.hid (HOn.out.kept hb)
        clear hb B14
        go_wp2_with fail
        refine (psubset_n Ai A0 ni q0 ci c0 Li l0 _ HOi_15.out.row (H0.out _ B15.out) (okL_fits Gi.out.1) HFF.out.1 HOi_15.out.1 HQ.out.1 (by omega) (K := []) (z := true) good_nil (fun m => by rw [spnL_good Gi.out.1, Gi.out.2.1 m]; cases anyS (spnL l0) m <;> cases anyS (spnL l1) m <;> rfl) rfl).mono ?_
        rintro e w16 ⟨rfl, hb⟩
        have B16 := Lib.hid (B15.out.trans (hb.mono B15.out.size))
        have HOu_16 := Lib.hid (HOu_15.out.kept hb)
        have HOi_16 := Lib.hid (HOi_15.out.kept hb)
        have HOm_16 := Lib.hid (HOm_15.out.kept hb)
        have HOd_16 := Lib.hid (HOd_15.out.kept hb)
        have HOv_16 := Lib.hid (HOv_15.out.kept hb)
        have HOn_16 := Lib.hid (HOn_15.out.kept hb)
        clear hb B15
        go_wp2_with fail
        refine (psubset_n A0 Au q0 nu c0 cu l0 Lu _ (H0.out _ B16.out) HOu_16.out.row HFF.out.1 (okL_fits Gu.out.1) HQ.out.1 HOu_16.out.1 (by omega) (K := []) (z := true) good_nil (fun m => by rw [spnL_good Gu.out.1, Gu.out.2.1 m]; cases anyS (spnL l0) m <;> cases anyS (spnL l1) m <;> rfl) rfl).mono ?_
        rintro e w17 ⟨rfl, hb⟩
        have B17 := Lib.hid (B16.out.trans (hb.mono B16.out.size))
        have HOu_17 := Lib.hid (HOu_16.out.kept hb)
        have HOi_17 := Lib.hid (HOi_16.out.kept hb)
        have HOm_17 := Lib.hid (HOm_16.out.kept hb)
        have HOd_17 := Lib.hid (HOd_16.out.kept hb)
        have HOv_17 := Lib.hid (HOv_16.out.kept hb)
        have HOn_17 := Lib.hid (HOn_16.out.kept hb)
        clear hb B16
        go_wp2_with fail
        obtain ⟨bz, hbz⟩ : ∃ z, z = (Lm.length == 0) := ⟨_, rfl⟩
        have hz1 : ((nm : Int) == 0) = bz := by rw [hbz, ← HOm_17.out.1]; cases nm <;> rfl
        have hz2 : decide ((nm : Int) = 0) = bz := by rw [← hz1]; rfl
        have hbb : (bz == bz) = true := by cases bz <;> rfl
        have HBZ := Lib.hid hbz.symm
        clear hbz
        refine (psubset_n A0 A1 q0 q1 c0 c1 l0 l1 _ (H0.out _ B17.out) (H1.out _ B17.out) HFF.out.1 HFF.out.2 HQ.out.1 HQ.out.2 (by omega) (K := Lm) (z := bz) Gm.out.1 (fun m => by rw [Gm.out.2.1 m]) HBZ.out).mono ?_
        rintro e w18 ⟨rfl, hb⟩
        have B18 := Lib.hid (B17.out.trans (hb.mono B17.out.size))
        have HOu_18 := Lib.hid (HOu_17.out.kept hb)
        have HOi_18 := Lib.hid (HOi_17.out.kept hb)
        have HOm_18 := Lib.hid (HOm_17.out.kept hb)
        have HOd_18 := Lib.hid (HOd_17.out.kept hb)
        have HOv_18 := Lib.hid (HOv_17.out.kept hb)
        have HOn_18 := Lib.hid (HOn_17.out.kept hb)
        clear hb B17
        go_wp2_with fail
        refine (HAW.out _).mono ?_
        rintro e w19 ⟨rfl, hb⟩
        have B19 := Lib.hid (B18.out.trans (hb.mono B18.out.size))
        have HOu_19 := Lib.hid (HOu_18.out.kept hb)
        have HOi_19 := Lib.hid (HOi_18.out.kept hb)
        have HOm_19 := Lib.hid (HOm_18.out.kept hb)
        have HOd_19 := Lib.hid (HOd_18.out.kept hb)
        have HOv_19 := Lib.hid (HOv_18.out.kept hb)
        have HOn_19 := Lib.hid (HOn_18.out.kept hb)
        clear hb B18
        go_wp2_with fail
        go_ret
        exact ⟨rfl, HB0.out.trans (B19.out.mono HB0.out.size)⟩
    · have B0 := Lib.hid (Below.refl W0.heap.size W0)
      go_enter Try.func5, Try.ntmps5
      go_wp2_with fail
      rw [← hW0, ← hgb]
      clear hW0 hgb
      refine (HW.out).mono ?_
      rintro e w1 ⟨rfl, hw⟩
      have hw := hw.symm
      subst hw
      go_wp2_with fail
      refine (HU.out _ B0.out).mono ?_
      rintro e w1 ⟨Lu, Au, nu, cu, g1, g2, g3, rfl, g5, hb⟩
      have Gu := Lib.hid (And.intro g1 (And.intro g2 g3))
      have B1 := Lib.hid (B0.out.trans (hb.mono B0.out.size))
      clear hb B0
      have HOu := Lib.hid g5
      have hnu := g3
      clear g1 g2 g3 g5
      go_wp2_with fail
      refine (HI.out _ B1.out).mono ?_
      rintro e w2 ⟨Li, Ai, ni, ci, g1, g2, g3, rfl, g5, hb⟩
      have Gi := Lib.hid (And.intro g1 (And.intro g2 g3))
      have B2 := Lib.hid (B1.out.trans (hb.mono B1.out.size))
      have HOu_2 := Lib.hid (HOu.out.kept hb)
      clear hb B1
      have HOi := Lib.hid g5
      have hni := g3
      clear g1 g2 g3 g5
      go_wp2_with fail
      refine (HM.out _ B2.out).mono ?_
      rintro e w3 ⟨Lm, Am, nm, cm, g1, g2, g3, rfl, g5, hb⟩
      have Gm := Lib.hid (And.intro g1 (And.intro g2 g3))
      have B3 := Lib.hid (B2.out.trans (hb.mono B2.out.size))
      have HOu_3 := Lib.hid (HOu_2.out.kept hb)
      have HOi_3 := Lib.hid (HOi.out.kept hb)
      clear hb B2
      have HOm := Lib.hid g5
      have hnm := g3
      clear g1 g2 g3 g5
      go_wp2_with fail
      refine (pvalid_own HOu_3.out Gu.out.1 (by omega)).mono ?_
      rintro e w4 ⟨rfl, hb⟩
      have B4 := Lib.hid (B3.out.trans (hb.mono B3.out.size))
      have HOu_4 := Lib.hid (HOu_3.out.kept hb)
      have HOi_4 := Lib.hid (HOi_3.out.kept hb)
      have HOm_4 := Lib.hid (HOm.out.kept hb)
      clear hb B3
      go_wp2_with fail
      refine (pvalid_own HOi_4.out Gi.out.1 (by omega)).mono ?_
      rintro e w5 ⟨rfl, hb⟩
      have B5 := Lib.hid (B4.out.trans (hb.mono B4.out.size))
      have HOu_5 := Lib.hid (HOu_4.out.kept hb)
      have HOi_5 := Lib.hid (HOi_4.out.kept hb)
      have HOm_5 := Lib.hid (HOm_4.out.kept hb)
      clear hb B4
      go_wp2_with fail
      refine (pvalid_own HOm_5.out Gm.out.1 (by omega)).mono ?_
      rintro e w6 ⟨rfl, hb⟩
      have B6 := Lib.hid (B5.out.trans (hb.mono B5.out.size))
      have HOu_6 := Lib.hid (HOu_5.out.kept hb)
      have HOi_6 := Lib.hid (HOi_5.out.kept hb)
      have HOm_6 := Lib.hid (HOm_5.out.kept hb)
      clear hb B5
      go_wp2_with fail
      obtain ⟨y0, y1, y2⟩ := HC.out w6 B6.out
      go_region_held3 (fun w' => w'.cell? ⟨gb, 0, none⟩ = some (.bool va) ∧ w'.cell? ⟨gb, 1, none⟩ = some (.int .u64 ha) ∧ w'.cell? ⟨gb, 2, none⟩ = some (.int .u64 la)) (go_keep) (first
        | (have _hh := D1; go_at_call 15; refine (HPB.out _ D1).mono ?_; rintro e w7 ⟨rfl, hb3d⟩; have hb9 : Below x1.heap.size x1 w7 := ⟨hb3d.os, hb3d.tape, hb3d.output, hb3d.size, hb3d.block⟩; have hb : Below w6.heap.size w6 w7 := hb1.trans (hb9.mono hb1.size); obtain ⟨j20, j21, j22⟩ := HC.out w7 (B6.out.trans (hb.mono B6.out.size)))
        | (go_at_call 15; refine (HPA.out _ ?_).mono ?_; exact ⟨B6.out.os, B6.out.tape, B6.out.output, B6.out.size, B6.out.block⟩; rintro e x1 ⟨rfl, hb3d⟩; have hb1 : Below w6.heap.size w6 x1 := ⟨hb3d.os, hb3d.tape, hb3d.output, hb3d.size, hb3d.block⟩; have D1 : Below W0.heap.size W0 x1 := B6.out.trans (hb1.mono B6.out.size); obtain ⟨j10, j11, j12⟩ := HC.out x1 D1))
      all_goals
        clear y0 y1 y2 j10 j11 j12 j20 j21 j22 hb9 D1 hb1 hb3d
        have B7 := Lib.hid (B6.out.trans (hb.mono B6.out.size))
        have HOu_7 := Lib.hid (HOu_6.out.kept hb)
        have HOi_7 := Lib.hid (HOi_6.out.kept hb)
        have HOm_7 := Lib.hid (HOm_6.out.kept hb)
        clear hb B6
        obtain ⟨y0, y1, y2⟩ := HC.out w7 B7.out
        go_wp2_with fail
        clear y0 y1 y2
        refine (pcontains_own (z := true) HOu_7.out Gu.out.1 (by omega) HFA.out (by
          have h1 := HZ.out.1
          have h2 := HZ.out.2
          rw [Gu.out.2.1]
          revert h1 h2
          cases vA ⟨va, ha, la⟩ <;> cases anyS (spnL l0) (kA ⟨va, ha, la⟩) <;> cases anyS (spnL l1) (kA ⟨va, ha, la⟩) <;> decide)).mono ?_
        rintro e w8 ⟨rfl, hb⟩
        have B8 := Lib.hid (B7.out.trans (hb.mono B7.out.size))
        have HOu_8 := Lib.hid (HOu_7.out.kept hb)
        have HOi_8 := Lib.hid (HOi_7.out.kept hb)
        have HOm_8 := Lib.hid (HOm_7.out.kept hb)
        clear hb B7
        obtain ⟨y0, y1, y2⟩ := HC.out w8 B8.out
        go_wp2_with fail
        clear y0 y1 y2
        refine (pcontains_own (z := false) HOi_8.out Gi.out.1 (by omega) HFA.out (by
          have h1 := HZ.out.1
          have h2 := HZ.out.2
          rw [Gi.out.2.1]
          revert h1 h2
          cases vA ⟨va, ha, la⟩ <;> cases anyS (spnL l0) (kA ⟨va, ha, la⟩) <;> cases anyS (spnL l1) (kA ⟨va, ha, la⟩) <;> decide)).mono ?_
        rintro e w9 ⟨rfl, hb⟩
        have B9 := Lib.hid (B8.out.trans (hb.mono B8.out.size))
        have HOu_9 := Lib.hid (HOu_8.out.kept hb)
        have HOi_9 := Lib.hid (HOi_8.out.kept hb)
        have HOm_9 := Lib.hid (HOm_8.out.kept hb)
        clear hb B8
        obtain ⟨y0, y1, y2⟩ := HC.out w9 B9.out
        go_wp2_with fail
        clear y0 y1 y2
        refine (pcontains_own (z := false) HOm_9.out Gm.out.1 (by omega) HFA.out (by
          have h1 := HZ.out.1
          have h2 := HZ.out.2
          rw [Gm.out.2.1]
          revert h1 h2
          cases vA ⟨va, ha, la⟩ <;> cases anyS (spnL l0) (kA ⟨va, ha, la⟩) <;> cases anyS (spnL l1) (kA ⟨va, ha, la⟩) <;> decide)).mono ?_
        rintro e w10 ⟨rfl, hb⟩
        have B10 := Lib.hid (B9.out.trans (hb.mono B9.out.size))
        have HOu_10 := Lib.hid (HOu_9.out.kept hb)
        have HOi_10 := Lib.hid (HOi_9.out.kept hb)
        have HOm_10 := Lib.hid (HOm_9.out.kept hb)
        clear hb B9
        obtain ⟨y0, y1, y2⟩ := HC.out w10 B10.out
        go_wp2_with fail
        clear y0 y1 y2
        refine (pminus_n A0 Am q0 nm c0 cm l0 Lm _ (H0.out _ B10.out) HOm_10.out.row HFF.out.1 (okL_fits Gm.out.1) HQ.out.1 HOm_10.out.1 (by omega) (by omega)).mono ?_
        rintro e w11 ⟨Ld, Ad, nd, cd, g1, g2, g3, rfl, g5, hb⟩
        have Gd := Lib.hid (And.intro g1 (And.intro g2 g3))
        have B11 := Lib.hid (B10.out.trans (hb.mono B10.out.size))
        have HOu_11 := Lib.hid (HOu_10.out.kept hb)
        have HOi_11 := Lib.hid (HOi_10.out.kept hb)
        have HOm_11 := Lib.hid (HOm_10.out.kept hb)
        clear hb B10
        have HOd := Lib.hid g5
        have hnd := g3
        clear g1 g2 g3 g5
        go_wp2_with fail
        refine (same7_own _ _ Ad Ai nd ni cd ci Ld Li _ HOd.out HOi_11.out (good_uniq Gd.out.1 Gi.out.1 (fun m => by rw [Gd.out.2.1 m, spnL_good Gm.out.1, Gm.out.2.1 m, Gi.out.2.1 m]; cases anyS (spnL l0) m <;> cases anyS (spnL l1) m <;> rfl)) (by omega)).mono ?_
        rintro e w12 ⟨rfl, hb⟩
        have B12 := Lib.hid (B11.out.trans (hb.mono B11.out.size))
        have HOu_12 := Lib.hid (HOu_11.out.kept hb)
        have HOi_12 := Lib.hid (HOi_11.out.kept hb)
        have HOm_12 := Lib.hid (HOm_11.out.kept hb)
        have HOd_12 := Lib.hid (HOd.out.kept hb)
        clear hb B11
        go_wp2_with fail
        refine (punion_n Am Ai nm ni cm ci Lm Li _ HOm_12.out.row HOi_12.out.row (own_nil HOm_12.out) (own_nil HOi_12.out) (okL_fits Gm.out.1) (okL_fits Gi.out.1) HOm_12.out.1 HOi_12.out.1 (by omega) (by omega)).mono ?_
        rintro e w13 ⟨Lv, Av, nv, cv, g1, g2, g3, rfl, g5, hb⟩
        have Gv := Lib.hid (And.intro g1 (And.intro g2 g3))
        have B13 := Lib.hid (B12.out.trans (hb.mono B12.out.size))
        have HOu_13 := Lib.hid (HOu_12.out.kept hb)
        have HOi_13 := Lib.hid (HOi_12.out.kept hb)
        have HOm_13 := Lib.hid (HOm_12.out.kept hb)
        have HOd_13 := Lib.hid (HOd_12.out.kept hb)
        clear hb B12
        have HOv := Lib.hid g5
        have hnv := g3
        clear g1 g2 g3 g5
        go_wp2_with fail
        refine (HNO.out _ B13.out).mono ?_
        rintro e w14 ⟨Ln, An, nn, cn, g1, g2, g3, rfl, g5, hb⟩
        have Gn := Lib.hid (And.intro g1 (And.intro g2 g3))
        have B14 := Lib.hid (B13.out.trans (hb.mono B13.out.size))
        have HOu_14 := Lib.hid (HOu_13.out.kept hb)
        have HOi_14 := Lib.hid (HOi_13.out.kept hb)
        have HOm_14 := Lib.hid (HOm_13.out.kept hb)
        have HOd_14 := Lib.hid (HOd_13.out.kept hb)
        have HOv_14 := Lib.hid (HOv.out.kept hb)
        clear hb B13
        have HOn := Lib.hid g5
        have hnn := g3
        clear g1 g2 g3 g5
        go_wp2_with fail
        refine (same7_own _ _ Av An nv nn cv cn Lv Ln _ HOv_14.out HOn.out (good_uniq Gv.out.1 Gn.out.1 (fun m => by rw [Gv.out.2.1 m, spnL_good Gm.out.1, spnL_good Gi.out.1, Gm.out.2.1 m, Gi.out.2.1 m, Gn.out.2.1 m]; cases anyS (spnL l0) m <;> cases anyS (spnL l1) m <;> rfl)) (by omega)).mono ?_
        rintro e w15 ⟨rfl, hb⟩
        have B15 := Lib.hid (B14.out.trans (hb.mono B14.out.size))
        have HOu_15 := Lib.hid (HOu_14.out.kept hb)
        have HOi_15 := Lib.hid (HOi_14.out.kept hb)
        have HOm_15 := Lib.hid (HOm_14.out.kept hb)
        have HOd_15 := Lib.hid (HOd_14.out.kept hb)
        have HOv_15 := Lib.hid (HOv_14.out.kept hb)
        have HOn_15 := Lib.hid (HOn.out.kept hb)
        clear hb B14
        go_wp2_with fail
        refine (psubset_n Ai A0 ni q0 ci c0 Li l0 _ HOi_15.out.row (H0.out _ B15.out) (okL_fits Gi.out.1) HFF.out.1 HOi_15.out.1 HQ.out.1 (by omega) (K := []) (z := true) good_nil (fun m => by rw [spnL_good Gi.out.1, Gi.out.2.1 m]; cases anyS (spnL l0) m <;> cases anyS (spnL l1) m <;> rfl) rfl).mono ?_
        rintro e w16 ⟨rfl, hb⟩
        have B16 := Lib.hid (B15.out.trans (hb.mono B15.out.size))
        have HOu_16 := Lib.hid (HOu_15.out.kept hb)
        have HOi_16 := Lib.hid (HOi_15.out.kept hb)
        have HOm_16 := Lib.hid (HOm_15.out.kept hb)
        have HOd_16 := Lib.hid (HOd_15.out.kept hb)
        have HOv_16 := Lib.hid (HOv_15.out.kept hb)
        have HOn_16 := Lib.hid (HOn_15.out.kept hb)
        clear hb B15
        go_wp2_with fail
        refine (psubset_n A0 Au q0 nu c0 cu l0 Lu _ (H0.out _ B16.out) HOu_16.out.row HFF.out.1 (okL_fits Gu.out.1) HQ.out.1 HOu_16.out.1 (by omega) (K := []) (z := true) good_nil (fun m => by rw [spnL_good Gu.out.1, Gu.out.2.1 m]; cases anyS (spnL l0) m <;> cases anyS (spnL l1) m <;> rfl) rfl).mono ?_
        rintro e w17 ⟨rfl, hb⟩
        have B17 := Lib.hid (B16.out.trans (hb.mono B16.out.size))
        have HOu_17 := Lib.hid (HOu_16.out.kept hb)
        have HOi_17 := Lib.hid (HOi_16.out.kept hb)
        have HOm_17 := Lib.hid (HOm_16.out.kept hb)
        have HOd_17 := Lib.hid (HOd_16.out.kept hb)
        have HOv_17 := Lib.hid (HOv_16.out.kept hb)
        have HOn_17 := Lib.hid (HOn_16.out.kept hb)
        clear hb B16
        go_wp2_with fail
        obtain ⟨bz, hbz⟩ : ∃ z, z = (Lm.length == 0) := ⟨_, rfl⟩
        have hz1 : ((nm : Int) == 0) = bz := by rw [hbz, ← HOm_17.out.1]; cases nm <;> rfl
        have hz2 : decide ((nm : Int) = 0) = bz := by rw [← hz1]; rfl
        have hbb : (bz == bz) = true := by cases bz <;> rfl
        have HBZ := Lib.hid hbz.symm
        clear hbz
        refine (psubset_n A0 A1 q0 q1 c0 c1 l0 l1 _ (H0.out _ B17.out) (H1.out _ B17.out) HFF.out.1 HFF.out.2 HQ.out.1 HQ.out.2 (by omega) (K := Lm) (z := bz) Gm.out.1 (fun m => by rw [Gm.out.2.1 m]) HBZ.out).mono ?_
        rintro e w18 ⟨rfl, hb⟩
        have B18 := Lib.hid (B17.out.trans (hb.mono B17.out.size))
        have HOu_18 := Lib.hid (HOu_17.out.kept hb)
        have HOi_18 := Lib.hid (HOi_17.out.kept hb)
        have HOm_18 := Lib.hid (HOm_17.out.kept hb)
        have HOd_18 := Lib.hid (HOd_17.out.kept hb)
        have HOv_18 := Lib.hid (HOv_17.out.kept hb)
        have HOn_18 := Lib.hid (HOn_17.out.kept hb)
        clear hb B17
        go_wp2_with fail
        refine (HAW.out _).mono ?_
        rintro e w19 ⟨rfl, hb⟩
        have B19 := Lib.hid (B18.out.trans (hb.mono B18.out.size))
        have HOu_19 := Lib.hid (HOu_18.out.kept hb)
        have HOi_19 := Lib.hid (HOi_18.out.kept hb)
        have HOm_19 := Lib.hid (HOm_18.out.kept hb)
        have HOd_19 := Lib.hid (HOd_18.out.kept hb)
        have HOv_19 := Lib.hid (HOv_18.out.kept hb)
        have HOn_19 := Lib.hid (HOn_18.out.kept hb)
        clear hb B18
        go_wp2_with fail
        go_ret
        exact ⟨rfl, HB0.out.trans (B19.out.mono HB0.out.size)⟩
    · have B0 := Lib.hid (Below.refl W0.heap.size W0)
      go_enter Try.func5, Try.ntmps5
      go_wp2_with fail
      rw [← hW0, ← hgb]
      clear hW0 hgb
      refine (HW.out).mono ?_
      rintro e w1 ⟨rfl, hw⟩
      have hw := hw.symm
      subst hw
      go_wp2_with fail
      refine (HU.out _ B0.out).mono ?_
      rintro e w1 ⟨Lu, Au, nu, cu, g1, g2, g3, rfl, g5, hb⟩
      have Gu := Lib.hid (And.intro g1 (And.intro g2 g3))
      have B1 := Lib.hid (B0.out.trans (hb.mono B0.out.size))
      clear hb B0
      have HOu := Lib.hid g5
      have hnu := g3
      clear g1 g2 g3 g5
      go_wp2_with fail
      refine (HI.out _ B1.out).mono ?_
      rintro e w2 ⟨Li, Ai, ni, ci, g1, g2, g3, rfl, g5, hb⟩
      have Gi := Lib.hid (And.intro g1 (And.intro g2 g3))
      have B2 := Lib.hid (B1.out.trans (hb.mono B1.out.size))
      have HOu_2 := Lib.hid (HOu.out.kept hb)
      clear hb B1
      have HOi := Lib.hid g5
      have hni := g3
      clear g1 g2 g3 g5
      go_wp2_with fail
      refine (HM.out _ B2.out).mono ?_
      rintro e w3 ⟨Lm, Am, nm, cm, g1, g2, g3, rfl, g5, hb⟩
      have Gm := Lib.hid (And.intro g1 (And.intro g2 g3))
      have B3 := Lib.hid (B2.out.trans (hb.mono B2.out.size))
      have HOu_3 := Lib.hid (HOu_2.out.kept hb)
      have HOi_3 := Lib.hid (HOi.out.kept hb)
      clear hb B2
      have HOm := Lib.hid g5
      have hnm := g3
      clear g1 g2 g3 g5
      go_wp2_with fail
      refine (pvalid_own HOu_3.out Gu.out.1 (by omega)).mono ?_
      rintro e w4 ⟨rfl, hb⟩
      have B4 := Lib.hid (B3.out.trans (hb.mono B3.out.size))
      have HOu_4 := Lib.hid (HOu_3.out.kept hb)
      have HOi_4 := Lib.hid (HOi_3.out.kept hb)
      have HOm_4 := Lib.hid (HOm.out.kept hb)
      clear hb B3
      go_wp2_with fail
      refine (pvalid_own HOi_4.out Gi.out.1 (by omega)).mono ?_
      rintro e w5 ⟨rfl, hb⟩
      have B5 := Lib.hid (B4.out.trans (hb.mono B4.out.size))
      have HOu_5 := Lib.hid (HOu_4.out.kept hb)
      have HOi_5 := Lib.hid (HOi_4.out.kept hb)
      have HOm_5 := Lib.hid (HOm_4.out.kept hb)
      clear hb B4
      go_wp2_with fail
      refine (pvalid_own HOm_5.out Gm.out.1 (by omega)).mono ?_
      rintro e w6 ⟨rfl, hb⟩
      have B6 := Lib.hid (B5.out.trans (hb.mono B5.out.size))
      have HOu_6 := Lib.hid (HOu_5.out.kept hb)
      have HOi_6 := Lib.hid (HOi_5.out.kept hb)
      have HOm_6 := Lib.hid (HOm_5.out.kept hb)
      clear hb B5
      go_wp2_with fail
      obtain ⟨y0, y1, y2⟩ := HC.out w6 B6.out
      go_region_held3 (fun w' => w'.cell? ⟨gb, 0, none⟩ = some (.bool va) ∧ w'.cell? ⟨gb, 1, none⟩ = some (.int .u64 ha) ∧ w'.cell? ⟨gb, 2, none⟩ = some (.int .u64 la)) (go_keep) (first
        | (have _hh := D1; go_at_call 15; refine (HPB.out _ D1).mono ?_; rintro e w7 ⟨rfl, hb3d⟩; have hb9 : Below x1.heap.size x1 w7 := ⟨hb3d.os, hb3d.tape, hb3d.output, hb3d.size, hb3d.block⟩; have hb : Below w6.heap.size w6 w7 := hb1.trans (hb9.mono hb1.size); obtain ⟨j20, j21, j22⟩ := HC.out w7 (B6.out.trans (hb.mono B6.out.size)))
        | (go_at_call 15; refine (HPA.out _ ?_).mono ?_; exact ⟨B6.out.os, B6.out.tape, B6.out.output, B6.out.size, B6.out.block⟩; rintro e x1 ⟨rfl, hb3d⟩; have hb1 : Below w6.heap.size w6 x1 := ⟨hb3d.os, hb3d.tape, hb3d.output, hb3d.size, hb3d.block⟩; have D1 : Below W0.heap.size W0 x1 := B6.out.trans (hb1.mono B6.out.size); obtain ⟨j10, j11, j12⟩ := HC.out x1 D1))
      all_goals
        clear y0 y1 y2 j10 j11 j12 j20 j21 j22 hb9 D1 hb1 hb3d
        have B7 := Lib.hid (B6.out.trans (hb.mono B6.out.size))
        have HOu_7 := Lib.hid (HOu_6.out.kept hb)
        have HOi_7 := Lib.hid (HOi_6.out.kept hb)
        have HOm_7 := Lib.hid (HOm_6.out.kept hb)
        clear hb B6
        obtain ⟨y0, y1, y2⟩ := HC.out w7 B7.out
        go_wp2_with fail
        clear y0 y1 y2
        refine (pcontains_own (z := true) HOu_7.out Gu.out.1 (by omega) HFA.out (by
          have h1 := HZ.out.1
          have h2 := HZ.out.2
          rw [Gu.out.2.1]
          revert h1 h2
          cases vA ⟨va, ha, la⟩ <;> cases anyS (spnL l0) (kA ⟨va, ha, la⟩) <;> cases anyS (spnL l1) (kA ⟨va, ha, la⟩) <;> decide)).mono ?_
        rintro e w8 ⟨rfl, hb⟩
        have B8 := Lib.hid (B7.out.trans (hb.mono B7.out.size))
        have HOu_8 := Lib.hid (HOu_7.out.kept hb)
        have HOi_8 := Lib.hid (HOi_7.out.kept hb)
        have HOm_8 := Lib.hid (HOm_7.out.kept hb)
        clear hb B7
        obtain ⟨y0, y1, y2⟩ := HC.out w8 B8.out
        go_wp2_with fail
        clear y0 y1 y2
        refine (pcontains_own (z := false) HOi_8.out Gi.out.1 (by omega) HFA.out (by
          have h1 := HZ.out.1
          have h2 := HZ.out.2
          rw [Gi.out.2.1]
          revert h1 h2
          cases vA ⟨va, ha, la⟩ <;> cases anyS (spnL l0) (kA ⟨va, ha, la⟩) <;> cases anyS (spnL l1) (kA ⟨va, ha, la⟩) <;> decide)).mono ?_
        rintro e w9 ⟨rfl, hb⟩
        have B9 := Lib.hid (B8.out.trans (hb.mono B8.out.size))
        have HOu_9 := Lib.hid (HOu_8.out.kept hb)
        have HOi_9 := Lib.hid (HOi_8.out.kept hb)
        have HOm_9 := Lib.hid (HOm_8.out.kept hb)
        clear hb B8
        obtain ⟨y0, y1, y2⟩ := HC.out w9 B9.out
        go_wp2_with fail
        clear y0 y1 y2
        refine (pcontains_own (z := true) HOm_9.out Gm.out.1 (by omega) HFA.out (by
          have h1 := HZ.out.1
          have h2 := HZ.out.2
          rw [Gm.out.2.1]
          revert h1 h2
          cases vA ⟨va, ha, la⟩ <;> cases anyS (spnL l0) (kA ⟨va, ha, la⟩) <;> cases anyS (spnL l1) (kA ⟨va, ha, la⟩) <;> decide)).mono ?_
        rintro e w10 ⟨rfl, hb⟩
        have B10 := Lib.hid (B9.out.trans (hb.mono B9.out.size))
        have HOu_10 := Lib.hid (HOu_9.out.kept hb)
        have HOi_10 := Lib.hid (HOi_9.out.kept hb)
        have HOm_10 := Lib.hid (HOm_9.out.kept hb)
        clear hb B9
        obtain ⟨y0, y1, y2⟩ := HC.out w10 B10.out
        go_wp2_with fail
        clear y0 y1 y2
        refine (pminus_n A0 Am q0 nm c0 cm l0 Lm _ (H0.out _ B10.out) HOm_10.out.row HFF.out.1 (okL_fits Gm.out.1) HQ.out.1 HOm_10.out.1 (by omega) (by omega)).mono ?_
        rintro e w11 ⟨Ld, Ad, nd, cd, g1, g2, g3, rfl, g5, hb⟩
        have Gd := Lib.hid (And.intro g1 (And.intro g2 g3))
        have B11 := Lib.hid (B10.out.trans (hb.mono B10.out.size))
        have HOu_11 := Lib.hid (HOu_10.out.kept hb)
        have HOi_11 := Lib.hid (HOi_10.out.kept hb)
        have HOm_11 := Lib.hid (HOm_10.out.kept hb)
        clear hb B10
        have HOd := Lib.hid g5
        have hnd := g3
        clear g1 g2 g3 g5
        go_wp2_with fail
        refine (same7_own _ _ Ad Ai nd ni cd ci Ld Li _ HOd.out HOi_11.out (good_uniq Gd.out.1 Gi.out.1 (fun m => by rw [Gd.out.2.1 m, spnL_good Gm.out.1, Gm.out.2.1 m, Gi.out.2.1 m]; cases anyS (spnL l0) m <;> cases anyS (spnL l1) m <;> rfl)) (by omega)).mono ?_
        rintro e w12 ⟨rfl, hb⟩
        have B12 := Lib.hid (B11.out.trans (hb.mono B11.out.size))
        have HOu_12 := Lib.hid (HOu_11.out.kept hb)
        have HOi_12 := Lib.hid (HOi_11.out.kept hb)
        have HOm_12 := Lib.hid (HOm_11.out.kept hb)
        have HOd_12 := Lib.hid (HOd.out.kept hb)
        clear hb B11
        go_wp2_with fail
        refine (punion_n Am Ai nm ni cm ci Lm Li _ HOm_12.out.row HOi_12.out.row (own_nil HOm_12.out) (own_nil HOi_12.out) (okL_fits Gm.out.1) (okL_fits Gi.out.1) HOm_12.out.1 HOi_12.out.1 (by omega) (by omega)).mono ?_
        rintro e w13 ⟨Lv, Av, nv, cv, g1, g2, g3, rfl, g5, hb⟩
        have Gv := Lib.hid (And.intro g1 (And.intro g2 g3))
        have B13 := Lib.hid (B12.out.trans (hb.mono B12.out.size))
        have HOu_13 := Lib.hid (HOu_12.out.kept hb)
        have HOi_13 := Lib.hid (HOi_12.out.kept hb)
        have HOm_13 := Lib.hid (HOm_12.out.kept hb)
        have HOd_13 := Lib.hid (HOd_12.out.kept hb)
        clear hb B12
        have HOv := Lib.hid g5
        have hnv := g3
        clear g1 g2 g3 g5
        go_wp2_with fail
        refine (HNO.out _ B13.out).mono ?_
        rintro e w14 ⟨Ln, An, nn, cn, g1, g2, g3, rfl, g5, hb⟩
        have Gn := Lib.hid (And.intro g1 (And.intro g2 g3))
        have B14 := Lib.hid (B13.out.trans (hb.mono B13.out.size))
        have HOu_14 := Lib.hid (HOu_13.out.kept hb)
        have HOi_14 := Lib.hid (HOi_13.out.kept hb)
        have HOm_14 := Lib.hid (HOm_13.out.kept hb)
        have HOd_14 := Lib.hid (HOd_13.out.kept hb)
        have HOv_14 := Lib.hid (HOv.out.kept hb)
        clear hb B13
        have HOn := Lib.hid g5
        have hnn := g3
        clear g1 g2 g3 g5
        go_wp2_with fail
        refine (same7_own _ _ Av An nv nn cv cn Lv Ln _ HOv_14.out HOn.out (good_uniq Gv.out.1 Gn.out.1 (fun m => by rw [Gv.out.2.1 m, spnL_good Gm.out.1, spnL_good Gi.out.1, Gm.out.2.1 m, Gi.out.2.1 m, Gn.out.2.1 m]; cases anyS (spnL l0) m <;> cases anyS (spnL l1) m <;> rfl)) (by omega)).mono ?_
        rintro e w15 ⟨rfl, hb⟩
        have B15 := Lib.hid (B14.out.trans (hb.mono B14.out.size))
        have HOu_15 := Lib.hid (HOu_14.out.kept hb)
        have HOi_15 := Lib.hid (HOi_14.out.kept hb)
        have HOm_15 := Lib.hid (HOm_14.out.kept hb)
        have HOd_15 := Lib.hid (HOd_14.out.kept hb)
        have HOv_15 := Lib.hid (HOv_14.out.kept hb)
        have HOn_15 := Lib.hid (HOn.out.kept hb)
        clear hb B14
        go_wp2_with fail
        refine (psubset_n Ai A0 ni q0 ci c0 Li l0 _ HOi_15.out.row (H0.out _ B15.out) (okL_fits Gi.out.1) HFF.out.1 HOi_15.out.1 HQ.out.1 (by omega) (K := []) (z := true) good_nil (fun m => by rw [spnL_good Gi.out.1, Gi.out.2.1 m]; cases anyS (spnL l0) m <;> cases anyS (spnL l1) m <;> rfl) rfl).mono ?_
        rintro e w16 ⟨rfl, hb⟩
        have B16 := Lib.hid (B15.out.trans (hb.mono B15.out.size))
        have HOu_16 := Lib.hid (HOu_15.out.kept hb)
        have HOi_16 := Lib.hid (HOi_15.out.kept hb)
        have HOm_16 := Lib.hid (HOm_15.out.kept hb)
        have HOd_16 := Lib.hid (HOd_15.out.kept hb)
        have HOv_16 := Lib.hid (HOv_15.out.kept hb)
        have HOn_16 := Lib.hid (HOn_15.out.kept hb)
        clear hb B15
        go_wp2_with fail
        refine (psubset_n A0 Au q0 nu c0 cu l0 Lu _ (H0.out _ B16.out) HOu_16.out.row HFF.out.1 (okL_fits Gu.out.1) HQ.out.1 HOu_16.out.1 (by omega) (K := []) (z := true) good_nil (fun m => by rw [spnL_good Gu.out.1, Gu.out.2.1 m]; cases anyS (spnL l0) m <;> cases anyS (spnL l1) m <;> rfl) rfl).mono ?_
        rintro e w17 ⟨rfl, hb⟩
        have B17 := Lib.hid (B16.out.trans (hb.mono B16.out.size))
        have HOu_17 := Lib.hid (HOu_16.out.kept hb)
        have HOi_17 := Lib.hid (HOi_16.out.kept hb)
        have HOm_17 := Lib.hid (HOm_16.out.kept hb)
        have HOd_17 := Lib.hid (HOd_16.out.kept hb)
        have HOv_17 := Lib.hid (HOv_16.out.kept hb)
        have HOn_17 := Lib.hid (HOn_16.out.kept hb)
        clear hb B16
        go_wp2_with fail
        obtain ⟨bz, hbz⟩ : ∃ z, z = (Lm.length == 0) := ⟨_, rfl⟩
        have hz1 : ((nm : Int) == 0) = bz := by rw [hbz, ← HOm_17.out.1]; cases nm <;> rfl
        have hz2 : decide ((nm : Int) = 0) = bz := by rw [← hz1]; rfl
        have hbb : (bz == bz) = true := by cases bz <;> rfl
        have HBZ := Lib.hid hbz.symm
        clear hbz
        refine (psubset_n A0 A1 q0 q1 c0 c1 l0 l1 _ (H0.out _ B17.out) (H1.out _ B17.out) HFF.out.1 HFF.out.2 HQ.out.1 HQ.out.2 (by omega) (K := Lm) (z := bz) Gm.out.1 (fun m => by rw [Gm.out.2.1 m]) HBZ.out).mono ?_
        rintro e w18 ⟨rfl, hb⟩
        have B18 := Lib.hid (B17.out.trans (hb.mono B17.out.size))
        have HOu_18 := Lib.hid (HOu_17.out.kept hb)
        have HOi_18 := Lib.hid (HOi_17.out.kept hb)
        have HOm_18 := Lib.hid (HOm_17.out.kept hb)
        have HOd_18 := Lib.hid (HOd_17.out.kept hb)
        have HOv_18 := Lib.hid (HOv_17.out.kept hb)
        have HOn_18 := Lib.hid (HOn_17.out.kept hb)
        clear hb B17
        go_wp2_with fail
        refine (HAW.out _).mono ?_
        rintro e w19 ⟨rfl, hb⟩
        have B19 := Lib.hid (B18.out.trans (hb.mono B18.out.size))
        have HOu_19 := Lib.hid (HOu_18.out.kept hb)
        have HOi_19 := Lib.hid (HOi_18.out.kept hb)
        have HOm_19 := Lib.hid (HOm_18.out.kept hb)
        have HOd_19 := Lib.hid (HOd_18.out.kept hb)
        have HOv_19 := Lib.hid (HOv_18.out.kept hb)
        have HOn_19 := Lib.hid (HOn_18.out.kept hb)
        clear hb B18
        go_wp2_with fail
        go_ret
        exact ⟨rfl, HB0.out.trans (B19.out.mono HB0.out.size)⟩
    · have B0 := Lib.hid (Below.refl W0.heap.size W0)
      go_enter Try.func5, Try.ntmps5
      go_wp2_with fail
      rw [← hW0, ← hgb]
      clear hW0 hgb
      refine (HW.out).mono ?_
      rintro e w1 ⟨rfl, hw⟩
      have hw := hw.symm
      subst hw
      go_wp2_with fail
      refine (HU.out _ B0.out).mono ?_
      rintro e w1 ⟨Lu, Au, nu, cu, g1, g2, g3, rfl, g5, hb⟩
      have Gu := Lib.hid (And.intro g1 (And.intro g2 g3))
      have B1 := Lib.hid (B0.out.trans (hb.mono B0.out.size))
      clear hb B0
      have HOu := Lib.hid g5
      have hnu := g3
      clear g1 g2 g3 g5
      go_wp2_with fail
      refine (HI.out _ B1.out).mono ?_
      rintro e w2 ⟨Li, Ai, ni, ci, g1, g2, g3, rfl, g5, hb⟩
      have Gi := Lib.hid (And.intro g1 (And.intro g2 g3))
      have B2 := Lib.hid (B1.out.trans (hb.mono B1.out.size))
      have HOu_2 := Lib.hid (HOu.out.kept hb)
      clear hb B1
      have HOi := Lib.hid g5
      have hni := g3
      clear g1 g2 g3 g5
      go_wp2_with fail
      refine (HM.out _ B2.out).mono ?_
      rintro e w3 ⟨Lm, Am, nm, cm, g1, g2, g3, rfl, g5, hb⟩
      have Gm := Lib.hid (And.intro g1 (And.intro g2 g3))
      have B3 := Lib.hid (B2.out.trans (hb.mono B2.out.size))
      have HOu_3 := Lib.hid (HOu_2.out.kept hb)
      have HOi_3 := Lib.hid (HOi.out.kept hb)
      clear hb B2
      have HOm := Lib.hid g5
      have hnm := g3
      clear g1 g2 g3 g5
      go_wp2_with fail
      refine (pvalid_own HOu_3.out Gu.out.1 (by omega)).mono ?_
      rintro e w4 ⟨rfl, hb⟩
      have B4 := Lib.hid (B3.out.trans (hb.mono B3.out.size))
      have HOu_4 := Lib.hid (HOu_3.out.kept hb)
      have HOi_4 := Lib.hid (HOi_3.out.kept hb)
      have HOm_4 := Lib.hid (HOm.out.kept hb)
      clear hb B3
      go_wp2_with fail
      refine (pvalid_own HOi_4.out Gi.out.1 (by omega)).mono ?_
      rintro e w5 ⟨rfl, hb⟩
      have B5 := Lib.hid (B4.out.trans (hb.mono B4.out.size))
      have HOu_5 := Lib.hid (HOu_4.out.kept hb)
      have HOi_5 := Lib.hid (HOi_4.out.kept hb)
      have HOm_5 := Lib.hid (HOm_4.out.kept hb)
      clear hb B4
      go_wp2_with fail
      refine (pvalid_own HOm_5.out Gm.out.1 (by omega)).mono ?_
      rintro e w6 ⟨rfl, hb⟩
      have B6 := Lib.hid (B5.out.trans (hb.mono B5.out.size))
      have HOu_6 := Lib.hid (HOu_5.out.kept hb)
      have HOi_6 := Lib.hid (HOi_5.out.kept hb)
      have HOm_6 := Lib.hid (HOm_5.out.kept hb)
      clear hb B5
      go_wp2_with fail
      obtain ⟨y0, y1, y2⟩ := HC.out w6 B6.out
      go_region_held3 (fun w' => w'.cell? ⟨gb, 0, none⟩ = some (.bool va) ∧ w'.cell? ⟨gb, 1, none⟩ = some (.int .u64 ha) ∧ w'.cell? ⟨gb, 2, none⟩ = some (.int .u64 la)) (go_keep) (first
        | (have _hh := D1; go_at_call 15; refine (HPB.out _ D1).mono ?_; rintro e w7 ⟨rfl, hb3d⟩; have hb9 : Below x1.heap.size x1 w7 := ⟨hb3d.os, hb3d.tape, hb3d.output, hb3d.size, hb3d.block⟩; have hb : Below w6.heap.size w6 w7 := hb1.trans (hb9.mono hb1.size); obtain ⟨j20, j21, j22⟩ := HC.out w7 (B6.out.trans (hb.mono B6.out.size)))
        | (go_at_call 15; refine (HPA.out _ ?_).mono ?_; exact ⟨B6.out.os, B6.out.tape, B6.out.output, B6.out.size, B6.out.block⟩; rintro e x1 ⟨rfl, hb3d⟩; have hb1 : Below w6.heap.size w6 x1 := ⟨hb3d.os, hb3d.tape, hb3d.output, hb3d.size, hb3d.block⟩; have D1 : Below W0.heap.size W0 x1 := B6.out.trans (hb1.mono B6.out.size); obtain ⟨j10, j11, j12⟩ := HC.out x1 D1))
      all_goals
        clear y0 y1 y2 j10 j11 j12 j20 j21 j22 hb9 D1 hb1 hb3d
        have B7 := Lib.hid (B6.out.trans (hb.mono B6.out.size))
        have HOu_7 := Lib.hid (HOu_6.out.kept hb)
        have HOi_7 := Lib.hid (HOi_6.out.kept hb)
        have HOm_7 := Lib.hid (HOm_6.out.kept hb)
        clear hb B6
        obtain ⟨y0, y1, y2⟩ := HC.out w7 B7.out
        go_wp2_with fail
        clear y0 y1 y2
        refine (pcontains_own (z := true) HOu_7.out Gu.out.1 (by omega) HFA.out (by
          have h1 := HZ.out.1
          have h2 := HZ.out.2
          rw [Gu.out.2.1]
          revert h1 h2
          cases vA ⟨va, ha, la⟩ <;> cases anyS (spnL l0) (kA ⟨va, ha, la⟩) <;> cases anyS (spnL l1) (kA ⟨va, ha, la⟩) <;> decide)).mono ?_
        rintro e w8 ⟨rfl, hb⟩
        have B8 := Lib.hid (B7.out.trans (hb.mono B7.out.size))
        have HOu_8 := Lib.hid (HOu_7.out.kept hb)
        have HOi_8 := Lib.hid (HOi_7.out.kept hb)
        have HOm_8 := Lib.hid (HOm_7.out.kept hb)
        clear hb B7
        obtain ⟨y0, y1, y2⟩ := HC.out w8 B8.out
        go_wp2_with fail
        clear y0 y1 y2
        refine (pcontains_own (z := true) HOi_8.out Gi.out.1 (by omega) HFA.out (by
          have h1 := HZ.out.1
          have h2 := HZ.out.2
          rw [Gi.out.2.1]
          revert h1 h2
          cases vA ⟨va, ha, la⟩ <;> cases anyS (spnL l0) (kA ⟨va, ha, la⟩) <;> cases anyS (spnL l1) (kA ⟨va, ha, la⟩) <;> decide)).mono ?_
        rintro e w9 ⟨rfl, hb⟩
        have B9 := Lib.hid (B8.out.trans (hb.mono B8.out.size))
        have HOu_9 := Lib.hid (HOu_8.out.kept hb)
        have HOi_9 := Lib.hid (HOi_8.out.kept hb)
        have HOm_9 := Lib.hid (HOm_8.out.kept hb)
        clear hb B8
        obtain ⟨y0, y1, y2⟩ := HC.out w9 B9.out
        go_wp2_with fail
        clear y0 y1 y2
        refine (pcontains_own (z := false) HOm_9.out Gm.out.1 (by omega) HFA.out (by
          have h1 := HZ.out.1
          have h2 := HZ.out.2
          rw [Gm.out.2.1]
          revert h1 h2
          cases vA ⟨va, ha, la⟩ <;> cases anyS (spnL l0) (kA ⟨va, ha, la⟩) <;> cases anyS (spnL l1) (kA ⟨va, ha, la⟩) <;> decide)).mono ?_
        rintro e w10 ⟨rfl, hb⟩
        have B10 := Lib.hid (B9.out.trans (hb.mono B9.out.size))
        have HOu_10 := Lib.hid (HOu_9.out.kept hb)
        have HOi_10 := Lib.hid (HOi_9.out.kept hb)
        have HOm_10 := Lib.hid (HOm_9.out.kept hb)
        clear hb B9
        obtain ⟨y0, y1, y2⟩ := HC.out w10 B10.out
        go_wp2_with fail
        clear y0 y1 y2
        refine (pminus_n A0 Am q0 nm c0 cm l0 Lm _ (H0.out _ B10.out) HOm_10.out.row HFF.out.1 (okL_fits Gm.out.1) HQ.out.1 HOm_10.out.1 (by omega) (by omega)).mono ?_
        rintro e w11 ⟨Ld, Ad, nd, cd, g1, g2, g3, rfl, g5, hb⟩
        have Gd := Lib.hid (And.intro g1 (And.intro g2 g3))
        have B11 := Lib.hid (B10.out.trans (hb.mono B10.out.size))
        have HOu_11 := Lib.hid (HOu_10.out.kept hb)
        have HOi_11 := Lib.hid (HOi_10.out.kept hb)
        have HOm_11 := Lib.hid (HOm_10.out.kept hb)
        clear hb B10
        have HOd := Lib.hid g5
        have hnd := g3
        clear g1 g2 g3 g5
        go_wp2_with fail
        refine (same7_own _ _ Ad Ai nd ni cd ci Ld Li _ HOd.out HOi_11.out (good_uniq Gd.out.1 Gi.out.1 (fun m => by rw [Gd.out.2.1 m, spnL_good Gm.out.1, Gm.out.2.1 m, Gi.out.2.1 m]; cases anyS (spnL l0) m <;> cases anyS (spnL l1) m <;> rfl)) (by omega)).mono ?_
        rintro e w12 ⟨rfl, hb⟩
        have B12 := Lib.hid (B11.out.trans (hb.mono B11.out.size))
        have HOu_12 := Lib.hid (HOu_11.out.kept hb)
        have HOi_12 := Lib.hid (HOi_11.out.kept hb)
        have HOm_12 := Lib.hid (HOm_11.out.kept hb)
        have HOd_12 := Lib.hid (HOd.out.kept hb)
        clear hb B11
        go_wp2_with fail
        refine (punion_n Am Ai nm ni cm ci Lm Li _ HOm_12.out.row HOi_12.out.row (own_nil HOm_12.out) (own_nil HOi_12.out) (okL_fits Gm.out.1) (okL_fits Gi.out.1) HOm_12.out.1 HOi_12.out.1 (by omega) (by omega)).mono ?_
        rintro e w13 ⟨Lv, Av, nv, cv, g1, g2, g3, rfl, g5, hb⟩
        have Gv := Lib.hid (And.intro g1 (And.intro g2 g3))
        have B13 := Lib.hid (B12.out.trans (hb.mono B12.out.size))
        have HOu_13 := Lib.hid (HOu_12.out.kept hb)
        have HOi_13 := Lib.hid (HOi_12.out.kept hb)
        have HOm_13 := Lib.hid (HOm_12.out.kept hb)
        have HOd_13 := Lib.hid (HOd_12.out.kept hb)
        clear hb B12
        have HOv := Lib.hid g5
        have hnv := g3
        clear g1 g2 g3 g5
        go_wp2_with fail
        refine (HNO.out _ B13.out).mono ?_
        rintro e w14 ⟨Ln, An, nn, cn, g1, g2, g3, rfl, g5, hb⟩
        have Gn := Lib.hid (And.intro g1 (And.intro g2 g3))
        have B14 := Lib.hid (B13.out.trans (hb.mono B13.out.size))
        have HOu_14 := Lib.hid (HOu_13.out.kept hb)
        have HOi_14 := Lib.hid (HOi_13.out.kept hb)
        have HOm_14 := Lib.hid (HOm_13.out.kept hb)
        have HOd_14 := Lib.hid (HOd_13.out.kept hb)
        have HOv_14 := Lib.hid (HOv.out.kept hb)
        clear hb B13
        have HOn := Lib.hid g5
        have hnn := g3
        clear g1 g2 g3 g5
        go_wp2_with fail
        refine (same7_own _ _ Av An nv nn cv cn Lv Ln _ HOv_14.out HOn.out (good_uniq Gv.out.1 Gn.out.1 (fun m => by rw [Gv.out.2.1 m, spnL_good Gm.out.1, spnL_good Gi.out.1, Gm.out.2.1 m, Gi.out.2.1 m, Gn.out.2.1 m]; cases anyS (spnL l0) m <;> cases anyS (spnL l1) m <;> rfl)) (by omega)).mono ?_
        rintro e w15 ⟨rfl, hb⟩
        have B15 := Lib.hid (B14.out.trans (hb.mono B14.out.size))
        have HOu_15 := Lib.hid (HOu_14.out.kept hb)
        have HOi_15 := Lib.hid (HOi_14.out.kept hb)
        have HOm_15 := Lib.hid (HOm_14.out.kept hb)
        have HOd_15 := Lib.hid (HOd_14.out.kept hb)
        have HOv_15 := Lib.hid (HOv_14.out.kept hb)
        have HOn_15 := Lib.hid (HOn.out.kept hb)
        clear hb B14
        go_wp2_with fail
        refine (psubset_n Ai A0 ni q0 ci c0 Li l0 _ HOi_15.out.row (H0.out _ B15.out) (okL_fits Gi.out.1) HFF.out.1 HOi_15.out.1 HQ.out.1 (by omega) (K := []) (z := true) good_nil (fun m => by rw [spnL_good Gi.out.1, Gi.out.2.1 m]; cases anyS (spnL l0) m <;> cases anyS (spnL l1) m <;> rfl) rfl).mono ?_
        rintro e w16 ⟨rfl, hb⟩
        have B16 := Lib.hid (B15.out.trans (hb.mono B15.out.size))
        have HOu_16 := Lib.hid (HOu_15.out.kept hb)
        have HOi_16 := Lib.hid (HOi_15.out.kept hb)
        have HOm_16 := Lib.hid (HOm_15.out.kept hb)
        have HOd_16 := Lib.hid (HOd_15.out.kept hb)
        have HOv_16 := Lib.hid (HOv_15.out.kept hb)
        have HOn_16 := Lib.hid (HOn_15.out.kept hb)
        clear hb B15
        go_wp2_with fail
        refine (psubset_n A0 Au q0 nu c0 cu l0 Lu _ (H0.out _ B16.out) HOu_16.out.row HFF.out.1 (okL_fits Gu.out.1) HQ.out.1 HOu_16.out.1 (by omega) (K := []) (z := true) good_nil (fun m => by rw [spnL_good Gu.out.1, Gu.out.2.1 m]; cases anyS (spnL l0) m <;> cases anyS (spnL l1) m <;> rfl) rfl).mono ?_
        rintro e w17 ⟨rfl, hb⟩
        have B17 := Lib.hid (B16.out.trans (hb.mono B16.out.size))
        have HOu_17 := Lib.hid (HOu_16.out.kept hb)
        have HOi_17 := Lib.hid (HOi_16.out.kept hb)
        have HOm_17 := Lib.hid (HOm_16.out.kept hb)
        have HOd_17 := Lib.hid (HOd_16.out.kept hb)
        have HOv_17 := Lib.hid (HOv_16.out.kept hb)
        have HOn_17 := Lib.hid (HOn_16.out.kept hb)
        clear hb B16
        go_wp2_with fail
        obtain ⟨bz, hbz⟩ : ∃ z, z = (Lm.length == 0) := ⟨_, rfl⟩
        have hz1 : ((nm : Int) == 0) = bz := by rw [hbz, ← HOm_17.out.1]; cases nm <;> rfl
        have hz2 : decide ((nm : Int) = 0) = bz := by rw [← hz1]; rfl
        have hbb : (bz == bz) = true := by cases bz <;> rfl
        have HBZ := Lib.hid hbz.symm
        clear hbz
        refine (psubset_n A0 A1 q0 q1 c0 c1 l0 l1 _ (H0.out _ B17.out) (H1.out _ B17.out) HFF.out.1 HFF.out.2 HQ.out.1 HQ.out.2 (by omega) (K := Lm) (z := bz) Gm.out.1 (fun m => by rw [Gm.out.2.1 m]) HBZ.out).mono ?_
        rintro e w18 ⟨rfl, hb⟩
        have B18 := Lib.hid (B17.out.trans (hb.mono B17.out.size))
        have HOu_18 := Lib.hid (HOu_17.out.kept hb)
        have HOi_18 := Lib.hid (HOi_17.out.kept hb)
        have HOm_18 := Lib.hid (HOm_17.out.kept hb)
        have HOd_18 := Lib.hid (HOd_17.out.kept hb)
        have HOv_18 := Lib.hid (HOv_17.out.kept hb)
        have HOn_18 := Lib.hid (HOn_17.out.kept hb)
        clear hb B17
        go_wp2_with fail
        refine (HAW.out _).mono ?_
        rintro e w19 ⟨rfl, hb⟩
        have B19 := Lib.hid (B18.out.trans (hb.mono B18.out.size))
        have HOu_19 := Lib.hid (HOu_18.out.kept hb)
        have HOi_19 := Lib.hid (HOi_18.out.kept hb)
        have HOm_19 := Lib.hid (HOm_18.out.kept hb)
        have HOd_19 := Lib.hid (HOd_18.out.kept hb)
        have HOv_19 := Lib.hid (HOv_18.out.kept hb)
        have HOn_19 := Lib.hid (HOn_18.out.kept hb)
        clear hb B18
        go_wp2_with fail
        go_ret
        exact ⟨rfl, HB0.out.trans (B19.out.mono HB0.out.size)⟩
set_option maxRecDepth 100000 in
theorem lifted (os : Os) (started : os.Started) (H : Type) (enc : TypeId × Value → H) :
    ReturnsInHanded {} Try.checked os 5 .any (Rows.addrsetAlgebraSpec.pre6 enc Try.prog Try.f5 Rows.addrsetAlgebraRow.domain false) (Rows.addrsetAlgebraSpec.post enc Try.prog Try.f5 false true false false) := by
  refine returnsInHanded_of_change (C := Try.checked) own started (by kernel_rfl) Try.func5
    (ChangeSpec.witness6 (enc := enc) (C := Try.checked) false ⟨#[], #[.slice none 0 0, .slice none 0 0, (.agg #[.bool false, .int .u64 0, .int .u64 0])], []⟩ 8 (by kernel_rfl) (by kernel_rfl) (by kernel_rfl) (by kernel_rfl)) ?_
  intro W base args ds gs before hval0 hW hcnd _
  have hval : ∀ (j : Nat) t v, Try.f5.params[j]? = some t → args[j]? = some v → Value.okWide Try.prog W .any base t v := hval0
  have hW' := hW
  obtain ⟨p, q, hA0, hV, rfl, hfz, hnd⟩ := hW
  have hA : DataW.TrodAll enc Try.prog W 0 (fun _ => true) true Try.f5.params.toList args.toList ds p := hA0
  rw [Try.params5] at hA hval
  obtain ⟨v0, vs0, d0, ds0, p0, q0, hargs, rfl, rfl, h0, r0⟩ := trodAll_cons hA
  obtain ⟨v1, vs1, d1, ds1, p1, q1, rfl, rfl, rfl, h1, r1⟩ := trodAll_cons r0
  obtain ⟨v2, vs2, d2, ds2, p2, q2, rfl, rfl, rfl, h2, r2⟩ := trodAll_cons r1
  obtain ⟨rfl, rfl, rfl⟩ := trodAll_nil r2
  obtain rfl : args = #[v0, v1, v2] := by cases args; simp_all
  obtain ⟨rfl, rfl⟩ := trodVars_none hV
  obtain ⟨a0, len0, cap0, rfl⟩ := okWide_slice Try.underlying22 (hval 0 22 v0 rfl rfl)
  have k0 := h0
  have lt0 : ∀ x ∈ p0, x.block < W.heap.size := by obtain ⟨m, hm⟩ := k0; exact DataW.trod_lt m _ _ _ hm
  obtain ⟨l0, s0, e0, n0, m0, f0⟩ := in_ranges h0
  obtain ⟨a1, len1, cap1, rfl⟩ := okWide_slice Try.underlying22 (hval 1 22 v1 rfl rfl)
  have k1 := h1
  have lt1 : ∀ x ∈ p1, x.block < W.heap.size := by obtain ⟨m, hm⟩ := k1; exact DataW.trod_lt m _ _ _ hm
  obtain ⟨l1, s1, e1, n1, m1, f1⟩ := in_ranges h1
  have k2 := h2
  have lt2 : ∀ x ∈ p2, x.block < W.heap.size := by obtain ⟨m, hm⟩ := k2; exact DataW.trod_lt m _ _ _ hm
  obtain ⟨x2, fx2, rfl⟩ := in_addr7 (hval 2 25 v2 rfl rfl) h2
  subst e0
  subst e1
  clear hA0 hval0
  refine (walk a0 cap0 l0 a1 cap1 l1 x2.v x2.h x2.l W s0 n0 f0 s1 n1 f1 fx2).mono fun e W' ⟨he, bel⟩ => ?_
  subst he
  exact ⟨_, rfl, _, _, _, [], _, [], hW', trodAll_mk1 (shut_bool Try.underlying4 _), (trodAll_cons_mk (Below.trod laidOut (by kernel_rfl) (of_decide_eq_true (by kernel_rfl)) k0 bel lt0) (trodAll_cons_mk (Below.trod laidOut (by kernel_rfl) (of_decide_eq_true (by kernel_rfl)) k1 bel lt1) (trodAll_cons_mk (Below.trod laidOut (by kernel_rfl) (of_decide_eq_true (by kernel_rfl)) k2 bel lt2) trodAll_mk0))), rfl, bel.frame _, fun h => by cases h⟩

theorem over : Rows.addrsetAlgebraRow.holds Try.pinned (OpenSpec.ofChange Rows.addrsetAlgebraSpec) :=
  OpenClaim.holds_of_wide 5 Try.f5 rfl rfl rfl rfl rfl rfl rfl ⟨rfl, rfl, rfl, rfl, rfl⟩ rfl rfl rfl rfl rfl (by kernel_rfl) Try.func5 (by kernel_rfl)
    (of_decide_eq_true (by kernel_rfl)) (by unfold Func.isWrapper; first | (rw [if_pos (by decide +kernel)]; kernel_rfl) | (rw [if_neg (by decide +kernel)]; exact ⟨rfl, rfl⟩))
    (fun os started H enc _ => lifted os started H enc)

theorem proved : Rows.AddrsetAlgebraSaid := over
#print axioms proved

end Go.Proofs.Ytmcelgnifpfjpaa.addrsetAlgebra
