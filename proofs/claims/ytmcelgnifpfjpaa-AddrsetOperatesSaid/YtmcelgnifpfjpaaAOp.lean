/- The statement AddrsetOperates. -/
import Derived.Test.YtmcelgnifpfjpaaRows
import Derived.Test.YtmcelgnifpfjpaaAOp7
import Derived.Test.YtmcelgnifpfjpaaAOp8
namespace Go.Proofs.Ytmcelgnifpfjpaa.addrsetOperates
open Go.ChangeShapes Go.WideShapes Go.ChangeAt Go.RowKit
set_option linter.unusedVariables false

theorem own : ownKnob Try.prog.godebug = none := by kernel_rfl
theorem laidOut : laidOutB Try.prog = true := by kernel_rfl
set_option maxHeartbeats 4000000 in
set_option maxRecDepth 20000 in
theorem walk (A0 : Option Addr) (c0 : Nat) (l0 : List Rg) (A1 : Option Addr) (c1 : Nat) (l1 : List Rg) (w : World) (s0 : RowL ER w A0 l0) (n0 : A0 = none → c0 = 0) (f0 : ∀ r ∈ l0, r.fits) (s1 : RowL ER w A1 l1) (n1 : A1 = none → c1 = 0) (f1 : ∀ r ∈ l1, r.fits) :
    Calls Try.prog 4 #[.slice A0 l0.length c0, .slice A1 l1.length c1] w fun e w' => e = .returned (.bool true) ∧ Below w.heap.size w w' := by
  have HW := Lib.hid (few_any A0 A1 l0.length c0 l1.length c1 w)
  cases hfew : (decide (l0.length ≤ 16) && decide (l1.length ≤ 16)) with
  | false =>
    rw [hfew] at HW
    generalize l0.length = q0 at *
    generalize l1.length = q1 at *
    clear s0 n0 f0 s1 n1 f1 hfew
    have HAW := Lib.hid awake_any
    go_enter Try.func4, Try.ntmps4
    go_wp2_with fail
    refine (HW.out).mono ?_
    rintro e w1 ⟨rfl, rfl⟩
    go_wp2_with fail
    refine (HAW.out _).mono ?_
    rintro e w2 ⟨rfl, hb⟩
    go_wp2_with fail
    go_ret
    exact ⟨rfl, hb⟩
  | true =>
    rw [hfew] at HW
    rw [Bool.and_eq_true, decide_eq_true_eq, decide_eq_true_eq] at hfew
    obtain ⟨b0, b1⟩ := hfew
    have H1 := Lib.hid (fun (W : World) (hb : Below w.heap.size w W) => punion_any A0 A1 c0 c1 l0 l1 W (s0.kept hb) (s1.kept hb) n0 n1 f0 f1 (by omega) (by omega))
    have H2 := Lib.hid (fun (W : World) (hb : Below w.heap.size w W) => runion_any A0 A1 c0 c1 l0 l1 W (s0.kept hb) (s1.kept hb) n0 n1 f0 f1 (by omega) (by omega))
    have H3 := Lib.hid (fun (W : World) (hb : Below w.heap.size w W) => pinter_any A0 A1 c0 c1 l0 l1 W (s0.kept hb) (s1.kept hb) f0 f1 (by omega) (by omega))
    have H4 := Lib.hid (fun (W : World) (hb : Below w.heap.size w W) => rinter_any A0 A1 c0 c1 l0 l1 W (s0.kept hb) (s1.kept hb) f0 f1 (by omega) (by omega))
    have H5 := Lib.hid (fun (W : World) (hb : Below w.heap.size w W) => pminus_any A0 A1 c0 c1 l0 l1 W (s0.kept hb) (s1.kept hb) f0 f1 (by omega) (by omega))
    have H6 := Lib.hid (fun (W : World) (hb : Below w.heap.size w W) => rminus_any A0 A1 c0 c1 l0 l1 W (s0.kept hb) (s1.kept hb) f0 f1 (by omega) (by omega))
    have H7 := Lib.hid (fun (W : World) (hb : Below w.heap.size w W) => psubset_any A0 A1 c0 c1 l0 l1 W (s0.kept hb) (s1.kept hb) f0 f1 (by omega) (by omega))
    have H8 := Lib.hid (fun (W : World) (hb : Below w.heap.size w W) => rsubset_any A0 A1 c0 c1 l0 l1 W (s0.kept hb) (s1.kept hb) f0 f1 (by omega) (by omega))
    have HAW := Lib.hid awake_any
    have hmul : l0.length * l1.length ≤ 256 := Nat.le_trans (Nat.mul_le_mul b0 b1) (by decide)
    generalize l0.length = q0 at *
    generalize l1.length = q1 at *
    clear s0 n0 f0 s1 n1 f1
    have B0 := Lib.hid (Below.refl w.heap.size w)
    go_enter Try.func4, Try.ntmps4
    go_wp2_with fail
    refine (HW.out).mono ?_
    rintro e w0 ⟨rfl, hw⟩
    have hw := hw.symm
    subst hw
    go_wp2_with fail
    refine (H1.out _ B0.out).mono ?_
    rintro e w1 ⟨Lp0, Ap0, np0, cp0, g1, g2, g3, rfl, g5, hb⟩
    have Gp0 := Lib.hid (And.intro g1 (And.intro g2 g3))
    have B1 := Lib.hid (B0.out.trans (hb.mono B0.out.size))
    clear hb B0
    have HOp0 := Lib.hid g5
    have hnp0 := g3
    clear g1 g2 g3 g5
    go_wp2_with fail
    refine (H2.out _ B1.out).mono ?_
    rintro e w2 ⟨Lr0, Ar0, nr0, cr0, g1, g2, g3, rfl, g5, hb⟩
    have Gr0 := Lib.hid (And.intro g1 (And.intro g2 g3))
    have B2 := Lib.hid (B1.out.trans (hb.mono B1.out.size))
    have HOp0_2 := Lib.hid (HOp0.out.kept hb)
    clear hb B1
    have HOr0 := Lib.hid g5
    have hnr0 := g3
    clear g1 g2 g3 g5
    go_wp2_with fail
    refine (same7_own _ _ Ap0 Ar0 np0 nr0 cp0 cr0 Lp0 Lr0 _ HOp0_2.out HOr0.out (good_uniq Gp0.out.1 Gr0.out.1 (fun m => by rw [Gp0.out.2.1 m, Gr0.out.2.1 m])) (by omega)).mono ?_
    rintro e w3 ⟨rfl, hb⟩
    have B3 := Lib.hid (B2.out.trans (hb.mono B2.out.size))
    have HOp0_3 := Lib.hid (HOp0_2.out.kept hb)
    have HOr0_3 := Lib.hid (HOr0.out.kept hb)
    clear hb B2
    go_wp2_with fail
    clear HOp0_3 HOr0_3 Gp0 Gr0
    refine (H3.out _ B3.out).mono ?_
    rintro e w4 ⟨Lp1, Ap1, np1, cp1, g1, g2, g3, rfl, g5, hb⟩
    have Gp1 := Lib.hid (And.intro g1 (And.intro g2 g3))
    have B4 := Lib.hid (B3.out.trans (hb.mono B3.out.size))
    clear hb B3
    have HOp1 := Lib.hid g5
    have hnp1 := g3
    clear g1 g2 g3 g5
    go_wp2_with fail
    refine (H4.out _ B4.out).mono ?_
    rintro e w5 ⟨Lr1, Ar1, nr1, cr1, g1, g2, g3, rfl, g5, hb⟩
    have Gr1 := Lib.hid (And.intro g1 (And.intro g2 g3))
    have B5 := Lib.hid (B4.out.trans (hb.mono B4.out.size))
    have HOp1_5 := Lib.hid (HOp1.out.kept hb)
    clear hb B4
    have HOr1 := Lib.hid g5
    have hnr1 := g3
    clear g1 g2 g3 g5
    go_wp2_with fail
    refine (same7_own _ _ Ap1 Ar1 np1 nr1 cp1 cr1 Lp1 Lr1 _ HOp1_5.out HOr1.out (good_uniq Gp1.out.1 Gr1.out.1 (fun m => by rw [Gp1.out.2.1 m, Gr1.out.2.1 m])) (by omega)).mono ?_
    rintro e w6 ⟨rfl, hb⟩
    have B6 := Lib.hid (B5.out.trans (hb.mono B5.out.size))
    have HOp1_6 := Lib.hid (HOp1_5.out.kept hb)
    have HOr1_6 := Lib.hid (HOr1.out.kept hb)
    clear hb B5
    go_wp2_with fail
    clear HOp1_6 HOr1_6 Gp1 Gr1
    refine (H5.out _ B6.out).mono ?_
    rintro e w7 ⟨Lp2, Ap2, np2, cp2, g1, g2, g3, rfl, g5, hb⟩
    have Gp2 := Lib.hid (And.intro g1 (And.intro g2 g3))
    have B7 := Lib.hid (B6.out.trans (hb.mono B6.out.size))
    clear hb B6
    have HOp2 := Lib.hid g5
    have hnp2 := g3
    clear g1 g2 g3 g5
    go_wp2_with fail
    refine (H6.out _ B7.out).mono ?_
    rintro e w8 ⟨Lr2, Ar2, nr2, cr2, g1, g2, g3, rfl, g5, hb⟩
    have Gr2 := Lib.hid (And.intro g1 (And.intro g2 g3))
    have B8 := Lib.hid (B7.out.trans (hb.mono B7.out.size))
    have HOp2_8 := Lib.hid (HOp2.out.kept hb)
    clear hb B7
    have HOr2 := Lib.hid g5
    have hnr2 := g3
    clear g1 g2 g3 g5
    go_wp2_with fail
    refine (same7_own _ _ Ap2 Ar2 np2 nr2 cp2 cr2 Lp2 Lr2 _ HOp2_8.out HOr2.out (good_uniq Gp2.out.1 Gr2.out.1 (fun m => by rw [Gp2.out.2.1 m, Gr2.out.2.1 m])) (by omega)).mono ?_
    rintro e w9 ⟨rfl, hb⟩
    have B9 := Lib.hid (B8.out.trans (hb.mono B8.out.size))
    have HOp2_9 := Lib.hid (HOp2_8.out.kept hb)
    have HOr2_9 := Lib.hid (HOr2.out.kept hb)
    clear hb B8
    go_wp2_with fail
    clear HOp2_9 HOr2_9 Gp2 Gr2
    refine (H7.out _ B9.out).mono ?_
    rintro e w10 ⟨Ls, g1, g2, rfl, hb⟩
    have GS := Lib.hid (And.intro g1 g2)
    clear g1 g2
    have B10 := Lib.hid (B9.out.trans (hb.mono B9.out.size))
    clear hb B9
    go_wp2_with fail
    refine (H8.out _ B10.out).mono ?_
    intro e w11 hs
    obtain ⟨rfl, hb⟩ := hs.known GS.out.1 (fun m => (GS.out.2 m).symm)
    clear hs
    have B11 := Lib.hid (B10.out.trans (hb.mono B10.out.size))
    clear hb B10
    have qq : (Ls.length == 0) = true ∨ (Ls.length == 0) = false := by cases (Ls.length == 0) <;> simp
    generalize (Ls.length == 0) = bb at *
    clear GS qq
    have hbb : (bb == bb) = true := by cases bb <;> rfl
    go_wp2_with fail
    refine (HAW.out _).mono ?_
    rintro e w12 ⟨rfl, hb⟩
    have B12 := Lib.hid (B11.out.trans (hb.mono B11.out.size))
    clear hb B11
    go_wp2_with fail
    go_ret
    exact ⟨rfl, B12.out⟩
set_option maxRecDepth 100000 in
theorem lifted (os : Os) (started : os.Started) (H : Type) (enc : TypeId × Value → H) :
    ReturnsInHanded {} Try.checked os 4 .any (Rows.addrsetOperatesSpec.pre6 enc Try.prog Try.f4 Rows.addrsetOperatesRow.domain false) (Rows.addrsetOperatesSpec.post enc Try.prog Try.f4 false true false false) := by
  refine returnsInHanded_of_change (C := Try.checked) own started (by kernel_rfl) Try.func4
    (ChangeSpec.witness6 (enc := enc) (C := Try.checked) false ⟨#[], #[.slice none 0 0, .slice none 0 0], []⟩ 8 (by kernel_rfl) (by kernel_rfl) (by kernel_rfl) (by kernel_rfl)) ?_
  intro W base args ds gs before hval0 hW hcnd _
  have hval : ∀ (j : Nat) t v, Try.f4.params[j]? = some t → args[j]? = some v → Value.okWide Try.prog W .any base t v := hval0
  have hW' := hW
  obtain ⟨p, q, hA0, hV, rfl, hfz, hnd⟩ := hW
  have hA : DataW.TrodAll enc Try.prog W 0 (fun _ => true) true Try.f4.params.toList args.toList ds p := hA0
  rw [Try.params4] at hA hval
  obtain ⟨v0, vs0, d0, ds0, p0, q0, hargs, rfl, rfl, h0, r0⟩ := trodAll_cons hA
  obtain ⟨v1, vs1, d1, ds1, p1, q1, rfl, rfl, rfl, h1, r1⟩ := trodAll_cons r0
  obtain ⟨rfl, rfl, rfl⟩ := trodAll_nil r1
  obtain rfl : args = #[v0, v1] := by cases args; simp_all
  obtain ⟨rfl, rfl⟩ := trodVars_none hV
  obtain ⟨a0, len0, cap0, rfl⟩ := okWide_slice Try.underlying22 (hval 0 22 v0 rfl rfl)
  have k0 := h0
  have lt0 : ∀ x ∈ p0, x.block < W.heap.size := by obtain ⟨m, hm⟩ := k0; exact DataW.trod_lt m _ _ _ hm
  obtain ⟨l0, s0, e0, n0, m0, f0⟩ := in_ranges h0
  obtain ⟨a1, len1, cap1, rfl⟩ := okWide_slice Try.underlying22 (hval 1 22 v1 rfl rfl)
  have k1 := h1
  have lt1 : ∀ x ∈ p1, x.block < W.heap.size := by obtain ⟨m, hm⟩ := k1; exact DataW.trod_lt m _ _ _ hm
  obtain ⟨l1, s1, e1, n1, m1, f1⟩ := in_ranges h1
  subst e0
  subst e1
  clear hA0 hval0
  refine (walk a0 cap0 l0 a1 cap1 l1 W s0 n0 f0 s1 n1 f1).mono fun e W' ⟨he, bel⟩ => ?_
  subst he
  exact ⟨_, rfl, _, _, _, [], _, [], hW', trodAll_mk1 (shut_bool Try.underlying4 _), (trodAll_cons_mk (Below.trod laidOut (by kernel_rfl) (of_decide_eq_true (by kernel_rfl)) k0 bel lt0) (trodAll_cons_mk (Below.trod laidOut (by kernel_rfl) (of_decide_eq_true (by kernel_rfl)) k1 bel lt1) trodAll_mk0)), rfl, bel.frame _, fun h => by cases h⟩

theorem over : Rows.addrsetOperatesRow.holds Try.pinned (OpenSpec.ofChange Rows.addrsetOperatesSpec) :=
  OpenClaim.holds_of_wide 4 Try.f4 rfl rfl rfl rfl rfl rfl rfl ⟨rfl, rfl, rfl, rfl, rfl⟩ rfl rfl rfl rfl rfl (by kernel_rfl) Try.func4 (by kernel_rfl)
    (of_decide_eq_true (by kernel_rfl)) (by unfold Func.isWrapper; first | (rw [if_pos (by decide +kernel)]; kernel_rfl) | (rw [if_neg (by decide +kernel)]; exact ⟨rfl, rfl⟩))
    (fun os started H enc _ => lifted os started H enc)

theorem proved : Rows.AddrsetOperatesSaid := over
#print axioms proved

end Go.Proofs.Ytmcelgnifpfjpaa.addrsetOperates
