/- The statement AddrsetEvaluates. -/
import Derived.Test.YtmcelgnifpfjpaaRows
import Derived.Test.YtmcelgnifpfjpaaAEv1
import Derived.Test.YtmcelgnifpfjpaaAOp7
namespace Go.Proofs.Ytmcelgnifpfjpaa.addrsetEvaluates
open Go.ChangeShapes Go.WideShapes Go.ChangeAt Go.RowKit
set_option linter.unusedVariables false

theorem bits_of_wf {p : Pf} (h : (Lit.int .i64 p.k).wf = true) : bitsOk p := by
  have h' : IntKind.i64.min ≤ p.k ∧ p.k ≤ IntKind.i64.max := by simpa [Lit.wf] using h
  exact ⟨h'.1, h'.2⟩
theorem own : ownKnob Try.prog.godebug = none := by kernel_rfl
theorem laidOut : laidOutB Try.prog = true := by kernel_rfl
set_option maxHeartbeats 4000000 in
set_option maxRecDepth 20000 in
theorem walk (A0 : Option Addr) (c0 : Nat) (l0 : List Pf) (A1 : Option Addr) (c1 : Nat) (l1 : List Pf) (w : World) (s0 : RowL EP w A0 l0) (n0 : A0 = none → c0 = 0) (f0 : ∀ r ∈ l0, (r.fits ∧ (Lit.int .i64 r.k).wf = true)) (s1 : RowL EP w A1 l1) (n1 : A1 = none → c1 = 0) (f1 : ∀ r ∈ l1, (r.fits ∧ (Lit.int .i64 r.k).wf = true)) :
    Calls Try.prog 7 #[.slice A0 l0.length c0, .slice A1 l1.length c1] w fun e w' => e = .returned (.bool true) ∧ Below w.heap.size w w' := by
  have HAW := Lib.hid awake_any
  by_cases h0 : l0.length > 16
  · have d0 : decide ((l0.length : Int) > 16) = true := decide_eq_true (by omega)
    have i0 : (16 : Int) < (l0.length : Int) := by omega
    clear h0
    clear s0 n0 f0 s1 n1 f1
    generalize l0.length = q0 at *
    generalize l1.length = q1 at *
    go_enter Try.func7, Try.ntmps7
    go_wp2_with fail
    refine (HAW.out _).mono ?_
    rintro e w2 ⟨rfl, hb⟩
    go_wp2_with fail
    go_ret
    exact ⟨rfl, hb⟩
  · have d0 : decide ((l0.length : Int) > 16) = false := decide_eq_false (by omega)
    have i0 : ¬ (16 : Int) < (l0.length : Int) := by omega
    by_cases h1 : l1.length > 16
    · have d1 : decide ((l1.length : Int) > 16) = true := decide_eq_true (by omega)
      have i1 : (16 : Int) < (l1.length : Int) := by omega
      clear h0 h1
      clear s0 n0 f0 s1 n1 f1
      generalize l0.length = q0 at *
      generalize l1.length = q1 at *
      go_enter Try.func7, Try.ntmps7
      go_wp2_with fail
      refine (HAW.out _).mono ?_
      rintro e w2 ⟨rfl, hb⟩
      go_wp2_with fail
      go_ret
      exact ⟨rfl, hb⟩
    · have d1 : decide ((l1.length : Int) > 16) = false := decide_eq_false (by omega)
      have i1 : ¬ (16 : Int) < (l1.length : Int) := by omega
      have p0 : ∀ r ∈ l0, r.fits := fun r hr => (f0 r hr).1
      have p1 : ∀ r ∈ l1, r.fits := fun r hr => (f1 r hr).1
      have o0 : ∀ r ∈ l0, r.fits ∧ bitsOk r := fun r hr => ⟨(f0 r hr).1, bits_of_wf (f0 r hr).2⟩
      have o1 : ∀ r ∈ l1, r.fits ∧ bitsOk r := fun r hr => ⟨(f1 r hr).1, bits_of_wf (f1 r hr).2⟩
      have H1 := Lib.hid (fun (W : World) (hb : Below w.heap.size w W) => pof_any A0 c0 l0 W (s0.kept hb) p0 (by omega))
      have H2 := Lib.hid (fun (W : World) (hb : Below w.heap.size w W) => rof_any A0 c0 l0 W (s0.kept hb) o0 (by omega))
      have H3 := Lib.hid (fun (W : World) (hb : Below w.heap.size w W) => peval_any A0 A1 c0 c1 l0 l1 W (s0.kept hb) (s1.kept hb) p0 p1 (by omega) (by omega))
      have H4 := Lib.hid (fun (W : World) (hb : Below w.heap.size w W) => reval_any A0 A1 c0 c1 l0 l1 W (s0.kept hb) (s1.kept hb) o0 o1 (by omega) (by omega))
      have hq : l0.length ≤ 16 ∧ l1.length ≤ 16 := by omega
      clear s0 n0 f0 s1 n1 f1 p0 p1 o0 o1 h0 h1
      generalize l0.length = q0 at *
      generalize l1.length = q1 at *
      have B0 := Lib.hid (Below.refl w.heap.size w)
      obtain ⟨w0, hw0⟩ : ∃ w0, w0 = w := ⟨w, rfl⟩
      rw [← hw0] at H1 H2 H3 H4 B0 ⊢
      clear hw0
      go_enter Try.func7, Try.ntmps7
      go_wp2_with fail
      refine (H1.out _ B0.out).mono ?_
      rintro e w1 ⟨Lp0, Ap0, np0, cp0, g1, g2, g3, rfl, g5, hb⟩
      have Gp0 := Lib.hid (And.intro g1 (And.intro g2 g3))
      have B1 := Lib.hid (B0.out.trans (hb.mono B0.out.size))
      clear hb B0
      have HOp0 := Lib.hid g5
      have hnp0 := g3
      clear g1 g2 g3 g5
      go_wp2_with fail
      refine (H2.out _ B1.out).mono ?_
      rintro e w2 ⟨Lr0, Ar0, nr0, cr0, g1, g2, g3, rfl, g5, hb⟩
      have Gr0 := Lib.hid (And.intro g1 (And.intro g2 g3))
      have B2 := Lib.hid (B1.out.trans (hb.mono B1.out.size))
      have HOp0_2 := Lib.hid (HOp0.out.kept hb)
      clear hb B1
      have HOr0 := Lib.hid g5
      have hnr0 := g3
      clear g1 g2 g3 g5
      go_wp2_with fail
      refine (same7_own _ _ Ap0 Ar0 np0 nr0 cp0 cr0 Lp0 Lr0 _ HOp0_2.out HOr0.out (good_uniq Gp0.out.1 Gr0.out.1 (fun m => by rw [Gp0.out.2.1 m, Gr0.out.2.1 m])) (by omega)).mono ?_
      rintro e w3 ⟨rfl, hb⟩
      have B3 := Lib.hid (B2.out.trans (hb.mono B2.out.size))
      have HOp0_3 := Lib.hid (HOp0_2.out.kept hb)
      have HOr0_3 := Lib.hid (HOr0.out.kept hb)
      clear hb B2
      go_wp2_with fail
      clear HOp0_3 HOr0_3 Gp0 Gr0
      refine (H3.out _ B3.out).mono ?_
      rintro e w4 ⟨Lp1, Ap1, np1, cp1, g1, g2, g3, rfl, g5, hb⟩
      have Gp1 := Lib.hid (And.intro g1 (And.intro g2 g3))
      have B4 := Lib.hid (B3.out.trans (hb.mono B3.out.size))
      clear hb B3
      have HOp1 := Lib.hid g5
      have hnp1 := g3
      clear g1 g2 g3 g5
      go_wp2_with fail
      refine (H4.out _ B4.out).mono ?_
      rintro e w5 ⟨Lr1, Ar1, nr1, cr1, g1, g2, g3, rfl, g5, hb⟩
      have Gr1 := Lib.hid (And.intro g1 (And.intro g2 g3))
      have B5 := Lib.hid (B4.out.trans (hb.mono B4.out.size))
      have HOp1_5 := Lib.hid (HOp1.out.kept hb)
      clear hb B4
      have HOr1 := Lib.hid g5
      have hnr1 := g3
      clear g1 g2 g3 g5
      go_wp2_with fail
      refine (same7_own _ _ Ap1 Ar1 np1 nr1 cp1 cr1 Lp1 Lr1 _ HOp1_5.out HOr1.out (good_uniq Gp1.out.1 Gr1.out.1 (fun m => by rw [Gp1.out.2.1 m, Gr1.out.2.1 m])) (by omega)).mono ?_
      rintro e w6 ⟨rfl, hb⟩
      have B6 := Lib.hid (B5.out.trans (hb.mono B5.out.size))
      have HOp1_6 := Lib.hid (HOp1_5.out.kept hb)
      have HOr1_6 := Lib.hid (HOr1.out.kept hb)
      clear hb B5
      go_wp2_with fail
      clear HOp1_6 HOr1_6 Gp1 Gr1
      refine (HAW.out _).mono ?_
      rintro e w7 ⟨rfl, hb⟩
      have B7 := Lib.hid (B6.out.trans (hb.mono B6.out.size))
      clear hb B6
      go_wp2_with fail
      go_ret
      exact ⟨rfl, B7.out⟩
set_option maxRecDepth 100000 in
theorem lifted (os : Os) (started : os.Started) (H : Type) (enc : TypeId × Value → H) :
    ReturnsInHanded {} Try.checked os 7 .any (Rows.addrsetEvaluatesSpec.pre6 enc Try.prog Try.f7 Rows.addrsetEvaluatesRow.domain false) (Rows.addrsetEvaluatesSpec.post enc Try.prog Try.f7 false true false false) := by
  refine returnsInHanded_of_change (C := Try.checked) own started (by kernel_rfl) Try.func7
    (ChangeSpec.witness6 (enc := enc) (C := Try.checked) false ⟨#[], #[.slice none 0 0, .slice none 0 0], []⟩ 8 (by kernel_rfl) (by kernel_rfl) (by kernel_rfl) (by kernel_rfl)) ?_
  intro W base args ds gs before hval0 hW hcnd _
  have hval : ∀ (j : Nat) t v, Try.f7.params[j]? = some t → args[j]? = some v → Value.okWide Try.prog W .any base t v := hval0
  have hW' := hW
  obtain ⟨p, q, hA0, hV, rfl, hfz, hnd⟩ := hW
  have hA : DataW.TrodAll enc Try.prog W 0 (fun _ => true) true Try.f7.params.toList args.toList ds p := hA0
  rw [Try.params7] at hA hval
  obtain ⟨v0, vs0, d0, ds0, p0, q0, hargs, rfl, rfl, h0, r0⟩ := trodAll_cons hA
  obtain ⟨v1, vs1, d1, ds1, p1, q1, rfl, rfl, rfl, h1, r1⟩ := trodAll_cons r0
  obtain ⟨rfl, rfl, rfl⟩ := trodAll_nil r1
  obtain rfl : args = #[v0, v1] := by cases args; simp_all
  obtain ⟨rfl, rfl⟩ := trodVars_none hV
  obtain ⟨a0, len0, cap0, rfl⟩ := okWide_slice Try.underlying34 (hval 0 34 v0 rfl rfl)
  have k0 := h0
  have lt0 : ∀ x ∈ p0, x.block < W.heap.size := by obtain ⟨m, hm⟩ := k0; exact DataW.trod_lt m _ _ _ hm
  obtain ⟨l0, s0, e0, n0, m0, f0⟩ := in_pfxs h0
  obtain ⟨a1, len1, cap1, rfl⟩ := okWide_slice Try.underlying34 (hval 1 34 v1 rfl rfl)
  have k1 := h1
  have lt1 : ∀ x ∈ p1, x.block < W.heap.size := by obtain ⟨m, hm⟩ := k1; exact DataW.trod_lt m _ _ _ hm
  obtain ⟨l1, s1, e1, n1, m1, f1⟩ := in_pfxs h1
  subst e0
  subst e1
  clear hA0 hval0
  refine (walk a0 cap0 l0 a1 cap1 l1 W s0 n0 f0 s1 n1 f1).mono fun e W' ⟨he, bel⟩ => ?_
  subst he
  exact ⟨_, rfl, _, _, _, [], _, [], hW', trodAll_mk1 (shut_bool Try.underlying4 _), (trodAll_cons_mk (Below.trod laidOut (by kernel_rfl) (of_decide_eq_true (by kernel_rfl)) k0 bel lt0) (trodAll_cons_mk (Below.trod laidOut (by kernel_rfl) (of_decide_eq_true (by kernel_rfl)) k1 bel lt1) trodAll_mk0)), rfl, bel.frame _, fun h => by cases h⟩

theorem over : Rows.addrsetEvaluatesRow.holds Try.pinned (OpenSpec.ofChange Rows.addrsetEvaluatesSpec) :=
  OpenClaim.holds_of_wide 7 Try.f7 rfl rfl rfl rfl rfl rfl rfl ⟨rfl, rfl, rfl, rfl, rfl⟩ rfl rfl rfl rfl rfl (by kernel_rfl) Try.func7 (by kernel_rfl)
    (of_decide_eq_true (by kernel_rfl)) (by unfold Func.isWrapper; first | (rw [if_pos (by decide +kernel)]; kernel_rfl) | (rw [if_neg (by decide +kernel)]; exact ⟨rfl, rfl⟩))
    (fun os started H enc _ => lifted os started H enc)

theorem proved : Rows.AddrsetEvaluatesSaid := over
#print axioms proved

end Go.Proofs.Ytmcelgnifpfjpaa.addrsetEvaluates
