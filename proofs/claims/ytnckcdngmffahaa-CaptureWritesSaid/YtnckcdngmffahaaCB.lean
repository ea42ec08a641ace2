/- CaptureWrites holds: for every list of records the law about Write beside the reference returns true and leaves memory as it was; no conditions. -/
import Derived.Test.YtnckcdngmffahaaRows
import Derived.Test.YtnckcdngmffahaaChecked
import Derived.Test.YtnckcdngmffahaaCA5
namespace Go.Proofs.Ytnckcdngmffahaa.captureWrites
open Go.ChangeShapes Go.WideShapes Go.ChangeAt Go.RowKit
open Go.ChangeMaps (open_string shut_string)
set_option linter.unusedVariables false

theorem own : ownKnob Try.prog.godebug = none := by kernel_rfl
theorem laidOut : laidOutB Try.prog = true := by kernel_rfl
set_option maxHeartbeats 4000000 in
set_option maxRecDepth 20000 in
theorem walk (A0 : Option Addr) (c0 : Nat) (l0 : List CRec) (w : World) (s0 : RowL ERec w A0 l0) (n0 : A0 = none → c0 = 0) (m0 : l0.length ≤ maxLen) (f0 : ∀ r ∈ l0, recWf r) :
    Calls Try.prog 4 #[.slice A0 l0.length c0] w fun e w' => e = .returned (.bool true) ∧ Below w.heap.size w w' := by
  have B0 := Lib.hid (Below.refl w.heap.size w)
  have HL0 := Lib.hid (fun (W : World) (hb : Below w.heap.size w W) => rlong9_any A0 c0 l0 W (s0.kept hb) (by unfold maxLen at m0; omega) (fun x hx => by have := (f0 x hx).2.2; unfold maxLen at this; omega))
  have H1 := Lib.hid (fun (W : World) (hb : Below w.heap.size w W) (hl : l0.length ≤ 40) => pwrite9_any A0 c0 l0 W (s0.kept hb) (by omega) f0)
  have H2 := Lib.hid (fun (W : World) (hb : Below w.heap.size w W) (hl : l0.length ≤ 40) => rwrite9_any A0 c0 l0 W (s0.kept hb) (by omega))
  clear s0 n0 m0 f0
  generalize hq : l0.length = q at *
  go_enter Try.func4, Try.ntmps4
  go_wp2_with fail
  refine (HL0.out _ B0.out).mono ?_
  rintro e w0 ⟨b, rfl, hw0, HLB⟩
  rw [hq] at HLB
  clear hq
  cases b
  · have HLE := Lib.hid ((HLB rfl).1)
    subst hw0
    clear HLB HL0
    go_wp2_with fail
    refine (H1.out _ B0.out HLE.out).mono ?_
    rintro e w1 ⟨rfl, b1⟩
    have B1 := Lib.hid (B0.out.trans (b1.mono B0.out.size))
    clear b1
    go_wp2_with fail
    refine (H2.out _ B1.out HLE.out).mono ?_
    rintro e w2 ⟨rfl, b2⟩
    have B2 := Lib.hid (B1.out.trans (b2.mono B1.out.size))
    clear b2
    have heq : ((str (writeC l0).1).toList == (str (writeC l0).1).toList) = true := beq_self_eq_true _
    generalize str (writeC l0).1 = S at *
    generalize (writeC l0).2 = er at *
    have he : ((er : Int) == (er : Int)) = true := beq_self_eq_true _
    go_wp2_with fail
    refine (lives_any _).mono ?_
    rintro e w99 ⟨rfl, b99⟩
    go_wp2_with fail
    go_ret
    exact ⟨rfl, B2.out.trans (b99.mono B2.out.size)⟩
  · clear HLB HL0 H1 H2
    subst hw0
    go_wp2_with fail
    refine (lives_any _).mono ?_
    rintro e w99 ⟨rfl, b99⟩
    go_wp2_with fail
    go_ret
    exact ⟨rfl, B0.out.trans (b99.mono B0.out.size)⟩

set_option maxRecDepth 100000 in
theorem lifted (os : Os) (started : os.Started) (H : Type) (enc : TypeId × Value → H) :
    ReturnsInHanded {} Try.checked os 4 .any (Rows.captureWritesSpec.pre6 enc Try.prog Try.f4 Rows.captureWritesRow.domain false) (Rows.captureWritesSpec.post enc Try.prog Try.f4 false true false false) := by
  refine returnsInHanded_of_change (C := Try.checked) own started (by kernel_rfl) Try.func4
    (ChangeSpec.witness6 (enc := enc) (C := Try.checked) false ⟨#[], #[.slice none 0 0], []⟩ 8 (by kernel_rfl) (by kernel_rfl) (by kernel_rfl) (by kernel_rfl)) ?_
  intro W base args ds gs before hval0 hW hcnd _
  have hval : ∀ (j : Nat) t v, Try.f4.params[j]? = some t → args[j]? = some v → Value.okWide Try.prog W .any base t v := hval0
  have hW' := hW
  obtain ⟨p, q, hA0, hV, rfl, hfz, hnd⟩ := hW
  have hA : DataW.TrodAll enc Try.prog W 0 (fun _ => true) true Try.f4.params.toList args.toList ds p := hA0
  rw [Try.params4] at hA hval
  obtain ⟨v0, vs0, d0, ds0, p0, q0, hargs, rfl, rfl, h0, r0⟩ := trodAll_cons hA
  obtain ⟨rfl, rfl, rfl⟩ := trodAll_nil r0
  obtain rfl : args = #[v0] := by cases args; simp_all
  obtain ⟨rfl, rfl⟩ := trodVars_none hV
  obtain ⟨a0, len0, cap0, rfl⟩ := okWide_slice Try.underlying23 (hval 0 23 v0 rfl rfl)
  have k0 := h0
  have lt0 : ∀ x ∈ p0, x.block < W.heap.size := by obtain ⟨m, hm⟩ := k0; exact DataW.trod_lt m _ _ _ hm
  obtain ⟨l0, s0, e0, n0, m0, f0⟩ := in_recs h0
  subst e0
  clear hA0 hval0
  refine (walk a0 cap0 l0 W s0 n0 m0 f0).mono fun e W' ⟨he, bel⟩ => ?_
  subst he
  exact ⟨_, rfl, _, _, _, [], _, [], hW', trodAll_mk1 (shut_bool Try.underlying4 _), (trodAll_cons_mk (Below.trod laidOut (by kernel_rfl) (of_decide_eq_true (by kernel_rfl)) k0 bel lt0) trodAll_mk0), rfl, bel.frame _, fun h => by cases h⟩

theorem over : Rows.captureWritesRow.holds Try.pinned (OpenSpec.ofChange Rows.captureWritesSpec) :=
  OpenClaim.holds_of_wide 4 Try.f4 rfl rfl rfl rfl rfl rfl rfl ⟨rfl, rfl, rfl, rfl, rfl⟩ rfl rfl rfl rfl rfl (by kernel_rfl) Try.func4 (by kernel_rfl)
    (of_decide_eq_true (by kernel_rfl)) (by unfold Func.isWrapper; first | (rw [if_pos (by decide +kernel)]; kernel_rfl) | (rw [if_neg (by decide +kernel)]; exact ⟨rfl, rfl⟩))
    (fun os started H enc _ => lifted os started H enc)

theorem proved : Rows.CaptureWritesSaid := over
#print axioms proved
end Go.Proofs.Ytnckcdngmffahaa.captureWrites
