/- CaptureReads holds: for every string the law about Read beside the reference returns true and leaves memory as it was; no conditions. -/
import Derived.Test.YtnckcdngmffahaaRows
import Derived.Test.YtnckcdngmffahaaChecked
import Derived.Test.YtnckcdngmffahaaCA5
namespace Go.Proofs.Ytnckcdngmffahaa.captureReads
open Go.ChangeShapes Go.WideShapes Go.ChangeAt Go.RowKit
open Go.ChangeMaps (open_string shut_string)
set_option linter.unusedVariables false

theorem own : ownKnob Try.prog.godebug = none := by kernel_rfl
theorem laidOut : laidOutB Try.prog = true := by kernel_rfl
set_option maxHeartbeats 4000000 in
set_option maxRecDepth 20000 in
theorem walk (s : ByteArray) (w : World) (hs : s.size ≤ maxLen) :
    Calls Try.prog 3 #[.string s] w fun e w' => e = .returned (.bool true) ∧ Below w.heap.size w w' := by
  have B0 := Lib.hid (Below.refl w.heap.size w)
  by_cases hl : 9000 < s.size
  · have d0 : decide ((9000 : Int) < (s.size : Int)) = true := by simp; omega
    have nd : (9000 : Int) < (s.size : Int) := by omega
    go_enter Try.func3, Try.ntmps3
    go_wp2_with fail
    refine (lives_any _).mono ?_
    rintro e w99 ⟨rfl, b99⟩
    go_wp2_with fail
    go_ret
    exact ⟨rfl, B0.out.trans (b99.mono B0.out.size)⟩
  · have d0 : decide ((9000 : Int) < (s.size : Int)) = false := by simp; omega
    have nd : ¬ (9000 : Int) < (s.size : Int) := by omega
    obtain ⟨L, hL⟩ : ∃ L, L = s.data.toList := ⟨_, rfl⟩
    have hlen : L.length = s.size := by rw [hL]; exact toList_length9 s
    have hsL : s = str L := by rw [hL]; exact (str_of s).symm
    have hrl := read_len L
    have H1 := Lib.hid (fun (W : World) => show Calls Try.prog 12 #[.string s] W (ReadQ W (readC L)) from by rw [hsL]; exact pread9_any L W (by omega))
    have H2 := Lib.hid (fun (W : World) => show Calls Try.prog 13 #[.string s] W (ReadQ W (readC L)) from by rw [hsL]; exact (rread9_any L W (by omega)).mono fun _ _ h => h.q)
    have HRL := Lib.hid (show (readC L).1.length ≤ 1000000 by omega)
    clear hL hlen hsL hrl hs hl
    generalize readC L = R at *
    obtain ⟨R, er, ps⟩ := R
    simp only at HRL
    go_enter Try.func3, Try.ntmps3
    go_wp2_with fail
    refine (H1.out _).mono ?_
    rintro e w1 ⟨A1, c1, rfl, r1, n1, b1⟩
    simp only at r1
    have R1 := Lib.hid r1
    clear r1 n1
    have B1 := Lib.hid (B0.out.trans (b1.mono B0.out.size))
    clear b1
    go_wp2_with fail
    refine (H2.out _).mono ?_
    rintro e w2 ⟨A2, c2, rfl, r2, n2, b2⟩
    simp only at r2
    have HS := Lib.hid (rsame9_any A1 A2 c1 c2 R w2 (R1.out.kept b2) r2 HRL.out)
    clear r2 n2 R1 HRL
    have B2 := Lib.hid (B1.out.trans (b2.mono B1.out.size))
    clear b2
    have he : ((er : Int) == (er : Int)) = true := beq_self_eq_true _
    have hp : ((ps : Int) == (ps : Int)) = true := beq_self_eq_true _
    go_wp2_with fail
    refine HS.out.mono ?_
    rintro e w3 ⟨rfl, b3⟩
    have B3 := Lib.hid (B2.out.trans (b3.mono B2.out.size))
    clear b3
    go_wp2_with fail
    refine (lives_any _).mono ?_
    rintro e w99 ⟨rfl, b99⟩
    go_wp2_with fail
    go_ret
    exact ⟨rfl, B3.out.trans (b99.mono B3.out.size)⟩

set_option maxRecDepth 100000 in
theorem lifted (os : Os) (started : os.Started) (H : Type) (enc : TypeId × Value → H) :
    ReturnsInHanded {} Try.checked os 3 .any (Rows.captureReadsSpec.pre6 enc Try.prog Try.f3 Rows.captureReadsRow.domain false) (Rows.captureReadsSpec.post enc Try.prog Try.f3 false true false false) := by
  refine returnsInHanded_of_change (C := Try.checked) own started (by kernel_rfl) Try.func3
    (ChangeSpec.witness6 (enc := enc) (C := Try.checked) false ⟨#[], #[.string ⟨#[]⟩], []⟩ 8 (by kernel_rfl) (by kernel_rfl) (by kernel_rfl) (by kernel_rfl)) ?_
  intro W base args ds gs before hval0 hW hcnd _
  have hval : ∀ (j : Nat) t v, Try.f3.params[j]? = some t → args[j]? = some v → Value.okWide Try.prog W .any base t v := hval0
  have hW' := hW
  obtain ⟨p, q, hA0, hV, rfl, hfz, hnd⟩ := hW
  have hA : DataW.TrodAll enc Try.prog W 0 (fun _ => true) true Try.f3.params.toList args.toList ds p := hA0
  rw [Try.params3] at hA hval
  obtain ⟨v0, vs0, d0, ds0, p0, q0, hargs, rfl, rfl, h0, r0⟩ := trodAll_cons hA
  obtain ⟨rfl, rfl, rfl⟩ := trodAll_nil r0
  obtain rfl : args = #[v0] := by cases args; simp_all
  obtain ⟨rfl, rfl⟩ := trodVars_none hV
  obtain ⟨a0, rfl, rfl, rfl, w0⟩ := open_string Try.underlying9 (hval 0 9 v0 rfl rfl) h0
  clear hA0 hval0
  refine (walk a0 W w0).mono fun e W' ⟨he, bel⟩ => ?_
  subst he
  exact ⟨_, rfl, _, _, _, [], _, [], hW', trodAll_mk1 (shut_bool Try.underlying4 _), (trodAll_cons_mk (shut_string Try.underlying9 w0) trodAll_mk0), rfl, bel.frame _, fun h => by cases h⟩

theorem over : Rows.captureReadsRow.holds Try.pinned (OpenSpec.ofChange Rows.captureReadsSpec) :=
  OpenClaim.holds_of_wide 3 Try.f3 rfl rfl rfl rfl rfl rfl rfl ⟨rfl, rfl, rfl, rfl, rfl⟩ rfl rfl rfl rfl rfl (by kernel_rfl) Try.func3 (by kernel_rfl)
    (of_decide_eq_true (by kernel_rfl)) (by unfold Func.isWrapper; first | (rw [if_pos (by decide +kernel)]; kernel_rfl) | (rw [if_neg (by decide +kernel)]; exact ⟨rfl, rfl⟩))
    (fun os started H enc _ => lifted os started H enc)

theorem proved : Rows.CaptureReadsSaid := over
#print axioms proved
end Go.Proofs.Ytnckcdngmffahaa.captureReads
