/- CaptureRoundTrip holds: for every list of records reading what Write wrote returns it, without its last byte it is too short, and the law returns true and leaves memory as it was; no conditions. -/
import Derived.Test.YtnckcdngmffahaaRows
import Derived.Test.YtnckcdngmffahaaChecked
import Derived.Test.YtnckcdngmffahaaCA5
namespace Go.Proofs.Ytnckcdngmffahaa.captureRoundTrip
open Go.ChangeShapes Go.WideShapes Go.ChangeAt Go.RowKit
open Go.ChangeMaps (open_string shut_string)
set_option linter.unusedVariables false

theorem own : ownKnob Try.prog.godebug = none := by kernel_rfl
theorem laidOut : laidOutB Try.prog = true := by kernel_rfl
set_option maxHeartbeats 4000000 in
set_option maxRecDepth 20000 in
theorem walk (A0 : Option Addr) (c0 : Nat) (l0 : List CRec) (w : World) (s0 : RowL ERec w A0 l0) (n0 : A0 = none → c0 = 0) (m0 : l0.length ≤ maxLen) (f0 : ∀ r ∈ l0, recWf r) :
    Calls Try.prog 9 #[.slice A0 l0.length c0] w fun e w' => e = .returned (.bool true) ∧ Below w.heap.size w w' := by
  have B0 := Lib.hid (Below.refl w.heap.size w)
  have HL0 := Lib.hid (fun (W : World) (hb : Below w.heap.size w W) => rlong9_any A0 c0 l0 W (s0.kept hb) (by unfold maxLen at m0; omega) (fun x hx => by have := (f0 x hx).2.2; unfold maxLen at this; omega))
  have H1 := Lib.hid (fun (W : World) (hb : Below w.heap.size w W) (hl : l0.length ≤ 40) => pwrite9_any A0 c0 l0 W (s0.kept hb) (by omega) f0)
  have HR0 := Lib.hid (fun (W : World) (hb : Below w.heap.size w W) => s0.kept hb)
  clear s0 n0 m0 f0
  generalize hq : l0.length = q at *
  go_enter Try.func9, Try.ntmps9
  go_wp2_with fail
  refine (lives_any _).mono ?_
  rintro e w90 ⟨rfl, b90⟩
  have B9 := Lib.hid (B0.out.trans (b90.mono B0.out.size))
  clear b90 B0
  go_wp2_with fail
  refine (HL0.out _ B9.out).mono ?_
  rintro e w0 ⟨b, rfl, hw0, HLB⟩
  cases b
  · have HLE := Lib.hid (HLB rfl)
    rw [hq] at HLE
    subst hw0
    clear HLB HL0
    go_wp2_with fail
    refine (H1.out _ B9.out HLE.out.1).mono ?_
    rintro e w1 ⟨rfl, b1⟩
    have B1 := Lib.hid (B9.out.trans (b1.mono B9.out.size))
    clear b1
    clear H1
    have hwr : writeC l0 = if wErr none l0 ≠ 0 then ([], wErr none l0) else (wHd ++ l0.flatMap wRec, 0) := by unfold writeC; rw [if_neg (by have := HLE.out; omega)]
    by_cases he : wErr none l0 = 0
    · rw [if_neg (by omega)] at hwr
      have hfl := flat_len l0 HLE.out.2
      obtain ⟨F, hF⟩ : ∃ F, F = wHd ++ l0.flatMap wRec := ⟨_, rfl⟩
      have hrw := read_write he (by have := HLE.out; omega)
      have hrc := read_cut he (by have := HLE.out; omega)
      rw [← hF] at hrw hrc hwr
      have hFl : F.length = 24 + (l0.flatMap wRec).length := by rw [hF, List.length_append, wHd_len]
      have hF0 : 24 ≤ F.length ∧ F.length ≤ 300000 := by have := HLE.out.1; rw [← hq] at this; omega
      have hsz : (str F).size = F.length := str_size F
      obtain ⟨S, hS⟩ : ∃ S, S = str F := ⟨_, rfl⟩
      obtain ⟨k, hk⟩ : ∃ k, k + 1 = S.size := ⟨S.size - 1, by rw [hS]; omega⟩
      have hks : (S.size : Int) - 1 = (k : Int) := by omega
      have hkl : k ≤ S.size := by omega
      have hT : S.extract 0 k = str (F.take (F.length - 1)) := by
        rw [hS, show k = F.length - 1 by rw [hS] at hk; omega]
        rw [extract_str6, str_toList, List.drop_zero, Nat.sub_zero]
      rw [hwr, ← hS]
      have h24 : ¬ (S.size : Int) < 24 := by rw [hS]; omega
      have d24 : decide ((S.size : Int) < 24) = false := by simp; rw [hS]; omega
      have HC1 := Lib.hid (fun (W : World) => show Calls Try.prog 12 #[.string S] W fun e w' => ∃ A cap, e = .returned (.tuple #[.slice A q cap, .int .i64 0, .int .i64 0]) ∧ RcQ W l0 A cap w' from by
        have := pread9_any F W (by omega)
        rw [hrw, ← hS] at this
        rw [← hq]
        exact this)
      have HC2 := Lib.hid (fun (W : World) => show Calls Try.prog 12 #[.string (S.extract 0 k)] W fun e w' => ∃ A cap m p, e = .returned (.tuple #[.slice A m cap, .int .i64 1, .int .i64 p]) ∧ Below W.heap.size W w' from by
        rw [hT]
        refine (pread9_any (F.take (F.length - 1)) W (by rw [List.length_take]; omega)).mono ?_
        rintro e w' ⟨A, cap, h1, h2, h3, h4⟩
        rw [hrc] at h1
        exact ⟨A, cap, _, _, h1, h4⟩)
      have HSM := Lib.hid (fun (A : Option Addr) (c : Nat) (W : World) (hb : Below w.heap.size w W) (hr : RowL ERec W A l0) => show Calls Try.prog 14 #[.slice A q c, .slice A0 q c0] W fun e w' => e = .returned (.bool true) ∧ Below W.heap.size W w' from by
        rw [← hq]; exact rsame9_any A A0 c c0 l0 W hr (HR0.out W hb) (by have := HLE.out.1; omega))
      have hk0 : (0 : Int) ≤ (k : Int) := by omega
      have hkl2 : (k : Int) ≤ (S.size : Int) := by omega
      have hk3 : k ≤ 300000 := by rw [hS] at hk; omega
      clear hwr hfl hF hrw hrc hFl hF0 hsz hS hk hT HLE hq HR0 he
      go_wp2_with fail
      refine (HC1.out _).mono ?_
      rintro e w2 ⟨A2, c2, rfl, r2, n2, b2⟩
      have R2 := Lib.hid r2
      clear r2 n2
      have B2 := Lib.hid (B1.out.trans (b2.mono B1.out.size))
      clear b2
      go_wp2_with fail
      refine (HC2.out _).mono ?_
      rintro e w3 ⟨A3, c3, m3, p3, rfl, b3⟩
      have HS := Lib.hid (HSM.out A2 c2 w3 (B2.out.trans (b3.mono B2.out.size)) (R2.out.kept b3))
      clear R2 HSM
      have B3 := Lib.hid (B2.out.trans (b3.mono B2.out.size))
      clear b3
      go_wp2_with fail
      refine HS.out.mono ?_
      rintro e w4 ⟨rfl, b4⟩
      have B4 := Lib.hid (B3.out.trans (b4.mono B3.out.size))
      clear b4
      go_wp2_with fail
      go_ret
      exact ⟨rfl, B4.out⟩
    · rw [if_pos he] at hwr
      have hne : ((wErr none l0 : Int) != 0) = true := by rw [bne_iff_ne]; omega
      have hn2 : ¬ (wErr none l0 : Int) = 0 := by omega
      rw [hwr]
      have hS : str [] = ⟨#[]⟩ := rfl
      simp only [hS]
      generalize wErr none l0 = er at *
      clear hwr he HLE hq HR0
      go_wp2_with fail
      go_ret
      exact ⟨rfl, B1.out⟩
  · clear HLB HL0 H1
    subst hw0
    go_wp2_with fail
    go_ret
    exact ⟨rfl, B9.out⟩

set_option maxRecDepth 100000 in
theorem lifted (os : Os) (started : os.Started) (H : Type) (enc : TypeId × Value → H) :
    ReturnsInHanded {} Try.checked os 9 .any (Rows.captureRoundTripSpec.pre6 enc Try.prog Try.f9 Rows.captureRoundTripRow.domain false) (Rows.captureRoundTripSpec.post enc Try.prog Try.f9 false true false false) := by
  refine returnsInHanded_of_change (C := Try.checked) own started (by kernel_rfl) Try.func9
    (ChangeSpec.witness6 (enc := enc) (C := Try.checked) false ⟨#[], #[.slice none 0 0], []⟩ 8 (by kernel_rfl) (by kernel_rfl) (by kernel_rfl) (by kernel_rfl)) ?_
  intro W base args ds gs before hval0 hW hcnd _
  have hval : ∀ (j : Nat) t v, Try.f9.params[j]? = some t → args[j]? = some v → Value.okWide Try.prog W .any base t v := hval0
  have hW' := hW
  obtain ⟨p, q, hA0, hV, rfl, hfz, hnd⟩ := hW
  have hA : DataW.TrodAll enc Try.prog W 0 (fun _ => true) true Try.f9.params.toList args.toList ds p := hA0
  rw [Try.params9] at hA hval
  obtain ⟨v0, vs0, d0, ds0, p0, q0, hargs, rfl, rfl, h0, r0⟩ := trodAll_cons hA
  obtain ⟨rfl, rfl, rfl⟩ := trodAll_nil r0
  obtain rfl : args = #[v0] := by cases args; simp_all
  obtain ⟨rfl, rfl⟩ := trodVars_none hV
  obtain ⟨a0, len0, cap0, rfl⟩ := okWide_slice Try.underlying23 (hval 0 23 v0 rfl rfl)
  have k0 := h0
  have lt0 : ∀ x ∈ p0, x.block < W.heap.size := by obtain ⟨m, hm⟩ := k0; exact DataW.trod_lt m _ _ _ hm
  obtain ⟨l0, s0, e0, n0, m0, f0⟩ := in_recs h0
  subst e0
  clear hA0 hval0
  refine (walk a0 cap0 l0 W s0 n0 m0 f0).mono fun e W' ⟨he, bel⟩ => ?_
  subst he
  exact ⟨_, rfl, _, _, _, [], _, [], hW', trodAll_mk1 (shut_bool Try.underlying4 _), (trodAll_cons_mk (Below.trod laidOut (by kernel_rfl) (of_decide_eq_true (by kernel_rfl)) k0 bel lt0) trodAll_mk0), rfl, bel.frame _, fun h => by cases h⟩

theorem over : Rows.captureRoundTripRow.holds Try.pinned (OpenSpec.ofChange Rows.captureRoundTripSpec) :=
  OpenClaim.holds_of_wide 9 Try.f9 rfl rfl rfl rfl rfl rfl rfl ⟨rfl, rfl, rfl, rfl, rfl⟩ rfl rfl rfl rfl rfl (by kernel_rfl) Try.func9 (by kernel_rfl)
    (of_decide_eq_true (by kernel_rfl)) (by unfold Func.isWrapper; first | (rw [if_pos (by decide +kernel)]; kernel_rfl) | (rw [if_neg (by decide +kernel)]; exact ⟨rfl, rfl⟩))
    (fun os started H enc _ => lifted os started H enc)

theorem proved : Rows.CaptureRoundTripSaid := over
#print axioms proved
end Go.Proofs.Ytnckcdngmffahaa.captureRoundTrip
