/- IntervalComplements holds: for every list of spans and all bounds the law about Complement returns true and leaves memory as it was. No condition. -/
import Derived.Test.YtlmjfbgigfmdhaaAwk05b
import Derived.Test.YtlmjfbgigfmdhaaRows
namespace Go.Proofs.Ytlmjfbgigfmdhaa.intervalComplements
open Go.ChangeShapes Go.WideShapes Go.ChangeAt Go.RowKit
set_option linter.unusedVariables false

theorem own : ownKnob Try.prog.godebug = none := by kernel_rfl
theorem laidOut : laidOutB Try.prog = true := by kernel_rfl
set_option maxHeartbeats 1000000 in
set_option maxRecDepth 20000 in
theorem walk (A0 : Option Addr) (c0 : Nat) (l0 : List Spn) (lo hi : Int) (w : World) (s0 : SpL w A0 l0) (n0 : A0 = none → c0 = 0) :
    Calls Try.prog 6 #[.slice A0 l0.length c0, .int .i64 lo, .int .i64 hi] w fun e w' => e = .returned (.bool true) ∧ Below w.heap.size w w' := by
  by_cases hl0 : 60 < l0.length
  · clear s0 n0
    have HL0 := Lib.hid (fun (W : World) => show Calls Try.prog 9 #[.slice A0 l0.length c0] W fun e w' => e = .returned (.bool true) ∧ w' = W from by
      have hh := large_any A0 l0.length c0 W
      rwa [show decide ((60 : Int) < (l0.length : Int)) = true by simp; omega] at hh)
    generalize l0.length = q0 at *
    go_enter Try.func6, Try.ntmps6
    go_wp2_with fail
    refine (HL0.out _).mono ?_
    rintro e w1 ⟨rfl, rfl⟩
    go_wp2_with fail
    refine (awake_any _).mono ?_
    rintro e w9 ⟨rfl, b9⟩
    go_wp2_with fail
    go_ret
    exact ⟨rfl, b9⟩
  have HL0 := Lib.hid (fun (W : World) => show Calls Try.prog 9 #[.slice A0 l0.length c0] W fun e w' => e = .returned (.bool false) ∧ w' = W from by
    have hh := large_any A0 l0.length c0 W
    rwa [show decide ((60 : Int) < (l0.length : Int)) = false by simp; omega] at hh)
  have H1 := Lib.hid (fun (W : World) (hb : Below w.heap.size w W) => pcomp_any A0 c0 l0 lo hi W (s0.kept hb) (by omega))
  have H2 := Lib.hid (fun (W : World) (hb : Below w.heap.size w W) => rcomp_any A0 c0 l0 lo hi W (s0.kept hb) (by omega))
  generalize l0.length = q0 at *
  clear s0 n0
  go_enter Try.func6, Try.ntmps6
  go_wp2_with fail
  refine (HL0.out _).mono ?_
  rintro e w0 ⟨rfl, rfl⟩
  go_wp2_with fail
  refine (H1.out _ (Below.refl _ _)).mono ?_
  rintro e w3 ⟨L, A3, c3, okl, anyl, lel, rfl, ownl, b3⟩
  have HS := Lib.hid (spl_of_own ownl)
  have HK := Lib.hid (And.intro okl anyl)
  have B3 := Lib.hid b3
  clear okl anyl ownl b3
  go_wp2_with fail
  refine (H2.out _ B3.out).mono ?_
  intro e w4 hs
  obtain ⟨A4, c4, rfl, s4, b4⟩ := hs.known HK.out.1 HK.out.2
  have HS4 := Lib.hid s4
  have HS3 := Lib.hid (HS.out.kept b4)
  clear hs s4 HS
  have B4 := Lib.hid (B3.out.trans (b4.mono B3.out.size))
  clear b4
  go_wp2_with fail
  refine (same_any A3 A4 c3 c4 L w4 HS3.out HS4.out (by omega)).mono ?_
  rintro e w5 ⟨rfl, b5⟩
  have B5 := Lib.hid (B4.out.trans (b5.mono B4.out.size))
  clear b5
  go_wp2_with fail
  refine (awake_any _).mono ?_
  rintro e w9 ⟨rfl, b9⟩
  go_wp2_with fail
  go_ret
  exact ⟨rfl, B5.out.trans (b9.mono B5.out.size)⟩

set_option maxRecDepth 100000 in
theorem lifted (os : Os) (started : os.Started) (H : Type) (enc : TypeId × Value → H) :
    ReturnsInHanded {} Try.checked os 6 .any (Rows.intervalComplementsSpec.pre6 enc Try.prog Try.f6 Rows.intervalComplementsRow.domain false) (Rows.intervalComplementsSpec.post enc Try.prog Try.f6 false true false false) := by
  refine returnsInHanded_of_change (C := Try.checked) own started (by kernel_rfl) Try.func6
    (ChangeSpec.witness6 (enc := enc) (C := Try.checked) false ⟨#[], #[.slice none 0 0, .int .i64 0, .int .i64 0], []⟩ 8 (by kernel_rfl) (by kernel_rfl) (by kernel_rfl) (by kernel_rfl)) ?_
  intro W base args ds gs before hval0 hW hcnd _
  have hval : ∀ (j : Nat) t v, Try.f6.params[j]? = some t → args[j]? = some v → Value.okWide Try.prog W .any base t v := hval0
  have hW' := hW
  obtain ⟨p, q, hA0, hV, rfl, hfz, hnd⟩ := hW
  have hA : DataW.TrodAll enc Try.prog W 0 (fun _ => true) true Try.f6.params.toList args.toList ds p := hA0
  rw [Try.params6] at hA hval
  obtain ⟨v0, vs0, d0, ds0, p0, q0, hargs, rfl, rfl, h0, r0⟩ := trodAll_cons hA
  obtain ⟨v1, vs1, d1, ds1, p1, q1, rfl, rfl, rfl, h1, r1⟩ := trodAll_cons r0
  obtain ⟨v2, vs2, d2, ds2, p2, q2, rfl, rfl, rfl, h2, r2⟩ := trodAll_cons r1
  obtain ⟨rfl, rfl, rfl⟩ := trodAll_nil r2
  obtain rfl : args = #[v0, v1, v2] := by cases args; simp_all
  obtain ⟨rfl, rfl⟩ := trodVars_none hV
  obtain ⟨a0, len0, cap0, rfl⟩ := okWide_slice Try.underlying22 (hval 0 22 v0 rfl rfl)
  have k0 := h0
  have lt0 : ∀ x ∈ p0, x.block < W.heap.size := by obtain ⟨m, hm⟩ := k0; exact DataW.trod_lt m _ _ _ hm
  obtain ⟨l0, s0, e0, n0, m0⟩ := in_spans h0
  obtain ⟨a1, rfl, rfl, rfl, w1⟩ := open_int Try.underlying3 (hval 1 3 v1 rfl rfl) h1
  obtain ⟨a2, rfl, rfl, rfl, w2⟩ := open_int Try.underlying3 (hval 2 3 v2 rfl rfl) h2
  subst e0
  clear hA0 hval0
  refine (walk a0 cap0 l0 a1 a2 W s0 n0).mono fun e W' ⟨he, bel⟩ => ?_
  subst he
  exact ⟨_, rfl, _, _, _, [], _, [], hW', trodAll_mk1 (shut_bool Try.underlying4 _), (trodAll_cons_mk (Below.trod laidOut (by kernel_rfl) (of_decide_eq_true (by kernel_rfl)) k0 bel lt0) (trodAll_cons_mk (shut_int Try.underlying3 w1) (trodAll_cons_mk (shut_int Try.underlying3 w2) trodAll_mk0))), rfl, bel.frame _, fun h => by cases h⟩

theorem over : Rows.intervalComplementsRow.holds Try.pinned (OpenSpec.ofChange Rows.intervalComplementsSpec) :=
  OpenClaim.holds_of_wide 6 Try.f6 rfl rfl rfl rfl rfl rfl rfl ⟨rfl, rfl, rfl, rfl, rfl⟩ rfl rfl rfl rfl rfl (by kernel_rfl) Try.func6 (by kernel_rfl)
    (of_decide_eq_true (by kernel_rfl)) (by unfold Func.isWrapper; first | (rw [if_pos (by decide +kernel)]; kernel_rfl) | (rw [if_neg (by decide +kernel)]; exact ⟨rfl, rfl⟩))
    (fun os started H enc _ => lifted os started H enc)

theorem proved : Rows.IntervalComplementsSaid := over
#print axioms proved
end Go.Proofs.Ytlmjfbgigfmdhaa.intervalComplements
