/- IntervalContains holds: for every two lists of spans and every number the law about Contains and Subset returns true and leaves memory as it was. No condition. -/
import Derived.Test.YtlmjfbgigfmdhaaAwk05b
import Derived.Test.YtlmjfbgigfmdhaaRows
namespace Go.Proofs.Ytlmjfbgigfmdhaa.intervalContains
open Go.ChangeShapes Go.WideShapes Go.ChangeAt Go.RowKit
set_option linter.unusedVariables false

theorem own : ownKnob Try.prog.godebug = none := by kernel_rfl
theorem laidOut : laidOutB Try.prog = true := by kernel_rfl
set_option maxHeartbeats 1000000 in
set_option maxRecDepth 20000 in
theorem walk (A0 : Option Addr) (c0 : Nat) (l0 : List Spn) (A1 : Option Addr) (c1 : Nat) (l1 : List Spn) (m : Int) (w : World) (s0 : SpL w A0 l0) (n0 : A0 = none → c0 = 0) (s1 : SpL w A1 l1) (n1 : A1 = none → c1 = 0) :
    Calls Try.prog 4 #[.slice A0 l0.length c0, .slice A1 l1.length c1, .int .i64 m] w fun e w' => e = .returned (.bool true) ∧ Below w.heap.size w w' := by
  by_cases hl0 : 60 < l0.length
  · clear s0 n0 s1 n1
    have HL0 := Lib.hid (fun (W : World) => show Calls Try.prog 9 #[.slice A0 l0.length c0] W fun e w' => e = .returned (.bool true) ∧ w' = W from by
      have hh := large_any A0 l0.length c0 W
      rwa [show decide ((60 : Int) < (l0.length : Int)) = true by simp; omega] at hh)
    generalize l0.length = q0 at *
    generalize l1.length = q1 at *
    go_enter Try.func4, Try.ntmps4
    go_wp2_with fail
    refine (HL0.out _).mono ?_
    rintro e w1 ⟨rfl, rfl⟩
    go_wp2_with fail
    refine (awake_any _).mono ?_
    rintro e w9 ⟨rfl, b9⟩
    go_wp2_with fail
    go_ret
    exact ⟨rfl, b9⟩
  by_cases hl1 : 60 < l1.length
  · clear s0 n0 s1 n1
    have HL0 := Lib.hid (fun (W : World) => show Calls Try.prog 9 #[.slice A0 l0.length c0] W fun e w' => e = .returned (.bool false) ∧ w' = W from by
      have hh := large_any A0 l0.length c0 W
      rwa [show decide ((60 : Int) < (l0.length : Int)) = false by simp; omega] at hh)
    have HL1 := Lib.hid (fun (W : World) => show Calls Try.prog 9 #[.slice A1 l1.length c1] W fun e w' => e = .returned (.bool true) ∧ w' = W from by
      have hh := large_any A1 l1.length c1 W
      rwa [show decide ((60 : Int) < (l1.length : Int)) = true by simp; omega] at hh)
    generalize l0.length = q0 at *
    generalize l1.length = q1 at *
    go_enter Try.func4, Try.ntmps4
    go_wp2_with fail
    refine (HL0.out _).mono ?_
    rintro e w1 ⟨rfl, rfl⟩
    go_wp2_with fail
    refine (HL1.out _).mono ?_
    rintro e w2 ⟨rfl, rfl⟩
    go_wp2_with fail
    refine (awake_any _).mono ?_
    rintro e w9 ⟨rfl, b9⟩
    go_wp2_with fail
    go_ret
    exact ⟨rfl, b9⟩
  have HL0 := Lib.hid (fun (W : World) => show Calls Try.prog 9 #[.slice A0 l0.length c0] W fun e w' => e = .returned (.bool false) ∧ w' = W from by
    have hh := large_any A0 l0.length c0 W
    rwa [show decide ((60 : Int) < (l0.length : Int)) = false by simp; omega] at hh)
  have HL1 := Lib.hid (fun (W : World) => show Calls Try.prog 9 #[.slice A1 l1.length c1] W fun e w' => e = .returned (.bool false) ∧ w' = W from by
    have hh := large_any A1 l1.length c1 W
    rwa [show decide ((60 : Int) < (l1.length : Int)) = false by simp; omega] at hh)
  have H1 := Lib.hid (fun (W : World) (hb : Below w.heap.size w W) => pcontains_any A0 c0 l0 m W (s0.kept hb) (by omega))
  have H2 := Lib.hid (fun (W : World) (hb : Below w.heap.size w W) => rcontains_any A0 c0 l0 m W (s0.kept hb) (by omega))
  have H3 := Lib.hid (fun (W : World) (hb : Below w.heap.size w W) => psubset_any A0 A1 c0 c1 l0 l1 W (s0.kept hb) (s1.kept hb) (by omega) (by omega))
  have H4 := Lib.hid (fun (W : World) (hb : Below w.heap.size w W) => rsubset_any A0 A1 c0 c1 l0 l1 W (s0.kept hb) (s1.kept hb) (by omega) (by omega))
  have H5 := Lib.hid (fun (W : World) (hb : Below w.heap.size w W) => psubset_any A0 A0 c0 c0 l0 l0 W (s0.kept hb) (s0.kept hb) (by omega) (by omega))
  have HE := Lib.hid (show ∀ m, anyS [] m = (memS 4294967296 l0 m && !memS 4294967296 l0 m) from fun m => by cases memS 4294967296 l0 m <;> rfl)
  generalize memS 4294967296 l0 m = V at *
  generalize l0.length = q0 at *
  generalize l1.length = q1 at *
  clear s0 n0 s1 n1
  go_enter Try.func4, Try.ntmps4
  go_wp2_with fail
  refine (HL0.out _).mono ?_
  rintro e w0 ⟨rfl, rfl⟩
  go_wp2_with fail
  refine (HL1.out _).mono ?_
  rintro e w00 ⟨rfl, rfl⟩
  go_wp2_with fail
  refine (H1.out _ (Below.refl _ _)).mono ?_
  rintro e w1 ⟨rfl, b1⟩
  have B1 := Lib.hid b1
  clear b1
  go_wp2_with fail
  refine (H2.out _ B1.out).mono ?_
  rintro e w2 ⟨rfl, rfl⟩
  go_wp2_with fail
  refine (H3.out _ B1.out).mono ?_
  rintro e w3 ⟨L, okl, anyl, rfl, b3⟩
  have HK := Lib.hid (And.intro okl anyl)
  clear okl anyl
  have B3 := Lib.hid (B1.out.trans (b3.mono B1.out.size))
  clear b3
  generalize hR : decide (L.length = 0) = R at *
  have HR := Lib.hid hR
  clear hR
  go_wp2_with fail
  refine (H4.out _ B3.out).mono ?_
  intro e w4 hs
  obtain ⟨he, b4⟩ := hs.known HK.out.1 HK.out.2
  rw [HR.out] at he
  subst he
  clear hs
  have B4 := Lib.hid (B3.out.trans (b4.mono B3.out.size))
  clear b4
  go_wp2_with fail
  refine (H5.out _ B4.out).mono ?_
  intro e w5 hs
  obtain ⟨rfl, b5⟩ := hs.known (K := []) trivial HE.out
  clear hs
  have B5 := Lib.hid (B4.out.trans (b5.mono B4.out.size))
  clear b5
  go_wp2_with fail
  refine (awake_any _).mono ?_
  rintro e w9 ⟨rfl, b9⟩
  go_wp2_with fail
  go_ret
  exact ⟨rfl, B5.out.trans (b9.mono B5.out.size)⟩

set_option maxRecDepth 100000 in
theorem lifted (os : Os) (started : os.Started) (H : Type) (enc : TypeId × Value → H) :
    ReturnsInHanded {} Try.checked os 4 .any (Rows.intervalContainsSpec.pre6 enc Try.prog Try.f4 Rows.intervalContainsRow.domain false) (Rows.intervalContainsSpec.post enc Try.prog Try.f4 false true false false) := by
  refine returnsInHanded_of_change (C := Try.checked) own started (by kernel_rfl) Try.func4
    (ChangeSpec.witness6 (enc := enc) (C := Try.checked) false ⟨#[], #[.slice none 0 0, .slice none 0 0, .int .i64 0], []⟩ 8 (by kernel_rfl) (by kernel_rfl) (by kernel_rfl) (by kernel_rfl)) ?_
  intro W base args ds gs before hval0 hW hcnd _
  have hval : ∀ (j : Nat) t v, Try.f4.params[j]? = some t → args[j]? = some v → Value.okWide Try.prog W .any base t v := hval0
  have hW' := hW
  obtain ⟨p, q, hA0, hV, rfl, hfz, hnd⟩ := hW
  have hA : DataW.TrodAll enc Try.prog W 0 (fun _ => true) true Try.f4.params.toList args.toList ds p := hA0
  rw [Try.params4] at hA hval
  obtain ⟨v0, vs0, d0, ds0, p0, q0, hargs, rfl, rfl, h0, r0⟩ := trodAll_cons hA
  obtain ⟨v1, vs1, d1, ds1, p1, q1, rfl, rfl, rfl, h1, r1⟩ := trodAll_cons r0
  obtain ⟨v2, vs2, d2, ds2, p2, q2, rfl, rfl, rfl, h2, r2⟩ := trodAll_cons r1
  obtain ⟨rfl, rfl, rfl⟩ := trodAll_nil r2
  obtain rfl : args = #[v0, v1, v2] := by cases args; simp_all
  obtain ⟨rfl, rfl⟩ := trodVars_none hV
  obtain ⟨a0, len0, cap0, rfl⟩ := okWide_slice Try.underlying22 (hval 0 22 v0 rfl rfl)
  have k0 := h0
  have lt0 : ∀ x ∈ p0, x.block < W.heap.size := by obtain ⟨m, hm⟩ := k0; exact DataW.trod_lt m _ _ _ hm
  obtain ⟨l0, s0, e0, n0, m0⟩ := in_spans h0
  obtain ⟨a1, len1, cap1, rfl⟩ := okWide_slice Try.underlying22 (hval 1 22 v1 rfl rfl)
  have k1 := h1
  have lt1 : ∀ x ∈ p1, x.block < W.heap.size := by obtain ⟨m, hm⟩ := k1; exact DataW.trod_lt m _ _ _ hm
  obtain ⟨l1, s1, e1, n1, m1⟩ := in_spans h1
  obtain ⟨a2, rfl, rfl, rfl, w2⟩ := open_int Try.underlying3 (hval 2 3 v2 rfl rfl) h2
  subst e0
  subst e1
  clear hA0 hval0
  refine (walk a0 cap0 l0 a1 cap1 l1 a2 W s0 n0 s1 n1).mono fun e W' ⟨he, bel⟩ => ?_
  subst he
  exact ⟨_, rfl, _, _, _, [], _, [], hW', trodAll_mk1 (shut_bool Try.underlying4 _), (trodAll_cons_mk (Below.trod laidOut (by kernel_rfl) (of_decide_eq_true (by kernel_rfl)) k0 bel lt0) (trodAll_cons_mk (Below.trod laidOut (by kernel_rfl) (of_decide_eq_true (by kernel_rfl)) k1 bel lt1) (trodAll_cons_mk (shut_int Try.underlying3 w2) trodAll_mk0))), rfl, bel.frame _, fun h => by cases h⟩

theorem over : Rows.intervalContainsRow.holds Try.pinned (OpenSpec.ofChange Rows.intervalContainsSpec) :=
  OpenClaim.holds_of_wide 4 Try.f4 rfl rfl rfl rfl rfl rfl rfl ⟨rfl, rfl, rfl, rfl, rfl⟩ rfl rfl rfl rfl rfl (by kernel_rfl) Try.func4 (by kernel_rfl)
    (of_decide_eq_true (by kernel_rfl)) (by unfold Func.isWrapper; first | (rw [if_pos (by decide +kernel)]; kernel_rfl) | (rw [if_neg (by decide +kernel)]; exact ⟨rfl, rfl⟩))
    (fun os started H enc _ => lifted os started H enc)

theorem proved : Rows.IntervalContainsSaid := over
#print axioms proved
end Go.Proofs.Ytlmjfbgigfmdhaa.intervalContains
