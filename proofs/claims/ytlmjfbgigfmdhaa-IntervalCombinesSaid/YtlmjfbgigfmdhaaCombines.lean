/- IntervalCombines holds: for every two lists of spans the law about Union, Intersect and Minus returns true and leaves memory as it was. No condition. -/
import Derived.Test.YtlmjfbgigfmdhaaAwk05b
import Derived.Test.YtlmjfbgigfmdhaaRows
namespace Go.Proofs.Ytlmjfbgigfmdhaa.intervalCombines
open Go.ChangeShapes Go.WideShapes Go.ChangeAt Go.RowKit
set_option linter.unusedVariables false

theorem own : ownKnob Try.prog.godebug = none := by kernel_rfl
theorem laidOut : laidOutB Try.prog = true := by kernel_rfl
set_option maxHeartbeats 1000000 in
set_option maxRecDepth 20000 in
theorem walk (A0 : Option Addr) (c0 : Nat) (l0 : List Spn) (A1 : Option Addr) (c1 : Nat) (l1 : List Spn) (w : World) (s0 : SpL w A0 l0) (n0 : A0 = none → c0 = 0) (s1 : SpL w A1 l1) (n1 : A1 = none → c1 = 0) :
    Calls Try.prog 5 #[.slice A0 l0.length c0, .slice A1 l1.length c1] w fun e w' => e = .returned (.bool true) ∧ Below w.heap.size w w' := by
  by_cases hl0 : 60 < l0.length
  · clear s0 n0 s1 n1
    have HL0 := Lib.hid (fun (W : World) => show Calls Try.prog 9 #[.slice A0 l0.length c0] W fun e w' => e = .returned (.bool true) ∧ w' = W from by
      have hh := large_any A0 l0.length c0 W
      rwa [show decide ((60 : Int) < (l0.length : Int)) = true by simp; omega] at hh)
    generalize l0.length = q0 at *
    generalize l1.length = q1 at *
    go_enter Try.func5, Try.ntmps5
    go_wp2_with fail
    refine (HL0.out _).mono ?_
    rintro e w1 ⟨rfl, rfl⟩
    go_wp2_with fail
    refine (awake_any _).mono ?_
    rintro e w9 ⟨rfl, b9⟩
    go_wp2_with fail
    go_ret
    exact ⟨rfl, b9⟩
  by_cases hl1 : 60 < l1.length
  · clear s0 n0 s1 n1
    have HL0 := Lib.hid (fun (W : World) => show Calls Try.prog 9 #[.slice A0 l0.length c0] W fun e w' => e = .returned (.bool false) ∧ w' = W from by
      have hh := large_any A0 l0.length c0 W
      rwa [show decide ((60 : Int) < (l0.length : Int)) = false by simp; omega] at hh)
    have HL1 := Lib.hid (fun (W : World) => show Calls Try.prog 9 #[.slice A1 l1.length c1] W fun e w' => e = .returned (.bool true) ∧ w' = W from by
      have hh := large_any A1 l1.length c1 W
      rwa [show decide ((60 : Int) < (l1.length : Int)) = true by simp; omega] at hh)
    generalize l0.length = q0 at *
    generalize l1.length = q1 at *
    go_enter Try.func5, Try.ntmps5
    go_wp2_with fail
    refine (HL0.out _).mono ?_
    rintro e w1 ⟨rfl, rfl⟩
    go_wp2_with fail
    refine (HL1.out _).mono ?_
    rintro e w2 ⟨rfl, rfl⟩
    go_wp2_with fail
    refine (awake_any _).mono ?_
    rintro e w9 ⟨rfl, b9⟩
    go_wp2_with fail
    go_ret
    exact ⟨rfl, b9⟩
  have HL0 := Lib.hid (fun (W : World) => show Calls Try.prog 9 #[.slice A0 l0.length c0] W fun e w' => e = .returned (.bool false) ∧ w' = W from by
    have hh := large_any A0 l0.length c0 W
    rwa [show decide ((60 : Int) < (l0.length : Int)) = false by simp; omega] at hh)
  have HL1 := Lib.hid (fun (W : World) => show Calls Try.prog 9 #[.slice A1 l1.length c1] W fun e w' => e = .returned (.bool false) ∧ w' = W from by
    have hh := large_any A1 l1.length c1 W
    rwa [show decide ((60 : Int) < (l1.length : Int)) = false by simp; omega] at hh)
  have H1 := Lib.hid (fun (W : World) (hb : Below w.heap.size w W) => punion_any A0 A1 c0 c1 l0 l1 W (s0.kept hb) (s1.kept hb) (by omega) (by omega))
  have H2 := Lib.hid (fun (W : World) (hb : Below w.heap.size w W) => runion_any A0 A1 c0 c1 l0 l1 W (s0.kept hb) (s1.kept hb) n0 n1 (by omega) (by omega))
  have H3 := Lib.hid (fun (W : World) (hb : Below w.heap.size w W) => pinter_any A0 A1 c0 c1 l0 l1 W (s0.kept hb) (s1.kept hb) (by omega) (by omega))
  have H4 := Lib.hid (fun (W : World) (hb : Below w.heap.size w W) => rinter_any A0 A1 c0 c1 l0 l1 W (s0.kept hb) (s1.kept hb) (by omega) (by omega))
  have H5 := Lib.hid (fun (W : World) (hb : Below w.heap.size w W) => pminus_any A0 A1 c0 c1 l0 l1 W (s0.kept hb) (s1.kept hb) (by omega) (by omega))
  have H6 := Lib.hid (fun (W : World) (hb : Below w.heap.size w W) => rminus_any A0 A1 c0 c1 l0 l1 W (s0.kept hb) (s1.kept hb) (by omega) (by omega))
  have hq : l0.length ≤ 60 ∧ l1.length ≤ 60 := by omega
  generalize l0.length = q0 at *
  generalize l1.length = q1 at *
  clear s0 n0 s1 n1
  go_enter Try.func5, Try.ntmps5
  go_wp2_with fail
  refine (HL0.out _).mono ?_
  rintro e w00 ⟨rfl, rfl⟩
  go_wp2_with fail
  refine (HL1.out _).mono ?_
  rintro e w0 ⟨rfl, rfl⟩
  have B0 := Lib.hid (Below.refl w0.heap.size w0)
  go_wp2_with fail
  refine (H1.out _ B0.out).mono ?_
  rintro e w1 ⟨L, A3, c3, okl, anyl, lel, rfl, ownl, b3⟩
  have HS := Lib.hid (spl_of_own ownl)
  have HK := Lib.hid (And.intro okl anyl)
  have hll : L.length ≤ 1000 := by omega
  clear okl anyl ownl lel
  have B1 := Lib.hid (B0.out.trans (b3.mono B0.out.size))
  clear b3
  go_wp2_with fail
  refine (H2.out _ B1.out).mono ?_
  intro e w2 hs
  obtain ⟨A4, c4, rfl, s4, b4⟩ := hs.known HK.out.1 HK.out.2
  have HS4 := Lib.hid s4
  have HS3 := Lib.hid (HS.out.kept b4)
  clear hs s4 HS
  have B2 := Lib.hid (B1.out.trans (b4.mono B1.out.size))
  clear b4
  go_wp2_with fail
  refine (same_any A3 A4 c3 c4 L w2 HS3.out HS4.out (by omega)).mono ?_
  rintro e w3 ⟨rfl, b5⟩
  have B3 := Lib.hid (B2.out.trans (b5.mono B2.out.size))
  clear b5
  clear HS3 HS4 HK hll
  go_wp2_with fail
  refine (H3.out _ B3.out).mono ?_
  rintro e w4 ⟨L, A3, c3, okl, anyl, lel, rfl, ownl, b3⟩
  have HS := Lib.hid (spl_of_own ownl)
  have HK := Lib.hid (And.intro okl anyl)
  have hll : L.length ≤ 1000 := by omega
  clear okl anyl ownl lel
  have B4 := Lib.hid (B3.out.trans (b3.mono B3.out.size))
  clear b3
  go_wp2_with fail
  refine (H4.out _ B4.out).mono ?_
  intro e w5 hs
  obtain ⟨A4, c4, rfl, s4, b4⟩ := hs.known HK.out.1 HK.out.2
  have HS4 := Lib.hid s4
  have HS3 := Lib.hid (HS.out.kept b4)
  clear hs s4 HS
  have B5 := Lib.hid (B4.out.trans (b4.mono B4.out.size))
  clear b4
  go_wp2_with fail
  refine (same_any A3 A4 c3 c4 L w5 HS3.out HS4.out (by omega)).mono ?_
  rintro e w6 ⟨rfl, b5⟩
  have B6 := Lib.hid (B5.out.trans (b5.mono B5.out.size))
  clear b5
  clear HS3 HS4 HK hll
  go_wp2_with fail
  refine (H5.out _ B6.out).mono ?_
  rintro e w7 ⟨L, A3, c3, okl, anyl, lel, rfl, ownl, b3⟩
  have HS := Lib.hid (spl_of_own ownl)
  have HK := Lib.hid (And.intro okl anyl)
  have hll : L.length ≤ 1000 := by omega
  clear okl anyl ownl lel
  have B7 := Lib.hid (B6.out.trans (b3.mono B6.out.size))
  clear b3
  go_wp2_with fail
  refine (H6.out _ B7.out).mono ?_
  intro e w8 hs
  obtain ⟨A4, c4, rfl, s4, b4⟩ := hs.known HK.out.1 HK.out.2
  have HS4 := Lib.hid s4
  have HS3 := Lib.hid (HS.out.kept b4)
  clear hs s4 HS
  have B8 := Lib.hid (B7.out.trans (b4.mono B7.out.size))
  clear b4
  go_wp2_with fail
  refine (same_any A3 A4 c3 c4 L w8 HS3.out HS4.out (by omega)).mono ?_
  rintro e w9 ⟨rfl, b5⟩
  have B9 := Lib.hid (B8.out.trans (b5.mono B8.out.size))
  clear b5
  clear HS3 HS4 HK hll
  go_wp2_with fail
  refine (awake_any _).mono ?_
  rintro e wz ⟨rfl, b9⟩
  go_wp2_with fail
  go_ret
  exact ⟨rfl, B9.out.trans (b9.mono B9.out.size)⟩

set_option maxRecDepth 100000 in
theorem lifted (os : Os) (started : os.Started) (H : Type) (enc : TypeId × Value → H) :
    ReturnsInHanded {} Try.checked os 5 .any (Rows.intervalCombinesSpec.pre6 enc Try.prog Try.f5 Rows.intervalCombinesRow.domain false) (Rows.intervalCombinesSpec.post enc Try.prog Try.f5 false true false false) := by
  refine returnsInHanded_of_change (C := Try.checked) own started (by kernel_rfl) Try.func5
    (ChangeSpec.witness6 (enc := enc) (C := Try.checked) false ⟨#[], #[.slice none 0 0, .slice none 0 0], []⟩ 8 (by kernel_rfl) (by kernel_rfl) (by kernel_rfl) (by kernel_rfl)) ?_
  intro W base args ds gs before hval0 hW hcnd _
  have hval : ∀ (j : Nat) t v, Try.f5.params[j]? = some t → args[j]? = some v → Value.okWide Try.prog W .any base t v := hval0
  have hW' := hW
  obtain ⟨p, q, hA0, hV, rfl, hfz, hnd⟩ := hW
  have hA : DataW.TrodAll enc Try.prog W 0 (fun _ => true) true Try.f5.params.toList args.toList ds p := hA0
  rw [Try.params5] at hA hval
  obtain ⟨v0, vs0, d0, ds0, p0, q0, hargs, rfl, rfl, h0, r0⟩ := trodAll_cons hA
  obtain ⟨v1, vs1, d1, ds1, p1, q1, rfl, rfl, rfl, h1, r1⟩ := trodAll_cons r0
  obtain ⟨rfl, rfl, rfl⟩ := trodAll_nil r1
  obtain rfl : args = #[v0, v1] := by cases args; simp_all
  obtain ⟨rfl, rfl⟩ := trodVars_none hV
  obtain ⟨a0, len0, cap0, rfl⟩ := okWide_slice Try.underlying22 (hval 0 22 v0 rfl rfl)
  have k0 := h0
  have lt0 : ∀ x ∈ p0, x.block < W.heap.size := by obtain ⟨m, hm⟩ := k0; exact DataW.trod_lt m _ _ _ hm
  obtain ⟨l0, s0, e0, n0, m0⟩ := in_spans h0
  obtain ⟨a1, len1, cap1, rfl⟩ := okWide_slice Try.underlying22 (hval 1 22 v1 rfl rfl)
  have k1 := h1
  have lt1 : ∀ x ∈ p1, x.block < W.heap.size := by obtain ⟨m, hm⟩ := k1; exact DataW.trod_lt m _ _ _ hm
  obtain ⟨l1, s1, e1, n1, m1⟩ := in_spans h1
  subst e0
  subst e1
  clear hA0 hval0
  refine (walk a0 cap0 l0 a1 cap1 l1 W s0 n0 s1 n1).mono fun e W' ⟨he, bel⟩ => ?_
  subst he
  exact ⟨_, rfl, _, _, _, [], _, [], hW', trodAll_mk1 (shut_bool Try.underlying4 _), (trodAll_cons_mk (Below.trod laidOut (by kernel_rfl) (of_decide_eq_true (by kernel_rfl)) k0 bel lt0) (trodAll_cons_mk (Below.trod laidOut (by kernel_rfl) (of_decide_eq_true (by kernel_rfl)) k1 bel lt1) trodAll_mk0)), rfl, bel.frame _, fun h => by cases h⟩

theorem over : Rows.intervalCombinesRow.holds Try.pinned (OpenSpec.ofChange Rows.intervalCombinesSpec) :=
  OpenClaim.holds_of_wide 5 Try.f5 rfl rfl rfl rfl rfl rfl rfl ⟨rfl, rfl, rfl, rfl, rfl⟩ rfl rfl rfl rfl rfl (by kernel_rfl) Try.func5 (by kernel_rfl)
    (of_decide_eq_true (by kernel_rfl)) (by unfold Func.isWrapper; first | (rw [if_pos (by decide +kernel)]; kernel_rfl) | (rw [if_neg (by decide +kernel)]; exact ⟨rfl, rfl⟩))
    (fun os started H enc _ => lifted os started H enc)

theorem proved : Rows.IntervalCombinesSaid := over
#print axioms proved
end Go.Proofs.Ytlmjfbgigfmdhaa.intervalCombines
