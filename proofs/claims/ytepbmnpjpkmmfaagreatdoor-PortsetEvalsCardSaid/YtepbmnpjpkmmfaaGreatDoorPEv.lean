/- PortsetEvals holds: for every two lists of spans the law about Eval and All beside the reference returns true and leaves memory as it was; tied card (tables of the library). -/
import Derived.Test.YtepbmnpjpkmmfaaGreatDoorCards
import Derived.Test.YtepbmnpjpkmmfaaGreatDoorPA8
namespace Go.Proofs.YtepbmnpjpkmmfaaGreatDoor.portsetEvals
open Go.ChangeShapes Go.WideShapes Go.ChangeAt Go.RowKit
set_option linter.unusedVariables false

theorem own : ownKnob Tryz.prog.godebug = none := by kernel_rfl
theorem laidOut : laidOutB Tryz.prog = true := by kernel_rfl
set_option maxHeartbeats 2000000 in
set_option maxRecDepth 20000 in
theorem walk (A0 : Option Addr) (c0 : Nat) (l0 : List Spn) (A1 : Option Addr) (c1 : Nat) (l1 : List Spn) (w : World) (ht : TW w) (s0 : SpL w A0 l0) (n0 : A0 = none → c0 = 0) (s1 : SpL w A1 l1) (n1 : A1 = none → c1 = 0) :
    Calls Tryz.prog 5 #[.slice A0 l0.length c0, .slice A1 l1.length c1] w fun e w' => e = .returned (.bool true) ∧ Below w.heap.size w w' := by
  have HT := Lib.hid ht
  have B0 := Lib.hid (Below.refl w.heap.size w)
  by_cases hl0 : 60 < l0.length
  · clear s0 n0 s1 n1 ht
    have HL0 := Lib.hid (fun (W : World) => show Calls Tryz.prog 13 #[.slice A0 l0.length c0] W fun e w' => e = .returned (.bool true) ∧ w' = W from by
      have hh := large_any A0 l0.length c0 W
      rwa [show decide ((60 : Int) < (l0.length : Int)) = true by simp; omega] at hh)
    generalize l0.length = q0 at *
    generalize l1.length = q1 at *
    go_enter Tryz.func5, Tryz.ntmps5
    go_wp2_with fail
    refine (HL0.out _).mono ?_
    rintro e w1 ⟨rfl, rfl⟩
    go_wp2_with fail
    refine (awake_any _ (HT.out.kept B0.out)).mono ?_
    rintro e w99 ⟨rfl, b99⟩
    go_wp2_with fail
    go_ret
    exact ⟨rfl, B0.out.trans (b99.mono B0.out.size)⟩
  by_cases hl1 : 60 < l1.length
  · clear s0 n0 s1 n1 ht
    have HL0 := Lib.hid (fun (W : World) => show Calls Tryz.prog 13 #[.slice A0 l0.length c0] W fun e w' => e = .returned (.bool false) ∧ w' = W from by
      have hh := large_any A0 l0.length c0 W
      rwa [show decide ((60 : Int) < (l0.length : Int)) = false by simp; omega] at hh)
    have HL1 := Lib.hid (fun (W : World) => show Calls Tryz.prog 13 #[.slice A1 l1.length c1] W fun e w' => e = .returned (.bool true) ∧ w' = W from by
      have hh := large_any A1 l1.length c1 W
      rwa [show decide ((60 : Int) < (l1.length : Int)) = true by simp; omega] at hh)
    generalize l0.length = q0 at *
    generalize l1.length = q1 at *
    go_enter Tryz.func5, Tryz.ntmps5
    go_wp2_with fail
    refine (HL0.out _).mono ?_
    rintro e w1 ⟨rfl, rfl⟩
    go_wp2_with fail
    refine (HL1.out _).mono ?_
    rintro e w2 ⟨rfl, rfl⟩
    go_wp2_with fail
    refine (awake_any _ (HT.out.kept B0.out)).mono ?_
    rintro e w99 ⟨rfl, b99⟩
    go_wp2_with fail
    go_ret
    exact ⟨rfl, B0.out.trans (b99.mono B0.out.size)⟩
  have HL0 := Lib.hid (fun (W : World) => show Calls Tryz.prog 13 #[.slice A0 l0.length c0] W fun e w' => e = .returned (.bool false) ∧ w' = W from by
    have hh := large_any A0 l0.length c0 W
    rwa [show decide ((60 : Int) < (l0.length : Int)) = false by simp; omega] at hh)
  have HL1 := Lib.hid (fun (W : World) => show Calls Tryz.prog 13 #[.slice A1 l1.length c1] W fun e w' => e = .returned (.bool false) ∧ w' = W from by
    have hh := large_any A1 l1.length c1 W
    rwa [show decide ((60 : Int) < (l1.length : Int)) = false by simp; omega] at hh)
  have H1 := Lib.hid (fun (W : World) (hb : Below w.heap.size w W) => peval8_any A0 A1 c0 c1 l0 l1 W (s0.kept hb) (s1.kept hb) (by omega) (by omega))
  have H2 := Lib.hid (fun (W : World) (hb : Below w.heap.size w W) => reval8_any A0 A1 c0 c1 l0 l1 W (s0.kept hb) (s1.kept hb) (by omega) (by omega))
  generalize l0.length = q0 at *
  generalize l1.length = q1 at *
  clear s0 n0 s1 n1 ht
  go_enter Tryz.func5, Tryz.ntmps5
  go_wp2_with fail
  refine (HL0.out _).mono ?_
  rintro e w00 ⟨rfl, hw0⟩
  have hw0' := hw0.symm
  clear hw0
  subst hw0'
  go_wp2_with fail
  refine (HL1.out _).mono ?_
  rintro e w0 ⟨rfl, hw0⟩
  have hw0' := hw0.symm
  clear hw0
  subst hw0'
  go_wp2_with fail
  refine (H1.out _ B0.out).mono ?_
  rintro e w1 ⟨L, A3, c3, okl, anyl, lel, rfl, ownl, b1⟩
  have HS := Lib.hid (spl_of_own ownl)
  have HK := Lib.hid (And.intro okl anyl)
  clear okl anyl ownl
  have B1 := Lib.hid (B0.out.trans (b1.mono B0.out.size))
  clear b1
  go_wp2_with fail
  refine (H2.out _ B1.out).mono ?_
  intro e w2 hs2
  obtain ⟨A4, c4, rfl, s4, b2⟩ := hs2.known HK.out.1 HK.out.2
  have HS4 := Lib.hid s4
  have HS3 := Lib.hid (HS.out.kept b2)
  clear hs2 s4 HS
  have B2 := Lib.hid (B1.out.trans (b2.mono B1.out.size))
  clear b2
  go_wp2_with fail
  refine (same_any A3 A4 c3 c4 L w2 HS3.out HS4.out (by omega)).mono ?_
  rintro e w3 ⟨rfl, b3⟩
  have B3 := Lib.hid (B2.out.trans (b3.mono B2.out.size))
  clear b3
  go_wp2_with fail
  refine (awake_any _ (HT.out.kept B3.out)).mono ?_
  rintro e w99 ⟨rfl, b99⟩
  go_wp2_with fail
  go_ret
  exact ⟨rfl, B3.out.trans (b99.mono B3.out.size)⟩

set_option maxRecDepth 100000 in
theorem lifted (os : Os) (started : os.Started) (H : Type) (enc : TypeId × Value → H) :
    ReturnsInHanded {} Tryz.checked os 5 .any (fun w args => (Rows.portsetEvalsSpec.pre enc Tryz.prog Tryz.f5 [] false w args ∧ laidMetH Tryz.prog laidL w) ∧ sizedMet enc Tryz.prog Tryz.f5 (OpenSpec.ofChange Rows.portsetEvalsSpec) false w args) (Rows.portsetEvalsSpec.post enc Tryz.prog Tryz.f5 false true false false) := by
  refine wrap6 (C := Tryz.checked) (X := fun w _ => laidMetH Tryz.prog laidL w) (fun _ _ _ hh h => h.of_heap hh) own started (by kernel_rfl) Tryz.func5
    (ChangeSpec.witness_shaped (enc := enc) (C := Tryz.checked) (os := os) (X := fun w _ => laidMetH Tryz.prog laidL w) false (World.laidAll Tryz.prog os laidL) #[.slice none 0 0, .slice none 0 0] 8 (World.laidAll_os _ _ _) (World.shaped_of_ZipB (by kernel_rfl) (by kernel_rfl)) (by kernel_rfl) (by kernel_rfl) (by kernel_rfl) (door_met os _)) ?_
  intro W base args ds gs before hval0 hW hL hsh
  have hval : ∀ (j : Nat) t v, Tryz.f5.params[j]? = some t → args[j]? = some v → Value.okWide Tryz.prog W .any base t v := hval0
  have hW' := hW
  obtain ⟨p, q, hA0, hV, rfl, hfz, hnd⟩ := hW
  have hA : DataW.TrodAll enc Tryz.prog W 0 (fun _ => true) true Tryz.f5.params.toList args.toList ds p := hA0
  rw [Tryz.params5] at hA hval
  obtain ⟨v0, vs0, d0, ds0, p0, q0, hargs, rfl, rfl, h0, r0⟩ := trodAll_cons hA
  obtain ⟨v1, vs1, d1, ds1, p1, q1, rfl, rfl, rfl, h1, r1⟩ := trodAll_cons r0
  obtain ⟨rfl, rfl, rfl⟩ := trodAll_nil r1
  obtain rfl : args = #[v0, v1] := by cases args; simp_all
  obtain ⟨rfl, rfl⟩ := trodVars_none hV
  obtain ⟨a0, len0, cap0, rfl⟩ := okWide_slice Tryz.underlying23 (hval 0 23 v0 rfl rfl)
  have k0 := h0
  have lt0 : ∀ x ∈ p0, x.block < W.heap.size := by obtain ⟨m, hm⟩ := k0; exact DataW.trod_lt m _ _ _ hm
  obtain ⟨l0, s0, e0, n0, m0⟩ := in_spans h0
  obtain ⟨a1, len1, cap1, rfl⟩ := okWide_slice Tryz.underlying23 (hval 1 23 v1 rfl rfl)
  have k1 := h1
  have lt1 : ∀ x ∈ p1, x.block < W.heap.size := by obtain ⟨m, hm⟩ := k1; exact DataW.trod_lt m _ _ _ hm
  obtain ⟨l1, s1, e1, n1, m1⟩ := in_spans h1
  subst e0
  subst e1
  clear hA0 hval0
  refine (walk a0 cap0 l0 a1 cap1 l1 W (tied_of_laid hL hsh) s0 n0 s1 n1).mono fun e W' ⟨he, bel⟩ => ?_
  subst he
  exact ⟨_, rfl, _, _, _, [], _, [], hW', trodAll_mk1 (shut_bool Tryz.underlying4 _), (trodAll_cons_mk (Below.trod laidOut (by kernel_rfl) (of_decide_eq_true (by kernel_rfl)) k0 bel lt0) (trodAll_cons_mk (Below.trod laidOut (by kernel_rfl) (of_decide_eq_true (by kernel_rfl)) k1 bel lt1) trodAll_mk0)), rfl, bel.frame _, fun h => by cases h⟩

theorem over : Rows.portsetEvalsRow.holds Tryz.pinned (OpenSpec.ofChange Rows.portsetEvalsSpec) :=
  OpenClaim.holds_of_wide 5 Tryz.f5 rfl rfl rfl rfl rfl rfl rfl ⟨rfl, rfl, rfl, rfl, rfl⟩ rfl rfl rfl rfl rfl (by kernel_rfl) Tryz.func5 (by kernel_rfl)
    (of_decide_eq_true (by kernel_rfl)) (by unfold Func.isWrapper; first | (rw [if_pos (by decide +kernel)]; kernel_rfl) | (rw [if_neg (by decide +kernel)]; exact ⟨rfl, rfl⟩))
    (fun os started H enc _ => lifted os started H enc)

theorem bare : Rows.PortsetEvalsSaid := over

/-- The tied card. -/
theorem proved : Rows.PortsetEvalsCardSaid :=
  Claim7.holds_tied_plain_at .later [] _ true _ false
    bare (fun _ h => by cases h) (by kernel_rfl) (fun _ h => by cases h) portsetEvals_row_tie rfl ⟨rfl, rfl⟩ (by kernel_rfl) rfl
    (fun f fn hf hfn => by
      obtain rfl : f = 5 := Option.some.inj ((show Tryz.prog.funcNamed "intrusion/intrusionlaw08.PortsetEvals" = some 5 by kernel_rfl).symm.trans hf) |>.symm
      obtain rfl : fn = Tryz.f5 := (Option.some.inj (Tryz.func5.symm.trans hfn)).symm
      exact ⟨by kernel_rfl, fun j t ht => by
        rw [Tryz.params5] at ht
        have hm : t ∈ [23, 23] := by simpa using Array.mem_of_getElem? ht
        have hall : ([23, 23].all fun u => !Tryz.prog.wantsStandIn u) = true := by kernel_rfl
        exact (show Tryz.prog.wantsStandIn t = false by simpa using List.all_eq_true.1 hall t hm)⟩)
    (by kernel_rfl)
#print axioms proved

end Go.Proofs.YtepbmnpjpkmmfaaGreatDoor.portsetEvals
