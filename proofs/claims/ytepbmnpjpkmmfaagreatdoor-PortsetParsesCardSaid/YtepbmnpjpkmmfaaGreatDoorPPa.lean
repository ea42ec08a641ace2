/- PortsetParses holds: for every text the law about Parse beside the reference returns true and leaves memory as it was; tied card (tables of the library). -/
import Derived.Test.YtepbmnpjpkmmfaaGreatDoorCards
import Derived.Test.YtepbmnpjpkmmfaaGreatDoorPA8
namespace Go.Proofs.YtepbmnpjpkmmfaaGreatDoor.portsetParses
open Go.ChangeShapes Go.WideShapes Go.ChangeAt Go.RowKit
open Go.ChangeMaps (open_string shut_string)
set_option linter.unusedVariables false

theorem own : ownKnob Tryz.prog.godebug = none := by kernel_rfl
theorem laidOut : laidOutB Tryz.prog = true := by kernel_rfl
set_option maxHeartbeats 2000000 in
set_option maxRecDepth 20000 in
theorem walk (s : ByteArray) (w : World) (ht : TW w) (hs : s.size ≤ maxLen) :
    Calls Tryz.prog 3 #[.string s] w fun e w' => e = .returned (.bool true) ∧ Below w.heap.size w w' := by
  have HT := Lib.hid ht
  have B0 := Lib.hid (Below.refl w.heap.size w)
  by_cases hl : 5000 < s.size
  · have d0 : decide ((5000 : Int) < (s.size : Int)) = true := by simp; omega
    have nd : (5000 : Int) < (s.size : Int) := by omega
    go_enter Tryz.func3, Tryz.ntmps3
    go_wp2_with fail
    refine (awake_any _ (HT.out.kept B0.out)).mono ?_
    rintro e w99 ⟨rfl, b99⟩
    go_wp2_with fail
    go_ret
    exact ⟨rfl, B0.out.trans (b99.mono B0.out.size)⟩
  have d0 : decide ((5000 : Int) < (s.size : Int)) = false := by simp; omega
  have nd : ¬ (5000 : Int) < (s.size : Int) := by omega
  have H1 := Lib.hid (fun (W : World) (hb : Below w.heap.size w W) => pparse8_any s W (by omega) (HT.out.kept hb))
  have H2 := Lib.hid (fun (W : World) (hb : Below w.heap.size w W) => rparse8_any s W (by omega))
  generalize s.data.toList = sl at *
  clear ht
  go_enter Tryz.func3, Tryz.ntmps3
  go_wp2_with fail
  refine (H1.out _ B0.out).mono ?_
  rintro e w1 ⟨L, A3, c3, okl, anyl, lel, rfl, ownl, b1⟩
  have HS := Lib.hid (spl_of_own ownl)
  have HK := Lib.hid (And.intro okl anyl)
  clear okl anyl ownl
  have B1 := Lib.hid (B0.out.trans (b1.mono B0.out.size))
  clear b1
  go_wp2_with fail
  refine (H2.out _ B1.out).mono ?_
  intro e w2 hs2
  obtain ⟨A4, c4, rfl, s4, b2⟩ := hs2.known HK.out.1 HK.out.2
  have HS4 := Lib.hid s4
  have HS3 := Lib.hid (HS.out.kept b2)
  clear hs2 s4 HS
  have B2 := Lib.hid (B1.out.trans (b2.mono B1.out.size))
  clear b2
  generalize errP sl = er at *
  go_wp2_with fail
  refine (same_any A3 A4 c3 c4 L w2 HS3.out HS4.out (by omega)).mono ?_
  rintro e w3 ⟨rfl, b3⟩
  have B3 := Lib.hid (B2.out.trans (b3.mono B2.out.size))
  clear b3
  go_wp2_with fail
  refine (awake_any _ (HT.out.kept B3.out)).mono ?_
  rintro e w99 ⟨rfl, b99⟩
  go_wp2_with fail
  go_ret
  exact ⟨rfl, B3.out.trans (b99.mono B3.out.size)⟩

set_option maxRecDepth 100000 in
theorem lifted (os : Os) (started : os.Started) (H : Type) (enc : TypeId × Value → H) :
    ReturnsInHanded {} Tryz.checked os 3 .any (fun w args => (Rows.portsetParsesSpec.pre enc Tryz.prog Tryz.f3 [] false w args ∧ laidMetH Tryz.prog laidL w) ∧ sizedMet enc Tryz.prog Tryz.f3 (OpenSpec.ofChange Rows.portsetParsesSpec) false w args) (Rows.portsetParsesSpec.post enc Tryz.prog Tryz.f3 false true false false) := by
  refine wrap6 (C := Tryz.checked) (X := fun w _ => laidMetH Tryz.prog laidL w) (fun _ _ _ hh h => h.of_heap hh) own started (by kernel_rfl) Tryz.func3
    (ChangeSpec.witness_shaped (enc := enc) (C := Tryz.checked) (os := os) (X := fun w _ => laidMetH Tryz.prog laidL w) false (World.laidAll Tryz.prog os laidL) #[.string ⟨#[]⟩] 8 (World.laidAll_os _ _ _) (World.shaped_of_ZipB (by kernel_rfl) (by kernel_rfl)) (by kernel_rfl) (by kernel_rfl) (by kernel_rfl) (door_met os _)) ?_
  intro W base args ds gs before hval0 hW hL hsh
  have hval : ∀ (j : Nat) t v, Tryz.f3.params[j]? = some t → args[j]? = some v → Value.okWide Tryz.prog W .any base t v := hval0
  have hW' := hW
  obtain ⟨p, q, hA0, hV, rfl, hfz, hnd⟩ := hW
  have hA : DataW.TrodAll enc Tryz.prog W 0 (fun _ => true) true Tryz.f3.params.toList args.toList ds p := hA0
  rw [Tryz.params3] at hA hval
  obtain ⟨v0, vs0, d0, ds0, p0, q0, hargs, rfl, rfl, h0, r0⟩ := trodAll_cons hA
  obtain ⟨rfl, rfl, rfl⟩ := trodAll_nil r0
  obtain rfl : args = #[v0] := by cases args; simp_all
  obtain ⟨rfl, rfl⟩ := trodVars_none hV
  obtain ⟨a0, rfl, rfl, rfl, w0⟩ := open_string Tryz.underlying9 (hval 0 9 v0 rfl rfl) h0
  clear hA0 hval0
  refine (walk a0 W (tied_of_laid hL hsh) w0).mono fun e W' ⟨he, bel⟩ => ?_
  subst he
  exact ⟨_, rfl, _, _, _, [], _, [], hW', trodAll_mk1 (shut_bool Tryz.underlying4 _), (trodAll_cons_mk (shut_string Tryz.underlying9 w0) trodAll_mk0), rfl, bel.frame _, fun h => by cases h⟩

theorem over : Rows.portsetParsesRow.holds Tryz.pinned (OpenSpec.ofChange Rows.portsetParsesSpec) :=
  OpenClaim.holds_of_wide 3 Tryz.f3 rfl rfl rfl rfl rfl rfl rfl ⟨rfl, rfl, rfl, rfl, rfl⟩ rfl rfl rfl rfl rfl (by kernel_rfl) Tryz.func3 (by kernel_rfl)
    (of_decide_eq_true (by kernel_rfl)) (by unfold Func.isWrapper; first | (rw [if_pos (by decide +kernel)]; kernel_rfl) | (rw [if_neg (by decide +kernel)]; exact ⟨rfl, rfl⟩))
    (fun os started H enc _ => lifted os started H enc)

theorem bare : Rows.PortsetParsesSaid := over

/-- The tied card. -/
theorem proved : Rows.PortsetParsesCardSaid :=
  Claim7.holds_tied_plain_at .later [] _ true _ false
    bare (fun _ h => by cases h) (by kernel_rfl) (fun _ h => by cases h) portsetParses_row_tie rfl ⟨rfl, rfl⟩ (by kernel_rfl) rfl
    (fun f fn hf hfn => by
      obtain rfl : f = 3 := Option.some.inj ((show Tryz.prog.funcNamed "intrusion/intrusionlaw08.PortsetParses" = some 3 by kernel_rfl).symm.trans hf) |>.symm
      obtain rfl : fn = Tryz.f3 := (Option.some.inj (Tryz.func3.symm.trans hfn)).symm
      exact ⟨by kernel_rfl, fun j t ht => by
        rw [Tryz.params3] at ht
        have hm : t ∈ [9] := by simpa using Array.mem_of_getElem? ht
        have hall : ([9].all fun u => !Tryz.prog.wantsStandIn u) = true := by kernel_rfl
        exact (show Tryz.prog.wantsStandIn t = false by simpa using List.all_eq_true.1 hall t hm)⟩)
    (by kernel_rfl)
#print axioms proved

end Go.Proofs.YtepbmnpjpkmmfaaGreatDoor.portsetParses
