/- PortsetRoundTrip holds: for every list of spans Parse of Format returns its ports, and the law returns true and leaves memory as it was; tied card (tables of the library). -/
import Derived.Test.YtepbmnpjpkmmfaaGreatDoorCards
import Derived.Test.YtepbmnpjpkmmfaaGreatDoorPA8
namespace Go.Proofs.YtepbmnpjpkmmfaaGreatDoor.portsetRoundTrip
open Go.ChangeShapes Go.WideShapes Go.ChangeAt Go.RowKit
set_option linter.unusedVariables false

theorem own : ownKnob Tryz.prog.godebug = none := by kernel_rfl
theorem laidOut : laidOutB Tryz.prog = true := by kernel_rfl
set_option maxHeartbeats 2000000 in
set_option maxRecDepth 20000 in
theorem walk (A0 : Option Addr) (c0 : Nat) (l0 : List Spn) (w : World) (ht : TW w) (s0 : SpL w A0 l0) (n0 : A0 = none → c0 = 0) :
    Calls Tryz.prog 6 #[.slice A0 l0.length c0] w fun e w' => e = .returned (.bool true) ∧ Below w.heap.size w w' := by
  have HT := Lib.hid ht
  have B0 := Lib.hid (Below.refl w.heap.size w)
  by_cases hl0 : 60 < l0.length
  · clear s0 n0 ht
    have HL0 := Lib.hid (fun (W : World) => show Calls Tryz.prog 13 #[.slice A0 l0.length c0] W fun e w' => e = .returned (.bool true) ∧ w' = W from by
      have hh := large_any A0 l0.length c0 W
      rwa [show decide ((60 : Int) < (l0.length : Int)) = true by simp; omega] at hh)
    generalize l0.length = q0 at *
    go_enter Tryz.func6, Tryz.ntmps6
    go_wp2_with fail
    refine (HL0.out _).mono ?_
    rintro e w1 ⟨rfl, rfl⟩
    go_wp2_with fail
    refine (awake_any _ (HT.out.kept B0.out)).mono ?_
    rintro e w99 ⟨rfl, b99⟩
    go_wp2_with fail
    go_ret
    exact ⟨rfl, B0.out.trans (b99.mono B0.out.size)⟩
  have HL0 := Lib.hid (fun (W : World) => show Calls Tryz.prog 13 #[.slice A0 l0.length c0] W fun e w' => e = .returned (.bool false) ∧ w' = W from by
    have hh := large_any A0 l0.length c0 W
    rwa [show decide ((60 : Int) < (l0.length : Int)) = false by simp; omega] at hh)
  have H1 := Lib.hid (fun (W : World) (hb : Below w.heap.size w W) => pfmt8_any A0 c0 l0 W (s0.kept hb) (by omega) (HT.out.kept hb))
  have HP := Lib.hid (fun (s : By) (hs : s.length ≤ 10000) (W : World) (hb : Below w.heap.size w W) => pparse8_any (str s) W (by rw [str_size]; exact hs) (HT.out.kept hb))
  have HA := Lib.hid (fun (W : World) (hb : Below w.heap.size w W) => pall8_any W)
  have HI := Lib.hid (fun (W : World) (B : Option Addr) (c : Nat) (L : List Spn) (hb : Below w.heap.size w W) (hL : SpL W B L) (hl : L.length ≤ 1000) => pinter_any A0 B c0 c l0 L W (s0.kept hb) hL (by omega) (by omega))
  have HF := Lib.hid (fun (W : World) (B : Option Addr) (c : Nat) (L : List Spn) (hb : Below w.heap.size w W) (hL : SpL W B L) (hl : L.length ≤ 60) => pfmt8_any B c L W hL (by omega) (HT.out.kept hb))
  have HLN := Lib.hid (fun (L : List Spn) (h1 : okL 4294967296 0 L) (h2 : ∀ m, anyS L m = prtF l0 m) => show L.length ≤ 60 from Nat.le_trans (prtF_len h1 h2) (by omega))
  have HMS := Lib.hid (memS_prt l0)
  generalize l0.length = q0 at *
  clear s0 n0 ht
  go_enter Tryz.func6, Tryz.ntmps6
  go_wp2_with fail
  refine (HL0.out _).mono ?_
  rintro e w0 ⟨rfl, hw0⟩
  have hw0' := hw0.symm
  clear hw0
  subst hw0'
  go_wp2_with fail
  refine (H1.out _ B0.out).mono ?_
  rintro e w1 ⟨L, okl, anyl, rfl, b1⟩
  have HK := Lib.hid (show okL 4294967296 0 L ∧ (∀ m, anyS L m = prtF l0 m) ∧ okL 65535 0 L ∧ L.length ≤ 60 from ⟨okl, anyl, okL_prt okl anyl, HLN.out L okl anyl⟩)
  clear okl anyl HLN
  have B1 := Lib.hid (B0.out.trans (b1.mono B0.out.size))
  clear b1
  have hsz : (str (fmtL L)).size = (fmtL L).length := str_size _
  by_cases hl : 1024 < (fmtL L).length
  · have d1 : decide ((1024 : Int) < ((str (fmtL L)).size : Int)) = true := by rw [hsz]; simp; omega
    have nd : (1024 : Int) < ((str (fmtL L)).size : Int) := by rw [hsz]; omega
    clear hsz
    generalize str (fmtL L) = S at *
    go_wp2_with fail
    refine (awake_any _ (HT.out.kept B1.out)).mono ?_
    rintro e w99 ⟨rfl, b99⟩
    go_wp2_with fail
    go_ret
    exact ⟨rfl, B1.out.trans (b99.mono B1.out.size)⟩
  have d1 : decide ((1024 : Int) < ((str (fmtL L)).size : Int)) = false := by rw [hsz]; simp; omega
  have nd : ¬ (1024 : Int) < ((str (fmtL L)).size : Int) := by rw [hsz]; omega
  have hpf := parse_fmtL HK.out.2.2.1 (Nat.le_trans HK.out.2.2.2 (by decide)) (by omega : (fmtL L).length ≤ 1024)
  have HP2 := Lib.hid (HP.out (fmtL L) (by omega))
  rw [str_toList] at HP2
  have HE := Lib.hid hpf.1
  have HFS := Lib.hid (show ∀ m, anyS L m = parF (fmtL L) m from fun m => by unfold parF; rw [hpf.1, if_pos rfl, hpf.2])
  have heq : ((str (fmtL L)).toList == (str (fmtL L)).toList) = true := beq_self_eq_true _
  have HFF := Lib.hid (show str (fmtL L) = str (fmtL L) from rfl)
  clear hsz hpf HP
  obtain ⟨S, hS⟩ : ∃ S, S = str (fmtL L) := ⟨_, rfl⟩
  rw [← hS] at HP2 HFF heq d1 nd ⊢
  have HSE := Lib.hid hS
  clear hS
  go_wp2_with fail
  refine (HP2.out _ B1.out).mono ?_
  intro e w2 hs2
  obtain ⟨A3, c3, he, s3, b2⟩ := hs2.known HK.out.1 HFS.out
  rw [HE.out] at he
  subst he
  have S3 := Lib.hid s3
  clear hs2 s3 HP2
  have B2 := Lib.hid (B1.out.trans (b2.mono B1.out.size))
  clear b2
  go_wp2_with fail
  refine (HA.out _ B2.out).mono ?_
  rintro e w3 ⟨LA, A4, c4, oka, anya, lea, rfl, owna, b3⟩
  have SA := Lib.hid (spl_of_own owna)
  have HAK := Lib.hid (show ∀ m, (memS 4294967296 l0 m && memS 4294967296 LA m) = prtF l0 m from fun m => by rw [okL_mem oka, anya]; exact HMS.out m)
  have hla : LA.length ≤ 1000 := by omega
  have S4 := Lib.hid (S3.out.kept b3)
  clear oka anya owna S3
  have B3 := Lib.hid (B2.out.trans (b3.mono B2.out.size))
  clear b3
  have HI2 := Lib.hid (HI.out _ A4 c4 LA B3.out SA.out hla)
  clear HI SA
  generalize LA.length = qa at *
  go_wp2_with fail
  refine HI2.out.mono ?_
  intro e w4 hs4
  obtain ⟨A5, c5, rfl, s5, b4⟩ := hs4.known HK.out.1 (fun m => (HK.out.2.1 m).trans (HAK.out m).symm)
  have S5 := Lib.hid s5
  have S44 := Lib.hid (S4.out.kept b4)
  clear hs4 s5 S4 HI2
  have B4 := Lib.hid (B3.out.trans (b4.mono B3.out.size))
  clear b4
  have HSM := Lib.hid (same_any A3 A5 c3 c5 L w4 S44.out S5.out (Nat.le_trans HK.out.2.2.2 (by decide)))
  have HVL := Lib.hid (fun (W : World) (hs : SpL W A3 L) => show Calls Tryz.prog 20 #[.slice A3 L.length c3] W fun e w' => e = .returned (.bool true) ∧ Below W.heap.size W w' from by have h := pvalid_any A3 c3 L W hs (Nat.le_trans HK.out.2.2.2 (by decide)); rwa [(okB_iff L 0).2 HK.out.1] at h)
  have HF2 := Lib.hid (fun (W : World) (hb : Below w.heap.size w W) (hs : SpL W A3 L) => show Calls Tryz.prog 14 #[.slice A3 L.length c3] W fun e w' => e = .returned (.string S) ∧ Below W.heap.size W w' from (HF.out W A3 c3 L hb hs HK.out.2.2.2).mono fun e w' h => by
    have := h.known HK.out.1 (fun m => (okL_port HK.out.2.2.1 m).symm)
    rwa [← HSE.out] at this)
  generalize L.length = ql at *
  go_wp2_with fail
  refine (HSM.out).mono ?_
  rintro e w5 ⟨rfl, b5⟩
  have S45 := Lib.hid (S44.out.kept b5)
  clear S44 S5 HSM
  have B5 := Lib.hid (B4.out.trans (b5.mono B4.out.size))
  clear b5
  go_wp2_with fail
  refine (HVL.out _ S45.out).mono ?_
  rintro e w6 ⟨rfl, b6⟩
  have S46 := Lib.hid (S45.out.kept b6)
  clear S45 HVL
  have B6 := Lib.hid (B5.out.trans (b6.mono B5.out.size))
  clear b6
  go_wp2_with fail
  refine (HF2.out _ B6.out S46.out).mono ?_
  rintro e w7 ⟨rfl, b7⟩
  clear S46 HF2
  have B7 := Lib.hid (B6.out.trans (b7.mono B6.out.size))
  clear b7
  go_wp2_with fail
  refine (awake_any _ (HT.out.kept B7.out)).mono ?_
  rintro e w99 ⟨rfl, b99⟩
  go_wp2_with fail
  go_ret
  exact ⟨rfl, B7.out.trans (b99.mono B7.out.size)⟩

set_option maxRecDepth 100000 in
theorem lifted (os : Os) (started : os.Started) (H : Type) (enc : TypeId × Value → H) :
    ReturnsInHanded {} Tryz.checked os 6 .any (fun w args => (Rows.portsetRoundTripSpec.pre enc Tryz.prog Tryz.f6 [] false w args ∧ laidMetH Tryz.prog laidL w) ∧ sizedMet enc Tryz.prog Tryz.f6 (OpenSpec.ofChange Rows.portsetRoundTripSpec) false w args) (Rows.portsetRoundTripSpec.post enc Tryz.prog Tryz.f6 false true false false) := by
  refine wrap6 (C := Tryz.checked) (X := fun w _ => laidMetH Tryz.prog laidL w) (fun _ _ _ hh h => h.of_heap hh) own started (by kernel_rfl) Tryz.func6
    (ChangeSpec.witness_shaped (enc := enc) (C := Tryz.checked) (os := os) (X := fun w _ => laidMetH Tryz.prog laidL w) false (World.laidAll Tryz.prog os laidL) #[.slice none 0 0] 8 (World.laidAll_os _ _ _) (World.shaped_of_ZipB (by kernel_rfl) (by kernel_rfl)) (by kernel_rfl) (by kernel_rfl) (by kernel_rfl) (door_met os _)) ?_
  intro W base args ds gs before hval0 hW hL hsh
  have hval : ∀ (j : Nat) t v, Tryz.f6.params[j]? = some t → args[j]? = some v → Value.okWide Tryz.prog W .any base t v := hval0
  have hW' := hW
  obtain ⟨p, q, hA0, hV, rfl, hfz, hnd⟩ := hW
  have hA : DataW.TrodAll enc Tryz.prog W 0 (fun _ => true) true Tryz.f6.params.toList args.toList ds p := hA0
  rw [Tryz.params6] at hA hval
  obtain ⟨v0, vs0, d0, ds0, p0, q0, hargs, rfl, rfl, h0, r0⟩ := trodAll_cons hA
  obtain ⟨rfl, rfl, rfl⟩ := trodAll_nil r0
  obtain rfl : args = #[v0] := by cases args; simp_all
  obtain ⟨rfl, rfl⟩ := trodVars_none hV
  obtain ⟨a0, len0, cap0, rfl⟩ := okWide_slice Tryz.underlying23 (hval 0 23 v0 rfl rfl)
  have k0 := h0
  have lt0 : ∀ x ∈ p0, x.block < W.heap.size := by obtain ⟨m, hm⟩ := k0; exact DataW.trod_lt m _ _ _ hm
  obtain ⟨l0, s0, e0, n0, m0⟩ := in_spans h0
  subst e0
  clear hA0 hval0
  refine (walk a0 cap0 l0 W (tied_of_laid hL hsh) s0 n0).mono fun e W' ⟨he, bel⟩ => ?_
  subst he
  exact ⟨_, rfl, _, _, _, [], _, [], hW', trodAll_mk1 (shut_bool Tryz.underlying4 _), (trodAll_cons_mk (Below.trod laidOut (by kernel_rfl) (of_decide_eq_true (by kernel_rfl)) k0 bel lt0) trodAll_mk0), rfl, bel.frame _, fun h => by cases h⟩

theorem over : Rows.portsetRoundTripRow.holds Tryz.pinned (OpenSpec.ofChange Rows.portsetRoundTripSpec) :=
  OpenClaim.holds_of_wide 6 Tryz.f6 rfl rfl rfl rfl rfl rfl rfl ⟨rfl, rfl, rfl, rfl, rfl⟩ rfl rfl rfl rfl rfl (by kernel_rfl) Tryz.func6 (by kernel_rfl)
    (of_decide_eq_true (by kernel_rfl)) (by unfold Func.isWrapper; first | (rw [if_pos (by decide +kernel)]; kernel_rfl) | (rw [if_neg (by decide +kernel)]; exact ⟨rfl, rfl⟩))
    (fun os started H enc _ => lifted os started H enc)

theorem bare : Rows.PortsetRoundTripSaid := over

/-- The tied card. -/
theorem proved : Rows.PortsetRoundTripCardSaid :=
  Claim7.holds_tied_plain_at .later [] _ true _ false
    bare (fun _ h => by cases h) (by kernel_rfl) (fun _ h => by cases h) portsetRoundTrip_row_tie rfl ⟨rfl, rfl⟩ (by kernel_rfl) rfl
    (fun f fn hf hfn => by
      obtain rfl : f = 6 := Option.some.inj ((show Tryz.prog.funcNamed "intrusion/intrusionlaw08.PortsetRoundTrip" = some 6 by kernel_rfl).symm.trans hf) |>.symm
      obtain rfl : fn = Tryz.f6 := (Option.some.inj (Tryz.func6.symm.trans hfn)).symm
      exact ⟨by kernel_rfl, fun j t ht => by
        rw [Tryz.params6] at ht
        have hm : t ∈ [23] := by simpa using Array.mem_of_getElem? ht
        have hall : ([23].all fun u => !Tryz.prog.wantsStandIn u) = true := by kernel_rfl
        exact (show Tryz.prog.wantsStandIn t = false by simpa using List.all_eq_true.1 hall t hm)⟩)
    (by kernel_rfl)
#print axioms proved

end Go.Proofs.YtepbmnpjpkmmfaaGreatDoor.portsetRoundTrip
