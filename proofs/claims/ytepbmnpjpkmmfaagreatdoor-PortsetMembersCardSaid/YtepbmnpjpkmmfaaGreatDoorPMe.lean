/- PortsetMembers holds: for every two lists of spans and every number Eval contains exactly the ports that it must, and the law returns true and leaves memory as it was; tied card (tables of the library). -/
import Derived.Test.YtepbmnpjpkmmfaaGreatDoorCards
import Derived.Test.YtepbmnpjpkmmfaaGreatDoorPA8
namespace Go.Proofs.YtepbmnpjpkmmfaaGreatDoor.portsetMembers
open Go.ChangeShapes Go.WideShapes Go.ChangeAt Go.RowKit
set_option linter.unusedVariables false

theorem own : ownKnob Tryz.prog.godebug = none := by kernel_rfl
theorem laidOut : laidOutB Tryz.prog = true := by kernel_rfl
theorem port_in (a o : List Spn) (m : Int) : portF a o m = ((a.isEmpty || memS 4294967296 a m) && !memS 4294967296 o m && decide (0 ≤ m) && decide (m ≤ 65535)) := by
  unfold portF memS inPort
  by_cases h0 : 0 ≤ m
  · by_cases h1 : m ≤ 65535
    · rw [decide_eq_true h0, decide_eq_true h1, decide_eq_true (show m ≤ 4294967296 by omega)]
      cases a.isEmpty <;> cases anyS a m <;> cases anyS o m <;> rfl
    · rw [decide_eq_false h1]
      cases a.isEmpty <;> simp
  · rw [decide_eq_false h0]
    cases a.isEmpty <;> simp
set_option maxHeartbeats 2000000 in
set_option maxRecDepth 20000 in
theorem walk (A0 : Option Addr) (c0 : Nat) (l0 : List Spn) (A1 : Option Addr) (c1 : Nat) (l1 : List Spn) (m : Int) (w : World) (ht : TW w) (s0 : SpL w A0 l0) (n0 : A0 = none → c0 = 0) (s1 : SpL w A1 l1) (n1 : A1 = none → c1 = 0) (wm : (Lit.int .i64 m).wf = true) :
    Calls Tryz.prog 8 #[.slice A0 l0.length c0, .slice A1 l1.length c1, .int .i64 m] w fun e w' => e = .returned (.bool true) ∧ Below w.heap.size w w' := by
  have HT := Lib.hid ht
  have B0 := Lib.hid (Below.refl w.heap.size w)
  by_cases hl0 : 60 < l0.length
  · clear s0 n0 s1 n1 ht
    have HL0 := Lib.hid (fun (W : World) => show Calls Tryz.prog 13 #[.slice A0 l0.length c0] W fun e w' => e = .returned (.bool true) ∧ w' = W from by
      have hh := large_any A0 l0.length c0 W
      rwa [show decide ((60 : Int) < (l0.length : Int)) = true by simp; omega] at hh)
    generalize l0.length = q0 at *
    generalize l1.length = q1 at *
    go_enter Tryz.func8, Tryz.ntmps8
    go_wp2_with fail
    refine (HL0.out _).mono ?_
    rintro e w1 ⟨rfl, rfl⟩
    go_wp2_with fail
    refine (awake_any _ (HT.out.kept B0.out)).mono ?_
    rintro e w99 ⟨rfl, b99⟩
    go_wp2_with fail
    go_ret
    exact ⟨rfl, B0.out.trans (b99.mono B0.out.size)⟩
  by_cases hl1 : 60 < l1.length
  · clear s0 n0 s1 n1 ht
    have HL0 := Lib.hid (fun (W : World) => show Calls Tryz.prog 13 #[.slice A0 l0.length c0] W fun e w' => e = .returned (.bool false) ∧ w' = W from by
      have hh := large_any A0 l0.length c0 W
      rwa [show decide ((60 : Int) < (l0.length : Int)) = false by simp; omega] at hh)
    have HL1 := Lib.hid (fun (W : World) => show Calls Tryz.prog 13 #[.slice A1 l1.length c1] W fun e w' => e = .returned (.bool true) ∧ w' = W from by
      have hh := large_any A1 l1.length c1 W
      rwa [show decide ((60 : Int) < (l1.length : Int)) = true by simp; omega] at hh)
    generalize l0.length = q0 at *
    generalize l1.length = q1 at *
    go_enter Tryz.func8, Tryz.ntmps8
    go_wp2_with fail
    refine (HL0.out _).mono ?_
    rintro e w1 ⟨rfl, rfl⟩
    go_wp2_with fail
    refine (HL1.out _).mono ?_
    rintro e w2 ⟨rfl, rfl⟩
    go_wp2_with fail
    refine (awake_any _ (HT.out.kept B0.out)).mono ?_
    rintro e w99 ⟨rfl, b99⟩
    go_wp2_with fail
    go_ret
    exact ⟨rfl, B0.out.trans (b99.mono B0.out.size)⟩
  have HL0 := Lib.hid (fun (W : World) => show Calls Tryz.prog 13 #[.slice A0 l0.length c0] W fun e w' => e = .returned (.bool false) ∧ w' = W from by
    have hh := large_any A0 l0.length c0 W
    rwa [show decide ((60 : Int) < (l0.length : Int)) = false by simp; omega] at hh)
  have HL1 := Lib.hid (fun (W : World) => show Calls Tryz.prog 13 #[.slice A1 l1.length c1] W fun e w' => e = .returned (.bool false) ∧ w' = W from by
    have hh := large_any A1 l1.length c1 W
    rwa [show decide ((60 : Int) < (l1.length : Int)) = false by simp; omega] at hh)
  have H1 := Lib.hid (fun (W : World) (hb : Below w.heap.size w W) => pcontains_any A0 c0 l0 m W (s0.kept hb) (by omega))
  have H2 := Lib.hid (fun (W : World) (hb : Below w.heap.size w W) => pcontains_any A1 c1 l1 m W (s1.kept hb) (by omega))
  have H3 := Lib.hid (fun (W : World) (hb : Below w.heap.size w W) => peval8_any A0 A1 c0 c1 l0 l1 W (s0.kept hb) (s1.kept hb) (by omega) (by omega))
  have HC := Lib.hid (fun (L : List Spn) (A : Option Addr) (c : Nat) (W : World) (v : Bool) (ho : okL 4294967296 0 L) (hv : anyS L m = v) (hs : SpL W A L) (hl : L.length ≤ 4000) => show Calls Tryz.prog 23 #[.slice A L.length c, .int .i64 m] W fun e w' => e = .returned (.bool v) ∧ Below W.heap.size W w' from by have h := pcontains_any A c L m W hs (by omega); rwa [okL_mem ho, hv] at h)
  have hpi := port_in l0 l1 m
  have hem : l0.isEmpty = decide (l0.length = 0) := by cases l0 <;> simp
  rw [hem] at hpi
  have d0 : ((l0.length : Int) == 0) = decide (l0.length = 0) := by
    rw [Bool.eq_iff_iff, beq_iff_eq, decide_eq_true_eq]; omega
  obtain ⟨V, hV⟩ : ∃ V, V = portF l0 l1 m := ⟨_, rfl⟩
  rw [← hV] at hpi
  have HV := Lib.hid hV
  generalize memS 4294967296 l0 m = x at *
  generalize memS 4294967296 l1 m = y at *
  have hge : decide (m ≥ 0) = decide (0 ≤ m) := rfl
  clear hem hV wm
  by_cases he : l0.length = 0
  · skip
    rw [decide_eq_true he] at hpi d0
    have hpi2 : V = (!y && decide (0 ≤ m) && decide (m ≤ 65535)) := by rw [hpi]; simp
    clear hpi
    generalize l0.length = q0 at *
    generalize l1.length = q1 at *
    clear s0 n0 s1 n1 ht
    subst he
    go_enter Tryz.func8, Tryz.ntmps8
    go_wp2_with fail
    refine (HL0.out _).mono ?_
    rintro e w00 ⟨rfl, hw0⟩
    have hw0' := hw0.symm
    clear hw0
    subst hw0'
    go_wp2_with fail
    refine (HL1.out _).mono ?_
    rintro e w0 ⟨rfl, hw0⟩
    have hw0' := hw0.symm
    clear hw0
    subst hw0'
    go_wp2_with fail
    refine (H2.out _ B0.out).mono ?_
    rintro e w2 ⟨rfl, b2⟩
    have B2 := Lib.hid (B0.out.trans (b2.mono B0.out.size))
    clear b2
    cases y with
    | true =>
      obtain rfl : V = false := by rw [hpi2]; rfl
      clear hpi2
      go_wp2_with fail
      refine (H3.out _ B2.out).mono ?_
      rintro e w7 ⟨L, A3, c3, okl, anyl, lel, rfl, ownl, b7⟩
      have HC2 := Lib.hid (HC.out L A3 c3 w7 _ okl ((anyl m).trans HV.out.symm) (spl_of_own ownl) lel)
      clear okl anyl ownl
      generalize L.length = ql at *
      have B7 := Lib.hid (B2.out.trans (b7.mono B2.out.size))
      clear b7
      go_wp2_with fail
      refine (HC2.out).mono ?_
      rintro e w8 ⟨rfl, b8⟩
      have B8 := Lib.hid (B7.out.trans (b8.mono B7.out.size))
      clear b8
      go_wp2_with fail
      refine (awake_any _ (HT.out.kept B8.out)).mono ?_
      rintro e w99 ⟨rfl, b99⟩
      go_wp2_with fail
      go_ret
      exact ⟨rfl, B8.out.trans (b99.mono B8.out.size)⟩
    | false =>
      by_cases g0 : 0 ≤ m
      · have e0 : decide (0 ≤ m) = true := decide_eq_true g0
        by_cases g1 : m ≤ 65535
        · have e1 : decide (m ≤ 65535) = true := decide_eq_true g1
          obtain rfl : V = true := by rw [hpi2, e0, e1]; rfl
          clear hpi2
          go_wp2_with fail
          refine (H3.out _ B2.out).mono ?_
          rintro e w7 ⟨L, A3, c3, okl, anyl, lel, rfl, ownl, b7⟩
          have HC2 := Lib.hid (HC.out L A3 c3 w7 _ okl ((anyl m).trans HV.out.symm) (spl_of_own ownl) lel)
          clear okl anyl ownl
          generalize L.length = ql at *
          have B7 := Lib.hid (B2.out.trans (b7.mono B2.out.size))
          clear b7
          go_wp2_with fail
          refine (HC2.out).mono ?_
          rintro e w8 ⟨rfl, b8⟩
          have B8 := Lib.hid (B7.out.trans (b8.mono B7.out.size))
          clear b8
          go_wp2_with fail
          refine (awake_any _ (HT.out.kept B8.out)).mono ?_
          rintro e w99 ⟨rfl, b99⟩
          go_wp2_with fail
          go_ret
          exact ⟨rfl, B8.out.trans (b99.mono B8.out.size)⟩
        · have e1 : decide (m ≤ 65535) = false := decide_eq_false g1
          obtain rfl : V = false := by rw [hpi2, e0, e1]; rfl
          clear hpi2
          go_wp2_with fail
          refine (H3.out _ B2.out).mono ?_
          rintro e w7 ⟨L, A3, c3, okl, anyl, lel, rfl, ownl, b7⟩
          have HC2 := Lib.hid (HC.out L A3 c3 w7 _ okl ((anyl m).trans HV.out.symm) (spl_of_own ownl) lel)
          clear okl anyl ownl
          generalize L.length = ql at *
          have B7 := Lib.hid (B2.out.trans (b7.mono B2.out.size))
          clear b7
          go_wp2_with fail
          refine (HC2.out).mono ?_
          rintro e w8 ⟨rfl, b8⟩
          have B8 := Lib.hid (B7.out.trans (b8.mono B7.out.size))
          clear b8
          go_wp2_with fail
          refine (awake_any _ (HT.out.kept B8.out)).mono ?_
          rintro e w99 ⟨rfl, b99⟩
          go_wp2_with fail
          go_ret
          exact ⟨rfl, B8.out.trans (b99.mono B8.out.size)⟩
      · have e0 : decide (0 ≤ m) = false := decide_eq_false g0
        obtain rfl : V = false := by rw [hpi2, e0]; rfl
        clear hpi2
        go_wp2_with fail
        refine (H3.out _ B2.out).mono ?_
        rintro e w7 ⟨L, A3, c3, okl, anyl, lel, rfl, ownl, b7⟩
        have HC2 := Lib.hid (HC.out L A3 c3 w7 _ okl ((anyl m).trans HV.out.symm) (spl_of_own ownl) lel)
        clear okl anyl ownl
        generalize L.length = ql at *
        have B7 := Lib.hid (B2.out.trans (b7.mono B2.out.size))
        clear b7
        go_wp2_with fail
        refine (HC2.out).mono ?_
        rintro e w8 ⟨rfl, b8⟩
        have B8 := Lib.hid (B7.out.trans (b8.mono B7.out.size))
        clear b8
        go_wp2_with fail
        refine (awake_any _ (HT.out.kept B8.out)).mono ?_
        rintro e w99 ⟨rfl, b99⟩
        go_wp2_with fail
        go_ret
        exact ⟨rfl, B8.out.trans (b99.mono B8.out.size)⟩
  · skip
    rw [decide_eq_false he] at hpi d0
    have hpi2 : V = (x && !y && decide (0 ≤ m) && decide (m ≤ 65535)) := by rw [hpi]; simp
    clear hpi
    generalize l0.length = q0 at *
    generalize l1.length = q1 at *
    clear s0 n0 s1 n1 ht
    go_enter Tryz.func8, Tryz.ntmps8
    go_wp2_with fail
    refine (HL0.out _).mono ?_
    rintro e w00 ⟨rfl, hw0⟩
    have hw0' := hw0.symm
    clear hw0
    subst hw0'
    go_wp2_with fail
    refine (HL1.out _).mono ?_
    rintro e w0 ⟨rfl, hw0⟩
    have hw0' := hw0.symm
    clear hw0
    subst hw0'
    go_wp2_with fail
    refine (H1.out _ B0.out).mono ?_
    rintro e w1 ⟨rfl, b1⟩
    have B1 := Lib.hid (B0.out.trans (b1.mono B0.out.size))
    clear b1
    cases x with
    | false =>
      obtain rfl : V = false := by rw [hpi2]; rfl
      clear hpi2
      go_wp2_with fail
      refine (H3.out _ B1.out).mono ?_
      rintro e w7 ⟨L, A3, c3, okl, anyl, lel, rfl, ownl, b7⟩
      have HC2 := Lib.hid (HC.out L A3 c3 w7 _ okl ((anyl m).trans HV.out.symm) (spl_of_own ownl) lel)
      clear okl anyl ownl
      generalize L.length = ql at *
      have B7 := Lib.hid (B1.out.trans (b7.mono B1.out.size))
      clear b7
      go_wp2_with fail
      refine (HC2.out).mono ?_
      rintro e w8 ⟨rfl, b8⟩
      have B8 := Lib.hid (B7.out.trans (b8.mono B7.out.size))
      clear b8
      go_wp2_with fail
      refine (awake_any _ (HT.out.kept B8.out)).mono ?_
      rintro e w99 ⟨rfl, b99⟩
      go_wp2_with fail
      go_ret
      exact ⟨rfl, B8.out.trans (b99.mono B8.out.size)⟩
    | true =>
      go_wp2_with fail
      refine (H2.out _ B1.out).mono ?_
      rintro e w2 ⟨rfl, b2⟩
      have B2 := Lib.hid (B1.out.trans (b2.mono B1.out.size))
      clear b2
      cases y with
      | true =>
        obtain rfl : V = false := by rw [hpi2]; rfl
        clear hpi2
        go_wp2_with fail
        refine (H3.out _ B2.out).mono ?_
        rintro e w7 ⟨L, A3, c3, okl, anyl, lel, rfl, ownl, b7⟩
        have HC2 := Lib.hid (HC.out L A3 c3 w7 _ okl ((anyl m).trans HV.out.symm) (spl_of_own ownl) lel)
        clear okl anyl ownl
        generalize L.length = ql at *
        have B7 := Lib.hid (B2.out.trans (b7.mono B2.out.size))
        clear b7
        go_wp2_with fail
        refine (HC2.out).mono ?_
        rintro e w8 ⟨rfl, b8⟩
        have B8 := Lib.hid (B7.out.trans (b8.mono B7.out.size))
        clear b8
        go_wp2_with fail
        refine (awake_any _ (HT.out.kept B8.out)).mono ?_
        rintro e w99 ⟨rfl, b99⟩
        go_wp2_with fail
        go_ret
        exact ⟨rfl, B8.out.trans (b99.mono B8.out.size)⟩
      | false =>
        by_cases g0 : 0 ≤ m
        · have e0 : decide (0 ≤ m) = true := decide_eq_true g0
          by_cases g1 : m ≤ 65535
          · have e1 : decide (m ≤ 65535) = true := decide_eq_true g1
            obtain rfl : V = true := by rw [hpi2, e0, e1]; rfl
            clear hpi2
            go_wp2_with fail
            refine (H3.out _ B2.out).mono ?_
            rintro e w7 ⟨L, A3, c3, okl, anyl, lel, rfl, ownl, b7⟩
            have HC2 := Lib.hid (HC.out L A3 c3 w7 _ okl ((anyl m).trans HV.out.symm) (spl_of_own ownl) lel)
            clear okl anyl ownl
            generalize L.length = ql at *
            have B7 := Lib.hid (B2.out.trans (b7.mono B2.out.size))
            clear b7
            go_wp2_with fail
            refine (HC2.out).mono ?_
            rintro e w8 ⟨rfl, b8⟩
            have B8 := Lib.hid (B7.out.trans (b8.mono B7.out.size))
            clear b8
            go_wp2_with fail
            refine (awake_any _ (HT.out.kept B8.out)).mono ?_
            rintro e w99 ⟨rfl, b99⟩
            go_wp2_with fail
            go_ret
            exact ⟨rfl, B8.out.trans (b99.mono B8.out.size)⟩
          · have e1 : decide (m ≤ 65535) = false := decide_eq_false g1
            obtain rfl : V = false := by rw [hpi2, e0, e1]; rfl
            clear hpi2
            go_wp2_with fail
            refine (H3.out _ B2.out).mono ?_
            rintro e w7 ⟨L, A3, c3, okl, anyl, lel, rfl, ownl, b7⟩
            have HC2 := Lib.hid (HC.out L A3 c3 w7 _ okl ((anyl m).trans HV.out.symm) (spl_of_own ownl) lel)
            clear okl anyl ownl
            generalize L.length = ql at *
            have B7 := Lib.hid (B2.out.trans (b7.mono B2.out.size))
            clear b7
            go_wp2_with fail
            refine (HC2.out).mono ?_
            rintro e w8 ⟨rfl, b8⟩
            have B8 := Lib.hid (B7.out.trans (b8.mono B7.out.size))
            clear b8
            go_wp2_with fail
            refine (awake_any _ (HT.out.kept B8.out)).mono ?_
            rintro e w99 ⟨rfl, b99⟩
            go_wp2_with fail
            go_ret
            exact ⟨rfl, B8.out.trans (b99.mono B8.out.size)⟩
        · have e0 : decide (0 ≤ m) = false := decide_eq_false g0
          obtain rfl : V = false := by rw [hpi2, e0]; rfl
          clear hpi2
          go_wp2_with fail
          refine (H3.out _ B2.out).mono ?_
          rintro e w7 ⟨L, A3, c3, okl, anyl, lel, rfl, ownl, b7⟩
          have HC2 := Lib.hid (HC.out L A3 c3 w7 _ okl ((anyl m).trans HV.out.symm) (spl_of_own ownl) lel)
          clear okl anyl ownl
          generalize L.length = ql at *
          have B7 := Lib.hid (B2.out.trans (b7.mono B2.out.size))
          clear b7
          go_wp2_with fail
          refine (HC2.out).mono ?_
          rintro e w8 ⟨rfl, b8⟩
          have B8 := Lib.hid (B7.out.trans (b8.mono B7.out.size))
          clear b8
          go_wp2_with fail
          refine (awake_any _ (HT.out.kept B8.out)).mono ?_
          rintro e w99 ⟨rfl, b99⟩
          go_wp2_with fail
          go_ret
          exact ⟨rfl, B8.out.trans (b99.mono B8.out.size)⟩

set_option maxRecDepth 100000 in
theorem lifted (os : Os) (started : os.Started) (H : Type) (enc : TypeId × Value → H) :
    ReturnsInHanded {} Tryz.checked os 8 .any (fun w args => (Rows.portsetMembersSpec.pre enc Tryz.prog Tryz.f8 [] false w args ∧ laidMetH Tryz.prog laidL w) ∧ sizedMet enc Tryz.prog Tryz.f8 (OpenSpec.ofChange Rows.portsetMembersSpec) false w args) (Rows.portsetMembersSpec.post enc Tryz.prog Tryz.f8 false true false false) := by
  refine wrap6 (C := Tryz.checked) (X := fun w _ => laidMetH Tryz.prog laidL w) (fun _ _ _ hh h => h.of_heap hh) own started (by kernel_rfl) Tryz.func8
    (ChangeSpec.witness_shaped (enc := enc) (C := Tryz.checked) (os := os) (X := fun w _ => laidMetH Tryz.prog laidL w) false (World.laidAll Tryz.prog os laidL) #[.slice none 0 0, .slice none 0 0, .int .i64 0] 8 (World.laidAll_os _ _ _) (World.shaped_of_ZipB (by kernel_rfl) (by kernel_rfl)) (by kernel_rfl) (by kernel_rfl) (by kernel_rfl) (door_met os _)) ?_
  intro W base args ds gs before hval0 hW hL hsh
  have hval : ∀ (j : Nat) t v, Tryz.f8.params[j]? = some t → args[j]? = some v → Value.okWide Tryz.prog W .any base t v := hval0
  have hW' := hW
  obtain ⟨p, q, hA0, hV, rfl, hfz, hnd⟩ := hW
  have hA : DataW.TrodAll enc Tryz.prog W 0 (fun _ => true) true Tryz.f8.params.toList args.toList ds p := hA0
  rw [Tryz.params8] at hA hval
  obtain ⟨v0, vs0, d0, ds0, p0, q0, hargs, rfl, rfl, h0, r0⟩ := trodAll_cons hA
  obtain ⟨v1, vs1, d1, ds1, p1, q1, rfl, rfl, rfl, h1, r1⟩ := trodAll_cons r0
  obtain ⟨v2, vs2, d2, ds2, p2, q2, rfl, rfl, rfl, h2, r2⟩ := trodAll_cons r1
  obtain ⟨rfl, rfl, rfl⟩ := trodAll_nil r2
  obtain rfl : args = #[v0, v1, v2] := by cases args; simp_all
  obtain ⟨rfl, rfl⟩ := trodVars_none hV
  obtain ⟨a0, len0, cap0, rfl⟩ := okWide_slice Tryz.underlying23 (hval 0 23 v0 rfl rfl)
  have k0 := h0
  have lt0 : ∀ x ∈ p0, x.block < W.heap.size := by obtain ⟨m, hm⟩ := k0; exact DataW.trod_lt m _ _ _ hm
  obtain ⟨l0, s0, e0, n0, m0⟩ := in_spans h0
  obtain ⟨a1, len1, cap1, rfl⟩ := okWide_slice Tryz.underlying23 (hval 1 23 v1 rfl rfl)
  have k1 := h1
  have lt1 : ∀ x ∈ p1, x.block < W.heap.size := by obtain ⟨m, hm⟩ := k1; exact DataW.trod_lt m _ _ _ hm
  obtain ⟨l1, s1, e1, n1, m1⟩ := in_spans h1
  obtain ⟨a2, rfl, rfl, rfl, w2⟩ := open_int Tryz.underlying3 (hval 2 3 v2 rfl rfl) h2
  subst e0
  subst e1
  clear hA0 hval0
  refine (walk a0 cap0 l0 a1 cap1 l1 a2 W (tied_of_laid hL hsh) s0 n0 s1 n1 w2).mono fun e W' ⟨he, bel⟩ => ?_
  subst he
  exact ⟨_, rfl, _, _, _, [], _, [], hW', trodAll_mk1 (shut_bool Tryz.underlying4 _), (trodAll_cons_mk (Below.trod laidOut (by kernel_rfl) (of_decide_eq_true (by kernel_rfl)) k0 bel lt0) (trodAll_cons_mk (Below.trod laidOut (by kernel_rfl) (of_decide_eq_true (by kernel_rfl)) k1 bel lt1) (trodAll_cons_mk (shut_int Tryz.underlying3 w2) trodAll_mk0))), rfl, bel.frame _, fun h => by cases h⟩

theorem over : Rows.portsetMembersRow.holds Tryz.pinned (OpenSpec.ofChange Rows.portsetMembersSpec) :=
  OpenClaim.holds_of_wide 8 Tryz.f8 rfl rfl rfl rfl rfl rfl rfl ⟨rfl, rfl, rfl, rfl, rfl⟩ rfl rfl rfl rfl rfl (by kernel_rfl) Tryz.func8 (by kernel_rfl)
    (of_decide_eq_true (by kernel_rfl)) (by unfold Func.isWrapper; first | (rw [if_pos (by decide +kernel)]; kernel_rfl) | (rw [if_neg (by decide +kernel)]; exact ⟨rfl, rfl⟩))
    (fun os started H enc _ => lifted os started H enc)

theorem bare : Rows.PortsetMembersSaid := over

/-- The tied card. -/
theorem proved : Rows.PortsetMembersCardSaid :=
  Claim7.holds_tied_plain_at .later [] _ true _ false
    bare (fun _ h => by cases h) (by kernel_rfl) (fun _ h => by cases h) portsetMembers_row_tie rfl ⟨rfl, rfl⟩ (by kernel_rfl) rfl
    (fun f fn hf hfn => by
      obtain rfl : f = 8 := Option.some.inj ((show Tryz.prog.funcNamed "intrusion/intrusionlaw08.PortsetMembers" = some 8 by kernel_rfl).symm.trans hf) |>.symm
      obtain rfl : fn = Tryz.f8 := (Option.some.inj (Tryz.func8.symm.trans hfn)).symm
      exact ⟨by kernel_rfl, fun j t ht => by
        rw [Tryz.params8] at ht
        have hm : t ∈ [23, 23, 3] := by simpa using Array.mem_of_getElem? ht
        have hall : ([23, 23, 3].all fun u => !Tryz.prog.wantsStandIn u) = true := by kernel_rfl
        exact (show Tryz.prog.wantsStandIn t = false by simpa using List.all_eq_true.1 hall t hm)⟩)
    (by kernel_rfl)
#print axioms proved

end Go.Proofs.YtepbmnpjpkmmfaaGreatDoor.portsetMembers
