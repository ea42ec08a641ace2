/- EthernetMacs holds: for every number and every string the law about FormatMac and ParseMac returns true and leaves memory as it was; no conditions. -/
import Derived.Test.YtpfhljidjnagkaaDoorCards
import Derived.Test.YtpfhljidjnagkaaDoorEM4
import Derived.Test.YtpfhljidjnagkaaDoorEM5
namespace Go.Proofs.YtpfhljidjnagkaaDoor.ethernetMacs
open Go.ChangeShapes Go.WideShapes Go.ChangeAt Go.RowKit
open Go.ChangeMaps (open_string shut_string)
set_option linter.unusedVariables false

theorem own : ownKnob Tryd.prog.godebug = none := by kernel_rfl
theorem laidOut : laidOutB Tryd.prog = true := by kernel_rfl
set_option maxHeartbeats 4000000 in
set_option maxRecDepth 20000 in
theorem walk (a0 : Int) (s : ByteArray) (w : World) (ht : TB w) (w0 : (Lit.int .u64 a0).wf = true) (hs : s.size ≤ maxLen) :
    Calls Tryd.prog 7 #[.int .u64 a0, .string s] w fun e w' => e = .returned (.bool true) ∧ Below w.heap.size w w' := by
  obtain ⟨n, rfl, hn⟩ := nat_of_wf10 w0
  have HT := Lib.hid (fun (W : World) (hb : Below w.heap.size w W) => ht.tg.kept hb)
  have B0 := Lib.hid (Below.refl w.heap.size w)
  by_cases hl : 100 < s.size
  · have d0 : decide ((100 : Int) < (s.size : Int)) = true := by simp; omega
    have nd : (100 : Int) < (s.size : Int) := by omega
    go_enter Tryd.func7, Tryd.ntmps7
    go_wp2_with fail
    refine (awake_any _ (HT.out _ B0.out)).mono ?_
    rintro e w99 ⟨rfl, b99⟩
    go_wp2_with fail
    go_ret
    exact ⟨rfl, B0.out.trans (b99.mono B0.out.size)⟩
  have d0 : decide ((100 : Int) < (s.size : Int)) = false := by simp; omega
  have nd : ¬ (100 : Int) < (s.size : Int) := by omega
  obtain ⟨L, hL⟩ : ∃ L, L = s.data.toList := ⟨_, rfl⟩
  have hlen : L.length = s.size := by rw [hL]; show s.data.toList.length = s.data.size; simp only [Array.length_toList]
  have hsL : s = str L := by rw [hL]; exact (str_of s).symm
  have H1 := Lib.hid (fun (W : World) => pfmac10_any n W hn)
  have H2 := Lib.hid (fun (W : World) => rfmac10_any n W hn)
  have H3 := Lib.hid (fun (W : World) (hb : Below w.heap.size w W) => show Calls Tryd.prog 15 #[.string s] W fun e w' => e = .returned (.tuple #[.int .u64 ((pMac L).1 : Int), .int .i64 ((pMac L).2 : Int)]) ∧ Below W.heap.size W w' from by rw [hsL]; exact ppmac10_any L W (by omega) (ht.ts.kept hb))
  have H4 := Lib.hid (fun (W : World) => show Calls Tryd.prog 16 #[.string s] W fun e w' => e = .returned (.tuple #[.int .u64 ((pMac L).1 : Int), .int .i64 ((pMac L).2 : Int)]) ∧ Below W.heap.size W w' from by rw [hsL]; exact rpmac10_any L W (by omega))
  have H5 := Lib.hid (fun (W : World) (hb : Below w.heap.size w W) => ppmac10_any (fmtMac n) W (by have := fmtMac_len n; omega) (ht.ts.kept hb))
  have HRT := Lib.hid (fun (h : n < 281474976710656) => mac_round h)
  have HBG := Lib.hid (fun (h : 281474976710656 ≤ n) => mac_big h)
  obtain ⟨T, hT⟩ : ∃ T, T = str (fmtMac n) := ⟨_, rfl⟩
  rw [← hT] at H1 H2 H5
  clear hT hL hlen hsL hs w0 hl
  generalize pMac L = Q at *
  obtain ⟨k, ek⟩ := Q
  simp only at H3 H4
  have heq : (T.toList == T.toList) = true := beq_self_eq_true _
  have hk : ((k : Int) == (k : Int)) = true := beq_self_eq_true _
  have he : ((ek : Int) == (ek : Int)) = true := beq_self_eq_true _
  by_cases hbig : 281474976710656 ≤ n
  · have hb := HBG.out hbig
    rw [hb] at H5
    have dn : decide ((281474976710656 : Int) ≤ (n : Int)) = true := by simp; omega
    have nn : (281474976710656 : Int) ≤ (n : Int) := by omega
    clear hb HBG HRT hbig
    go_enter Tryd.func7, Tryd.ntmps7
    go_wp2_with fail
    refine (H1.out _).mono ?_
    rintro e w1 ⟨rfl, b1⟩
    have B1 := Lib.hid (B0.out.trans (b1.mono B0.out.size))
    clear b1
    go_wp2_with fail
    refine (H3.out _ B1.out).mono ?_
    rintro e w2 ⟨rfl, b2⟩
    have B2 := Lib.hid (B1.out.trans (b2.mono B1.out.size))
    clear b2
    go_wp2_with fail
    refine (H4.out _).mono ?_
    rintro e w3 ⟨rfl, b3⟩
    have B3 := Lib.hid (B2.out.trans (b3.mono B2.out.size))
    clear b3
    go_wp2_with fail
    refine (H2.out _).mono ?_
    rintro e w4 ⟨rfl, b4⟩
    have B4 := Lib.hid (B3.out.trans (b4.mono B3.out.size))
    clear b4
    go_wp2_with fail
    refine (H5.out _ B4.out).mono ?_
    rintro e w5 ⟨rfl, b5⟩
    have B5 := Lib.hid (B4.out.trans (b5.mono B4.out.size))
    clear b5
    go_wp2_with fail
    refine (awake_any _ (HT.out _ B5.out)).mono ?_
    rintro e w99 ⟨rfl, b99⟩
    go_wp2_with fail
    go_ret
    exact ⟨rfl, B5.out.trans (b99.mono B5.out.size)⟩
  · have hb := HRT.out (by omega)
    rw [hb] at H5
    have dn : decide ((281474976710656 : Int) ≤ (n : Int)) = false := by simp; omega
    have nn : ¬ (281474976710656 : Int) ≤ (n : Int) := by omega
    have hnn : ((n : Int) == (n : Int)) = true := beq_self_eq_true _
    clear hb HBG HRT hbig
    go_enter Tryd.func7, Tryd.ntmps7
    go_wp2_with fail
    refine (H1.out _).mono ?_
    rintro e w1 ⟨rfl, b1⟩
    have B1 := Lib.hid (B0.out.trans (b1.mono B0.out.size))
    clear b1
    go_wp2_with fail
    refine (H3.out _ B1.out).mono ?_
    rintro e w2 ⟨rfl, b2⟩
    have B2 := Lib.hid (B1.out.trans (b2.mono B1.out.size))
    clear b2
    go_wp2_with fail
    refine (H4.out _).mono ?_
    rintro e w3 ⟨rfl, b3⟩
    have B3 := Lib.hid (B2.out.trans (b3.mono B2.out.size))
    clear b3
    go_wp2_with fail
    refine (H2.out _).mono ?_
    rintro e w4 ⟨rfl, b4⟩
    have B4 := Lib.hid (B3.out.trans (b4.mono B3.out.size))
    clear b4
    go_wp2_with fail
    refine (H5.out _ B4.out).mono ?_
    rintro e w5 ⟨rfl, b5⟩
    have B5 := Lib.hid (B4.out.trans (b5.mono B4.out.size))
    clear b5
    go_wp2_with fail
    refine (awake_any _ (HT.out _ B5.out)).mono ?_
    rintro e w99 ⟨rfl, b99⟩
    go_wp2_with fail
    go_ret
    exact ⟨rfl, B5.out.trans (b99.mono B5.out.size)⟩

set_option maxRecDepth 100000 in
theorem lifted (os : Os) (started : os.Started) (H : Type) (enc : TypeId × Value → H) :
    ReturnsInHanded {} Tryd.checked os 7 .any (fun w args => (Rows.ethernetMacsSpec.pre enc Tryd.prog Tryd.f7 [] false w args ∧ laidMetH Tryd.prog laidB w) ∧ sizedMet enc Tryd.prog Tryd.f7 (OpenSpec.ofChange Rows.ethernetMacsSpec) false w args) (Rows.ethernetMacsSpec.post enc Tryd.prog Tryd.f7 false true false false) := by
  refine wrap10 (C := Tryd.checked) (X := fun w _ => laidMetH Tryd.prog laidB w) (fun _ _ _ hh h => h.of_heap hh) own started (by kernel_rfl) Tryd.func7
    (ChangeSpec.witness_shaped (enc := enc) (C := Tryd.checked) (os := os) (X := fun w _ => laidMetH Tryd.prog laidB w) false (World.laidAll Tryd.prog os laidB) #[.int .u64 0, .string ⟨#[]⟩] 8 (World.laidAll_os _ _ _) (World.shaped_of_ZipB (by kernel_rfl) (by kernel_rfl)) (by kernel_rfl) (by kernel_rfl) (by kernel_rfl) (doorB os _)) ?_
  intro W base args ds gs before hval0 hW hX hsh
  have hval : ∀ (j : Nat) t v, Tryd.f7.params[j]? = some t → args[j]? = some v → Value.okWide Tryd.prog W .any base t v := hval0
  have hW' := hW
  obtain ⟨p, q, hA0, hV, rfl, hfz, hnd⟩ := hW
  have hA : DataW.TrodAll enc Tryd.prog W 0 (fun _ => true) true Tryd.f7.params.toList args.toList ds p := hA0
  rw [Tryd.params7] at hA hval
  obtain ⟨v0, vs0, d0, ds0, p0, q0, hargs, rfl, rfl, h0, r0⟩ := trodAll_cons hA
  obtain ⟨v1, vs1, d1, ds1, p1, q1, rfl, rfl, rfl, h1, r1⟩ := trodAll_cons r0
  obtain ⟨rfl, rfl, rfl⟩ := trodAll_nil r1
  obtain rfl : args = #[v0, v1] := by cases args; simp_all
  obtain ⟨rfl, rfl⟩ := trodVars_none hV
  obtain ⟨a0, rfl, rfl, rfl, w0⟩ := open_int Tryd.underlying23 (hval 0 23 v0 rfl rfl) h0
  obtain ⟨a1, rfl, rfl, rfl, w1⟩ := open_string Tryd.underlying9 (hval 1 9 v1 rfl rfl) h1
  clear hA0 hval0
  refine (walk a0 a1 W (tiedB hX hsh) w0 w1).mono fun e W' ⟨he, bel⟩ => ?_
  subst he
  exact ⟨_, rfl, _, _, _, [], _, [], hW', trodAll_mk1 (shut_bool Tryd.underlying4 _), (trodAll_cons_mk (shut_int Tryd.underlying23 w0) (trodAll_cons_mk (shut_string Tryd.underlying9 w1) trodAll_mk0)), rfl, bel.frame _, fun h => by cases h⟩

theorem over : Rows.ethernetMacsRow.holds Tryd.pinned (OpenSpec.ofChange Rows.ethernetMacsSpec) :=
  OpenClaim.holds_of_wide 7 Tryd.f7 rfl rfl rfl rfl rfl rfl rfl ⟨rfl, rfl, rfl, rfl, rfl⟩ rfl rfl rfl rfl rfl (by kernel_rfl) Tryd.func7 (by kernel_rfl)
    (of_decide_eq_true (by kernel_rfl)) (by unfold Func.isWrapper; first | (rw [if_pos (by decide +kernel)]; kernel_rfl) | (rw [if_neg (by decide +kernel)]; exact ⟨rfl, rfl⟩))
    (fun os started H enc _ => lifted os started H enc)

theorem bare : Rows.EthernetMacsSaid := over

/-- The tied card. -/
theorem proved : Rows.EthernetMacsCardSaid :=
  Claim7.holds_tied_plain_at .later [] _ true _ true
    bare (fun _ h => by cases h) (by kernel_rfl) (fun _ h => by cases h) ethernetMacs_row_tie rfl ⟨rfl, rfl⟩ (by kernel_rfl) rfl
    (fun f fn hf hfn => by
      obtain rfl : f = 7 := Option.some.inj ((show Tryd.prog.funcNamed "intrusion/intrusionlaw10.EthernetMacs" = some 7 by kernel_rfl).symm.trans hf) |>.symm
      obtain rfl : fn = Tryd.f7 := (Option.some.inj (Tryd.func7.symm.trans hfn)).symm
      exact ⟨by kernel_rfl, fun j t ht => by
        rw [Tryd.params7] at ht
        have hm : t ∈ [23, 9] := by simpa using Array.mem_of_getElem? ht
        have hall : ([23, 9].all fun u => !Tryd.prog.wantsStandIn u) = true := by kernel_rfl
        exact (show Tryd.prog.wantsStandIn t = false by simpa using List.all_eq_true.1 hall t hm)⟩)
    (by kernel_rfl)
#print axioms proved

end Go.Proofs.YtpfhljidjnagkaaDoor.ethernetMacs
