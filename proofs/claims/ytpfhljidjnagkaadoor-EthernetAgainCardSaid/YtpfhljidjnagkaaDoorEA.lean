/- EthernetAgain holds: for every string the bytes of a decoded frame are the same again apart from the tags, and the law returns true and leaves memory as it was; no conditions. -/
import Derived.Test.YtpfhljidjnagkaaDoorCards
import Derived.Test.YtpfhljidjnagkaaDoorEM4
import Derived.Test.YtpfhljidjnagkaaDoorEM5
namespace Go.Proofs.YtpfhljidjnagkaaDoor.ethernetAgain
open Go.ChangeShapes Go.WideShapes Go.ChangeAt Go.RowKit
open Go.ChangeMaps (open_string shut_string)
set_option linter.unusedVariables false

theorem own : ownKnob Tryd.prog.godebug = none := by kernel_rfl
theorem laidOut : laidOutB Tryd.prog = true := by kernel_rfl
set_option maxHeartbeats 4000000 in
set_option maxRecDepth 20000 in
theorem walk (s : ByteArray) (w : World) (ht : TG w) (hs : s.size ≤ maxLen) :
    Calls Tryd.prog 6 #[.string s] w fun e w' => e = .returned (.bool true) ∧ Below w.heap.size w w' := by
  have HT := Lib.hid (fun (W : World) (hb : Below w.heap.size w W) => ht.kept hb)
  have B0 := Lib.hid (Below.refl w.heap.size w)
  by_cases hl : 4096 < s.size
  · have d0 : decide ((4096 : Int) < (s.size : Int)) = true := by simp; omega
    have nd : (4096 : Int) < (s.size : Int) := by omega
    go_enter Tryd.func6, Tryd.ntmps6
    go_wp2_with fail
    refine (awake_any _ (HT.out _ B0.out)).mono ?_
    rintro e w99 ⟨rfl, b99⟩
    go_wp2_with fail
    go_ret
    exact ⟨rfl, B0.out.trans (b99.mono B0.out.size)⟩
  have d0 : decide ((4096 : Int) < (s.size : Int)) = false := by simp; omega
  have nd : ¬ (4096 : Int) < (s.size : Int) := by omega
  have hs4 : s.size ≤ 4096 := by omega
  obtain ⟨L, hL⟩ : ∃ L, L = s.data.toList := ⟨_, rfl⟩
  have hlen : L.length = s.size := by rw [hL]; show s.data.toList.length = s.data.size; simp only [Array.length_toList]
  have hsL : s = str L := by rw [hL]; exact (str_of s).symm
  have H1 := Lib.hid (fun (W : World) (hb : Below w.heap.size w W) => show Calls Tryd.prog 9 #[.string s] W (DecP W (decE L)) from by rw [hsL]; exact pdec10_any L W (by omega) (ht.kept hb))
  obtain ⟨R, hR⟩ : ∃ R, R = decE L := ⟨_, rfl⟩
  rw [← hR] at H1
  have HRR := Lib.hid hR
  have HSL := Lib.hid hsL
  have HLN := Lib.hid hlen
  clear hL hlen hsL hs hl hR
  obtain ⟨x, er⟩ := R
  by_cases he : er = 0
  · subst he
    obtain ⟨T, e1, e2, e3, e4, e5, e6⟩ := enc_dec HRR.out.symm (by rw [HLN.out]; exact hs4)
    obtain ⟨wf1, wf2, wf3⟩ := enc_wf e1
    have H2 := Lib.hid (fun (A : Option Addr) (c : Nat) (W : World) (hb : Below w.heap.size w W) (h : RowL EInt W A x.vl) (hc : A = none → c = 0) => show Calls Tryd.prog 12 #[.agg #[.int .u64 (x.dst : Int), .int .u64 (x.src : Int), .slice A x.vl.length c, .int .i64 x.ty, .string (str x.pay)]] W fun e w' => e = .returned (.tuple #[.string (str T), .int .i64 0]) ∧ Below W.heap.size W w' from by
      have := penc10_any x A c W h hc wf1.1 wf1.2.1 (by omega) (by omega) (ht.kept hb)
      rwa [e1] at this)
    obtain ⟨S, hS⟩ : ∃ S, S = str T := ⟨_, rfl⟩
    have hSs : S.size = s.size := by rw [hS, str_size, e2, HLN.out]
    have h12 : S.extract 0 12 = s.extract 0 12 := by
      rw [extract_str10 S T hS, extract_str10 s L HSL.out, List.drop_zero, List.drop_zero, e3]
    obtain ⟨m, hm⟩ : ∃ m, m = 4 * x.vl.length := ⟨_, rfl⟩
    have mi : (4 : Int) * (x.vl.length : Int) = (m : Int) := by omega
    obtain ⟨k, hk⟩ : ∃ k, k = 12 + m := ⟨_, rfl⟩
    have ki : (12 : Int) + (m : Int) = (k : Int) := by omega
    have hkk : S.extract k S.size = s.extract k s.size := by
      rw [extract_str10 S T hS, extract_str10 s L HSL.out, hk, hm, e6, hSs]
    have tlen : ((S.size : Int) != (s.size : Int)) = false := by rw [hSs]; exact bne_self_eq_false _
    have nlen : (S.size : Int) = (s.size : Int) := by omega
    have t12 : ((S.extract 0 12).toList == (s.extract 0 12).toList) = true := by rw [h12]; exact beq_self_eq_true _
    have tk : ((S.extract k S.size).toList == (s.extract k s.size).toList) = true := by rw [hkk]; exact beq_self_eq_true _
    have tk2 : ((S.extract k s.size).toList == (s.extract k s.size).toList) = true := by rw [← hSs, hkk, hSs]; exact beq_self_eq_true _
    have k12 : 12 ≤ s.size := by rw [← HLN.out]; omega
    have i12 : (12 : Int) ≤ (s.size : Int) := by omega
    have i12' : (12 : Int) ≤ (S.size : Int) := by omega
    have kS : (k : Int) ≤ (S.size : Int) := by have := HLN.out; omega
    have ks : (k : Int) ≤ (s.size : Int) := by have := HLN.out; omega
    have dks : decide ((k : Int) ≤ (s.size : Int)) = true := by simp; omega
    have k0 : (0 : Int) ≤ (k : Int) := by omega
    have hmb : m ≤ 24 := by omega
    have hkb : k ≤ 40 := by omega
    have hqb : x.vl.length ≤ 2 := wf2
    rw [← hS] at H2
    have HAW := Lib.hid (fun (W : World) (hb : Below w.heap.size w W) => awake_any W (ht.kept hb))
    have HNL := Lib.hid nlen
    clear e1 e2 e3 e4 e5 e6 wf1 wf2 wf3 hS hSs h12 hm hk hkk HRR HSL HLN k12 nlen
    go_enter Tryd.func6, Tryd.ntmps6
    go_wp2_with fail
    refine (H1.out _ B0.out).mono ?_
    rintro e w1 ⟨A1, c1, rfl, r1, n1, b1⟩
    have R1 := Lib.hid (show RowL EInt w1 A1 x.vl from r1)
    have B1 := Lib.hid (B0.out.trans (b1.mono B0.out.size))
    clear b1
    clear H1 r1
    have n1' : A1 = none → c1 = 0 := n1
    go_wp2_with fail
    refine (H2.out _ _ _ (B1.out.alloc B1.out.size _) (R1.out.kept (below_alloc6 w1 _)) n1').mono ?_
    rintro e w2 ⟨rfl, b2⟩
    have hX : Cells w2 w1.heap.size 26 #[.int .u64 (x.dst : Int), .int .u64 (x.src : Int), .slice A1 x.vl.length c1, .int .i64 x.ty, .string (str x.pay)] := (b2.block _ (by simp)).trans (heap_alloc_new w1 _)
    have B2 := Lib.hid (B1.out.trans (((below_alloc6 w1 _).trans (b2.mono (by simp))).mono B1.out.size))
    obtain ⟨g, hg⟩ : ∃ g, g = w1.heap.size := ⟨_, rfl⟩
    have HX := Lib.hid hX
    clear b2 B1 R1 H2 hX n1 n1'
    go_wp2_with fail
    refine wp_region_pick (fun w' => Below w2.heap.size w2 w') (by kernel_rfl) (by kernel_rfl) (Below.refl _ _) ⟨rfl, rfl, rfl, Nat.le_refl _, fun _ _ => rfl⟩ (fun pw hp hq => ?_)
    have HP := Lib.hid hp
    have HQ := Lib.hid hq
    clear hp hq
    repeat (go_big_quiet_step (fail))
    refine wpQuiet_nil ?_
    rintro _ ⟨u, rfl⟩
    have HX3 := Lib.hid (show Cells (pw u) w1.heap.size 26 #[.int .u64 (x.dst : Int), .int .u64 (x.src : Int), .slice A1 x.vl.length c1, .int .i64 x.ty, .string (str x.pay)] from ((HP.out u).block _ (Cells.lt HX.out)).trans HX.out)
    have B3 := Lib.hid (B2.out.trans ((HP.out u).mono B2.out.size))
    generalize pw u = w3 at *
    clear HP HQ HX B2
    have x0 := (Cells.cell HX3.out 0).trans (show _ = some (Value.int .u64 (x.dst : Int)) from rfl)
    have x1 := (Cells.cell HX3.out 1).trans (show _ = some (Value.int .u64 (x.src : Int)) from rfl)
    have x2 := (Cells.cell HX3.out 2).trans (show _ = some (Value.slice A1 x.vl.length c1) from rfl)
    have x3 := (Cells.cell HX3.out 3).trans (show _ = some (Value.int .i64 x.ty) from rfl)
    have x4 := (Cells.cell HX3.out 4).trans (show _ = some (Value.string (str x.pay)) from rfl)
    have xl := Cells.lt HX3.out
    go_wp2_with fail
    refine wp_region_pick (fun w' => Below w3.heap.size w3 w') (by kernel_rfl) (by kernel_rfl) (Below.refl _ _) ⟨rfl, rfl, rfl, Nat.le_refl _, fun _ _ => rfl⟩ (fun pw hp hq => ?_)
    have HP := Lib.hid hp
    have HQ := Lib.hid hq
    clear hp hq
    repeat (go_big_quiet_step ((first | with_reducible exact Calls.pick_of HQ.out (fun W' hb => (HP.out _).trans (hb.mono (HP.out _).size)) (HAW.out _ (B3.out.trans ((HP.out _).mono B3.out.size))))))
    refine wpQuiet_nil ?_
    rintro _ ⟨u, rfl⟩
    have B4 := Lib.hid (B3.out.trans ((HP.out u).mono B3.out.size))
    generalize pw u = w4 at *
    clear HP HQ
    go_wp2_with fail
    go_ret
    exact ⟨rfl, B4.out⟩
  · have er1 : ((er : Int) != 0) = true := by rw [bne_iff_ne]; omega
    have er2 : ¬ (er : Int) = 0 := by omega
    clear he HRR HSL HLN
    go_enter Tryd.func6, Tryd.ntmps6
    go_wp2_with fail
    refine (H1.out _ B0.out).mono ?_
    rintro e w1 ⟨A1, c1, rfl, r1, n1, b1⟩
    have B1 := Lib.hid (B0.out.trans (b1.mono B0.out.size))
    clear b1
    clear H1 r1 n1
    have B2 := Lib.hid (B1.out.alloc B1.out.size (.cells #[.int .u64 (x.dst : Int), .int .u64 (x.src : Int), .slice A1 x.vl.length c1, .int .i64 x.ty, .string (str x.pay)] 26))
    go_wp2_with fail
    refine (awake_any _ (HT.out _ B2.out)).mono ?_
    rintro e w99 ⟨rfl, b99⟩
    go_wp2_with fail
    go_ret
    exact ⟨rfl, B2.out.trans (b99.mono B2.out.size)⟩

set_option maxRecDepth 100000 in
theorem lifted (os : Os) (started : os.Started) (H : Type) (enc : TypeId × Value → H) :
    ReturnsInHanded {} Tryd.checked os 6 .any (fun w args => (Rows.ethernetAgainSpec.pre enc Tryd.prog Tryd.f6 [] false w args ∧ laidMetH Tryd.prog laidA w) ∧ sizedMet enc Tryd.prog Tryd.f6 (OpenSpec.ofChange Rows.ethernetAgainSpec) false w args) (Rows.ethernetAgainSpec.post enc Tryd.prog Tryd.f6 false true false false) := by
  refine wrap10 (C := Tryd.checked) (X := fun w _ => laidMetH Tryd.prog laidA w) (fun _ _ _ hh h => h.of_heap hh) own started (by kernel_rfl) Tryd.func6
    (ChangeSpec.witness_shaped (enc := enc) (C := Tryd.checked) (os := os) (X := fun w _ => laidMetH Tryd.prog laidA w) false (World.laidAll Tryd.prog os laidA) #[.string ⟨#[]⟩] 8 (World.laidAll_os _ _ _) (World.shaped_of_ZipB (by kernel_rfl) (by kernel_rfl)) (by kernel_rfl) (by kernel_rfl) (by kernel_rfl) (doorA os _)) ?_
  intro W base args ds gs before hval0 hW hX hsh
  have hval : ∀ (j : Nat) t v, Tryd.f6.params[j]? = some t → args[j]? = some v → Value.okWide Tryd.prog W .any base t v := hval0
  have hW' := hW
  obtain ⟨p, q, hA0, hV, rfl, hfz, hnd⟩ := hW
  have hA : DataW.TrodAll enc Tryd.prog W 0 (fun _ => true) true Tryd.f6.params.toList args.toList ds p := hA0
  rw [Tryd.params6] at hA hval
  obtain ⟨v0, vs0, d0, ds0, p0, q0, hargs, rfl, rfl, h0, r0⟩ := trodAll_cons hA
  obtain ⟨rfl, rfl, rfl⟩ := trodAll_nil r0
  obtain rfl : args = #[v0] := by cases args; simp_all
  obtain ⟨rfl, rfl⟩ := trodVars_none hV
  obtain ⟨a0, rfl, rfl, rfl, w0⟩ := open_string Tryd.underlying9 (hval 0 9 v0 rfl rfl) h0
  clear hA0 hval0
  refine (walk a0 W (tiedA hX hsh) w0).mono fun e W' ⟨he, bel⟩ => ?_
  subst he
  exact ⟨_, rfl, _, _, _, [], _, [], hW', trodAll_mk1 (shut_bool Tryd.underlying4 _), (trodAll_cons_mk (shut_string Tryd.underlying9 w0) trodAll_mk0), rfl, bel.frame _, fun h => by cases h⟩

theorem over : Rows.ethernetAgainRow.holds Tryd.pinned (OpenSpec.ofChange Rows.ethernetAgainSpec) :=
  OpenClaim.holds_of_wide 6 Tryd.f6 rfl rfl rfl rfl rfl rfl rfl ⟨rfl, rfl, rfl, rfl, rfl⟩ rfl rfl rfl rfl rfl (by kernel_rfl) Tryd.func6 (by kernel_rfl)
    (of_decide_eq_true (by kernel_rfl)) (by unfold Func.isWrapper; first | (rw [if_pos (by decide +kernel)]; kernel_rfl) | (rw [if_neg (by decide +kernel)]; exact ⟨rfl, rfl⟩))
    (fun os started H enc _ => lifted os started H enc)

theorem bare : Rows.EthernetAgainSaid := over

/-- The tied card. -/
theorem proved : Rows.EthernetAgainCardSaid :=
  Claim7.holds_tied_plain_at .later [] _ true _ true
    bare (fun _ h => by cases h) (by kernel_rfl) (fun _ h => by cases h) ethernetAgain_row_tie rfl ⟨rfl, rfl⟩ (by kernel_rfl) rfl
    (fun f fn hf hfn => by
      obtain rfl : f = 6 := Option.some.inj ((show Tryd.prog.funcNamed "intrusion/intrusionlaw10.EthernetAgain" = some 6 by kernel_rfl).symm.trans hf) |>.symm
      obtain rfl : fn = Tryd.f6 := (Option.some.inj (Tryd.func6.symm.trans hfn)).symm
      exact ⟨by kernel_rfl, fun j t ht => by
        rw [Tryd.params6] at ht
        have hm : t ∈ [9] := by simpa using Array.mem_of_getElem? ht
        have hall : ([9].all fun u => !Tryd.prog.wantsStandIn u) = true := by kernel_rfl
        exact (show Tryd.prog.wantsStandIn t = false by simpa using List.all_eq_true.1 hall t hm)⟩)
    (by kernel_rfl)
#print axioms proved

end Go.Proofs.YtpfhljidjnagkaaDoor.ethernetAgain
