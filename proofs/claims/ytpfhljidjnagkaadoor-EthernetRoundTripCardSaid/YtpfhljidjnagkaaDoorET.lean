/- EthernetRoundTrip holds: for every frame Decode of Encode is the frame, and the law returns true and leaves memory as it was; no conditions. -/
import Derived.Test.YtpfhljidjnagkaaDoorCards
import Derived.Test.YtpfhljidjnagkaaDoorEM4
import Derived.Test.YtpfhljidjnagkaaDoorEM5
namespace Go.Proofs.YtpfhljidjnagkaaDoor.ethernetRoundTrip
open Go.ChangeShapes Go.WideShapes Go.ChangeAt Go.RowKit
open Go.ChangeMaps (open_string shut_string)
set_option linter.unusedVariables false

theorem own : ownKnob Tryd.prog.godebug = none := by kernel_rfl
theorem laidOut : laidOutB Tryd.prog = true := by kernel_rfl
set_option maxHeartbeats 4000000 in
set_option maxRecDepth 20000 in
theorem walk (x : EthR) (A : Option Addr) (c : Nat) (w : World) (ht : TG w) (h : RowL EInt w A x.vl) (hc : A = none → c = 0) (hw : ethWf x) :
    Calls Tryd.prog 5 #[.agg #[.int .u64 (x.dst : Int), .int .u64 (x.src : Int), .slice A x.vl.length c, .int .i64 x.ty, .string (str x.pay)]] w fun e w' => e = .returned (.bool true) ∧ Below w.heap.size w w' := by
  have HT := Lib.hid (fun (W : World) (hb : Below w.heap.size w W) => ht.kept hb)
  obtain ⟨W1, hW1⟩ : ∃ W, W = w.alloc (.cells #[.int .u64 (x.dst : Int), .int .u64 (x.src : Int), .slice A x.vl.length c, .int .i64 x.ty, .string (str x.pay)] 26) := ⟨_, rfl⟩
  have HX := Lib.hid (show Cells W1 w.heap.size 26 #[.int .u64 (x.dst : Int), .int .u64 (x.src : Int), .slice A x.vl.length c, .int .i64 x.ty, .string (str x.pay)] by rw [hW1]; exact heap_alloc_new w _)
  have B1 := Lib.hid (show Below w.heap.size w W1 by rw [hW1]; exact below_alloc6 w _)
  have HPS := Lib.hid (str_size x.pay)
  have HV := Lib.hid (fun (W : World) (hb : Below W1.heap.size W1 W) => (Cells.kept HX.out hb (Cells.lt HX.out)))
  have x0 := (Cells.cell HX.out 0).trans (show _ = some (Value.int .u64 (x.dst : Int)) from rfl)
  have x1 := (Cells.cell HX.out 1).trans (show _ = some (Value.int .u64 (x.src : Int)) from rfl)
  have x2 := (Cells.cell HX.out 2).trans (show _ = some (Value.slice A x.vl.length c) from rfl)
  have x3 := (Cells.cell HX.out 3).trans (show _ = some (Value.int .i64 x.ty) from rfl)
  have x4 := (Cells.cell HX.out 4).trans (show _ = some (Value.string (str x.pay)) from rfl)
  have hxl := Cells.lt HX.out
  by_cases hl : 6 < x.vl.length ∨ 5000 < x.pay.length
  · have HCS : (decide ((6 : Int) < (x.vl.length : Int)) = true ∧ (6 : Int) < (x.vl.length : Int)) ∨ (decide ((6 : Int) < (x.vl.length : Int)) = false ∧ ¬ (6 : Int) < (x.vl.length : Int) ∧ decide ((5000 : Int) < ((str x.pay).size : Int)) = true ∧ (5000 : Int) < ((str x.pay).size : Int)) := by
      rw [HPS.out]
      simp only [decide_eq_true_eq, decide_eq_false_iff_not]
      omega
    clear hl h hc hw
    generalize str x.pay = P at *
    generalize x.vl.length = q at *
    rcases HCS with ⟨y1, y2⟩ | ⟨y1, y2, y3, y4⟩
    · go_enter Tryd.func5, Tryd.ntmps5
      go_wp2_with fail
      rw [← hW1]
      refine (awake_any _ (HT.out _ B1.out)).mono ?_
      rintro e w99 ⟨rfl, b99⟩
      go_wp2_with fail
      go_ret
      exact ⟨rfl, B1.out.trans (b99.mono B1.out.size)⟩
    · go_enter Tryd.func5, Tryd.ntmps5
      go_wp2_with fail
      rw [← hW1]
      refine (awake_any _ (HT.out _ B1.out)).mono ?_
      rintro e w99 ⟨rfl, b99⟩
      go_wp2_with fail
      go_ret
      exact ⟨rfl, B1.out.trans (b99.mono B1.out.size)⟩
  · have y1 : decide ((6 : Int) < (x.vl.length : Int)) = false := by simp; omega
    have y2 : ¬ (6 : Int) < (x.vl.length : Int) := by omega
    have y3 : decide ((5000 : Int) < ((str x.pay).size : Int)) = false := by rw [HPS.out]; simp; omega
    have y4 : ¬ (5000 : Int) < ((str x.pay).size : Int) := by rw [HPS.out]; omega
    have hq6 : x.vl.length ≤ 6 := by omega
    have hp5 : x.pay.length ≤ 5000 := by omega
    have H1 := Lib.hid (fun (W : World) (hb : Below w.heap.size w W) => penc10_any x A c W (h.kept hb) hc hw.1 hw.2.1 (by omega) (by omega) (ht.kept hb))
    have HRW := Lib.hid (fun (W : World) (hb : Below w.heap.size w W) => h.kept hb)
    have HDE := Lib.hid (fun (s : List UInt8) (hh : encE x = (s, 0)) => dec_enc hh)
    obtain ⟨R, hR⟩ : ∃ R, R = encE x := ⟨_, rfl⟩
    rw [← hR] at H1
    have HRR := Lib.hid hR
    clear h hc hw hl hR
    obtain ⟨F, er⟩ := R
    simp only at H1
    by_cases he : er = 0
    · subst he
      obtain ⟨hd1, hd2⟩ := HDE.out F HRR.out.symm
      have H2 := Lib.hid (fun (W : World) (hb : Below w.heap.size w W) => show Calls Tryd.prog 9 #[.string (str F)] W (DecP W (x, 0)) from by
        have := pdec10_any F W (by omega) (ht.kept hb)
        rwa [hd1] at this)
      have HSM := Lib.hid (fun (A1 A2 : Option Addr) (c1 c2 : Nat) (W : World) (h1 : RowL EInt W A1 x.vl) (h2 : RowL EInt W A2 x.vl) => rsame10_any x A1 A2 c1 c2 W h1 h2 (by omega))
      have hFs : (str F).size = 14 + 4 * x.vl.length + (str x.pay).size := by rw [str_size, str_size]; exact hd2
      clear hd1 hd2 HRR HDE
      obtain ⟨S, hS⟩ : ∃ S, S = str F := ⟨_, rfl⟩
      rw [← hS] at H1 H2 hFs
      clear hS
      obtain ⟨m, hm⟩ : ∃ m, m = 4 * x.vl.length := ⟨_, rfl⟩
      have mi : (4 : Int) * (x.vl.length : Int) = (m : Int) := by omega
      obtain ⟨m2, hm2⟩ : ∃ m2, m2 = 14 + m := ⟨_, rfl⟩
      have mi2 : (14 : Int) + (m : Int) = (m2 : Int) := by omega
      have hP5 : (str x.pay).size ≤ 5000 := by rw [str_size]; exact hp5
      have hSi : (S.size : Int) = (m2 : Int) + ((str x.pay).size : Int) := by omega
      have tS : ((S.size : Int) == (m2 : Int) + ((str x.pay).size : Int)) = true := by rw [hSi]; exact beq_self_eq_true _
      have hmb : m ≤ 24 := by omega
      have hm2b : m2 ≤ 38 := by omega
      have HSI := Lib.hid hSi
      clear hFs hm hm2 hSi hp5
      go_enter Tryd.func5, Tryd.ntmps5
      go_wp2_with fail
      rw [← hW1]
      refine (H1.out _ B1.out).mono ?_
      rintro e w2 ⟨rfl, b2⟩
      have hX := HV.out _ b2
      clear x0 x1 x2 x3 x4 hxl
      have B2 := Lib.hid (B1.out.trans (b2.mono B1.out.size))
      clear b2
      clear hW1 H1
      go_wp2_with fail
      refine (H2.out _ B2.out).mono ?_
      rintro e w3 ⟨A2, c2, rfl, r2, n2, b3⟩
      have hX3 := (b3.block _ (Cells.lt hX)).trans hX
      have hX4 : Cells w3 w.heap.size 26 #[.int .u64 (x.dst : Int), .int .u64 (x.src : Int), .slice A x.vl.length c, .int .i64 x.ty, .string (str x.pay)] := hX3
      have x0 := (Cells.cell hX4 0).trans (show _ = some (Value.int .u64 (x.dst : Int)) from rfl)
      have x1 := (Cells.cell hX4 1).trans (show _ = some (Value.int .u64 (x.src : Int)) from rfl)
      have x2 := (Cells.cell hX4 2).trans (show _ = some (Value.slice A x.vl.length c) from rfl)
      have x3 := (Cells.cell hX4 3).trans (show _ = some (Value.int .i64 x.ty) from rfl)
      have x4 := (Cells.cell hX4 4).trans (show _ = some (Value.string (str x.pay)) from rfl)
      have xl := Cells.lt hX4
      have R2 := Lib.hid (show RowL EInt w3 A2 x.vl from r2)
      have B3 := Lib.hid (B2.out.trans (b3.mono B2.out.size))
      clear b3
      have R1 := Lib.hid (HRW.out w3 B3.out)
      clear hX hX3 r2 n2 H2
      go_wp2_with fail
      refine (HSM.out _ _ _ _ _ (R1.out.kept (below_alloc6 w3 _)) (R2.out.kept (below_alloc6 w3 _))).mono ?_
      rintro e w4 ⟨rfl, b4⟩
      have b34 := (below_alloc6 w3 (.cells #[.int .u64 (x.dst : Int), .int .u64 (x.src : Int), .slice A2 x.vl.length c2, .int .i64 x.ty, .string (str x.pay)] 26)).trans (b4.mono (by simp))
      have hX5 : Cells w4 w.heap.size 26 #[.int .u64 (x.dst : Int), .int .u64 (x.src : Int), .slice A x.vl.length c, .int .i64 x.ty, .string (str x.pay)] := (b34.block _ (Cells.lt hX4)).trans hX4
      clear x0 x1 x2 x3 x4 xl
      have x0 := (Cells.cell hX5 0).trans (show _ = some (Value.int .u64 (x.dst : Int)) from rfl)
      have x1 := (Cells.cell hX5 1).trans (show _ = some (Value.int .u64 (x.src : Int)) from rfl)
      have x2 := (Cells.cell hX5 2).trans (show _ = some (Value.slice A x.vl.length c) from rfl)
      have x3 := (Cells.cell hX5 3).trans (show _ = some (Value.int .i64 x.ty) from rfl)
      have x4 := (Cells.cell hX5 4).trans (show _ = some (Value.string (str x.pay)) from rfl)
      have xl := Cells.lt hX5
      have B4 := Lib.hid (B3.out.trans (b34.mono B3.out.size))
      clear b4 b34 B3 hX4 hX5 R1 R2 HSM
      go_wp2_with fail
      refine (awake_any _ (HT.out _ B4.out)).mono ?_
      rintro e w99 ⟨rfl, b99⟩
      go_wp2_with fail
      go_ret
      exact ⟨rfl, B4.out.trans (b99.mono B4.out.size)⟩
    · have er1 : ((er : Int) != 0) = true := by rw [bne_iff_ne]; omega
      have er2 : ¬ (er : Int) = 0 := by omega
      have hF : F = [] := by
        have hh := HRR.out
        unfold encE at hh
        by_cases k1 : badE x
        · rw [if_pos k1] at hh; exact (Prod.mk.injEq .. ▸ hh : _ ∧ _).1
        · rw [if_neg k1] at hh
          by_cases k2 : 2 < x.vl.length
          · rw [if_pos k2] at hh; exact (Prod.mk.injEq .. ▸ hh : _ ∧ _).1
          · rw [if_neg k2] at hh
            by_cases k3 : 4096 < (bodyE x).length
            · rw [if_pos k3] at hh; exact (Prod.mk.injEq .. ▸ hh : _ ∧ _).1
            · rw [if_neg k3] at hh
              exact absurd (Prod.mk.injEq .. ▸ hh : _ ∧ _).2 he
      subst hF
      have hS0 : str [] = ⟨#[]⟩ := rfl
      rw [hS0] at H1
      clear he HRR HDE hS0 hq6 hp5
      go_enter Tryd.func5, Tryd.ntmps5
      go_wp2_with fail
      rw [← hW1]
      refine (H1.out _ B1.out).mono ?_
      rintro e w2 ⟨rfl, b2⟩
      clear x0 x1 x2 x3 x4 hxl
      have B2 := Lib.hid (B1.out.trans (b2.mono B1.out.size))
      clear b2
      clear hW1 H1
      go_wp2_with fail
      refine (awake_any _ (HT.out _ B2.out)).mono ?_
      rintro e w99 ⟨rfl, b99⟩
      go_wp2_with fail
      go_ret
      exact ⟨rfl, B2.out.trans (b99.mono B2.out.size)⟩

set_option maxRecDepth 100000 in
theorem lifted (os : Os) (started : os.Started) (H : Type) (enc : TypeId × Value → H) :
    ReturnsInHanded {} Tryd.checked os 5 .any (fun w args => (Rows.ethernetRoundTripSpec.pre enc Tryd.prog Tryd.f5 [] false w args ∧ laidMetH Tryd.prog laidA w) ∧ sizedMet enc Tryd.prog Tryd.f5 (OpenSpec.ofChange Rows.ethernetRoundTripSpec) false w args) (Rows.ethernetRoundTripSpec.post enc Tryd.prog Tryd.f5 false true false false) := by
  refine wrap10 (C := Tryd.checked) (X := fun w _ => laidMetH Tryd.prog laidA w) (fun _ _ _ hh h => h.of_heap hh) own started (by kernel_rfl) Tryd.func5
    (ChangeSpec.witness_shaped (enc := enc) (C := Tryd.checked) (os := os) (X := fun w _ => laidMetH Tryd.prog laidA w) false (World.laidAll Tryd.prog os laidA) #[(.agg #[.int .u64 0, .int .u64 0, .slice none 0 0, .int .i64 0, .string ⟨#[]⟩])] 8 (World.laidAll_os _ _ _) (World.shaped_of_ZipB (by kernel_rfl) (by kernel_rfl)) (by kernel_rfl) (by kernel_rfl) (by kernel_rfl) (doorA os _)) ?_
  intro W base args ds gs before hval0 hW hX hsh
  have hval : ∀ (j : Nat) t v, Tryd.f5.params[j]? = some t → args[j]? = some v → Value.okWide Tryd.prog W .any base t v := hval0
  have hW' := hW
  obtain ⟨p, q, hA0, hV, rfl, hfz, hnd⟩ := hW
  have hA : DataW.TrodAll enc Tryd.prog W 0 (fun _ => true) true Tryd.f5.params.toList args.toList ds p := hA0
  rw [Tryd.params5] at hA hval
  obtain ⟨v0, vs0, d0, ds0, p0, q0, hargs, rfl, rfl, h0, r0⟩ := trodAll_cons hA
  obtain ⟨rfl, rfl, rfl⟩ := trodAll_nil r0
  obtain rfl : args = #[v0] := by cases args; simp_all
  obtain ⟨rfl, rfl⟩ := trodVars_none hV
  have k0 := h0
  have lt0 : ∀ x ∈ p0, x.block < W.heap.size := by obtain ⟨m, hm⟩ := k0; exact DataW.trod_lt m _ _ _ hm
  obtain ⟨x0, a0, c0, fx0, rfl, s0, n0⟩ := in_eth (hval 0 26 v0 rfl rfl) h0
  clear hA0 hval0
  refine (walk x0 a0 c0 W (tiedA hX hsh) s0 n0 fx0).mono fun e W' ⟨he, bel⟩ => ?_
  subst he
  exact ⟨_, rfl, _, _, _, [], _, [], hW', trodAll_mk1 (shut_bool Tryd.underlying4 _), (trodAll_cons_mk (Below.trod laidOut (by kernel_rfl) (of_decide_eq_true (by kernel_rfl)) k0 bel lt0) trodAll_mk0), rfl, bel.frame _, fun h => by cases h⟩

theorem over : Rows.ethernetRoundTripRow.holds Tryd.pinned (OpenSpec.ofChange Rows.ethernetRoundTripSpec) :=
  OpenClaim.holds_of_wide 5 Tryd.f5 rfl rfl rfl rfl rfl rfl rfl ⟨rfl, rfl, rfl, rfl, rfl⟩ rfl rfl rfl rfl rfl (by kernel_rfl) Tryd.func5 (by kernel_rfl)
    (of_decide_eq_true (by kernel_rfl)) (by unfold Func.isWrapper; first | (rw [if_pos (by decide +kernel)]; kernel_rfl) | (rw [if_neg (by decide +kernel)]; exact ⟨rfl, rfl⟩))
    (fun os started H enc _ => lifted os started H enc)

theorem bare : Rows.EthernetRoundTripSaid := over

/-- The tied card. -/
theorem proved : Rows.EthernetRoundTripCardSaid :=
  Claim7.holds_tied_plain_at .later [] _ true _ true
    bare (fun _ h => by cases h) (by kernel_rfl) (fun _ h => by cases h) ethernetRoundTrip_row_tie rfl ⟨rfl, rfl⟩ (by kernel_rfl) rfl
    (fun f fn hf hfn => by
      obtain rfl : f = 5 := Option.some.inj ((show Tryd.prog.funcNamed "intrusion/intrusionlaw10.EthernetRoundTrip" = some 5 by kernel_rfl).symm.trans hf) |>.symm
      obtain rfl : fn = Tryd.f5 := (Option.some.inj (Tryd.func5.symm.trans hfn)).symm
      exact ⟨by kernel_rfl, fun j t ht => by
        rw [Tryd.params5] at ht
        have hm : t ∈ [26] := by simpa using Array.mem_of_getElem? ht
        have hall : ([26].all fun u => !Tryd.prog.wantsStandIn u) = true := by kernel_rfl
        exact (show Tryd.prog.wantsStandIn t = false by simpa using List.all_eq_true.1 hall t hm)⟩)
    (by kernel_rfl)
#print axioms proved

end Go.Proofs.YtpfhljidjnagkaaDoor.ethernetRoundTrip
