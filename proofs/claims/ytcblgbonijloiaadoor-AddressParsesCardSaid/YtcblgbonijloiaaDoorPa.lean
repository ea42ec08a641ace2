/- AddressParses holds: for every string the law about Parse and ParsePrefix beside the reference returns true and leaves memory as it was; the library's tables are tied to the program's text. No other condition. -/
import Derived.Test.YtcblgbonijloiaaDoorCards
import Derived.Test.YtcblgbonijloiaaDoorPa5
import Derived.Test.YtcblgbonijloiaaDoorPa6
namespace Go.Proofs.YtcblgbonijloiaaDoor.addressParses
open Go.ChangeShapes Go.WideShapes Go.ChangeAt Go.RowKit
open Go.ChangeMaps (open_string shut_string)
set_option linter.unusedVariables false

theorem own : ownKnob Tryd.prog.godebug = none := by kernel_rfl
theorem laidOut : laidOutB Tryd.prog = true := by kernel_rfl
theorem pRes_parts (s : By) : ∃ (v : Bool) (x z : Nat) (e : Int), pRes s = .tuple #[.agg #[.bool v, .int .u64 x, .int .u64 z], .int .i64 e] := by
  unfold pRes
  split
  · exact ⟨false, 0, 0, 3, rfl⟩
  · cases prs s with
    | none => exact ⟨false, 0, 0, 2, rfl⟩
    | some p => obtain ⟨v, x, z⟩ := p; exact ⟨v, x, z, 0, rfl⟩
theorem ppRes_parts (s : By) : ∃ (v : Bool) (x z : Nat) (k e : Int), ppRes s = .tuple #[.agg #[.bool v, .int .u64 x, .int .u64 z, .int .i64 k], .int .i64 e] := by
  unfold ppRes
  split
  · exact ⟨false, 0, 0, 0, 3, rfl⟩
  · split
    · exact ⟨false, 0, 0, 0, 2, rfl⟩
    · rename_i v hi lo _
      unfold ppEnd
      split
      · exact ⟨false, 0, 0, 0, 2, rfl⟩
      · split
        · split
          · exact ⟨v, hi, lo, _, 0, rfl⟩
          · exact ⟨false, 0, 0, 0, 2, rfl⟩
        · exact ⟨false, 0, 0, 0, 4, rfl⟩
set_option maxHeartbeats 4000000 in
set_option maxRecDepth 20000 in
theorem good (s : ByteArray) (w : World) (ht : TW w) (hs : s.size ≤ 80) :
    Calls Tryd.prog 3 #[.string s] w fun e w' => e = .returned (.bool true) ∧ Below w.heap.size w w' := by
  have hm := addr_guard
  have hm2 := pfx_guard
  have d : decide ((80 : Int) < (s.size : Int)) = false := by rw [decide_eq_false_iff_not]; omega
  have q1 := fun W t => qparse_any s W (by omega) t
  have q2 := fun W => rprs_any s W (by omega)
  have q3 := fun W t => qpparse_any s W (by omega) t
  have q4 := fun W => rpparse_any s W (by omega)
  obtain ⟨va, xa, za, ea, e1⟩ := pRes_parts s.data.toList
  obtain ⟨vp, xp, zp, kp, ep, e2⟩ := ppRes_parts s.data.toList
  rw [e1] at q1 q2
  rw [e2] at q3 q4
  have H1 := Lib.hid q1
  have H2 := Lib.hid q2
  have H3 := Lib.hid q3
  have H4 := Lib.hid q4
  have HL := Lib.hid (fun W t => lives_any W t)
  have HT0 := Lib.hid ht
  have HB0 := Lib.hid (Below.refl w.heap.size w)
  have HE0 := Lib.hid True.intro
  have qa := fun W => addr_eql va va xa xa za za W
  have qp := fun W => pfx_eql vp vp xp xp zp zp kp kp W
  simp only [beq_self_eq_true, Bool.and_self] at qa qp
  have b1 : (ea == ea) = true := by simp
  have b2 : (ep == ep) = true := by simp
  clear q1 q2 q3 q4 e1 e2 ht
  go_enter Tryd.func3, Tryd.ntmps3
  go_wp2_with fail
  refine (H1.out _ HT0.out).mono ?_
  rintro e w1 ⟨rfl, hb⟩
  obtain ⟨g1, hg1⟩ : ∃ g, g = w1.heap.size := ⟨_, rfl⟩
  obtain ⟨W1, hW1⟩ : ∃ W, W = w1.alloc (.cells #[.bool va, .int .u64 xa, .int .u64 za] 25) := ⟨_, rfl⟩
  have HE1 := Lib.hid (show AB W1 g1 va xa za from by rw [hW1, hg1]; exact ab_new w1 va xa za)
  have HB1 := Lib.hid (show Below w.heap.size w W1 by rw [hW1]; exact (HB0.out.trans (hb.mono HB0.out.size)).trans ((below_alloc6 w1 _).mono (HB0.out.trans (hb.mono HB0.out.size)).size))
  have HT1 := Lib.hid (show TW W1 by rw [hW1]; exact (HT0.out.kept hb).al _)
  clear hb HE0 HB0 HT0
  go_wp2_with fail
  first | rw [← hW1, ← hg1] | rw [← hW1] | skip
  clear hW1 hg1
  refine (H2.out _).mono ?_
  rintro e w2 ⟨rfl, hb⟩
  obtain ⟨g2, hg2⟩ : ∃ g, g = w2.heap.size := ⟨_, rfl⟩
  obtain ⟨W2, hW2⟩ : ∃ W, W = w2.alloc (.cells #[.bool va, .int .u64 xa, .int .u64 za] 25) := ⟨_, rfl⟩
  have HE2 := Lib.hid (show AB W2 g1 va xa za ∧ AB W2 g2 va xa za from by rw [hW2, hg2]; exact ⟨(HE1.out.kept hb HE1.out.lt).al _ , ab_new w2 va xa za⟩)
  have HB2 := Lib.hid (show Below w.heap.size w W2 by rw [hW2]; exact (HB1.out.trans (hb.mono HB1.out.size)).trans ((below_alloc6 w2 _).mono (HB1.out.trans (hb.mono HB1.out.size)).size))
  have HT2 := Lib.hid (show TW W2 by rw [hW2]; exact (HT1.out.kept hb).al _)
  have hx := HE1.out.kept hb HE1.out.lt
  have f0_0 := hx.c0
  have f0_1 := hx.c1
  have f0_2 := hx.c2
  have fl0 := hx.lt
  clear hx
  clear hb HE1 HB1 HT1
  go_wp2_with fail
  first | rw [← hW2, ← hg2] | rw [← hW2] | skip
  clear hW2 hg2
  clear f0_0 f0_1 f0_2 fl0
  refine (H3.out _ HT2.out).mono ?_
  rintro e w3 ⟨rfl, hb⟩
  obtain ⟨g3, hg3⟩ : ∃ g, g = w3.heap.size := ⟨_, rfl⟩
  obtain ⟨W3, hW3⟩ : ∃ W, W = w3.alloc (.cells #[.bool vp, .int .u64 xp, .int .u64 zp, .int .i64 kp] 30) := ⟨_, rfl⟩
  have HE3 := Lib.hid (show AB W3 g1 va xa za ∧ AB W3 g2 va xa za ∧ PB W3 g3 vp xp zp kp from by rw [hW3, hg3]; exact ⟨(HE2.out.1.kept hb HE2.out.1.lt).al _ , (HE2.out.2.kept hb HE2.out.2.lt).al _ , pb_new w3 vp xp zp kp⟩)
  have HB3 := Lib.hid (show Below w.heap.size w W3 by rw [hW3]; exact (HB2.out.trans (hb.mono HB2.out.size)).trans ((below_alloc6 w3 _).mono (HB2.out.trans (hb.mono HB2.out.size)).size))
  have HT3 := Lib.hid (show TW W3 by rw [hW3]; exact (HT2.out.kept hb).al _)
  have hx := HE2.out.1.kept hb HE2.out.1.lt
  have f0_0 := hx.c0
  have f0_1 := hx.c1
  have f0_2 := hx.c2
  have fl0 := hx.lt
  clear hx
  have hx := HE2.out.2.kept hb HE2.out.2.lt
  have f1_0 := hx.c0
  have f1_1 := hx.c1
  have f1_2 := hx.c2
  have fl1 := hx.lt
  clear hx
  clear hb HE2 HB2 HT2
  go_wp2_with fail
  first | rw [← hW3, ← hg3] | rw [← hW3] | skip
  clear hW3 hg3
  clear f0_0 f0_1 f0_2 fl0 f1_0 f1_1 f1_2 fl1
  refine (H4.out _).mono ?_
  rintro e w4 ⟨rfl, hb⟩
  obtain ⟨g4, hg4⟩ : ∃ g, g = w4.heap.size := ⟨_, rfl⟩
  obtain ⟨W4, hW4⟩ : ∃ W, W = w4.alloc (.cells #[.bool vp, .int .u64 xp, .int .u64 zp, .int .i64 kp] 30) := ⟨_, rfl⟩
  have HE4 := Lib.hid (show AB W4 g1 va xa za ∧ AB W4 g2 va xa za ∧ PB W4 g3 vp xp zp kp ∧ PB W4 g4 vp xp zp kp from by rw [hW4, hg4]; exact ⟨(HE3.out.1.kept hb HE3.out.1.lt).al _ , (HE3.out.2.1.kept hb HE3.out.2.1.lt).al _ , (HE3.out.2.2.kept hb HE3.out.2.2.lt).al _ , pb_new w4 vp xp zp kp⟩)
  have HB4 := Lib.hid (show Below w.heap.size w W4 by rw [hW4]; exact (HB3.out.trans (hb.mono HB3.out.size)).trans ((below_alloc6 w4 _).mono (HB3.out.trans (hb.mono HB3.out.size)).size))
  have HT4 := Lib.hid (show TW W4 by rw [hW4]; exact (HT3.out.kept hb).al _)
  have hx := HE3.out.1.kept hb HE3.out.1.lt
  have f0_0 := hx.c0
  have f0_1 := hx.c1
  have f0_2 := hx.c2
  have fl0 := hx.lt
  clear hx
  have hx := HE3.out.2.1.kept hb HE3.out.2.1.lt
  have f1_0 := hx.c0
  have f1_1 := hx.c1
  have f1_2 := hx.c2
  have fl1 := hx.lt
  clear hx
  have hx := HE3.out.2.2.kept hb HE3.out.2.2.lt
  have f2_0 := hx.c0
  have f2_1 := hx.c1
  have f2_2 := hx.c2
  have f2_3 := hx.c3
  have fl2 := hx.lt
  clear hx
  clear hb HE3 HB3 HT3
  go_wp2_with fail
  first | rw [← hW4, ← hg4] | rw [← hW4] | skip
  clear hW4 hg4
  clear f0_0 f0_1 f0_2 fl0 f1_0 f1_1 f1_2 fl1 f2_0 f2_1 f2_2 f2_3 fl2
  refine (HL.out _ HT4.out).mono ?_
  rintro e w5 ⟨rfl, hb⟩
  have HE5 := Lib.hid (show AB w5 g1 va xa za ∧ AB w5 g2 va xa za ∧ PB w5 g3 vp xp zp kp ∧ PB w5 g4 vp xp zp kp from ⟨HE4.out.1.kept hb HE4.out.1.lt , HE4.out.2.1.kept hb HE4.out.2.1.lt , HE4.out.2.2.1.kept hb HE4.out.2.2.1.lt , HE4.out.2.2.2.kept hb HE4.out.2.2.2.lt⟩)
  have HB5 := Lib.hid (HB4.out.trans (hb.mono HB4.out.size))
  have HT5 := Lib.hid (HT4.out.kept hb)
  clear hb HE4 HB4 HT4
  have f0_0 := HE5.out.1.c0
  have f0_1 := HE5.out.1.c1
  have f0_2 := HE5.out.1.c2
  have fl0 := HE5.out.1.lt
  have f1_0 := HE5.out.2.1.c0
  have f1_1 := HE5.out.2.1.c1
  have f1_2 := HE5.out.2.1.c2
  have fl1 := HE5.out.2.1.lt
  have f2_0 := HE5.out.2.2.1.c0
  have f2_1 := HE5.out.2.2.1.c1
  have f2_2 := HE5.out.2.2.1.c2
  have f2_3 := HE5.out.2.2.1.c3
  have fl2 := HE5.out.2.2.1.lt
  have f3_0 := HE5.out.2.2.2.c0
  have f3_1 := HE5.out.2.2.2.c1
  have f3_2 := HE5.out.2.2.2.c2
  have f3_3 := HE5.out.2.2.2.c3
  have fl3 := HE5.out.2.2.2.lt
  go_wp2_with fail
  go_ret
  exact ⟨rfl, HB5.out⟩
theorem walk (s : ByteArray) (w : World) (ht : TW w) (hm : s.size ≤ maxLen) :
    Calls Tryd.prog 3 #[.string s] w fun e w' => e = .returned (.bool true) ∧ Below w.heap.size w w' := by
  unfold maxLen at hm
  by_cases hl : 80 < s.size
  · have d : decide ((80 : Int) < (s.size : Int)) = true := by rw [decide_eq_true_eq]; omega
    have H := Lib.hid (lives_any w ht)
    clear ht
    go_enter Tryd.func3, Tryd.ntmps3
    go_wp2_with fail
    refine H.out.mono ?_
    rintro e w9 ⟨rfl, hb9⟩
    have HB := Lib.hid hb9
    go_wp2_with fail
    go_ret
    exact ⟨rfl, HB.out⟩
  · exact good s w ht (by omega)

set_option maxRecDepth 100000 in
theorem lifted (os : Os) (started : os.Started) (H : Type) (enc : TypeId × Value → H) :
    ReturnsInHanded {} Tryd.checked os 3 .any (fun w args => (Rows.addressParsesSpec.pre enc Tryd.prog Tryd.f3 [] false w args ∧ laidMetH Tryd.prog laidL w) ∧ sizedMet enc Tryd.prog Tryd.f3 (OpenSpec.ofChange Rows.addressParsesSpec) false w args) (Rows.addressParsesSpec.post enc Tryd.prog Tryd.f3 false true false false) := by
  refine wrap6 (C := Tryd.checked) (X := fun w _ => laidMetH Tryd.prog laidL w) (fun _ _ _ hh h => h.of_heap hh) own started (by kernel_rfl) Tryd.func3
    (ChangeSpec.witness_shaped (enc := enc) (C := Tryd.checked) (os := os) (X := fun w _ => laidMetH Tryd.prog laidL w) false (World.laidAll Tryd.prog os laidL) #[.string ⟨#[]⟩] 8 (World.laidAll_os _ _ _) (World.shaped_of_ZipB (by kernel_rfl) (by kernel_rfl)) (by kernel_rfl) (by kernel_rfl) (by kernel_rfl) (door_met os _)) ?_
  intro W base args ds gs before hval0 hW hL hsh
  have hval : ∀ (j : Nat) t v, Tryd.f3.params[j]? = some t → args[j]? = some v → Value.okWide Tryd.prog W .any base t v := hval0
  have hW' := hW
  obtain ⟨p, q, hA0, hV, rfl, hfz, hnd⟩ := hW
  have hA : DataW.TrodAll enc Tryd.prog W 0 (fun _ => true) true Tryd.f3.params.toList args.toList ds p := hA0
  rw [Tryd.params3] at hA hval
  obtain ⟨v0, vs0, d0, ds0, p0, q0, hargs, rfl, rfl, h0, r0⟩ := trodAll_cons hA
  obtain ⟨rfl, rfl, rfl⟩ := trodAll_nil r0
  obtain rfl : args = #[v0] := by cases args; simp_all
  obtain ⟨rfl, rfl⟩ := trodVars_none hV
  obtain ⟨a0, rfl, rfl, rfl, w0⟩ := open_string Tryd.underlying9 (hval 0 9 v0 rfl rfl) h0
  clear hA0 hval0
  refine (walk a0 W (tied_of_laid hL hsh) w0).mono fun e W' ⟨he, bel⟩ => ?_
  subst he
  exact ⟨_, rfl, _, _, _, [], _, [], hW', trodAll_mk1 (shut_bool Tryd.underlying4 _), (trodAll_cons_mk (shut_string Tryd.underlying9 w0) trodAll_mk0), rfl, bel.frame _, fun h => by cases h⟩

theorem over : Rows.addressParsesRow.holds Tryd.pinned (OpenSpec.ofChange Rows.addressParsesSpec) :=
  OpenClaim.holds_of_wide 3 Tryd.f3 rfl rfl rfl rfl rfl rfl rfl ⟨rfl, rfl, rfl, rfl, rfl⟩ rfl rfl rfl rfl rfl (by kernel_rfl) Tryd.func3 (by kernel_rfl)
    (of_decide_eq_true (by kernel_rfl)) (by unfold Func.isWrapper; first | (rw [if_pos (by decide +kernel)]; kernel_rfl) | (rw [if_neg (by decide +kernel)]; exact ⟨rfl, rfl⟩))
    (fun os started H enc _ => lifted os started H enc)

theorem bare : Rows.AddressParsesSaid := over

/-- The tied card. -/
theorem proved : Rows.AddressParsesCardSaid :=
  Claim7.holds_tied_plain_at .later [] _ true _ false
    bare (fun _ h => by cases h) (by kernel_rfl) (fun _ h => by cases h) addressParses_row_tie rfl ⟨rfl, rfl⟩ (by kernel_rfl) rfl
    (fun f fn hf hfn => by
      obtain rfl : f = 3 := Option.some.inj ((show Tryd.prog.funcNamed "intrusion/intrusionlaw06.AddressParses" = some 3 by kernel_rfl).symm.trans hf) |>.symm
      obtain rfl : fn = Tryd.f3 := (Option.some.inj (Tryd.func3.symm.trans hfn)).symm
      exact ⟨by kernel_rfl, fun j t ht => by
        rw [Tryd.params3] at ht
        have hm : t ∈ [9] := by simpa using Array.mem_of_getElem? ht
        have hall : ([9].all fun u => !Tryd.prog.wantsStandIn u) = true := by kernel_rfl
        exact (show Tryd.prog.wantsStandIn t = false by simpa using List.all_eq_true.1 hall t hm)⟩)
    (by kernel_rfl)
#print axioms proved


end Go.Proofs.YtcblgbonijloiaaDoor.addressParses
