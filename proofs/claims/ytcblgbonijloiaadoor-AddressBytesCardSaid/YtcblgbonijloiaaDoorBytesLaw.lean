/- AddressBytes holds: for every string the law about FromBytes and Bytes returns true and leaves memory as it was; the library's tables are tied to the program's text. No other condition. -/
import Derived.Test.YtcblgbonijloiaaDoorAwk06
import Derived.Test.YtcblgbonijloiaaDoorCards
namespace Go.Proofs.YtcblgbonijloiaaDoor.addressBytes
open Go.ChangeShapes Go.WideShapes Go.ChangeAt Go.RowKit
open Go.ChangeMaps (open_string shut_string)
set_option linter.unusedVariables false

theorem own : ownKnob Tryd.prog.godebug = none := by kernel_rfl
theorem laidOut : laidOutB Tryd.prog = true := by kernel_rfl
set_option maxHeartbeats 2000000 in
set_option maxRecDepth 20000 in
/-- A string of an address. -/
theorem good (s : ByteArray) (w : World) (ht : TW w) (hs : s.size ≤ 40) (v : Bool) (hi lo : Nat) (hf : fbRes s.data.toList = .tuple #[.agg #[.bool v, .int .u64 hi, .int .u64 lo], .int .i64 0]) (h1 : hi < 18446744073709551616) (h2 : lo < 18446744073709551616) (hb : adrB v hi lo = s.data.toList) :
    Calls Tryd.prog 5 #[.string s] w fun e w' => e = .returned (.bool true) ∧ Below w.heap.size w w' := by
  have hm := addr_guard
  have d : decide ((40 : Int) < (s.size : Int)) = false := by rw [decide_eq_false_iff_not]; omega
  have q1 := fun W => qfrom_any s W (by omega)
  have q2 := fun W => rfrom_any s W (by omega)
  rw [hf] at q1 q2
  have H1 := Lib.hid q1
  have H2 := Lib.hid q2
  have q3 := fun W => qbytes_any v hi lo W h1 h2
  rw [hb, str_of] at q3
  have H3 := Lib.hid q3
  have HL := Lib.hid (fun W t => lives_any W t)
  have HT := Lib.hid ht
  have qe := fun W => addr_eql v v hi hi lo lo W
  simp only [beq_self_eq_true, Bool.and_self] at qe
  have hss : (s.toList == s.toList) = true := by simp
  clear q1 q2 q3 hf hb h1 h2 ht
  go_enter Tryd.func5, Tryd.ntmps5
  go_wp2_with fail
  refine (H1.out _).mono ?_
  rintro e w1 ⟨rfl, hb⟩
  obtain ⟨g1, hg1⟩ : ∃ g, g = w1.heap.size := ⟨_, rfl⟩
  obtain ⟨W1, hW1⟩ : ∃ W, W = w1.alloc (.cells #[.bool v, .int .u64 hi, .int .u64 lo] 25) := ⟨_, rfl⟩
  have HB1 := Lib.hid (show Below w.heap.size w W1 by rw [hW1]; exact hb.trans ((below_alloc6 w1 _).mono hb.size))
  have HA1 := Lib.hid (show AB W1 g1 v hi lo by rw [hW1, hg1]; exact ab_new w1 v hi lo)
  have HT1 := Lib.hid (show TW W1 by rw [hW1]; exact (HT.out.kept hb).al _)
  clear hb
  go_wp2_with fail
  rw [← hW1, ← hg1]
  clear hW1 hg1
  refine (H2.out _).mono ?_
  rintro e w2 ⟨rfl, hb⟩
  obtain ⟨g2, hg2⟩ : ∃ g, g = w2.heap.size := ⟨_, rfl⟩
  obtain ⟨W2, hW2⟩ : ∃ W, W = w2.alloc (.cells #[.bool v, .int .u64 hi, .int .u64 lo] 25) := ⟨_, rfl⟩
  have HB2 := Lib.hid (show Below w.heap.size w W2 by rw [hW2]; exact (HB1.out.trans (hb.mono HB1.out.size)).trans ((below_alloc6 w2 _).mono (HB1.out.trans (hb.mono HB1.out.size)).size))
  have HT2 := Lib.hid (show TW W2 by rw [hW2]; exact (HT1.out.kept hb).al _)
  have hx := HA1.out.kept hb HA1.out.lt
  have a0 := hx.c0
  have a1 := hx.c1
  have a2 := hx.c2
  have al := hx.lt
  clear hb hx
  go_wp2_with fail
  rw [← hW2, ← hg2]
  clear hW2 hg2 a0 a1 a2 al
  refine (H3.out _).mono ?_
  rintro e w3 ⟨rfl, hb⟩
  have HB3 := Lib.hid (HB2.out.trans (hb.mono HB2.out.size))
  have HT3 := Lib.hid (HT2.out.kept hb)
  clear hb
  go_wp2_with fail
  refine (HL.out _ HT3.out).mono ?_
  rintro e w4 ⟨rfl, hb⟩
  have HB4 := Lib.hid (HB3.out.trans (hb.mono HB3.out.size))
  clear hb
  go_wp2_with fail
  go_ret
  exact ⟨rfl, HB4.out⟩
set_option maxHeartbeats 2000000 in
set_option maxRecDepth 20000 in
/-- A string of another length. -/
theorem bad (s : ByteArray) (w : World) (ht : TW w) (hs : s.size ≤ 40) (hf : fbRes s.data.toList = .tuple #[.agg #[.bool false, .int .u64 0, .int .u64 0], .int .i64 2]) :
    Calls Tryd.prog 5 #[.string s] w fun e w' => e = .returned (.bool true) ∧ Below w.heap.size w w' := by
  have hm := addr_guard
  have d : decide ((40 : Int) < (s.size : Int)) = false := by rw [decide_eq_false_iff_not]; omega
  have q1 := fun W => qfrom_any s W (by omega)
  have q2 := fun W => rfrom_any s W (by omega)
  rw [hf] at q1 q2
  have H1 := Lib.hid q1
  have H2 := Lib.hid q2
  have HL := Lib.hid (fun W t => lives_any W t)
  have HT := Lib.hid ht
  have qe := fun W => addr_eql false false 0 0 0 0 W
  simp only [beq_self_eq_true, Bool.and_self] at qe
  clear q1 q2 hf ht
  go_enter Tryd.func5, Tryd.ntmps5
  go_wp2_with fail
  refine (H1.out _).mono ?_
  rintro e w1 ⟨rfl, hb⟩
  obtain ⟨g1, hg1⟩ : ∃ g, g = w1.heap.size := ⟨_, rfl⟩
  obtain ⟨W1, hW1⟩ : ∃ W, W = w1.alloc (.cells #[.bool false, .int .u64 0, .int .u64 0] 25) := ⟨_, rfl⟩
  have HB1 := Lib.hid (show Below w.heap.size w W1 by rw [hW1]; exact hb.trans ((below_alloc6 w1 _).mono hb.size))
  have HA1 := Lib.hid (show AB W1 g1 false 0 0 by rw [hW1, hg1]; exact ab_new w1 false 0 0)
  have HT1 := Lib.hid (show TW W1 by rw [hW1]; exact (HT.out.kept hb).al _)
  clear hb
  go_wp2_with fail
  rw [← hW1, ← hg1]
  clear hW1 hg1
  refine (H2.out _).mono ?_
  rintro e w2 ⟨rfl, hb⟩
  have HB2 := Lib.hid ((HB1.out.trans (hb.mono HB1.out.size)).trans ((below_alloc6 w2 (.cells #[.bool false, .int .u64 0, .int .u64 0] 25)).mono (HB1.out.trans (hb.mono HB1.out.size)).size))
  have HT2 := Lib.hid ((HT1.out.kept hb).al (.cells #[.bool false, .int .u64 0, .int .u64 0] 25))
  have hx := HA1.out.kept hb HA1.out.lt
  have a0 := hx.c0
  have a1 := hx.c1
  have a2 := hx.c2
  have al := hx.lt
  clear hb hx
  go_wp2_with fail
  refine (HL.out _ HT2.out).mono ?_
  rintro e w4 ⟨rfl, hb⟩
  have HB4 := Lib.hid (HB2.out.trans (hb.mono HB2.out.size))
  clear hb
  go_wp2_with fail
  go_ret
  exact ⟨rfl, HB4.out⟩
theorem walk (s : ByteArray) (w : World) (ht : TW w) (hm : s.size ≤ maxLen) :
    Calls Tryd.prog 5 #[.string s] w fun e w' => e = .returned (.bool true) ∧ Below w.heap.size w w' := by
  unfold maxLen at hm
  have hlen := toList_length6 s
  by_cases hl : 40 < s.size
  · have d : decide ((40 : Int) < (s.size : Int)) = true := by rw [decide_eq_true_eq]; omega
    have H := Lib.hid (lives_any w ht)
    clear ht hlen
    go_enter Tryd.func5, Tryd.ntmps5
    go_wp2_with fail
    refine H.out.mono ?_
    rintro e w9 ⟨rfl, hb9⟩
    have HB := Lib.hid hb9
    go_wp2_with fail
    go_ret
    exact ⟨rfl, HB.out⟩
  · by_cases h4 : s.size = 4
    · refine good s w ht (by omega) false 0 (num s.data.toList) (by unfold fbRes; rw [if_pos (by omega)]; rfl) (by omega) (num8_lt (by omega)) (fb_back4 (by omega))
    · by_cases h16 : s.size = 16
      · refine good s w ht (by omega) true (num (s.data.toList.take 8)) (num (s.data.toList.drop 8)) (by unfold fbRes; rw [if_neg (by omega), if_pos (by omega)]) (num8_lt (by rw [List.length_take]; omega)) (num8_lt (by rw [List.length_drop]; omega)) (fb_back6 (by omega))
      · exact bad s w ht (by omega) (by unfold fbRes; rw [if_neg (by omega), if_neg (by omega)])

set_option maxRecDepth 100000 in
theorem lifted (os : Os) (started : os.Started) (H : Type) (enc : TypeId × Value → H) :
    ReturnsInHanded {} Tryd.checked os 5 .any (fun w args => (Rows.addressBytesSpec.pre enc Tryd.prog Tryd.f5 [] false w args ∧ laidMetH Tryd.prog laidL w) ∧ sizedMet enc Tryd.prog Tryd.f5 (OpenSpec.ofChange Rows.addressBytesSpec) false w args) (Rows.addressBytesSpec.post enc Tryd.prog Tryd.f5 false true false false) := by
  refine wrap6 (C := Tryd.checked) (X := fun w _ => laidMetH Tryd.prog laidL w) (fun _ _ _ hh h => h.of_heap hh) own started (by kernel_rfl) Tryd.func5
    (ChangeSpec.witness_shaped (enc := enc) (C := Tryd.checked) (os := os) (X := fun w _ => laidMetH Tryd.prog laidL w) false (World.laidAll Tryd.prog os laidL) #[.string ⟨#[]⟩] 8 (World.laidAll_os _ _ _) (World.shaped_of_ZipB (by kernel_rfl) (by kernel_rfl)) (by kernel_rfl) (by kernel_rfl) (by kernel_rfl) (door_met os _)) ?_
  intro W base args ds gs before hval0 hW hL hsh
  have hval : ∀ (j : Nat) t v, Tryd.f5.params[j]? = some t → args[j]? = some v → Value.okWide Tryd.prog W .any base t v := hval0
  have hW' := hW
  obtain ⟨p, q, hA0, hV, rfl, hfz, hnd⟩ := hW
  have hA : DataW.TrodAll enc Tryd.prog W 0 (fun _ => true) true Tryd.f5.params.toList args.toList ds p := hA0
  rw [Tryd.params5] at hA hval
  obtain ⟨v0, vs0, d0, ds0, p0, q0, hargs, rfl, rfl, h0, r0⟩ := trodAll_cons hA
  obtain ⟨rfl, rfl, rfl⟩ := trodAll_nil r0
  obtain rfl : args = #[v0] := by cases args; simp_all
  obtain ⟨rfl, rfl⟩ := trodVars_none hV
  obtain ⟨a0, rfl, rfl, rfl, w0⟩ := open_string Tryd.underlying9 (hval 0 9 v0 rfl rfl) h0
  clear hA0 hval0
  refine (walk a0 W (tied_of_laid hL hsh) w0).mono fun e W' ⟨he, bel⟩ => ?_
  subst he
  exact ⟨_, rfl, _, _, _, [], _, [], hW', trodAll_mk1 (shut_bool Tryd.underlying4 _), (trodAll_cons_mk (shut_string Tryd.underlying9 w0) trodAll_mk0), rfl, bel.frame _, fun h => by cases h⟩

theorem over : Rows.addressBytesRow.holds Tryd.pinned (OpenSpec.ofChange Rows.addressBytesSpec) :=
  OpenClaim.holds_of_wide 5 Tryd.f5 rfl rfl rfl rfl rfl rfl rfl ⟨rfl, rfl, rfl, rfl, rfl⟩ rfl rfl rfl rfl rfl (by kernel_rfl) Tryd.func5 (by kernel_rfl)
    (of_decide_eq_true (by kernel_rfl)) (by unfold Func.isWrapper; first | (rw [if_pos (by decide +kernel)]; kernel_rfl) | (rw [if_neg (by decide +kernel)]; exact ⟨rfl, rfl⟩))
    (fun os started H enc _ => lifted os started H enc)

theorem bare : Rows.AddressBytesSaid := over

/-- The tied card. -/
theorem proved : Rows.AddressBytesCardSaid :=
  Claim7.holds_tied_plain_at .later [] _ true _ false
    bare (fun _ h => by cases h) (by kernel_rfl) (fun _ h => by cases h) addressBytes_row_tie rfl ⟨rfl, rfl⟩ (by kernel_rfl) rfl
    (fun f fn hf hfn => by
      obtain rfl : f = 5 := Option.some.inj ((show Tryd.prog.funcNamed "intrusion/intrusionlaw06.AddressBytes" = some 5 by kernel_rfl).symm.trans hf) |>.symm
      obtain rfl : fn = Tryd.f5 := (Option.some.inj (Tryd.func5.symm.trans hfn)).symm
      exact ⟨by kernel_rfl, fun j t ht => by
        rw [Tryd.params5] at ht
        have hm : t ∈ [9] := by simpa using Array.mem_of_getElem? ht
        have hall : ([9].all fun u => !Tryd.prog.wantsStandIn u) = true := by kernel_rfl
        exact (show Tryd.prog.wantsStandIn t = false by simpa using List.all_eq_true.1 hall t hm)⟩)
    (by kernel_rfl)
#print axioms proved
end Go.Proofs.YtcblgbonijloiaaDoor.addressBytes
