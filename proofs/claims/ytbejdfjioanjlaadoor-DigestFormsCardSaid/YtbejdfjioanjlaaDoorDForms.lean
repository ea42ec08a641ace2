/- DigestForms holds: for every two strings the law about the forms of digest returns true and leaves memory as it was; the table of constants is tied to the program's text. No other condition. -/
import Derived.Test.YtbejdfjioanjlaaDoorAwk03
import Derived.Test.YtbejdfjioanjlaaDoorTied03
import Derived.Test.YtbejdfjioanjlaaDoorCards
namespace Go.Proofs.YtbejdfjioanjlaaDoor.digestForms
open Go.ChangeShapes Go.WideShapes Go.ChangeAt Go.RowKit
open Go.ChangeMaps (open_string shut_string)
set_option linter.unusedVariables false

theorem own : ownKnob Tryd.prog.godebug = none := by kernel_rfl
theorem laidOut : laidOutB Tryd.prog = true := by kernel_rfl

set_option maxHeartbeats 1000000 in
theorem walk (s t : ByteArray) (w : World) (hk : TiedW w) (hm : s.size ≤ maxLen) (hm2 : t.size ≤ maxLen) :
    Calls Tryd.prog 7 #[.string s, .string t] w fun e w' => e = .returned (.bool true) ∧ Below w.heap.size w w' := by
  unfold maxLen at hm hm2
  have hkl := hk.lt
  have HL := Lib.hid (lives_any w hk)
  by_cases hl : 600 < s.size ∨ 600 < t.size
  · rcases hl with hl | hl
    · clear hk
      go_enter Tryd.func7, Tryd.ntmps7
      go_wp2_with fail
      refine HL.out.mono ?_
      rintro e w9 ⟨rfl, hb9⟩
      go_wp2_with fail
      go_ret
      exact ⟨rfl, hb9⟩
    · by_cases hl2 : 600 < s.size
      · clear hk
        go_enter Tryd.func7, Tryd.ntmps7
        go_wp2_with fail
        refine HL.out.mono ?_
        rintro e w9 ⟨rfl, hb9⟩
        go_wp2_with fail
        go_ret
        exact ⟨rfl, hb9⟩
      · have hd : decide (600 < (s.size : Int)) = false := by simp; omega
        clear hk
        go_enter Tryd.func7, Tryd.ntmps7
        go_wp2_with fail
        refine HL.out.mono ?_
        rintro e w9 ⟨rfl, hb9⟩
        go_wp2_with fail
        go_ret
        exact ⟨rfl, hb9⟩
  have hs : s.size ≤ 600 := by omega
  have ht : t.size ≤ 600 := by omega
  have hd : decide (600 < (s.size : Int)) = false := by simp; omega
  have hd2 : decide (600 < (t.size : Int)) = false := by simp; omega
  have hls : s.data.toList.length = s.size := by simp
  have hlt : t.data.toList.length = t.size := by simp
  have h1 := fun W (a : Kt W) => psum_any s W a (by omega)
  have h2 := fun W (a : Kt W) => phex_any s W a (by omega)
  have h3 := fun W => rdigits_any (str (sha s.data.toList)) W (by rw [str_size, sha_length]; omega)
  rw [str_toList, show dgs (sha s.data.toList) = hexL s.data.toList from rfl] at h3
  have h4 := fun g W (a : Kt W) (b : Ob W g []) (c : g ≠ 0) => write_any g [] s W a c b (by simp) (by omega)
  have h5 := fun g W (a : Kt W) (b : Ob W g []) (c : g ≠ 0) => write_any g [] t W a c b (by simp) (by omega)
  rw [List.nil_append] at h4 h5
  have h6 := fun g W (a : Kt W) (b : Ob W g s.data.toList) => hexm_any g s.data.toList W a b (by omega)
  have h7 := fun g W (a : Kt W) (b : Ob W g t.data.toList) => hexm_any g t.data.toList W a b (by omega)
  have h8 := fun W (a : Kt W) => phex_any t W a (by omega)
  have hz1 : (str (sha s.data.toList)).size = 32 := by rw [str_size, sha_length]
  have hz2 : (str (hexL s.data.toList)).size = 64 := by rw [str_size, hexL_length]
  generalize str (sha s.data.toList) = x at *
  generalize str (hexL s.data.toList) = y at *
  generalize str (hexL t.data.toList) = z at *
  generalize s.data.toList = LS at *
  generalize t.data.toList = LT at *
  have H1 := Lib.hid h1
  have H2 := Lib.hid h2
  have H3 := Lib.hid h3
  have H4 := Lib.hid h4
  have H5 := Lib.hid h5
  have H6 := Lib.hid h6
  have H7 := Lib.hid h7
  have H8 := Lib.hid h8
  have HK := Lib.hid hk
  clear h1 h2 h3 h4 h5 h6 h7 h8 hk hl hls hlt
  go_enter Tryd.func7, Tryd.ntmps7
  go_wp2_with fail
  refine HL.out.mono ?_
  rintro e w1 ⟨rfl, hb⟩
  have HK1 := Lib.hid (HK.out.kept hb)
  have HB1 := Lib.hid hb
  clear hb
  go_wp2_with fail
  refine (H1.out _ HK1.out).mono ?_
  rintro e w2 ⟨rfl, hb⟩
  have HK2 := Lib.hid (HK1.out.kept hb)
  have HB2 := Lib.hid (HB1.out.trans (hb.mono HB1.out.size))
  clear hb
  go_wp2_with fail
  refine (H2.out _ HK2.out).mono ?_
  rintro e w3 ⟨rfl, hb⟩
  have HK3 := Lib.hid (HK2.out.kept hb)
  have HB3 := Lib.hid (HB2.out.trans (hb.mono HB2.out.size))
  clear hb
  go_wp2_with fail
  refine (H3.out _).mono ?_
  rintro e w4 ⟨rfl, hb⟩
  have HK4 := Lib.hid (HK3.out.kept hb)
  have HB4 := Lib.hid (HB3.out.trans (hb.mono HB3.out.size))
  clear hb
  go_wp2_with fail
  refine (newh_any _).mono ?_
  rintro e w5 ⟨rfl, hob, hb⟩
  have HK5 := Lib.hid (HK4.out.kept hb)
  have HB5 := Lib.hid (HB4.out.trans (hb.mono HB4.out.size))
  have HO5 := Lib.hid hob
  have ha0 : w.heap.size ≤ w4.heap.size := HB4.out.size
  have ha1 : w4.heap.size < w5.heap.size := hob.lt
  clear hob hb
  generalize w4.heap.size = ga at *
  go_wp2_with fail
  refine (newh_any _).mono ?_
  rintro e w6 ⟨rfl, hob, hb⟩
  have HK6 := Lib.hid (HK5.out.kept hb)
  have HB6 := Lib.hid (HB5.out.trans (hb.mono HB5.out.size))
  have HA6 := Lib.hid (HO5.out.kept hb)
  have HO6 := Lib.hid hob
  clear hob hb
  generalize w5.heap.size = gb at *
  go_wp2_with fail
  refine (H4.out ga _ HK6.out HA6.out (by omega)).mono ?_
  rintro e w7 ⟨rfl, hob, hg⟩
  have HK7 := Lib.hid (HK6.out.only hg (by omega))
  have HB7 := Lib.hid (below_but HB6.out hg (by omega) HB6.out.size)
  have HA7 := Lib.hid hob
  have HO7 := Lib.hid (HO6.out.only hg (by omega))
  clear hob hg
  go_wp2_with fail
  refine (H5.out gb _ HK7.out HO7.out (by omega)).mono ?_
  rintro e w8 ⟨rfl, hob, hg⟩
  have HK8 := Lib.hid (HK7.out.only hg (by omega))
  have HB8 := Lib.hid (below_but HB7.out hg (by omega) HB7.out.size)
  have HA8 := Lib.hid (HA7.out.only hg (by omega))
  have HO8 := Lib.hid hob
  clear hob hg
  go_wp2_with fail
  refine (write_nil s _).mono ?_
  rintro e w9 ⟨rfl, rfl⟩
  go_wp2_with fail
  refine (H6.out ga _ HK8.out HA8.out).mono ?_
  rintro e w10 ⟨rfl, hb⟩
  have HK10 := Lib.hid (HK8.out.kept hb)
  have HB10 := Lib.hid (HB8.out.trans (hb.mono HB8.out.size))
  have HO10 := Lib.hid (HO8.out.kept hb)
  clear hb
  go_wp2_with fail
  refine (H7.out gb _ HK10.out HO10.out).mono ?_
  rintro e w11 ⟨rfl, hb⟩
  have HK11 := Lib.hid (HK10.out.kept hb)
  have HB11 := Lib.hid (HB10.out.trans (hb.mono HB10.out.size))
  clear hb
  go_wp2_with fail
  refine (H8.out _ HK11.out).mono ?_
  rintro e w12 ⟨rfl, hb⟩
  have HK12 := Lib.hid (HK11.out.kept hb)
  have HB12 := Lib.hid (HB11.out.trans (hb.mono HB11.out.size))
  clear hb
  go_wp2_with fail
  refine (len_nil _).mono ?_
  rintro e w13 ⟨rfl, rfl⟩
  go_wp2_with fail
  refine (hexm_nil _).mono ?_
  rintro e w13 ⟨rfl, rfl⟩
  go_wp2_with fail
  go_ret
  exact ⟨rfl, HB12.out⟩

set_option maxRecDepth 100000 in
theorem lifted (os : Os) (started : os.Started) (H : Type) (enc : TypeId × Value → H) :
    ReturnsInHanded {} Tryd.checked os 7 .any (fun w args => (Rows.digestFormsSpec.pre enc Tryd.prog Tryd.f7 [] false w args ∧ laidMetH Tryd.prog laidL w) ∧ sizedMet enc Tryd.prog Tryd.f7 (OpenSpec.ofChange Rows.digestFormsSpec) false w args) (Rows.digestFormsSpec.post enc Tryd.prog Tryd.f7 false true false false) := by
  refine returnsInHanded_of_change_and (C := Tryd.checked) (X := fun w _ => laidMetH Tryd.prog laidL w) (fun _ _ _ hh h => h.of_heap hh) own started (by kernel_rfl) Tryd.func7
    (ChangeSpec.witness_shaped (enc := enc) (C := Tryd.checked) (os := os) (X := fun w _ => laidMetH Tryd.prog laidL w) false (World.doorLaid Tryd.prog 400 os) #[.string ⟨#[]⟩, .string ⟨#[]⟩] 8 rfl (World.shaped_of_RefB (by kernel_rfl) (by kernel_rfl)) (by kernel_rfl) (by kernel_rfl) (by kernel_rfl) (door_met os _)) ?_
  intro W base args ds gs before hval0 hW _ _ hL _
  have hval : ∀ (j : Nat) t v, Tryd.f7.params[j]? = some t → args[j]? = some v → Value.okWide Tryd.prog W .any base t v := hval0
  have hW' := hW
  obtain ⟨p, q, hA0, hV, rfl, hfz, hnd⟩ := hW
  have hA : DataW.TrodAll enc Tryd.prog W 0 (fun _ => true) true Tryd.f7.params.toList args.toList ds p := hA0
  rw [Tryd.params7] at hA hval
  obtain ⟨v0, vs0, d0, ds0, p0, q0, hargs, rfl, rfl, h0, r0⟩ := trodAll_cons hA
  obtain ⟨v1, vs1, d1, ds1, p1, q1, rfl, rfl, rfl, h1, r1⟩ := trodAll_cons r0
  obtain ⟨rfl, rfl, rfl⟩ := trodAll_nil r1
  obtain rfl : args = #[v0, v1] := by cases args; simp_all
  obtain ⟨rfl, rfl⟩ := trodVars_none hV
  obtain ⟨a0, rfl, rfl, rfl, w0⟩ := open_string Tryd.underlying9 (hval 0 9 v0 rfl rfl) h0
  obtain ⟨a1, rfl, rfl, rfl, w1⟩ := open_string Tryd.underlying9 (hval 1 9 v1 rfl rfl) h1
  clear hA0 hval0
  refine (walk a0 a1 W (tied_of_laid hL) w0 w1).mono fun e W' ⟨he, bel⟩ => ?_
  subst he
  exact ⟨_, rfl, _, _, _, [], _, [], hW', trodAll_mk1 (shut_bool Tryd.underlying4 _), (trodAll_cons_mk (shut_string Tryd.underlying9 w0) (trodAll_cons_mk (shut_string Tryd.underlying9 w1) trodAll_mk0)), rfl, bel.frame _, fun h => by cases h⟩

theorem over : Rows.digestFormsRow.holds Tryd.pinned (OpenSpec.ofChange Rows.digestFormsSpec) :=
  OpenClaim.holds_of_wide 7 Tryd.f7 rfl rfl rfl rfl rfl rfl rfl ⟨rfl, rfl, rfl, rfl, rfl⟩ rfl rfl rfl rfl rfl (by kernel_rfl) Tryd.func7 (by kernel_rfl)
    (of_decide_eq_true (by kernel_rfl)) (by unfold Func.isWrapper; first | (rw [if_pos (by decide +kernel)]; kernel_rfl) | (rw [if_neg (by decide +kernel)]; exact ⟨rfl, rfl⟩))
    (fun os started H enc _ => lifted os started H enc)

theorem bare : Rows.DigestFormsSaid := over

/-- The tied card. -/
theorem proved : Rows.DigestFormsCardSaid :=
  Claim7.holds_tied_plain_at .later [] _ true _ false
    bare (fun _ h => by cases h) (by kernel_rfl) (fun _ h => by cases h) digestForms_row_tie rfl ⟨rfl, rfl⟩ (by kernel_rfl) rfl
    (fun f fn hf hfn => by
      obtain rfl : f = 7 := Option.some.inj ((show Tryd.prog.funcNamed "intrusion/intrusionlaw03.DigestForms" = some 7 by kernel_rfl).symm.trans hf) |>.symm
      obtain rfl : fn = Tryd.f7 := (Option.some.inj (Tryd.func7.symm.trans hfn)).symm
      exact ⟨by kernel_rfl, fun j t ht => by
        rw [Tryd.params7] at ht
        have hm : t ∈ [9, 9] := by simpa using Array.mem_of_getElem? ht
        have hall : ([9, 9].all fun u => !Tryd.prog.wantsStandIn u) = true := by kernel_rfl
        exact (show Tryd.prog.wantsStandIn t = false by simpa using List.all_eq_true.1 hall t hm)⟩)
    (by kernel_rfl)
#print axioms proved

end Go.Proofs.YtbejdfjioanjlaaDoor.digestForms
