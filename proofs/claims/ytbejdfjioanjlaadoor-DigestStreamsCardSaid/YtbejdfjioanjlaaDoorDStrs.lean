/- DigestStreams holds: for every list of strings the law about hashing in pieces returns true and leaves memory as it was; the table of constants is tied to the program's text. No other condition. -/
import Derived.Test.YtbejdfjioanjlaaDoorAwk03
import Derived.Test.YtbejdfjioanjlaaDoorTied03
import Derived.Test.YtbejdfjioanjlaaDoorCards
import Derived.Test.YtbejdfjioanjlaaDoorStrs03
namespace Go.Proofs.YtbejdfjioanjlaaDoor.digestStreams
open Go.ChangeShapes Go.WideShapes Go.ChangeAt Go.RowKit
open Go.ChangeMaps (open_string shut_string)
set_option linter.unusedVariables false

theorem own : ownKnob Tryd.prog.godebug = none := by kernel_rfl
theorem laidOut : laidOutB Tryd.prog = true := by kernel_rfl

set_option maxHeartbeats 1000000 in
set_option maxRecDepth 20000 in
theorem walk (A : Option Addr) (n cap : Nat) (ss : Nat → ByteArray) (w : World) (hk : TiedW w) (hin : InStrs w A n ss) (hn : n ≤ maxLen) :
    Calls Tryd.prog 6 #[.slice A n cap] w fun e w' => e = .returned (.bool true) ∧ Below w.heap.size w w' := by
  have hkl := hk.lt
  have hlong := fun W (h : InStrs W A n ss) => long_any A n cap ss W h hn
  have HLO := Lib.hid hlong
  have HL := Lib.hid (lives_any w hk)
  unfold maxLen at hn
  clear hlong
  have hwr := fun g k W (a : Kt W) (b : Ob W g (catL ss k)) (c : g ≠ 0) (d : k < n) (ht : tot ss n ≤ 600) => write_any g (catL ss k) (ss k) W a c b (by rw [catL_length]; have := tot_mono ss (show k ≤ n by omega); omega) (by have := tot_mono ss (show k + 1 ≤ n by omega); simp only [tot] at this; omega)
  simp only [← catL_succ] at hwr
  have hle := fun g k W (b : Ob W g (catL ss k)) => len_any g (catL ss k) W b
  simp only [catL_length] at hle
  have hhx := fun g k W (a : Kt W) (b : Ob W g (catL ss k)) (c : k ≤ n) (ht : tot ss n ≤ 600) => hexm_any g (catL ss k) W a b (by rw [catL_length]; have := tot_mono ss c; omega)
  have hrh := fun k (x : ByteArray) W (hx : x = str (catL ss k)) (c : k ≤ n) (ht : tot ss n ≤ 600) => rhex_any x W (by rw [hx, str_size, catL_length]; have := tot_mono ss c; omega)
  have hph := fun k (x : ByteArray) W (a : Kt W) (hx : x = str (catL ss k)) (c : k ≤ n) (ht : tot ss n ≤ 600) => phex_any x W a (by rw [hx, str_size, catL_length]; have := tot_mono ss c; omega)
  have HWR := Lib.hid hwr
  have HLE := Lib.hid hle
  have HHX := Lib.hid hhx
  have HRH := Lib.hid hrh
  have HPH := Lib.hid hph
  have HIN := Lib.hid hin
  have HK := Lib.hid hk
  clear hwr hle hhx hrh hph hin hk
  go_enter Tryd.func6, Tryd.ntmps6
  go_wp2_with fail
  refine HL.out.mono ?_
  rintro e w1 ⟨rfl, hb1⟩
  have HK1 := Lib.hid (HK.out.kept hb1)
  have HB1 := Lib.hid hb1
  have hs1 : w.heap.size ≤ w1.heap.size := hb1.size
  have hin1 : InStrs w1 A n ss := fun hp => by
    obtain ⟨b, o, hA, hb, hc⟩ := HIN.out hp
    exact ⟨b, o, hA, by omega, fun i hi => ⟨(hb1.cell (p := ⟨b, o + i, none⟩) hb).trans (hc i hi).1, (hc i hi).2⟩⟩
  have HIN1 := Lib.hid hin1
  clear hb1 hin1
  go_wp2_with fail
  refine (HLO.out _ HIN1.out).mono ?_
  rintro e w2 ⟨bb, rfl, rfl, hbb⟩
  cases bb with
  | true =>
    clear hbb
    go_wp2_with fail
    go_ret
    exact ⟨rfl, HB1.out⟩
  | false =>
    obtain ⟨hn40, ht600⟩ := hbb rfl
    have HT := Lib.hid ht600
    clear hbb ht600 HIN1
    go_wp2_with fail
    refine (newh_any _).mono ?_
    rintro e w3 ⟨rfl, hob, hb⟩
    have HK3 := Lib.hid (HK1.out.kept hb)
    have HB3 := Lib.hid (HB1.out.trans (hb.mono HB1.out.size))
    have HO3 := Lib.hid hob
    have hg3 : w1.heap.size < w3.heap.size := hob.lt
    clear hob hb
    generalize w1.heap.size = ga at *
    go_wp2_with fail
    refine (newh_any _).mono ?_
    rintro e w4 ⟨rfl, hob, hb⟩
    have HK4 := Lib.hid (HK3.out.kept hb)
    have HB4 := Lib.hid (HB3.out.trans (hb.mono HB3.out.size))
    have HA4 := Lib.hid (HO3.out.kept hb)
    have HO4 := Lib.hid hob
    clear hob hb HO3
    generalize w3.heap.size = gb at *
    go_wp2_with fail
    go_loopw [5, 6] (fun s i wr => ∃ k : Nat, ∃ b : ByteArray, k ≤ n ∧ i = .int .i64 k ∧ s = .string b ∧ Hid (b = str (catL ss k)) ∧ Hid (Ob wr ga (catL ss k)) ∧ Hid (Ob wr gb (catL ss k)) ∧ Hid (Kt wr) ∧ Hid (Below w.heap.size w wr)) (fun _ i _ => n - (intOf i).toNat)
    case atStart => exact ⟨0, ⟨#[]⟩, by omega, rfl, rfl, rfl, HA4, HO4, HK4, HB4⟩
    case round =>
      clear HA4 HO4 HK4 HB4
      obtain ⟨k, b, hkn, rfl, rfl, HS, HA2, HO2, HK2, HB2⟩ := hrel
      by_cases hlt : k < n
      · obtain ⟨g0, o, rfl, hg0, hcs⟩ := HIN.out (by omega)
        obtain ⟨hcell, hxs⟩ := hcs k hlt
        unfold maxLen at hxs
        have c1 := (HB2.out.cell (p := ⟨g0, o + k, none⟩) hg0).trans hcell
        have HWA := Lib.hid (fun W (a : Kt W) (c : Ob W ga (catL ss k)) => HWR.out ga k W a c (by omega) hlt HT.out)
        have HWB := Lib.hid (fun W (a : Kt W) (c : Ob W gb (catL ss k)) => HWR.out gb k W a c (by omega) hlt HT.out)
        have HNX := Lib.hid (cat_next ss k HS.out)
        have hbz : b.size = tot ss k := by rw [HS.out, str_size, catL_length]
        have htk := tot_mono ss (show k + 1 ≤ n by omega)
        have hxz : tot ss (k + 1) = tot ss k + (ss k).size := rfl
        have HCELL := Lib.hid hcell
        generalize ss k = x at *
        have ht' := HT.out
        have hplus : (9223372036854775807 < b.size + x.size) = False := by simp; omega
        clear hcs hcell hbz htk hxz ht'
        go_wp2_with fail
        refine (HWA.out _ HK2.out HA2.out).mono ?_
        rintro e w5 ⟨rfl, hob, hg⟩
        have HA5 := Lib.hid hob
        have HO5 := Lib.hid (HO2.out.only hg (by omega))
        have HK5 := Lib.hid (HK2.out.only hg (by omega))
        have HB5 := Lib.hid (below_but HB2.out hg (by omega) HB2.out.size)
        have c2 := (HB5.out.cell (p := ⟨g0, o + k, none⟩) hg0).trans HCELL.out
        clear hob hg c1 HO2 HK2 HB2 HA2
        go_wp2_with fail
        refine (HWB.out _ HK5.out HO5.out).mono ?_
        rintro e w6 ⟨rfl, hob, hg⟩
        have HO6 := Lib.hid hob
        have HA6 := Lib.hid (HA5.out.only hg (by omega))
        have HK6 := Lib.hid (HK5.out.only hg (by omega))
        have HB6 := Lib.hid (below_but HB5.out hg (by omega) HB5.out.size)
        clear hob hg c2 HO5 HK5 HB5 HA5
        have hhk := HHX.out gb (k + 1) _ HK6.out HO6.out hlt HT.out
        have hy : (str (hexL (catL ss (k + 1)))).size = 64 := by rw [str_size, hexL_length]
        generalize str (hexL (catL ss (k + 1))) = y at *
        have HHK := Lib.hid hhk
        clear hhk
        go_wp2_with fail
        refine HHK.out.mono ?_
        rintro e w7 ⟨rfl, hb⟩
        have HK7 := Lib.hid (HK6.out.kept hb)
        have HB7 := Lib.hid (HB6.out.trans (hb.mono HB6.out.size))
        have HO7 := Lib.hid (HO6.out.kept hb)
        have HA7 := Lib.hid (HA6.out.kept hb)
        have c3 := (HB7.out.cell (p := ⟨g0, o + k, none⟩) hg0).trans HCELL.out
        clear hb
        go_wp2_with fail
        go_roundw
        case rel => exact ⟨k + 1, b ++ x, by omega, by go_num, rfl, HNX, HA7, HO7, HK7, HB7⟩
        case measure => simp [intOf]; omega
      · obtain rfl : k = n := by omega
        have hdk : decide ((k : Int) < (k : Int)) = false := by simp
        have HHA := Lib.hid (fun W (a : Kt W) (c : Ob W ga (catL ss k)) => HHX.out ga k W a c (Nat.le_refl _) HT.out)
        have HHB := Lib.hid (fun W (a : Kt W) (c : Ob W gb (catL ss k)) => HHX.out gb k W a c (Nat.le_refl _) HT.out)
        have HPK := Lib.hid (fun W (a : Kt W) => HPH.out k b W a HS.out (Nat.le_refl _) HT.out)
        have hbl : b.data.toList = catL ss k := by rw [HS.out, str_toList]
        have hbz : b.size = tot ss k := by rw [HS.out, str_size, catL_length]
        have HLA := Lib.hid (fun W (c : Ob W ga (catL ss k)) => HLE.out ga k W c)
        have HLB := Lib.hid (fun W (c : Ob W gb (catL ss k)) => HLE.out gb k W c)
        rw [hbl] at HPK
        generalize str (hexL (catL ss k)) = y at *
        generalize tot ss k = t1 at *
        clear hbl
        go_wp2_with fail
        refine (HHA.out _ HK2.out HA2.out).mono ?_
        rintro e w5 ⟨rfl, hb⟩
        have HK5 := Lib.hid (HK2.out.kept hb)
        have HB5 := Lib.hid (HB2.out.trans (hb.mono HB2.out.size))
        have HO5 := Lib.hid (HO2.out.kept hb)
        have HA5 := Lib.hid (HA2.out.kept hb)
        clear hb
        go_wp2_with fail
        refine (HPK.out _ HK5.out).mono ?_
        rintro e w6 ⟨rfl, hb⟩
        have HK6 := Lib.hid (HK5.out.kept hb)
        have HB6 := Lib.hid (HB5.out.trans (hb.mono HB5.out.size))
        have HO6 := Lib.hid (HO5.out.kept hb)
        have HA6 := Lib.hid (HA5.out.kept hb)
        clear hb
        go_wp2_with fail
        refine (HHB.out _ HK6.out HO6.out).mono ?_
        rintro e w7 ⟨rfl, hb⟩
        have HK7 := Lib.hid (HK6.out.kept hb)
        have HB7 := Lib.hid (HB6.out.trans (hb.mono HB6.out.size))
        have HO7 := Lib.hid (HO6.out.kept hb)
        have HA7 := Lib.hid (HA6.out.kept hb)
        clear hb
        go_wp2_with fail
        refine (HPK.out _ HK7.out).mono ?_
        rintro e w8 ⟨rfl, hb⟩
        have HK8 := Lib.hid (HK7.out.kept hb)
        have HB8 := Lib.hid (HB7.out.trans (hb.mono HB7.out.size))
        have HO8 := Lib.hid (HO7.out.kept hb)
        have HA8 := Lib.hid (HA7.out.kept hb)
        clear hb
        go_wp2_with fail
        refine (HLA.out _ HA8.out).mono ?_
        rintro e w9 ⟨rfl, rfl⟩
        go_wp2_with fail
        refine (HLB.out _ HO8.out).mono ?_
        rintro e w9 ⟨rfl, rfl⟩
        go_wp2_with fail
        go_ret
        exact ⟨rfl, HB8.out⟩

set_option maxRecDepth 100000 in
theorem lifted (os : Os) (started : os.Started) (H : Type) (enc : TypeId × Value → H) :
    ReturnsInHanded {} Tryd.checked os 6 .any (fun w args => (Rows.digestStreamsSpec.pre enc Tryd.prog Tryd.f6 [] false w args ∧ laidMetH Tryd.prog laidL w) ∧ sizedMet enc Tryd.prog Tryd.f6 (OpenSpec.ofChange Rows.digestStreamsSpec) false w args) (Rows.digestStreamsSpec.post enc Tryd.prog Tryd.f6 false true false false) := by
  refine returnsInHanded_of_change_and (C := Tryd.checked) (X := fun w _ => laidMetH Tryd.prog laidL w) (fun _ _ _ hh h => h.of_heap hh) own started (by kernel_rfl) Tryd.func6
    (ChangeSpec.witness_shaped (enc := enc) (C := Tryd.checked) (os := os) (X := fun w _ => laidMetH Tryd.prog laidL w) false (World.doorLaid Tryd.prog 400 os) #[.slice none 0 0] 8 rfl (World.shaped_of_RefB (by kernel_rfl) (by kernel_rfl)) (by kernel_rfl) (by kernel_rfl) (by kernel_rfl) (door_met os _)) ?_
  intro W base args ds gs before hval0 hW _ _ hL _
  have hval : ∀ (j : Nat) t v, Tryd.f6.params[j]? = some t → args[j]? = some v → Value.okWide Tryd.prog W .any base t v := hval0
  have hW' := hW
  obtain ⟨p, q, hA0, hV, rfl, hfz, hnd⟩ := hW
  have hA : DataW.TrodAll enc Tryd.prog W 0 (fun _ => true) true Tryd.f6.params.toList args.toList ds p := hA0
  rw [Tryd.params6] at hA hval
  obtain ⟨v0, vs0, d0, ds0, p0, q0, hargs, rfl, rfl, h0, r0⟩ := trodAll_cons hA
  obtain ⟨rfl, rfl, rfl⟩ := trodAll_nil r0
  obtain rfl : args = #[v0] := by cases args; simp_all
  obtain ⟨rfl, rfl⟩ := trodVars_none hV
  obtain ⟨a0, len0, cap0, rfl⟩ := okWide_slice Tryd.underlying32 (hval 0 32 v0 rfl rfl)
  have k0 := h0
  have lt0 : ∀ x ∈ p0, x.block < W.heap.size := by obtain ⟨m, hm⟩ := k0; exact DataW.trod_lt m _ _ _ hm
  obtain ⟨ss, w0, w1⟩ := in_strs h0
  clear hA0 hval0
  refine (walk a0 len0 cap0 ss W (tied_of_laid hL) w0 w1).mono fun e W' ⟨he, bel⟩ => ?_
  subst he
  exact ⟨_, rfl, _, _, _, [], _, [], hW', trodAll_mk1 (shut_bool Tryd.underlying4 _), (trodAll_cons_mk (Below.trod laidOut (by kernel_rfl) (of_decide_eq_true (by kernel_rfl)) k0 bel lt0) trodAll_mk0), rfl, bel.frame _, fun h => by cases h⟩

theorem over : Rows.digestStreamsRow.holds Tryd.pinned (OpenSpec.ofChange Rows.digestStreamsSpec) :=
  OpenClaim.holds_of_wide 6 Tryd.f6 rfl rfl rfl rfl rfl rfl rfl ⟨rfl, rfl, rfl, rfl, rfl⟩ rfl rfl rfl rfl rfl (by kernel_rfl) Tryd.func6 (by kernel_rfl)
    (of_decide_eq_true (by kernel_rfl)) (by unfold Func.isWrapper; first | (rw [if_pos (by decide +kernel)]; kernel_rfl) | (rw [if_neg (by decide +kernel)]; exact ⟨rfl, rfl⟩))
    (fun os started H enc _ => lifted os started H enc)

theorem bare : Rows.DigestStreamsSaid := over

/-- The tied card. -/
theorem proved : Rows.DigestStreamsCardSaid :=
  Claim7.holds_tied_plain_at .later [] _ true _ false
    bare (fun _ h => by cases h) (by kernel_rfl) (fun _ h => by cases h) digestStreams_row_tie rfl ⟨rfl, rfl⟩ (by kernel_rfl) rfl
    (fun f fn hf hfn => by
      obtain rfl : f = 6 := Option.some.inj ((show Tryd.prog.funcNamed "intrusion/intrusionlaw03.DigestStreams" = some 6 by kernel_rfl).symm.trans hf) |>.symm
      obtain rfl : fn = Tryd.f6 := (Option.some.inj (Tryd.func6.symm.trans hfn)).symm
      exact ⟨by kernel_rfl, fun j t ht => by
        rw [Tryd.params6] at ht
        have hm : t ∈ [32] := by simpa using Array.mem_of_getElem? ht
        have hall : ([32].all fun u => !Tryd.prog.wantsStandIn u) = true := by kernel_rfl
        exact (show Tryd.prog.wantsStandIn t = false by simpa using List.all_eq_true.1 hall t hm)⟩)
    (by kernel_rfl)
#print axioms proved

end Go.Proofs.YtbejdfjioanjlaaDoor.digestStreams
