/- DigestObjects holds: for every list of strings the law about one object returns true and leaves memory as it was; the table of constants is tied to the program's text. No other condition. -/
import Derived.Test.YtbejdfjioanjlaaDoorAwk03
import Derived.Test.YtbejdfjioanjlaaDoorTied03
import Derived.Test.YtbejdfjioanjlaaDoorCards
import Derived.Test.YtbejdfjioanjlaaDoorStrs03
namespace Go.Proofs.YtbejdfjioanjlaaDoor.digestObjects
open Go.ChangeShapes Go.WideShapes Go.ChangeAt Go.RowKit
open Go.ChangeMaps (open_string shut_string)
set_option linter.unusedVariables false

theorem own : ownKnob Tryd.prog.godebug = none := by kernel_rfl
theorem laidOut : laidOutB Tryd.prog = true := by kernel_rfl

set_option maxHeartbeats 1000000 in
set_option maxRecDepth 20000 in
theorem walk (A : Option Addr) (n cap : Nat) (ss : Nat → ByteArray) (w : World) (hk : TiedW w) (hin : InStrs w A n ss) (hn : n ≤ maxLen) :
    Calls Tryd.prog 5 #[.slice A n cap] w fun e w' => e = .returned (.bool true) ∧ Below w.heap.size w w' := by
  have hkl := hk.lt
  have hlong := fun W (h : InStrs W A n ss) => long_any A n cap ss W h hn
  have HLO := Lib.hid hlong
  unfold maxLen at hn
  clear hlong
  have hwr := fun g k W (a : Kt W) (b : Ob W g (catL ss k)) (c : g ≠ 0) (d : k < n) (ht : tot ss n ≤ 600) => write_any g (catL ss k) (ss k) W a c b (by rw [catL_length]; have := tot_mono ss (show k ≤ n by omega); omega) (by have := tot_mono ss (show k + 1 ≤ n by omega); simp only [tot] at this; omega)
  simp only [← catL_succ] at hwr
  have hle := fun g k W (b : Ob W g (catL ss k)) => len_any g (catL ss k) W b
  simp only [catL_length] at hle
  have hhx := fun g k W (a : Kt W) (b : Ob W g (catL ss k)) (c : k ≤ n) (ht : tot ss n ≤ 600) => hexm_any g (catL ss k) W a b (by rw [catL_length]; have := tot_mono ss c; omega)
  have hrh := fun k (x : ByteArray) W (hx : x = str (catL ss k)) (c : k ≤ n) (ht : tot ss n ≤ 600) => rhex_any x W (by rw [hx, str_size, catL_length]; have := tot_mono ss c; omega)
  have hph := fun k (x : ByteArray) W (a : Kt W) (hx : x = str (catL ss k)) (c : k ≤ n) (ht : tot ss n ≤ 600) => phex_any x W a (by rw [hx, str_size, catL_length]; have := tot_mono ss c; omega)
  have HWR := Lib.hid hwr
  have HLE := Lib.hid hle
  have HHX := Lib.hid hhx
  have HRH := Lib.hid hrh
  have HPH := Lib.hid hph
  have HIN := Lib.hid hin
  have HK := Lib.hid hk
  clear hwr hle hhx hrh hph hin hk
  go_enter Tryd.func5, Tryd.ntmps5
  go_wp2_with fail
  refine (newh_any _).mono ?_
  rintro e w1 ⟨rfl, hob, hb1⟩
  have HK1 := Lib.hid (HK.out.kept hb1)
  have HB1 := Lib.hid hb1
  have HO1 := Lib.hid hob
  have hg1 : w.heap.size < w1.heap.size := hob.lt
  have hin1 : InStrs w1 A n ss := fun hp => by
    obtain ⟨b, o, hA, hb, hc⟩ := HIN.out hp
    exact ⟨b, o, hA, by omega, fun i hi => ⟨(hb1.cell (p := ⟨b, o + i, none⟩) hb).trans (hc i hi).1, (hc i hi).2⟩⟩
  have HIN1 := Lib.hid hin1
  clear hob hb1 hin1
  go_wp2_with fail
  refine (HLO.out _ HIN1.out).mono ?_
  rintro e w2 ⟨bb, rfl, rfl, hbb⟩
  cases bb with
  | true =>
    clear hbb
    go_wp2_with fail
    refine (lives_any _ HK1.out).mono ?_
    rintro e w9 ⟨rfl, hb9⟩
    go_wp2_with fail
    go_ret
    exact ⟨rfl, HB1.out.trans (hb9.mono HB1.out.size)⟩
  | false =>
    obtain ⟨hn40, ht600⟩ := hbb rfl
    clear hbb
    by_cases h8 : 8 < n
    · have h8i : (8 : Int) < (n : Int) := by omega
      go_wp2_with fail
      refine (lives_any _ HK1.out).mono ?_
      rintro e w9 ⟨rfl, hb9⟩
      go_wp2_with fail
      go_ret
      exact ⟨rfl, HB1.out.trans (hb9.mono HB1.out.size)⟩
    have h8i : decide ((8 : Int) < (n : Int)) = false := by simp; omega
    have HT := Lib.hid ht600
    clear ht600
    go_wp2_with fail
    go_loopw [4, 5] (fun s i wr => ∃ k : Nat, ∃ b : ByteArray, k ≤ n ∧ i = .int .i64 k ∧ s = .string b ∧ Hid (b = str (catL ss k)) ∧ Hid (Ob wr w.heap.size (catL ss k)) ∧ Hid (Kt wr) ∧ Hid (Below w.heap.size w wr)) (fun _ i _ => n - (intOf i).toNat)
    case atStart => exact ⟨0, ⟨#[]⟩, by omega, rfl, rfl, rfl, HO1, HK1, HB1⟩
    case round =>
      clear HO1 HK1 HB1 HIN1
      obtain ⟨k, b, hkn, rfl, rfl, HS, HO2, HK2, HB2⟩ := hrel
      by_cases hlt : k < n
      · obtain ⟨g0, o, rfl, hg0, hcs⟩ := HIN.out (by omega)
        obtain ⟨hcell, hxs⟩ := hcs k hlt
        unfold maxLen at hxs
        have c1 := (HB2.out.cell (p := ⟨g0, o + k, none⟩) hg0).trans hcell
        have HWK := Lib.hid (fun W (a : Kt W) (c : Ob W w.heap.size (catL ss k)) => HWR.out w.heap.size k W a c (by omega) hlt HT.out)
        have HNX := Lib.hid (cat_next ss k HS.out)
        have hbz : b.size = tot ss k := by rw [HS.out, str_size, catL_length]
        have htk := tot_mono ss (show k + 1 ≤ n by omega)
        have hxz : tot ss (k + 1) = tot ss k + (ss k).size := rfl
        have HCELL := Lib.hid hcell
        generalize ss k = x at *
        have ht' := HT.out
        have hplus : (9223372036854775807 < b.size + x.size) = False := by simp; omega
        have hsz2 : (b ++ x).size = tot ss (k + 1) := by rw [HNX.out, str_size, catL_length]
        have HSZ := Lib.hid hsz2
        clear hcs hcell hbz htk hxz hsz2 ht'
        go_wp2_with fail
        refine (HWK.out _ HK2.out HO2.out).mono ?_
        rintro e w3 ⟨rfl, hob, hg⟩
        have HO3 := Lib.hid hob
        have HK3 := Lib.hid (HK2.out.only hg (by omega))
        have HB3 := Lib.hid (below_but HB2.out hg (Nat.le_refl _) HB2.out.size)
        have c2 := (HB3.out.cell (p := ⟨g0, o + k, none⟩) hg0).trans HCELL.out
        clear hob hg c1 HO2 HK2 HB2
        go_wp2_with fail
        generalize b ++ x = b2 at *
        have hsz3 := HSZ.out
        clear hplus
        refine (HLE.out _ (k + 1) _ HO3.out).mono ?_
        rintro e w4 ⟨rfl, rfl⟩
        have HHK := Lib.hid (HHX.out w.heap.size (k + 1) _ HK3.out HO3.out hlt HT.out)
        have HRK := Lib.hid (fun W => HRH.out (k + 1) b2 W HNX.out hlt HT.out)
        have hbl : b2.data.toList = catL ss (k + 1) := by rw [HNX.out, str_toList]
        rw [hbl] at HRK
        generalize str (hexL (catL ss (k + 1))) = y at *
        generalize tot ss (k + 1) = t1 at *
        clear hbl
        go_wp2_with fail
        refine HHK.out.mono ?_
        rintro e w5 ⟨rfl, hb⟩
        have HK5 := Lib.hid (HK3.out.kept hb)
        have HB5 := Lib.hid (HB3.out.trans (hb.mono HB3.out.size))
        have HO5 := Lib.hid (HO3.out.kept hb)
        clear hb
        go_wp2_with fail
        refine (HRK.out _).mono ?_
        rintro e w6 ⟨rfl, hb⟩
        have HK6 := Lib.hid (HK5.out.kept hb)
        have HB6 := Lib.hid (HB5.out.trans (hb.mono HB5.out.size))
        have HO6 := Lib.hid (HO5.out.kept hb)
        clear hb
        go_wp2_with fail
        go_roundw
        case rel => exact ⟨k + 1, b2, by omega, by go_num, rfl, HNX, HO6, HK6, HB6⟩
        case measure => simp [intOf]; omega
      · obtain rfl : k = n := by omega
        have hdk : decide ((k : Int) < (k : Int)) = false := by simp
        go_wp2_with fail
        refine (lives_any _ HK2.out).mono ?_
        rintro e w9 ⟨rfl, hb9⟩
        go_wp2_with fail
        go_ret
        exact ⟨rfl, HB2.out.trans (hb9.mono HB2.out.size)⟩

set_option maxRecDepth 100000 in
theorem lifted (os : Os) (started : os.Started) (H : Type) (enc : TypeId × Value → H) :
    ReturnsInHanded {} Tryd.checked os 5 .any (fun w args => (Rows.digestObjectsSpec.pre enc Tryd.prog Tryd.f5 [] false w args ∧ laidMetH Tryd.prog laidL w) ∧ sizedMet enc Tryd.prog Tryd.f5 (OpenSpec.ofChange Rows.digestObjectsSpec) false w args) (Rows.digestObjectsSpec.post enc Tryd.prog Tryd.f5 false true false false) := by
  refine returnsInHanded_of_change_and (C := Tryd.checked) (X := fun w _ => laidMetH Tryd.prog laidL w) (fun _ _ _ hh h => h.of_heap hh) own started (by kernel_rfl) Tryd.func5
    (ChangeSpec.witness_shaped (enc := enc) (C := Tryd.checked) (os := os) (X := fun w _ => laidMetH Tryd.prog laidL w) false (World.doorLaid Tryd.prog 400 os) #[.slice none 0 0] 8 rfl (World.shaped_of_RefB (by kernel_rfl) (by kernel_rfl)) (by kernel_rfl) (by kernel_rfl) (by kernel_rfl) (door_met os _)) ?_
  intro W base args ds gs before hval0 hW _ _ hL _
  have hval : ∀ (j : Nat) t v, Tryd.f5.params[j]? = some t → args[j]? = some v → Value.okWide Tryd.prog W .any base t v := hval0
  have hW' := hW
  obtain ⟨p, q, hA0, hV, rfl, hfz, hnd⟩ := hW
  have hA : DataW.TrodAll enc Tryd.prog W 0 (fun _ => true) true Tryd.f5.params.toList args.toList ds p := hA0
  rw [Tryd.params5] at hA hval
  obtain ⟨v0, vs0, d0, ds0, p0, q0, hargs, rfl, rfl, h0, r0⟩ := trodAll_cons hA
  obtain ⟨rfl, rfl, rfl⟩ := trodAll_nil r0
  obtain rfl : args = #[v0] := by cases args; simp_all
  obtain ⟨rfl, rfl⟩ := trodVars_none hV
  obtain ⟨a0, len0, cap0, rfl⟩ := okWide_slice Tryd.underlying32 (hval 0 32 v0 rfl rfl)
  have k0 := h0
  have lt0 : ∀ x ∈ p0, x.block < W.heap.size := by obtain ⟨m, hm⟩ := k0; exact DataW.trod_lt m _ _ _ hm
  obtain ⟨ss, w0, w1⟩ := in_strs h0
  clear hA0 hval0
  refine (walk a0 len0 cap0 ss W (tied_of_laid hL) w0 w1).mono fun e W' ⟨he, bel⟩ => ?_
  subst he
  exact ⟨_, rfl, _, _, _, [], _, [], hW', trodAll_mk1 (shut_bool Tryd.underlying4 _), (trodAll_cons_mk (Below.trod laidOut (by kernel_rfl) (of_decide_eq_true (by kernel_rfl)) k0 bel lt0) trodAll_mk0), rfl, bel.frame _, fun h => by cases h⟩

theorem over : Rows.digestObjectsRow.holds Tryd.pinned (OpenSpec.ofChange Rows.digestObjectsSpec) :=
  OpenClaim.holds_of_wide 5 Tryd.f5 rfl rfl rfl rfl rfl rfl rfl ⟨rfl, rfl, rfl, rfl, rfl⟩ rfl rfl rfl rfl rfl (by kernel_rfl) Tryd.func5 (by kernel_rfl)
    (of_decide_eq_true (by kernel_rfl)) (by unfold Func.isWrapper; first | (rw [if_pos (by decide +kernel)]; kernel_rfl) | (rw [if_neg (by decide +kernel)]; exact ⟨rfl, rfl⟩))
    (fun os started H enc _ => lifted os started H enc)

theorem bare : Rows.DigestObjectsSaid := over

/-- The tied card. -/
theorem proved : Rows.DigestObjectsCardSaid :=
  Claim7.holds_tied_plain_at .later [] _ true _ false
    bare (fun _ h => by cases h) (by kernel_rfl) (fun _ h => by cases h) digestObjects_row_tie rfl ⟨rfl, rfl⟩ (by kernel_rfl) rfl
    (fun f fn hf hfn => by
      obtain rfl : f = 5 := Option.some.inj ((show Tryd.prog.funcNamed "intrusion/intrusionlaw03.DigestObjects" = some 5 by kernel_rfl).symm.trans hf) |>.symm
      obtain rfl : fn = Tryd.f5 := (Option.some.inj (Tryd.func5.symm.trans hfn)).symm
      exact ⟨by kernel_rfl, fun j t ht => by
        rw [Tryd.params5] at ht
        have hm : t ∈ [32] := by simpa using Array.mem_of_getElem? ht
        have hall : ([32].all fun u => !Tryd.prog.wantsStandIn u) = true := by kernel_rfl
        exact (show Tryd.prog.wantsStandIn t = false by simpa using List.all_eq_true.1 hall t hm)⟩)
    (by kernel_rfl)
#print axioms proved

end Go.Proofs.YtbejdfjioanjlaaDoor.digestObjects
