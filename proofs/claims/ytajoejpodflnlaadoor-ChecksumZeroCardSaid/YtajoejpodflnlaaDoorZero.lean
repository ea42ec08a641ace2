/- ChecksumZero holds: for every string the law that a string of even length with its checksum has the Sum 0 returns true and leaves memory as it was; the table of shifts is tied to the program's text. No other condition. -/
import Derived.Test.YtajoejpodflnlaaDoorAwk02
import Derived.Test.YtajoejpodflnlaaDoorTied02
import Derived.Test.YtajoejpodflnlaaDoorCards
namespace Go.Proofs.YtajoejpodflnlaaDoor.checksumZero
open Go.ChangeShapes Go.WideShapes Go.ChangeAt Go.RowKit
open Go.ChangeMaps (open_string shut_string)
set_option linter.unusedVariables false

theorem own : ownKnob Tryd.prog.godebug = none := by kernel_rfl
theorem laidOut : laidOutB Tryd.prog = true := by kernel_rfl

theorem zero_of_csum (s : ByteArray) (h : s.size % 2 = 0) : csum (s ++ str (leL 2 (csum s.data.toList)).reverse).data.toList = 0 := by
  have hle := csum_le s.data.toList
  have e : (s ++ str (leL 2 (csum s.data.toList)).reverse).data.toList = s.data.toList ++ (leL 2 (csum s.data.toList)).reverse := by simp [str]
  have hw : ∀ n, n ≤ 65535 → wsum (leL 2 n).reverse = n := fun n hn => by
    simp only [leL, List.reverse_cons, List.reverse_nil, List.nil_append, List.cons_append, wsum]
    rw [UInt8.toNat_ofNat', UInt8.toNat_ofNat']
    omega
  rw [e]
  unfold csum
  rw [wsum_append _ _ (by simpa using h), hw _ (by omega)]
  have hr := rep_le (wsum s.data.toList)
  have hoc := oc_rep (wsum s.data.toList) (65535 - rep (wsum s.data.toList)) (by omega)
  unfold oc at hoc
  rw [if_neg (by omega)] at hoc
  omega

theorem walk (s : ByteArray) (w : World) (hsh : TiedW w) (hm : s.size ≤ maxLen) :
    Calls Tryd.prog 7 #[.string s] w fun e w' => e = .returned (.bool true) ∧ Below w.heap.size w w' := by
  by_cases hl : 20000 < s.size
  · have H := Lib.hid (fun W => long_yes s W hm hl)
    go_enter Tryd.func7, Tryd.ntmps7
    go_wp2_with fail
    refine (H.out _).mono ?_
    rintro e w1 ⟨rfl, rfl⟩
    go_wp2_with fail
    refine (awake_any _ hsh).mono ?_
    rintro e w9 ⟨rfl, hb9⟩
    go_wp2_with fail
    go_ret
    exact ⟨rfl, hb9⟩
  have hs : s.size ≤ 20000 := by omega
  have H := Lib.hid (fun W => long_no s W hs)
  by_cases ho : s.size % 2 = 1
  · have hd : ((s.size : Int) % 2 == 1) = true := by simp; omega
    go_enter Tryd.func7, Tryd.ntmps7
    go_wp2_with fail
    refine (H.out _).mono ?_
    rintro e w1 ⟨rfl, rfl⟩
    go_wp2_with fail
    refine (awake_any _ hsh).mono ?_
    rintro e w9 ⟨rfl, hb9⟩
    go_wp2_with fail
    go_ret
    exact ⟨rfl, hb9⟩
  have hd : ((s.size : Int) % 2 == 1) = false := by simp; omega
  have hz := zero_of_csum s (by omega)
  have hle := csum_le s.data.toList
  have h1 := fun W => sum_any s W (by omega)
  have h2 := fun W => put_yes (csum s.data.toList : Nat) 2 W (by omega) (by omega) (by omega) (by omega) (by rw [Int.toNat_natCast]; show _ < 65536; omega)
  rw [Int.toNat_natCast, show Int.toNat 2 = 2 from rfl] at h2
  have h3 := fun W => sum_any (s ++ str (leL 2 (csum s.data.toList)).reverse) W (by rw [ByteArray.size_append, str_size, List.length_reverse, leL_length]; omega)
  rw [hz] at h3
  have hcat : (9223372036854775807 < s.size + (str (leL 2 (csum s.data.toList)).reverse).size) = False := by
    rw [str_size, List.length_reverse, leL_length]; simp; omega
  generalize csum s.data.toList = x at *
  generalize str (leL 2 x).reverse = P at *
  have H1 := Lib.hid h1
  have H2 := Lib.hid h2
  have H3 := Lib.hid h3
  clear h1 h2 h3 hz hle
  go_enter Tryd.func7, Tryd.ntmps7
  go_wp2_with fail
  refine (H.out _).mono ?_
  rintro e w1 ⟨rfl, rfl⟩
  go_wp2_with fail
  refine (H1.out _).mono ?_
  rintro e w1 ⟨rfl, rfl⟩
  go_wp2_with fail
  refine (H2.out _).mono ?_
  rintro e w2 ⟨rfl, hb2⟩
  have hs2 := Sh.kept hsh hb2
  go_wp2_with fail
  refine (H3.out _).mono ?_
  rintro e w1 ⟨rfl, rfl⟩
  go_wp2_with fail
  refine (awake_any _ hs2).mono ?_
  rintro e w9 ⟨rfl, hb9⟩
  go_wp2_with fail
  go_ret
  exact ⟨rfl, hb2.trans (hb9.mono hb2.size)⟩

set_option maxRecDepth 100000 in
theorem lifted (os : Os) (started : os.Started) (H : Type) (enc : TypeId × Value → H) :
    ReturnsInHanded {} Tryd.checked os 7 .any (fun w args => (Rows.checksumZeroSpec.pre enc Tryd.prog Tryd.f7 [] false w args ∧ laidMetH Tryd.prog laidL w) ∧ sizedMet enc Tryd.prog Tryd.f7 (OpenSpec.ofChange Rows.checksumZeroSpec) false w args) (Rows.checksumZeroSpec.post enc Tryd.prog Tryd.f7 false true false false) := by
  refine returnsInHanded_of_change_and (C := Tryd.checked) (X := fun w _ => laidMetH Tryd.prog laidL w) (fun _ _ _ hh h => h.of_heap hh) own started (by kernel_rfl) Tryd.func7
    (ChangeSpec.witness_shaped (enc := enc) (C := Tryd.checked) (os := os) (X := fun w _ => laidMetH Tryd.prog laidL w) false (World.doorLaid Tryd.prog 400 os) #[.string ⟨#[]⟩] 8 rfl (World.shaped_of_RefB (by kernel_rfl) (by kernel_rfl)) (by kernel_rfl) (by kernel_rfl) (by kernel_rfl) (door_met os _)) ?_
  intro W base args ds gs before hval0 hW _ _ hL _
  have hval : ∀ (j : Nat) t v, Tryd.f7.params[j]? = some t → args[j]? = some v → Value.okWide Tryd.prog W .any base t v := hval0
  have hW' := hW
  obtain ⟨p, q, hA0, hV, rfl, hfz, hnd⟩ := hW
  have hA : DataW.TrodAll enc Tryd.prog W 0 (fun _ => true) true Tryd.f7.params.toList args.toList ds p := hA0
  rw [Tryd.params7] at hA hval
  obtain ⟨v0, vs0, d0, ds0, p0, q0, hargs, rfl, rfl, h0, r0⟩ := trodAll_cons hA
  obtain ⟨rfl, rfl, rfl⟩ := trodAll_nil r0
  obtain rfl : args = #[v0] := by cases args; simp_all
  obtain ⟨rfl, rfl⟩ := trodVars_none hV
  obtain ⟨a0, rfl, rfl, rfl, w0⟩ := open_string Tryd.underlying9 (hval 0 9 v0 rfl rfl) h0
  clear hA0 hval0
  refine (walk a0 W (tied_of_laid hL) w0).mono fun e W' ⟨he, bel⟩ => ?_
  subst he
  exact ⟨_, rfl, _, _, _, [], _, [], hW', trodAll_mk1 (shut_bool Tryd.underlying4 _), (trodAll_cons_mk (shut_string Tryd.underlying9 w0) trodAll_mk0), rfl, bel.frame _, fun h => by cases h⟩

theorem over : Rows.checksumZeroRow.holds Tryd.pinned (OpenSpec.ofChange Rows.checksumZeroSpec) :=
  OpenClaim.holds_of_wide 7 Tryd.f7 rfl rfl rfl rfl rfl rfl rfl ⟨rfl, rfl, rfl, rfl, rfl⟩ rfl rfl rfl rfl rfl (by kernel_rfl) Tryd.func7 (by kernel_rfl)
    (of_decide_eq_true (by kernel_rfl)) (by unfold Func.isWrapper; first | (rw [if_pos (by decide +kernel)]; kernel_rfl) | (rw [if_neg (by decide +kernel)]; exact ⟨rfl, rfl⟩))
    (fun os started H enc _ => lifted os started H enc)

theorem bare : Rows.ChecksumZeroSaid := over

/-- The tied card. -/
theorem proved : Rows.ChecksumZeroCardSaid :=
  Claim7.holds_tied_plain_at .later [] _ true _ false
    bare (fun _ h => by cases h) (by kernel_rfl) (fun _ h => by cases h) checksumZero_row_tie rfl ⟨rfl, rfl⟩ (by kernel_rfl) rfl
    (fun f fn hf hfn => by
      obtain rfl : f = 7 := Option.some.inj ((show Tryd.prog.funcNamed "intrusion/intrusionlaw02.ChecksumZero" = some 7 by kernel_rfl).symm.trans hf) |>.symm
      obtain rfl : fn = Tryd.f7 := (Option.some.inj (Tryd.func7.symm.trans hfn)).symm
      exact ⟨by kernel_rfl, fun j t ht => by
        rw [Tryd.params7] at ht
        have hm : t ∈ [9] := by simpa using Array.mem_of_getElem? ht
        have hall : ([9].all fun u => !Tryd.prog.wantsStandIn u) = true := by kernel_rfl
        exact (show Tryd.prog.wantsStandIn t = false by simpa using List.all_eq_true.1 hall t hm)⟩)
    (by kernel_rfl)
#print axioms proved

end Go.Proofs.YtajoejpodflnlaaDoor.checksumZero
