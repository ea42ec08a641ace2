/- Contracts of the program's layer 6: Parse, ParsePrefix. -/
import Derived.Test.YtcblgbonijloiaaDoorAdqP6
import Derived.Test.YtcblgbonijloiaaDoorAdqPfx
import Derived.Test.YtcblgbonijloiaaDoorAdqCont
namespace Go.Proofs.YtcblgbonijloiaaDoor
open Go.ChangeShapes Go.WideShapes Go.ChangeAt Go.RowKit
set_option linter.unusedVariables false

/-- What Parse answers. -/
def pRes (s : By) : Value := if 64 < s.length then .tuple #[.agg #[.bool false, .int .u64 0, .int .u64 0], .int .i64 3] else adRes (prs s)
set_option maxHeartbeats 1000000 in
set_option maxRecDepth 20000 in
theorem qparse_any (s : ByteArray) (w : World) (hs : s.size ≤ 900) (ht : TW w) :
    Calls Tryd.prog 11 #[.string s] w fun e w' => e = .returned (pRes s.data.toList) ∧ Below w.heap.size w w' := by
  have hlen := toList_length6 s
  obtain ⟨W0, hW0⟩ : ∃ W0, W0 = w.alloc (.cells #[.bool false, .int .u64 0, .int .u64 0] 25) := ⟨_, rfl⟩
  have HB0 := Lib.hid (show Below w.heap.size w W0 by rw [hW0]; exact below_alloc6 w _)
  have HX0 := Lib.hid (show AB W0 w.heap.size false 0 0 by rw [hW0]; exact ab_new w false 0 0)
  have HT0 := Lib.hid (show TW W0 from ht.kept (by rw [hW0]; exact below_alloc6 w _))
  by_cases h64 : 64 < s.size
  · have HR := Lib.hid (show pRes s.data.toList = .tuple #[.agg #[.bool false, .int .u64 0, .int .u64 0], .int .i64 3] by unfold pRes; rw [if_pos (by omega)])
    have d : decide ((64 : Int) < (s.size : Int)) = true := by rw [decide_eq_true_eq]; omega
    clear ht HT0 hlen
    go_enter Tryd.func11, Tryd.ntmps11
    go_wp2_with fail
    rw [← hW0]
    exact bodyPost_ret (res_addr2 rfl _ _ rfl HX0.out) rfl ⟨by rw [HR.out]; rfl, HB0.out⟩
  · have hr : pRes s.data.toList = adRes (prs s.data.toList) := by unfold pRes; rw [if_neg (by omega)]
    have d : decide ((64 : Int) < (s.size : Int)) = false := by rw [decide_eq_false_iff_not]; omega
    have HC := Lib.hid (lib_strings_Contains_one s 58 W0)
    rw [has_one] at HC
    have key : ∀ (o : Option (Bool × Nat × Nat)), ∃ v hi lo e, adRes o = .tuple #[.agg #[.bool v, .int .u64 ((hi : Nat) : Int), .int .u64 ((lo : Nat) : Int)], .int .i64 e] := fun o => by
      cases o with
      | none => exact ⟨false, 0, 0, 2, rfl⟩
      | some p => obtain ⟨v, hi, lo⟩ := p; exact ⟨v, hi, lo, 0, rfl⟩
    by_cases hc : (58 : UInt8) ∈ s.data.toList
    · have HP := Lib.hid (qparse6_any s W0 hs HT0.out)
      rw [← prs_colon hc, ← hr] at HP
      obtain ⟨v, hi, lo, er, hv⟩ := key (prs s.data.toList)
      rw [← hr] at hv
      rw [hv] at HP
      have HR := Lib.hid hv
      rw [decide_eq_true hc] at HC
      clear hr hc hv key ht HT0 hlen
      go_enter Tryd.func11, Tryd.ntmps11
      go_wp2_with fail
      rw [← hW0]
      refine HC.out.mono ?_
      rintro e w1 ⟨rfl, hw⟩
      have hw' := hw.symm
      clear hw hW0
      subst hw'
      go_wp2_with fail
      refine HP.out.mono ?_
      rintro e w2 ⟨rfl, hb⟩
      have HB2 := Lib.hid (HB0.out.trans (hb.mono HB0.out.size))
      have HX2 := Lib.hid (HX0.out.kept hb HX0.out.lt)
      clear hb
      have x0 := HX2.out.c0
      have x1 := HX2.out.c1
      have x2 := HX2.out.c2
      have xf0 := HX2.out.f 0
      have xf1 := HX2.out.f 1
      have xf2 := HX2.out.f 2
      go_wp2_with fail
      change bodyPost _ _ _ _ _ (aset w2 w.heap.size v hi lo)
      exact bodyPost_ret (res_addr2 rfl _ _ rfl (HX2.out.set v hi lo)) rfl ⟨by rw [HR.out]; rfl, aset_below HB2.out (Nat.le_refl _) v hi lo⟩
    · have HP := Lib.hid (qparse4_any s W0 (by omega) HT0.out)
      rw [← prs_no_colon hc, ← hr] at HP
      obtain ⟨v, hi, lo, er, hv⟩ := key (prs s.data.toList)
      rw [← hr] at hv
      rw [hv] at HP
      have HR := Lib.hid hv
      rw [decide_eq_false hc] at HC
      clear hr hc hv key ht HT0 hlen
      go_enter Tryd.func11, Tryd.ntmps11
      go_wp2_with fail
      rw [← hW0]
      refine HC.out.mono ?_
      rintro e w1 ⟨rfl, hw⟩
      have hw' := hw.symm
      clear hw hW0
      subst hw'
      go_wp2_with fail
      refine HP.out.mono ?_
      rintro e w2 ⟨rfl, hb⟩
      have HB2 := Lib.hid (HB0.out.trans (hb.mono HB0.out.size))
      have HX2 := Lib.hid (HX0.out.kept hb HX0.out.lt)
      clear hb
      have x0 := HX2.out.c0
      have x1 := HX2.out.c1
      have x2 := HX2.out.c2
      have xf0 := HX2.out.f 0
      have xf1 := HX2.out.f 1
      have xf2 := HX2.out.f 2
      go_wp2_with fail
      change bodyPost _ _ _ _ _ (aset w2 w.heap.size v hi lo)
      exact bodyPost_ret (res_addr2 rfl _ _ rfl (HX2.out.set v hi lo)) rfl ⟨by rw [HR.out]; rfl, aset_below HB2.out (Nat.le_refl _) v hi lo⟩
end Go.Proofs.YtcblgbonijloiaaDoor
