/- Small facts for the laws of layer 6; the reference's FromBytes of every length. -/
import Derived.Test.YtcblgbonijloiaaDoorTied06
import Derived.Test.YtcblgbonijloiaaDoorAdrFrom
import Derived.Lib.SmallJoins
namespace Go.Proofs.YtcblgbonijloiaaDoor
open Go.ChangeShapes Go.WideShapes Go.ChangeAt Go.RowKit
set_option linter.unusedVariables false

theorem nat_of_wf6 {n : Int} (h : (Lit.int .u64 n).wf = true) : ∃ k : Nat, n = (k : Int) ∧ k < 18446744073709551616 := by
  have h' : IntKind.u64.min ≤ n ∧ n ≤ IntKind.u64.max := by simpa [Lit.wf] using h
  have h0 : (0 : Int) ≤ n := h'.1
  have h1 : n ≤ 18446744073709551615 := h'.2
  obtain ⟨k, rfl⟩ := Int.eq_ofNat_of_zero_le h0
  exact ⟨k, rfl, by omega⟩
theorem int_of_wf6 {n : Int} (h : (Lit.int .i64 n).wf = true) : -9223372036854775808 ≤ n ∧ n ≤ 9223372036854775807 := by
  have h' : IntKind.i64.min ≤ n ∧ n ≤ IntKind.i64.max := by simpa [Lit.wf] using h
  exact ⟨h'.1, h'.2⟩
set_option maxHeartbeats 1000000 in
set_option maxRecDepth 20000 in
theorem rfrom6_other (s : ByteArray) (w : World) (h4 : s.size ≠ 4) (h16 : s.size ≠ 16) (hs : s.size ≤ 1000) :
    Calls Tryd.prog 30 #[.string s] w fun e w' => e = .returned (.tuple #[.agg #[.bool false, .int .u64 0, .int .u64 0], .int .i64 2]) ∧ Below w.heap.size w w' := by
  have n4 : ¬ (s.size : Int) = 4 := by omega
  have d4 : ((s.size : Int) != 4) = true := by rw [bne_iff_ne]; exact n4
  have n16 : ¬ (s.size : Int) = 16 := by omega
  have d16 : ((s.size : Int) != 16) = true := by rw [bne_iff_ne]; exact n16
  go_enter Tryd.func30, Tryd.ntmps30
  go_wp2_with fail
  exact bodyPost_ret (res_addr2 rfl _ _ rfl (ab_new w false 0 0)) rfl ⟨rfl, below_alloc6 w _⟩
theorem rfrom_any (s : ByteArray) (w : World) (hs : s.size ≤ 1000) :
    Calls Tryd.prog 30 #[.string s] w fun e w' => e = .returned (fbRes s.data.toList) ∧ Below w.heap.size w w' := by
  have hlen := toList_length6 s
  unfold fbRes
  by_cases h4 : s.size = 4
  · rw [if_pos (by omega)]
    refine (rfrom6_false s w h4).mono ?_
    rintro e w' ⟨⟨hi, lo, rfl, hF⟩, hb⟩
    obtain ⟨rfl, e2⟩ := hF
    rw [List.take_of_length_le (by omega)] at e2
    subst e2
    exact ⟨rfl, hb⟩
  · rw [if_neg (by omega)]
    by_cases h16 : s.size = 16
    · rw [if_pos (by omega)]
      refine (rfrom6_true s w h16).mono ?_
      rintro e w' ⟨⟨hi, lo, rfl, hF⟩, hb⟩
      obtain ⟨e1, e2⟩ := hF
      rw [h16, show min 16 8 = 8 by decide] at e1
      rw [List.take_of_length_le (by omega)] at e2
      subst e1 e2
      exact ⟨rfl, hb⟩
    · rw [if_neg (by omega)]
      exact rfrom6_other s w h4 h16 hs
/-- The bytes of what FromBytes made. -/
theorem fb_back4 {l : By} (h : l.length = 4) : adrB false 0 (num l) = l := by
  apply num_inj
  · rw [adrB_length, h]; rfl
  · show num ((leL 4 (num l)).reverse) = _
    have := num_lt l
    rw [h] at this
    rw [num_reverse_leL, Nat.mod_eq_of_lt this]
theorem fb_back6 {l : By} (h : l.length = 16) : adrB true (num (l.take 8)) (num (l.drop 8)) = l := by
  have h1 : (l.take 8).length = 8 := by rw [List.length_take]; omega
  have h2 : (l.drop 8).length = 8 := by rw [List.length_drop]; omega
  have a := leL_reverse_num (l.take 8)
  have b := leL_reverse_num (l.drop 8)
  rw [h1] at a
  rw [h2] at b
  show (leL 8 (num (l.take 8))).reverse ++ (leL 8 (num (l.drop 8))).reverse = l
  rw [a, b, List.take_append_drop]
theorem num8_lt {l : By} (h : l.length ≤ 8) : num l < 18446744073709551616 := by
  have h1 := num_lt l
  have h2 : 256 ^ l.length ≤ 256 ^ 8 := Nat.pow_le_pow_right (by omega) h
  have e : (256 : Nat) ^ 8 = 18446744073709551616 := by decide
  omega
end Go.Proofs.YtcblgbonijloiaaDoor
