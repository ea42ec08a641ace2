/- Contracts of the functions, part 5: AdqParse, AdqHex, AdqZero, AdqF6, AdqFmt, AdqPP, AdqFP, AdqNext, AdqLives, AdrPrs. -/
import Derived.Test.YtcblgbonijloiaaDoorPa3
import Derived.Test.YtcblgbonijloiaaDoorPa4
/- Contracts of the program's layer 6: Parse, ParsePrefix. -/
namespace Go.Proofs.YtcblgbonijloiaaDoor
open Go.ChangeShapes Go.WideShapes Go.ChangeAt Go.RowKit
set_option linter.unusedVariables false

/-- What Parse answers. -/
def pRes (s : By) : Value := if 64 < s.length then .tuple #[.agg #[.bool false, .int .u64 0, .int .u64 0], .int .i64 3] else adRes (prs s)
set_option maxHeartbeats 1000000 in
set_option maxRecDepth 20000 in
theorem qparse_any (s : ByteArray) (w : World) (hs : s.size ≤ 900) (ht : TW w) :
    Calls Tryd.prog 11 #[.string s] w fun e w' => e = .returned (pRes s.data.toList) ∧ Below w.heap.size w w' := by
  have hlen := toList_length6 s
  obtain ⟨W0, hW0⟩ : ∃ W0, W0 = w.alloc (.cells #[.bool false, .int .u64 0, .int .u64 0] 25) := ⟨_, rfl⟩
  have HB0 := Lib.hid (show Below w.heap.size w W0 by rw [hW0]; exact below_alloc6 w _)
  have HX0 := Lib.hid (show AB W0 w.heap.size false 0 0 by rw [hW0]; exact ab_new w false 0 0)
  have HT0 := Lib.hid (show TW W0 from ht.kept (by rw [hW0]; exact below_alloc6 w _))
  by_cases h64 : 64 < s.size
  · have HR := Lib.hid (show pRes s.data.toList = .tuple #[.agg #[.bool false, .int .u64 0, .int .u64 0], .int .i64 3] by unfold pRes; rw [if_pos (by omega)])
    have d : decide ((64 : Int) < (s.size : Int)) = true := by rw [decide_eq_true_eq]; omega
    clear ht HT0 hlen
    go_enter Tryd.func11, Tryd.ntmps11
    go_wp2_with fail
    rw [← hW0]
    exact bodyPost_ret (res_addr2 rfl _ _ rfl HX0.out) rfl ⟨by rw [HR.out]; rfl, HB0.out⟩
  · have hr : pRes s.data.toList = adRes (prs s.data.toList) := by unfold pRes; rw [if_neg (by omega)]
    have d : decide ((64 : Int) < (s.size : Int)) = false := by rw [decide_eq_false_iff_not]; omega
    have HC := Lib.hid (lib_strings_Contains_one s 58 W0)
    rw [has_one] at HC
    have key : ∀ (o : Option (Bool × Nat × Nat)), ∃ v hi lo e, adRes o = .tuple #[.agg #[.bool v, .int .u64 ((hi : Nat) : Int), .int .u64 ((lo : Nat) : Int)], .int .i64 e] := fun o => by
      cases o with
      | none => exact ⟨false, 0, 0, 2, rfl⟩
      | some p => obtain ⟨v, hi, lo⟩ := p; exact ⟨v, hi, lo, 0, rfl⟩
    by_cases hc : (58 : UInt8) ∈ s.data.toList
    · have HP := Lib.hid (qparse6_any s W0 hs HT0.out)
      rw [← prs_colon hc, ← hr] at HP
      obtain ⟨v, hi, lo, er, hv⟩ := key (prs s.data.toList)
      rw [← hr] at hv
      rw [hv] at HP
      have HR := Lib.hid hv
      rw [decide_eq_true hc] at HC
      clear hr hc hv key ht HT0 hlen
      go_enter Tryd.func11, Tryd.ntmps11
      go_wp2_with fail
      rw [← hW0]
      refine HC.out.mono ?_
      rintro e w1 ⟨rfl, hw⟩
      have hw' := hw.symm
      clear hw hW0
      subst hw'
      go_wp2_with fail
      refine HP.out.mono ?_
      rintro e w2 ⟨rfl, hb⟩
      have HB2 := Lib.hid (HB0.out.trans (hb.mono HB0.out.size))
      have HX2 := Lib.hid (HX0.out.kept hb HX0.out.lt)
      clear hb
      have x0 := HX2.out.c0
      have x1 := HX2.out.c1
      have x2 := HX2.out.c2
      have xf0 := HX2.out.f 0
      have xf1 := HX2.out.f 1
      have xf2 := HX2.out.f 2
      go_wp2_with fail
      change bodyPost _ _ _ _ _ (aset w2 w.heap.size v hi lo)
      exact bodyPost_ret (res_addr2 rfl _ _ rfl (HX2.out.set v hi lo)) rfl ⟨by rw [HR.out]; rfl, aset_below HB2.out (Nat.le_refl _) v hi lo⟩
    · have HP := Lib.hid (qparse4_any s W0 (by omega) HT0.out)
      rw [← prs_no_colon hc, ← hr] at HP
      obtain ⟨v, hi, lo, er, hv⟩ := key (prs s.data.toList)
      rw [← hr] at hv
      rw [hv] at HP
      have HR := Lib.hid hv
      rw [decide_eq_false hc] at HC
      clear hr hc hv key ht HT0 hlen
      go_enter Tryd.func11, Tryd.ntmps11
      go_wp2_with fail
      rw [← hW0]
      refine HC.out.mono ?_
      rintro e w1 ⟨rfl, hw⟩
      have hw' := hw.symm
      clear hw hW0
      subst hw'
      go_wp2_with fail
      refine HP.out.mono ?_
      rintro e w2 ⟨rfl, hb⟩
      have HB2 := Lib.hid (HB0.out.trans (hb.mono HB0.out.size))
      have HX2 := Lib.hid (HX0.out.kept hb HX0.out.lt)
      clear hb
      have x0 := HX2.out.c0
      have x1 := HX2.out.c1
      have x2 := HX2.out.c2
      have xf0 := HX2.out.f 0
      have xf1 := HX2.out.f 1
      have xf2 := HX2.out.f 2
      go_wp2_with fail
      change bodyPost _ _ _ _ _ (aset w2 w.heap.size v hi lo)
      exact bodyPost_ret (res_addr2 rfl _ _ rfl (HX2.out.set v hi lo)) rfl ⟨by rw [HR.out]; rfl, aset_below HB2.out (Nat.le_refl _) v hi lo⟩
end Go.Proofs.YtcblgbonijloiaaDoor

/- Contract of strconv.FormatUint at base 16 for numbers of 16 bits. -/
namespace Go.Proofs.YtcblgbonijloiaaDoor
open Go.ChangeShapes Go.WideShapes Go.ChangeAt Go.RowKit
set_option linter.unusedVariables false

theorem hexL_get : ∀ (k n : Nat), n < 16 ^ (k + 1) → (k = 0 ∨ 16 ^ k ≤ n) → (hexL n).length = k + 1 ∧ ∀ j, j < k + 1 → (hexL n)[j]? = some (hexd (n / 16 ^ (k - j) % 16))
  | 0, n, h, _ => by
    have h16 : n < 16 := by simpa using h
    rw [hexL, if_pos (by omega)]
    refine ⟨rfl, fun j hj => ?_⟩
    obtain rfl : j = 0 := by omega
    simp [Nat.mod_eq_of_lt h16]
  | k + 1, n, h, hk => by
    have h1 : 16 ^ (k + 1) ≤ n := by rcases hk with e | e; · omega
                                     · exact e
    have hp : 16 ≤ 16 ^ (k + 1) := by
      have := Nat.pow_le_pow_right (n := 16) (by omega) (show 1 ≤ k + 1 by omega)
      simpa using this
    have h2 : n / 16 < 16 ^ (k + 1) := by rw [Nat.div_lt_iff_lt_mul (by omega), ← Nat.pow_succ]; exact h
    have h3 : k = 0 ∨ 16 ^ k ≤ n / 16 := by
      right
      rw [Nat.le_div_iff_mul_le (by omega), ← Nat.pow_succ]; exact h1
    obtain ⟨ih1, ih2⟩ := hexL_get k (n / 16) h2 h3
    rw [hexL, if_neg (by omega)]
    refine ⟨by rw [List.length_append, ih1]; rfl, fun j hj => ?_⟩
    by_cases hjk : j < k + 1
    · rw [List.getElem?_append_left (by rw [ih1]; exact hjk), ih2 j hjk, Nat.div_div_eq_div_mul, Nat.mul_comm 16, ← Nat.pow_succ, show (k - j).succ = k + 1 - j by omega]
    · obtain rfl : j = k + 1 := by omega
      rw [List.getElem?_append_right (by rw [ih1]; exact Nat.le_refl _), ih1, Nat.sub_self, Nat.pow_zero, Nat.div_one]
      rfl
set_option maxRecDepth 20000 in
theorem lpow2_16 (w : World) : Calls Tryd.prog 112 #[.int .i64 16] w fun e w' => e = .returned (.bool true) ∧ w' = w := by
  have h : bits .and .i64 16 15 = 0 := by decide
  go_enter Tryd.func112, Tryd.ntmps112
  go_wp2_with fail
  go_ret
  exact ⟨rfl, rfl⟩
set_option maxRecDepth 20000 in
theorem ltrail64_16 (w : World) (ht : TW w) : Calls Tryd.prog 116 #[.int .u64 16] w fun e w' => e = .returned (.int .i64 4) ∧ w' = w := by
  have hdb := ht.db
  have h0 : IntKind.u64.wrap (-16) = 18446744073709551600 := by decide
  have h1 : bits .and .u64 16 18446744073709551600 = 16 := by decide
  have h2 : IntKind.u64.wrap (16 * 285870213051353865) = 4573923408821661840 := by decide
  have h3 : IntKind.u64.wrap 4573923408821661840 = 4573923408821661840 := by decide
  go_enter Tryd.func116, Tryd.ntmps116
  go_wp2_with fail
  go_ret
  exact ⟨rfl, rfl⟩
set_option maxRecDepth 20000 in
theorem ltrail_16 (w : World) (ht : TW w) : Calls Tryd.prog 113 #[.int .u64 16] w fun e w' => e = .returned (.int .i64 4) ∧ w' = w := by
  have H := Lib.hid (ltrail64_16 w ht)
  go_enter Tryd.func113, Tryd.ntmps113
  go_wp2_with fail
  refine H.out.mono ?_
  rintro e w2 ⟨rfl, hw⟩
  have hw' := hw.symm
  clear hw
  subst hw'
  go_wp2_with fail
  go_ret
  exact ⟨rfl, rfl⟩
/-- The digits, one by one. -/
theorem dig36 (j : Nat) (h : j < 16) (W : World) : (Instr.index 9 (.string ⟨#[48, 49, 50, 51, 52, 53, 54, 55, 56, 57, 97, 98, 99, 100, 101, 102, 103, 104, 105, 106, 107, 108, 109, 110, 111, 112, 113, 114, 115, 116, 117, 118, 119, 120, 121, 122]⟩) (.int .u64 (j : Int))).run Tryd.prog W = .ok (.int .u8 (((hexd j).toNat : Nat) : Int)) W := by
  have i0 : ∀ V, (Instr.index 9 (.string ⟨#[48, 49, 50, 51, 52, 53, 54, 55, 56, 57, 97, 98, 99, 100, 101, 102, 103, 104, 105, 106, 107, 108, 109, 110, 111, 112, 113, 114, 115, 116, 117, 118, 119, 120, 121, 122]⟩) (.int .u64 0)).run Tryd.prog V = .ok (.int .u8 48) V := fun _ => by kernel_rfl
  have i1 : ∀ V, (Instr.index 9 (.string ⟨#[48, 49, 50, 51, 52, 53, 54, 55, 56, 57, 97, 98, 99, 100, 101, 102, 103, 104, 105, 106, 107, 108, 109, 110, 111, 112, 113, 114, 115, 116, 117, 118, 119, 120, 121, 122]⟩) (.int .u64 1)).run Tryd.prog V = .ok (.int .u8 49) V := fun _ => by kernel_rfl
  have i2 : ∀ V, (Instr.index 9 (.string ⟨#[48, 49, 50, 51, 52, 53, 54, 55, 56, 57, 97, 98, 99, 100, 101, 102, 103, 104, 105, 106, 107, 108, 109, 110, 111, 112, 113, 114, 115, 116, 117, 118, 119, 120, 121, 122]⟩) (.int .u64 2)).run Tryd.prog V = .ok (.int .u8 50) V := fun _ => by kernel_rfl
  have i3 : ∀ V, (Instr.index 9 (.string ⟨#[48, 49, 50, 51, 52, 53, 54, 55, 56, 57, 97, 98, 99, 100, 101, 102, 103, 104, 105, 106, 107, 108, 109, 110, 111, 112, 113, 114, 115, 116, 117, 118, 119, 120, 121, 122]⟩) (.int .u64 3)).run Tryd.prog V = .ok (.int .u8 51) V := fun _ => by kernel_rfl
  have i4 : ∀ V, (Instr.index 9 (.string ⟨#[48, 49, 50, 51, 52, 53, 54, 55, 56, 57, 97, 98, 99, 100, 101, 102, 103, 104, 105, 106, 107, 108, 109, 110, 111, 112, 113, 114, 115, 116, 117, 118, 119, 120, 121, 122]⟩) (.int .u64 4)).run Tryd.prog V = .ok (.int .u8 52) V := fun _ => by kernel_rfl
  have i5 : ∀ V, (Instr.index 9 (.string ⟨#[48, 49, 50, 51, 52, 53, 54, 55, 56, 57, 97, 98, 99, 100, 101, 102, 103, 104, 105, 106, 107, 108, 109, 110, 111, 112, 113, 114, 115, 116, 117, 118, 119, 120, 121, 122]⟩) (.int .u64 5)).run Tryd.prog V = .ok (.int .u8 53) V := fun _ => by kernel_rfl
  have i6 : ∀ V, (Instr.index 9 (.string ⟨#[48, 49, 50, 51, 52, 53, 54, 55, 56, 57, 97, 98, 99, 100, 101, 102, 103, 104, 105, 106, 107, 108, 109, 110, 111, 112, 113, 114, 115, 116, 117, 118, 119, 120, 121, 122]⟩) (.int .u64 6)).run Tryd.prog V = .ok (.int .u8 54) V := fun _ => by kernel_rfl
  have i7 : ∀ V, (Instr.index 9 (.string ⟨#[48, 49, 50, 51, 52, 53, 54, 55, 56, 57, 97, 98, 99, 100, 101, 102, 103, 104, 105, 106, 107, 108, 109, 110, 111, 112, 113, 114, 115, 116, 117, 118, 119, 120, 121, 122]⟩) (.int .u64 7)).run Tryd.prog V = .ok (.int .u8 55) V := fun _ => by kernel_rfl
  have i8 : ∀ V, (Instr.index 9 (.string ⟨#[48, 49, 50, 51, 52, 53, 54, 55, 56, 57, 97, 98, 99, 100, 101, 102, 103, 104, 105, 106, 107, 108, 109, 110, 111, 112, 113, 114, 115, 116, 117, 118, 119, 120, 121, 122]⟩) (.int .u64 8)).run Tryd.prog V = .ok (.int .u8 56) V := fun _ => by kernel_rfl
  have i9 : ∀ V, (Instr.index 9 (.string ⟨#[48, 49, 50, 51, 52, 53, 54, 55, 56, 57, 97, 98, 99, 100, 101, 102, 103, 104, 105, 106, 107, 108, 109, 110, 111, 112, 113, 114, 115, 116, 117, 118, 119, 120, 121, 122]⟩) (.int .u64 9)).run Tryd.prog V = .ok (.int .u8 57) V := fun _ => by kernel_rfl
  have i10 : ∀ V, (Instr.index 9 (.string ⟨#[48, 49, 50, 51, 52, 53, 54, 55, 56, 57, 97, 98, 99, 100, 101, 102, 103, 104, 105, 106, 107, 108, 109, 110, 111, 112, 113, 114, 115, 116, 117, 118, 119, 120, 121, 122]⟩) (.int .u64 10)).run Tryd.prog V = .ok (.int .u8 97) V := fun _ => by kernel_rfl
  have i11 : ∀ V, (Instr.index 9 (.string ⟨#[48, 49, 50, 51, 52, 53, 54, 55, 56, 57, 97, 98, 99, 100, 101, 102, 103, 104, 105, 106, 107, 108, 109, 110, 111, 112, 113, 114, 115, 116, 117, 118, 119, 120, 121, 122]⟩) (.int .u64 11)).run Tryd.prog V = .ok (.int .u8 98) V := fun _ => by kernel_rfl
  have i12 : ∀ V, (Instr.index 9 (.string ⟨#[48, 49, 50, 51, 52, 53, 54, 55, 56, 57, 97, 98, 99, 100, 101, 102, 103, 104, 105, 106, 107, 108, 109, 110, 111, 112, 113, 114, 115, 116, 117, 118, 119, 120, 121, 122]⟩) (.int .u64 12)).run Tryd.prog V = .ok (.int .u8 99) V := fun _ => by kernel_rfl
  have i13 : ∀ V, (Instr.index 9 (.string ⟨#[48, 49, 50, 51, 52, 53, 54, 55, 56, 57, 97, 98, 99, 100, 101, 102, 103, 104, 105, 106, 107, 108, 109, 110, 111, 112, 113, 114, 115, 116, 117, 118, 119, 120, 121, 122]⟩) (.int .u64 13)).run Tryd.prog V = .ok (.int .u8 100) V := fun _ => by kernel_rfl
  have i14 : ∀ V, (Instr.index 9 (.string ⟨#[48, 49, 50, 51, 52, 53, 54, 55, 56, 57, 97, 98, 99, 100, 101, 102, 103, 104, 105, 106, 107, 108, 109, 110, 111, 112, 113, 114, 115, 116, 117, 118, 119, 120, 121, 122]⟩) (.int .u64 14)).run Tryd.prog V = .ok (.int .u8 101) V := fun _ => by kernel_rfl
  have i15 : ∀ V, (Instr.index 9 (.string ⟨#[48, 49, 50, 51, 52, 53, 54, 55, 56, 57, 97, 98, 99, 100, 101, 102, 103, 104, 105, 106, 107, 108, 109, 110, 111, 112, 113, 114, 115, 116, 117, 118, 119, 120, 121, 122]⟩) (.int .u64 15)).run Tryd.prog V = .ok (.int .u8 102) V := fun _ => by kernel_rfl
  have hk : j = 0 ∨ j = 1 ∨ j = 2 ∨ j = 3 ∨ j = 4 ∨ j = 5 ∨ j = 6 ∨ j = 7 ∨ j = 8 ∨ j = 9 ∨ j = 10 ∨ j = 11 ∨ j = 12 ∨ j = 13 ∨ j = 14 ∨ j = 15 := by omega
  rcases hk with rfl | rfl | rfl | rfl | rfl | rfl | rfl | rfl | rfl | rfl | rfl | rfl | rfl | rfl | rfl | rfl
  · exact i0 W
  · exact i1 W
  · exact i2 W
  · exact i3 W
  · exact i4 W
  · exact i5 W
  · exact i6 W
  · exact i7 W
  · exact i8 W
  · exact i9 W
  · exact i10 W
  · exact i11 W
  · exact i12 W
  · exact i13 W
  · exact i14 W
  · exact i15 W
theorem and15 (u : Nat) (h : u < 18446744073709551616) : bits .and .u64 (u : Int) 15 = ((u % 16 : Nat) : Int) := by
  have := u64_and_nat u 15 h (by omega)
  rw [show ((15 : Nat) : Int) = 15 from rfl] at this
  rw [this]
  congr 1
  exact Nat.and_two_pow_sub_one_eq_mod u 4
theorem row65 (w : World) (cs : Array Value) (h : cs = Array.replicate 65 (.int .u8 0)) : (w.alloc (.cells cs 124)).rowIs w.heap.size 124 65 (fun _ => .int .u8 0) := by
  subst h
  refine World.rowIs.congr (World.rowIs_alloc w _ _ (fun _ => .int .u8 0) ?_) (fun i _ => rfl)
  intro i hi
  rw [Array.size_replicate] at hi
  rw [Array.getElem?_replicate, if_pos hi]
theorem zero65 : Tryd.zeroCells124 = Array.replicate 65 (.int .u8 0) := by kernel_rfl
set_option maxHeartbeats 2000000 in
set_option maxRecDepth 40000 in
theorem lbits_any (n : Nat) (w : World) (hn : n < 65536) (ht : TW w) :
    Calls Tryd.prog 101 #[.slice none 0 0, .int .u64 n, .int .i64 16, .bool false, .bool false] w fun e w' => e = .returned (.tuple #[.slice none 0 0, .string (str (hexL n))]) ∧ Below w.heap.size w w' := by
  obtain ⟨W0, hW0⟩ : ∃ W0, W0 = w.alloc (.cells Tryd.zeroCells124 124) := ⟨_, rfl⟩
  have HT0 := Lib.hid (show TW W0 by rw [hW0]; exact ht.kept (below_alloc6 w _))
  have HB0 := Lib.hid (show Below w.heap.size w W0 by rw [hW0]; exact below_alloc6 w _)
  have HR0 := Lib.hid (show W0.rowIs w.heap.size 124 65 (fun _ => .int .u8 0) by rw [hW0]; exact row65 w _ zero65)
  have HIX := Lib.hid (fun j h => dig36 j h)
  have HPW := Lib.hid (fun W => lpow2_16 W)
  have HTR := Lib.hid (fun W h => ltrail_16 W h)
  have HA := Lib.hid (fun u h => and15 u h)
  clear ht
  go_enter Tryd.func101, Tryd.ntmps101
  go_wp2_with fail
  rw [← hW0]
  refine (HPW.out _).mono ?_
  rintro e w1 ⟨rfl, hw⟩
  have hw' := hw.symm
  clear hw hW0
  subst hw'
  go_wp2_with fail
  refine (HTR.out _ HT0.out).mono ?_
  rintro e w1 ⟨rfl, hw⟩
  have hw' := hw.symm
  clear hw
  subst hw'
  go_wp2_with fail
  go_loopw [1, 13] (fun v1 v13 wr => ∃ k u i : Nat, i + k = 65 ∧ k ≤ 4 ∧ v1 = .int .u64 u ∧ v13 = .int .i64 i ∧ u < 65536 ∧ Hid (u = n / 16 ^ k ∧ (k = 0 ∨ 16 ^ k ≤ n)) ∧ wr.rowIs w.heap.size 124 65 (fun x => .int .u8 (if i ≤ x then (((hexd (n / 16 ^ (64 - x) % 16)).toNat : Nat) : Int) else 0)) ∧ Below w.heap.size w wr) (fun v1 v13 _ => (intOf v13).toNat)
  case atStart => exact ⟨0, n, 65, rfl, by omega, rfl, rfl, hn, Lib.hid ⟨by simp, .inl rfl⟩, HR0.out.congr (fun x hx => by rw [if_neg (by omega)]), HB0.out⟩
  case round =>
    clear HR0 HB0
    obtain ⟨k, u, i, hik, hk4, rfl, rfl, hu, HU, hrow, hb⟩ := hrel
    obtain ⟨q, hq⟩ : ∃ q, i = q + 1 := ⟨i - 1, by omega⟩
    have hqi : (i : Int) - 1 = (q : Int) := by omega
    have hq65 : q < 65 := by omega
    have hc := hrow.cell hq65
    rw [if_neg (by omega)] at hc
    have hf := hrow.frozen q
    have HU16 := Lib.hid (show n / 16 ^ (64 - q) % 16 = u % 16 by rw [HU.out.1, show 64 - q = k by omega])
    have hq0 : (0 : Int) ≤ (q : Int) := by omega
    have hq1 : (q : Int) < 65 := by omega
    have HIK := Lib.hid (show i = q + 1 ∧ i + k = 65 from ⟨hq, hik⟩)
    by_cases h16 : 16 ≤ u
    · have d16 : decide ((16 : Int) ≤ (u : Int)) = true := by rw [decide_eq_true_eq]; omega
      have hand := HA.out u (by omega)
      have hix := HIX.out (u % 16) (by omega)
      obtain ⟨u1, hu1⟩ : ∃ u1, u1 = u / 16 := ⟨_, rfl⟩
      have hu1i : (u : Int) / 16 = (u1 : Int) := by omega
      have hu1j : (u : Int) / 2 ^ 4 = (u1 : Int) := by omega
      have hu1b : u1 < 65536 := by omega
      have HN := Lib.hid (show u1 = n / 16 ^ (k + 1) ∧ (k + 1 = 0 ∨ 16 ^ (k + 1) ≤ n) from ⟨by rw [hu1, HU.out.1, Nat.div_div_eq_div_mul, ← Nat.pow_succ], .inr (by
        have := HU.out.1
        rw [this, Nat.le_div_iff_mul_le (Nat.two_pow_pos 0 |> fun _ => Nat.pow_pos (by omega)), Nat.mul_comm, ← Nat.pow_succ] at h16
        exact h16)⟩)
      have hk3 : k + 1 ≤ 4 := by
        have h1 := HN.out.2.resolve_left (by omega)
        apply Decidable.byContradiction
        intro hc
        obtain rfl : k = 4 := by omega
        have e : (16 : Nat) ^ (4 + 1) = 1048576 := by decide
        omega
      obtain ⟨j, hj⟩ : ∃ j, j = u % 16 := ⟨_, rfl⟩
      rw [← hj] at hand hix HU16
      generalize hd : hexd j = d at *
      have HD := Lib.hid hd
      clear hj hu1 hq hik hd
      go_wp2_with fail
      exact ⟨⟨k + 1, u1, q, by have := HIK.out; omega, hk3, rfl, rfl, hu1b, HN, (hrow.set q _).congr (fun x hx => by
        have := HIK.out
        by_cases e : x = q
        · subst e
          rw [if_pos rfl, if_pos (by omega), HU16.out, HD.out]
        · rw [if_neg e]
          by_cases e2 : i ≤ x
          · rw [if_pos e2, if_pos (by omega)]
          · rw [if_neg e2, if_neg (by omega)]), hb.setCell (Nat.le_refl _) _⟩, by have := HIK.out; simp [intOf]; omega⟩
    · have d16 : decide ((16 : Int) ≤ (u : Int)) = false := by rw [decide_eq_false_iff_not]; omega
      have d16n : ¬ 16 ≤ u := h16
      have hix := HIX.out u (by omega)
      have HX := Lib.hid (hexL_get k n (by
        have e := HU.out.1
        rw [e] at h16
        rw [Nat.pow_succ]
        apply Decidable.byContradiction
        intro hc
        apply h16
        rw [Nat.le_div_iff_mul_le (Nat.pow_pos (by omega)), Nat.mul_comm]
        omega) HU.out.2)
      have HUM := Lib.hid (show n / 16 ^ (64 - q) % 16 = u by rw [HU16.out]; omega)
      generalize hd : hexd u = d at *
      have HD := Lib.hid hd
      clear hq hik hd HU HU16
      have hrow2 := hrow.set q (.int .u8 (d.toNat : Nat))
      have hb2 := hb.setCell (p := ⟨w.heap.size, q, none⟩) (Nat.le_refl _) (.int .u8 (d.toNat : Nat))
      obtain ⟨m, hm⟩ : ∃ m, m = k + 1 := ⟨_, rfl⟩
      have hqm : q + m = 65 := by have := HIK.out; omega
      have hl : (hexL n).length = m := by rw [HX.out.1, hm]
      have hbs : BS (wr.setCell ⟨w.heap.size, q, none⟩ (.int .u8 (d.toNat : Nat))) w.heap.size (.slice (some ⟨w.heap.size, q, none⟩) (hexL n).length m) (hexL n) := by
        refine ⟨some ⟨w.heap.size, q, none⟩, m, rfl, by omega, fun _ => ⟨w.heap.size, q, rfl, Nat.le_refl _, hrow2.lt, fun x hx => ?_⟩⟩
        have hx65 : q + x < 65 := by omega
        refine ⟨?_, hrow2.frozen (q + x)⟩
        rw [hrow2.cell hx65]
        have hg := HX.out.2 x (by omega)
        rw [List.getElem?_eq_getElem hx] at hg
        rw [Option.some.inj hg]
        by_cases e : x = 0
        · subst e
          rw [if_pos (by omega)]
          have e1 : k - 0 = 64 - q := by omega
          rw [e1, HUM.out, HD.out]
        · rw [if_neg (by omega), if_pos (by have := HIK.out; omega), show 64 - (q + x) = k - x by omega]
      have hcv := bs_string hbs
      rw [hl] at hcv
      have hmi : (65 : Int) - (q : Int) = (m : Int) := by omega
      have hmn : 65 - q = m := by omega
      have hq65i : (q : Int) ≤ 65 := by omega
      clear hbs hm hl hrow2
      have HB2 := Lib.hid hb2
      go_wp2_with fail
      go_ret2
      exact ⟨rfl, HB2.out⟩
set_option maxRecDepth 20000 in
theorem lfmti_any (n : Nat) (w : World) (hn : n < 65536) (ht : TW w) :
    Calls Tryd.prog 85 #[.int .u64 n, .int .i64 16] w fun e w' => e = .returned (.string (str (hexL n))) ∧ Below w.heap.size w w' := by
  have H := Lib.hid (lbits_any n w hn ht)
  go_enter Tryd.func85, Tryd.ntmps85
  go_wp2_with fail
  refine H.out.mono ?_
  rintro e w2 ⟨rfl, hb⟩
  have HB := Lib.hid hb
  go_wp2_with fail
  go_ret
  exact ⟨rfl, HB.out⟩
set_option maxRecDepth 20000 in
/-- strconv.FormatUint(n, 16). -/
theorem lfmt_any (n : Nat) (w : World) (hn : n < 65536) (ht : TW w) :
    Calls Tryd.prog 72 #[.int .u64 n, .int .i64 16] w fun e w' => e = .returned (.string (str (hexL n))) ∧ Below w.heap.size w w' := by
  have H := Lib.hid (lfmti_any n w hn ht)
  go_enter Tryd.func72, Tryd.ntmps72
  go_wp2_with fail
  refine H.out.mono ?_
  rintro e w2 ⟨rfl, hb⟩
  have HB := Lib.hid hb
  go_wp2_with fail
  go_ret
  exact ⟨rfl, HB.out⟩
/-- Join, as the walks use it. -/
theorem pjoin6 (g o cap : Nat) (L : List By) (c : UInt8) (w : World) (hg : g < w.heap.size) (hcells : ∀ (j : Nat) p, L[j]? = some p → w.cell? ⟨g, o + j, none⟩ = some (.string (str p))) (hcap : L.length ≤ cap) (hN : L.length ≤ 1000) (hlen : (joinC c L).length ≤ 100000) :
    Calls Tryd.prog 54 #[.slice (some ⟨g, o, none⟩) L.length cap, .string ⟨#[c]⟩] w fun e w' => e = .returned (.string (str (joinC c L))) ∧ Below w.heap.size w w' := by
  have hm : (L.map str).map (·.data.toList) = L := by
    rw [List.map_map]
    exact (List.map_congr_left (fun p _ => str_toList p)).trans (List.map_id L)
  have hl : (L.map str).length = L.length := List.length_map ..
  have h := lib_strings_Join g o cap (L.map str) ⟨#[c]⟩ w (fun j x hx => by
    rw [List.getElem?_map] at hx
    cases hq : L[j]? with
    | none => rw [hq] at hx; cases hx
    | some p =>
      rw [hq] at hx
      obtain rfl := Option.some.inj hx
      exact hcells j p hq) hg (by rw [hl]; omega) (by rw [hl]; exact hcap) (by rw [hm, byte_str, join_joinC]; omega)
  rw [hm, byte_str, join_joinC, hl] at h
  exact h
/-- Itoa, as the walks use it. -/
theorem pitoa6 (n : Nat) (w : World) (hn : n < 1000000) (ht : TW w) :
    Calls Tryd.prog 53 #[.int .i64 n] w fun e w' => e = .returned (.string (str (numL n))) ∧ Below w.heap.size w w' := by
  refine (lib_strconv_Itoa n (by omega) (by omega) w ht.p10).mono ?_
  rintro e w' ⟨rfl, k, os, rfl⟩
  refine ⟨by rw [itoa_num]; rfl, ?_⟩
  refine ⟨rfl, rfl, rfl, ?_, fun j hj => ?_⟩
  · show w.heap.size ≤ (w.heap ++ os).size
    rw [Array.size_append]; omega
  · show (w.heap ++ os)[j]? = w.heap[j]?
    rw [Array.getElem?_append_left hj]
end Go.Proofs.YtcblgbonijloiaaDoor

/- Contract of the program's layer 6: zeroRun. -/
namespace Go.Proofs.YtcblgbonijloiaaDoor
open Go.ChangeShapes Go.WideShapes Go.ChangeAt Go.RowKit
set_option linter.unusedVariables false

/-- Where the run that is left out begins and ends, as the program counts. -/
def runFT (r : Option Nat × Nat) : Nat × Nat := match r.1 with
  | none => (0, 0)
  | some f => (f, f + r.2)
theorem hexL_is0 (n : Nat) : (hexL n == [48]) = decide (n = 0) := by
  by_cases h : n = 0
  · subst h
    rw [hexL]; rfl
  · rw [decide_eq_false h, beq_eq_false_iff_ne]
    intro e
    have h2 := hexGo_hex n
    rw [e] at h2
    have h3 : hexGo 0 [48] = some 0 := by decide
    rw [h3] at h2
    exact h (Option.some.inj h2).symm
theorem zeros_step {l : List Nat} {e : Nat} (h : e < l.length) (h0 : l[e] = 0) : zeros (l.drop e) = zeros (l.drop (e + 1)) + 1 := by
  rw [List.drop_eq_getElem_cons h, h0, zeros]
theorem zeros_stop {l : List Nat} {e : Nat} (h : e < l.length) (h0 : l[e] ≠ 0) : zeros (l.drop e) = 0 := by
  rw [List.drop_eq_getElem_cons h]
  cases hq : l[e] with
  | zero => exact absurd hq h0
  | succ n => rfl
theorem best_hit {l : List Nat} {k q : Nat} {at_ : Option Nat} {most : Nat} (hk : k < l.length) (hz : zeros (l.drop k) = q) (h : most < q) : bestGo (l.drop k) k at_ most = bestGo (l.drop (k + 1)) (k + 1) (some k) q := by
  rw [List.drop_eq_getElem_cons hk] at hz ⊢
  rw [bestGo, hz, if_pos h]
theorem best_miss {l : List Nat} {k q : Nat} {at_ : Option Nat} {most : Nat} (hk : k < l.length) (hz : zeros (l.drop k) = q) (h : ¬ most < q) : bestGo (l.drop k) k at_ most = bestGo (l.drop (k + 1)) (k + 1) at_ most := by
  rw [List.drop_eq_getElem_cons hk] at hz ⊢
  rw [bestGo, hz, if_neg h]
set_option maxHeartbeats 1000000 in
set_option maxRecDepth 20000 in
theorem qzero_any (l : List Nat) (g cap : Nat) (w : World) (hl : l.length ≤ 1000) (hcell : ∀ (i : Nat) (n : Nat), l[i]? = some n → w.cell? ⟨g, i, none⟩ = some (.string (str (hexL n)))) :
    Calls Tryd.prog 73 #[.slice (some ⟨g, 0, none⟩) l.length cap] w fun e w' => e = .returned (.tuple #[.int .i64 ((runFT (best l)).1 : Nat), .int .i64 ((runFT (best l)).2 : Nat)]) ∧ w' = w := by
  obtain ⟨F, hF⟩ : ∃ F, F = (runFT (best l)).1 := ⟨_, rfl⟩
  obtain ⟨T, hT⟩ : ∃ T, T = (runFT (best l)).2 := ⟨_, rfl⟩
  rw [← hF, ← hT]
  have HC := Lib.hid hcell
  have H0 := Lib.hid (show F = (runFT (bestGo (l.drop 0) 0 none 1)).1 ∧ T = (runFT (bestGo (l.drop 0) 0 none 1)).2 from ⟨hF, hT⟩)
  obtain ⟨n, hn⟩ : ∃ n, n = l.length := ⟨_, rfl⟩
  rw [← hn] at hl ⊢
  have HN := Lib.hid hn
  clear hF hT hcell hn
  go_enter Tryd.func73, Tryd.ntmps73
  go_wp2_with fail
  go_loop [2, 3, 8] (fun v2 v3 v8 => ∃ k f t : Nat, ∃ at_ : Option Nat, ∃ most : Nat, k ≤ n ∧ v2 = .int .i64 f ∧ v3 = .int .i64 t ∧ v8 = .int .i64 k ∧ f ≤ t ∧ t ≤ n ∧ Hid (F = (runFT (bestGo (l.drop k) k at_ most)).1 ∧ T = (runFT (bestGo (l.drop k) k at_ most)).2 ∧ (f, t) = runFT (at_, most) ∧ most = max (t - f) 1)) (fun _ _ v8 => n - (intOf v8).toNat)
  case atStart => exact ⟨0, 0, 0, none, 1, Nat.zero_le _, rfl, rfl, rfl, Nat.le_refl _, Nat.zero_le _, Lib.hid ⟨H0.out.1, H0.out.2, rfl, rfl⟩⟩
  case round =>
    clear H0
    obtain ⟨k, f, t, at_, most, hk, rfl, rfl, rfl, hft, htn, HS⟩ := hrel
    obtain ⟨k1, hk1⟩ : ∃ k1, k1 = k + 1 := ⟨_, rfl⟩
    have k1i : (k : Int) + 1 = (k1 : Int) := by omega
    obtain ⟨dd, hdd⟩ : ∃ dd, dd = t - f := ⟨_, rfl⟩
    have hddi : (t : Int) - (f : Int) = (dd : Int) := by omega
    obtain ⟨M, hM⟩ : ∃ M, M = max dd 1 := ⟨_, rfl⟩
    have hMi : max (dd : Int) 1 = (M : Int) := by omega
    by_cases hlt : k < n
    · have dlt : decide ((k : Int) < (n : Int)) = true := by simp; omega
      have hlti : (k : Int) < (n : Int) := by omega
      have HK1 := Lib.hid (show k1 = k + 1 ∧ k1 ≤ n from ⟨hk1, by omega⟩)
      have HM := Lib.hid (show M = most by rw [HS.out.2.2.2, hM, hdd])
      clear hk1 hM hdd
      go_wp2_with fail
      go_loop [5] (fun v5 => ∃ e : Nat, k ≤ e ∧ e ≤ n ∧ v5 = .int .i64 e ∧ Hid (zeros (l.drop k) = (e - k) + zeros (l.drop e))) (fun v5 => n - (intOf v5).toNat)
      case atStart => exact ⟨k, Nat.le_refl _, hk, rfl, Lib.hid (by omega)⟩
      case round =>
        obtain ⟨e, hke, hen, rfl, HZ⟩ := hrel
        obtain ⟨e1, he1⟩ : ∃ e1, e1 = e + 1 := ⟨_, rfl⟩
        have e1i : (e : Int) + 1 = (e1 : Int) := by omega
        by_cases hel : e < n
        · have del : decide ((e : Int) < (n : Int)) = true := by simp; omega
          have heli : (e : Int) < (n : Int) := by omega
          have he0 : (0 : Int) ≤ (e : Int) := by omega
          have hell : e < l.length := by have := HN.out; omega
          have hc := HC.out e l[e] (List.getElem?_eq_getElem hell)
          have hs : ((str (hexL l[e])).toList == [48]) = decide (l[e] = 0) := by
            rw [(ByteArray.toList_eq _).trans (str_toList _)]; exact hexL_is0 _
          by_cases hz : l[e] = 0
          · rw [decide_eq_true hz] at hs
            have HZ2 := Lib.hid (show zeros (l.drop k) = (e1 - k) + zeros (l.drop e1) by rw [HZ.out, zeros_step hell hz, he1]; omega)
            have HE1 := Lib.hid (show e1 = e + 1 ∧ e1 ≤ n from ⟨he1, by omega⟩)
            clear hz he1 HZ
            generalize str (hexL l[e]) = S at *
            go_wp2_with fail
            go_round
            case rel => have := HE1.out; exact ⟨e1, by omega, by omega, by go_num, HZ2⟩
            case measure => have := HE1.out; simp [intOf]; omega
          · rw [decide_eq_false hz] at hs
            have HZ2 := Lib.hid (show zeros (l.drop k) = e - k by rw [HZ.out, zeros_stop hell hz]; omega)
            clear hz HZ
            generalize str (hexL l[e]) = S at *
            obtain ⟨q, hq⟩ : ∃ q, q = e - k := ⟨_, rfl⟩
            have hqi : (e : Int) - (k : Int) = (q : Int) := by omega
            have hkl : k < l.length := by have := HN.out; omega
            have hzq : zeros (l.drop k) = q := by rw [HZ2.out, hq]
            by_cases hM : M < q
            · have dM : decide ((M : Int) < (q : Int)) = true := by rw [decide_eq_true_eq]; omega
              have hb := best_hit (at_ := at_) (most := most) hkl hzq (by rw [← HM.out]; exact hM)
              have HS2 := Lib.hid (show F = (runFT (bestGo (l.drop k1) k1 (some k) q)).1 ∧ T = (runFT (bestGo (l.drop k1) k1 (some k) q)).2 ∧ (k, e) = runFT (some k, q) ∧ q = max (e - k) 1 by
                rw [HK1.out.1, ← hb]
                exact ⟨HS.out.1, HS.out.2.1, by show (k, e) = (k, k + q); rw [show k + q = e by omega], by have := HM.out; have := HS.out.2.2.2; omega⟩)
              clear hq hb hzq HS HZ2 he1
              go_wp2_with fail
              exact ⟨⟨k1, k, e, some k, q, HK1.out.2, rfl, rfl, rfl, hke, hen, HS2⟩, by have := HK1.out; simp [intOf]; omega⟩
            · have dM : decide ((M : Int) < (q : Int)) = false := by rw [decide_eq_false_iff_not]; omega
              have hb := best_miss (at_ := at_) (most := most) hkl hzq (by rw [← HM.out]; exact hM)
              have HS2 := Lib.hid (show F = (runFT (bestGo (l.drop k1) k1 at_ most)).1 ∧ T = (runFT (bestGo (l.drop k1) k1 at_ most)).2 ∧ (f, t) = runFT (at_, most) ∧ most = max (t - f) 1 by
                rw [HK1.out.1, ← hb]
                exact HS.out)
              clear hq hb hzq HS HZ2 he1
              go_wp2_with fail
              exact ⟨⟨k1, f, t, at_, most, HK1.out.2, rfl, rfl, rfl, hft, htn, HS2⟩, by have := HK1.out; simp [intOf]; omega⟩
        · obtain rfl : e = n := by omega
          have del : decide ((e : Int) < (e : Int)) = false := by simp
          have HZ2 := Lib.hid (show zeros (l.drop k) = e - k by rw [HZ.out, List.drop_of_length_le (l := l) (by have := HN.out; omega)]; rfl)
          clear HZ
          obtain ⟨q, hq⟩ : ∃ q, q = e - k := ⟨_, rfl⟩
          have hqi : (e : Int) - (k : Int) = (q : Int) := by omega
          have hkl : k < l.length := by have := HN.out; omega
          have hzq : zeros (l.drop k) = q := by rw [HZ2.out, hq]
          by_cases hM : M < q
          · have dM : decide ((M : Int) < (q : Int)) = true := by rw [decide_eq_true_eq]; omega
            have hb := best_hit (at_ := at_) (most := most) hkl hzq (by rw [← HM.out]; exact hM)
            have HS2 := Lib.hid (show F = (runFT (bestGo (l.drop k1) k1 (some k) q)).1 ∧ T = (runFT (bestGo (l.drop k1) k1 (some k) q)).2 ∧ (k, e) = runFT (some k, q) ∧ q = max (e - k) 1 by
              rw [HK1.out.1, ← hb]
              exact ⟨HS.out.1, HS.out.2.1, by show (k, e) = (k, k + q); rw [show k + q = e by omega], by have := HM.out; have := HS.out.2.2.2; omega⟩)
            clear hq hb hzq HS HZ2 he1
            go_wp2_with fail
            exact ⟨⟨k1, k, e, some k, q, HK1.out.2, rfl, rfl, rfl, hke, hen, HS2⟩, by have := HK1.out; simp [intOf]; omega⟩
          · have dM : decide ((M : Int) < (q : Int)) = false := by rw [decide_eq_false_iff_not]; omega
            have hb := best_miss (at_ := at_) (most := most) hkl hzq (by rw [← HM.out]; exact hM)
            have HS2 := Lib.hid (show F = (runFT (bestGo (l.drop k1) k1 at_ most)).1 ∧ T = (runFT (bestGo (l.drop k1) k1 at_ most)).2 ∧ (f, t) = runFT (at_, most) ∧ most = max (t - f) 1 by
              rw [HK1.out.1, ← hb]
              exact HS.out)
            clear hq hb hzq HS HZ2 he1
            go_wp2_with fail
            exact ⟨⟨k1, f, t, at_, most, HK1.out.2, rfl, rfl, rfl, hft, htn, HS2⟩, by have := HK1.out; simp [intOf]; omega⟩
    · obtain rfl : k = n := by omega
      have dlt : decide ((k : Int) < (k : Int)) = false := by simp
      have hs := HS.out
      rw [List.drop_of_length_le (by have := HN.out; omega)] at hs
      obtain ⟨s1, s2, s3, s4⟩ := hs
      have e1 : F = (runFT (at_, most)).1 := s1
      have e2 : T = (runFT (at_, most)).2 := s2
      rw [← s3] at e1 e2
      have HF := Lib.hid (show f = F ∧ t = T from ⟨e1.symm, e2.symm⟩)
      clear s1 s2 s3 s4 e1 e2 HS hM hMi hdd hk1
      go_wp2_with fail
      go_ret2
      exact ⟨by rw [← HF.out.1, ← HF.out.2]; rfl, rfl⟩
end Go.Proofs.YtcblgbonijloiaaDoor

/- Contract of the program's layer 6: format6. -/
namespace Go.Proofs.YtcblgbonijloiaaDoor
open Go.ChangeShapes Go.WideShapes Go.ChangeAt Go.RowKit
set_option linter.unusedVariables false

theorem gbytes_at {l : List Nat} {k : Nat} (h : k < l.length) (hl : ∀ n ∈ l, n < 65536) : num (((gbytes l).drop (2 * k)).take 2) = l[k] := by
  have e : gbytes l = gbytes (l.take k) ++ gbytes (l.drop k) := by rw [← gbytes_append, List.take_append_drop]
  have h4 : (gbytes (l.take k)).length = 2 * k := by rw [gbytes_length, List.length_take]; omega
  rw [e, List.drop_append_of_le_length (by omega), List.drop_of_length_le (by omega), List.nil_append, List.drop_eq_getElem_cons h, gbytes]
  have hn := hl l[k] (List.getElem_mem h)
  generalize l[k] = n at *
  rw [show (UInt8.ofNat (n / 256) :: UInt8.ofNat (n % 256) :: gbytes (l.drop (k + 1))).take 2 = [UInt8.ofNat (n / 256), UInt8.ofNat (n % 256)] from rfl]
  show (0 * 256 + (UInt8.ofNat (n / 256)).toNat) * 256 + (UInt8.ofNat (n % 256)).toNat = n
  rw [UInt8.toNat_ofNat', UInt8.toNat_ofNat']
  omega
theorem join_hex_len {q : List Nat} (hq : ∀ d ∈ q, d < 65536) : (joinC 58 (q.map hexL)).length ≤ q.length * 5 := by
  have := join_len 58 4 (q.map hexL) (fun p hp => by
    obtain ⟨d, hd, rfl⟩ := List.mem_map.1 hp
    exact hex_len (hq d hd))
  rwa [List.length_map] at this
theorem fmt6_none {l : List Nat} (h : best l = (none, 1)) : fmt6 l = joinC 58 (l.map hexL) := by unfold fmt6; rw [h]
theorem fmt6_some {l : List Nat} {k m : Nat} (h : best l = (some k, m)) : fmt6 l = joinC 58 ((l.take k).map hexL) ++ [58, 58] ++ joinC 58 ((l.drop (k + m)).map hexL) := by unfold fmt6; rw [h]
theorem own_below6 {w w' : World} {base : Nat} {e : TypeId} {size : Nat} {v : Value} {n : Nat} {xs : List Value} (h : w.ownsRow base e size v n xs) (hb : Below w.heap.size w w') : w'.ownsRow base e size v n xs := by
  refine ⟨h.1, ?_⟩
  rcases h.2 with hn | ⟨g, cap, cur, hv, hg, hh, rest⟩
  · exact .inl hn
  · exact .inr ⟨g, cap, cur, hv, hg, (hb.block g (Array.getElem?_eq_some_iff.1 hh).1).trans hh, rest⟩
theorem own_cap6 {w : World} {base : Nat} {e : TypeId} {A : Option Addr} {cap n : Nat} {xs : List Value} (h : w.ownsRow base e 1 (.slice A n cap) n xs) : n ≤ cap := by
  rcases h.2 with ⟨hv, hn⟩ | ⟨g, c, cur, hv, _, _, hn, _⟩
  · omega
  · cases hv; exact hn
theorem runFT_none : runFT (none, 1) = (0, 0) := rfl
theorem runFT_some (k m : Nat) : runFT (some k, m) = (k, k + m) := rfl
theorem qnum2 (s : ByteArray) (l : List Nat) (hs : s.data.toList = gbytes l) (h8 : l.length = 8) (hl : ∀ n ∈ l, n < 65536) (k i i2 : Nat) (hk : k < l.length) (hi : i = 2 * k) (hi2 : i2 = i + 2) (W : World) :
    Calls Tryd.prog 60 #[.string (s.extract i i2)] W fun e w' => e = .returned (.int .u64 ((l[k] : Nat) : Int)) ∧ w' = W := by
  have hlen := toList_length6 s
  rw [hs, gbytes_length, h8] at hlen
  have hz : (s.extract i i2).size ≤ 8 := by rw [ByteArray.size_extract]; omega
  have h := qnumber_any (s.extract i i2) W hz
  rw [extract_toList6, hs, show i2 - i = 2 by omega, hi, gbytes_at hk hl] at h
  rw [hi]
  exact h
set_option maxHeartbeats 2000000 in
set_option maxRecDepth 20000 in
theorem qfmt6_any (s : ByteArray) (l : List Nat) (w : World) (hs : s.data.toList = gbytes l) (h8 : l.length = 8) (hl : ∀ n ∈ l, n < 65536) (ht : TW w) :
    Calls Tryd.prog 52 #[.string s] w fun e w' => e = .returned (.string (str (fmt6 l))) ∧ Below w.heap.size w w' := by
  have hlen := toList_length6 s
  rw [hs, gbytes_length, h8] at hlen
  have hsz : s.size = 16 := hlen.symm
  have hs16 : s.size ≤ 16 := by omega
  have H8 := Lib.hid (show l.length = 8 ∧ s.size = 16 from ⟨h8, hsz⟩)
  have HNB := Lib.hid (qnum2 s l hs h8 hl)
  have HFM := Lib.hid (fun n W h t => lfmt_any n W h t)
  have HLL := Lib.hid hl
  have HT := Lib.hid ht
  have HO0 := Lib.hid (show w.ownsRow w.heap.size 9 1 (.slice none (List.map hexL []).length 0) (List.map hexL []).length (strC (List.map hexL [])) from World.ownsRow_nil w w.heap.size 9 1)
  obtain ⟨i0, hinf, hz0, hz1, hz2⟩ := info_parts info_str6
  clear hlen hs h8 hsz hl ht
  go_enter Tryd.func52, Tryd.ntmps52
  go_wp2_with fail
  go_loopw [3, 4] (fun v3 v4 wr => ∃ k i cap' : Nat, ∃ A' : Option Addr, ∃ M : List By, v3 = .slice A' M.length cap' ∧ v4 = .int .i64 i ∧ i ≤ 16 ∧ Hid (i = 2 * k ∧ M = (l.take k).map hexL) ∧ Hid (Below w.heap.size w wr) ∧ Hid (wr.ownsRow w.heap.size 9 1 (.slice A' M.length cap') M.length (strC M))) (fun _ v4 _ => 16 - (intOf v4).toNat)
  case atStart => exact ⟨0, 0, 0, none, [], rfl, rfl, Nat.zero_le _, Lib.hid ⟨rfl, rfl⟩, Lib.hid (Below.refl _ _), HO0⟩
  case round =>
    clear HO0
    obtain ⟨k, i, cap', A', M, rfl, rfl, hi16, HK, HB, HO⟩ := hrel
    have hszw := HB.out.size
    by_cases hlt : i < 16
    · have hlts : i < s.size := by have := H8.out; omega
      have dlt : decide ((i : Int) < (s.size : Int)) = true := by rw [decide_eq_true_eq]; omega
      have hlti : (i : Int) < (s.size : Int) := by omega
      obtain ⟨i2, hi2⟩ : ∃ i2, i2 = i + 2 := ⟨_, rfl⟩
      have hi2i : (i : Int) + 2 = (i2 : Int) := by omega
      have hk8 : k < 8 := by have := HK.out.1; omega
      have hkl : k < l.length := by have := H8.out; omega
      have hi2s : i2 ≤ s.size := by have := HK.out.1; have := H8.out; omega
      have hi2j : (i2 : Int) ≤ (s.size : Int) := by omega
      have hii2 : i ≤ i2 := by omega
      have hii2j : (i : Int) ≤ (i2 : Int) := by omega
      have hi0 : (0 : Int) ≤ (i : Int) := by omega
      have hn := HLL.out l[k] (List.getElem_mem hkl)
      have HN1 := Lib.hid (fun W => HNB.out k i i2 hkl HK.out.1 hi2 W)
      have HF1 := Lib.hid (fun W t => HFM.out l[k] W hn t)
      have hMl0 : M.length = k := by rw [HK.out.2, List.length_map, List.length_take]; omega
      obtain ⟨M2, hM2⟩ : ∃ M2, M2 = M ++ [hexL l[k]] := ⟨_, rfl⟩
      have HM2 := Lib.hid (show i2 = 2 * (k + 1) ∧ M2 = (l.take (k + 1)).map hexL from ⟨by have := HK.out.1; omega, by rw [hM2, HK.out.2, List.take_succ_eq_append_getElem hkl, List.map_append]; rfl⟩)
      have HSN := Lib.hid (show strC M ++ [.string (str (hexL l[k]))] = strC M2 by rw [hM2, strC_snoc])
      have hMl : M.length + 1 = M2.length := by rw [hM2]; simp
      have hMb : M.length ≤ 16 := by omega
      have HI2 := Lib.hid (show i2 = i + 2 ∧ i2 ≤ 16 from ⟨hi2, by have := HK.out.1; omega⟩)
      have HTr := Lib.hid (HT.out.kept HB.out)
      clear hM2 hi2 hn hMl0
      generalize hgx : l[k] = x at *
      generalize str (hexL x) = S at *
      go_wp2_with fail
      refine (HN1.out _).mono ?_
      rintro e w2 ⟨rfl, hw⟩
      have hw' := hw.symm
      clear hw
      subst hw'
      go_wp2_with fail
      refine (HF1.out _ HTr.out).mono ?_
      rintro e w2 ⟨rfl, hb⟩
      have HBB := Lib.hid (HB.out.trans (hb.mono HB.out.size))
      have HOB := Lib.hid (own_below6 HO.out hb)
      have hsz2 := HBB.out.size
      have HB2 := Lib.hid (HBB.out.alloc HBB.out.size (.cells #[.string S] 9))
      clear hb HB HO
      go_wp2_with (at_builtin; refine wpList_append_lies _ rfl _ _ 57 rfl w.heap.size 9 i0 (.string ⟨#[]⟩) 1 16 Tryd.underlying57 hinf hz0 hz1 hz2 rfl (by omega) _ M.length (strC M) rfl (HOB.out.alloc _) ⟨w2.heap.size, 0, none⟩ 1 1 [.string S] rfl rfl ?c1 ?c2 (by omega) ?c3 ?c4 ?c5 _ rfl ?_)
      case c1 => exact World.news_of_block (cs := #[.string S]) (t := 9) (fr := (0, 0)) (heap_alloc_new w2 _)
      case c2 => simp [Value.oneCell']
      case c3 => unfold maxLen; omega
      case c4 => omega
      case c5 => simp; omega
      intro g2 cap2 w3 hown3 hgrow hat hlt2
      have hB3 := HB2.out.grown hgrow (by simp; omega) (fun j hj => (HOB.out.lt j hj).1)
      rw [HSN.out] at hown3
      try rw [hMl] at hown3
      try rw [hMl]
      have HB3 := Lib.hid hB3
      have HO3 := Lib.hid hown3
      clear hB3 hown3 hgrow hat hlt2 HOB HB2 hMl
      go_wp2_with fail
      go_roundw
      case rel => exact ⟨k + 1, i2, cap2, some ⟨g2, 0, none⟩, M2, rfl, by go_num, HI2.out.2, HM2, HB3, HO3⟩
      case measure => have := HI2.out; simp [intOf]; omega
    · obtain rfl : i = 16 := by omega
      have dlt : decide (((16 : Nat) : Int) < (s.size : Int)) = false := by rw [decide_eq_false_iff_not]; have := H8.out; omega
      have s16 : s.size = 16 := H8.out.2
      have hk8 : k = 8 := by have := HK.out.1; omega
      have hMe : M = l.map hexL := by rw [HK.out.2, hk8, List.take_of_length_le (by have := H8.out; omega)]
      have hM8 : M.length = 8 := by rw [hMe, List.length_map]; exact H8.out.1
      have hcap := own_cap6 HO.out
      obtain ⟨g, hA, hgl, hcell⟩ := own_stl HO.out (by omega)
      subst hA
      have hcl : ∀ (i n : Nat), l[i]? = some n → wr.cell? ⟨g, i, none⟩ = some (.string (str (hexL n))) := fun i n h => hcell i (hexL n) (by rw [hMe, List.getElem?_map, h]; rfl)
      have hz := qzero_any l g cap' wr (by have := H8.out; omega) hcl
      rw [H8.out.1] at hz
      have hjl : ∀ q : List Nat, (∀ d ∈ q, d < 65536) → (joinC 58 (q.map hexL)).length ≤ q.length * 5 := fun q h => join_hex_len h
      have HBr := HB
      rw [hM8] at hcap
      rcases best_spec l with hb | ⟨f, m, hb, hm2, hfm, hsp⟩
      · rw [hb, runFT_none] at hz
        have HZ := Lib.hid hz
        have hj := pjoin6 g 0 cap' (l.map hexL) 58 wr hgl (fun j p h => by
          rw [List.getElem?_map] at h
          cases hq : l[j]? with
          | none => rw [hq] at h; cases h
          | some n => rw [hq] at h; obtain rfl := Option.some.inj h; rw [Nat.zero_add]; exact hcl j n hq) (by rw [List.length_map, H8.out.1]; exact hcap) (by rw [List.length_map, H8.out.1]; omega) (by have := hjl l HLL.out; have := H8.out; omega)
        rw [List.length_map, H8.out.1, ← fmt6_none hb] at hj
        have HJ := Lib.hid hj
        clear hz hj hjl hcl hcell hMe hb HO HK hk8 HNB HFM
        generalize hSe : str (fmt6 l) = S at *
        have HSE := Lib.hid hSe
        clear hSe
        go_wp2_with fail
        refine HZ.out.mono ?_
        rintro e w2 ⟨rfl, hw⟩
        have hw' := hw.symm
        clear hw
        subst hw'
        go_wp2_with fail
        refine HJ.out.mono ?_
        rintro e w2 ⟨rfl, hb⟩
        have HB2 := Lib.hid (HBr.out.trans (hb.mono HBr.out.size))
        clear hb
        go_wp2_with fail
        go_ret
        exact ⟨ret_str6 HSE.out.symm, HB2.out⟩
      · rw [hb, runFT_some] at hz
        have hf8 : f ≤ 8 := by have := H8.out; omega
        have hT8 : f + m ≤ 8 := by have := H8.out; omega
        have hj1 := fun (W : World) (hW : Below wr.heap.size wr W) => pjoin6 g 0 cap' ((l.take f).map hexL) 58 W (Nat.lt_of_lt_of_le hgl hW.size) (fun j p h => by
          rw [World.cell?_of_block (w := wr) (w' := W) (a := ⟨g, 0 + j, none⟩) (hW.block g hgl)]
          rw [List.getElem?_map] at h
          cases hq : (l.take f)[j]? with
          | none => rw [hq] at h; cases h
          | some n =>
            rw [hq] at h; obtain rfl := Option.some.inj h; rw [Nat.zero_add]
            refine hcl j n ?_
            rw [List.getElem?_take] at hq
            split at hq
            · exact hq
            · cases hq) (by rw [List.length_map, List.length_take]; omega) (by rw [List.length_map, List.length_take]; omega) (by have := hjl (l.take f) (fun d hd => HLL.out d (List.mem_of_mem_take hd)); rw [List.length_take] at this; omega)
        rw [List.length_map, List.length_take, H8.out.1, Nat.min_eq_left hf8] at hj1
        have hF := fmt6_some hb
        have h1l : (str (joinC 58 ((l.take f).map hexL))).size ≤ 40 := by
          rw [str_size]; have := hjl (l.take f) (fun d hd => HLL.out d (List.mem_of_mem_take hd)); rw [List.length_take] at this; omega
        have h2l : (str (joinC 58 ((l.drop (f + m)).map hexL))).size ≤ 40 := by
          rw [str_size]; have := hjl (l.drop (f + m)) (fun d hd => HLL.out d (List.mem_of_mem_drop hd)); rw [List.length_drop] at this; have := H8.out; omega
        have hjl2 := hjl (l.drop (f + m)) (fun d hd => HLL.out d (List.mem_of_mem_drop hd))
        rw [List.length_drop, H8.out.1] at hjl2
        have hdl : ((l.drop (f + m)).map hexL).length = 8 - (f + m) := by rw [List.length_map, List.length_drop, H8.out.1]
        have hdc : ∀ (W : World) (hW : Below wr.heap.size wr W) (j : Nat) p, ((l.drop (f + m)).map hexL)[j]? = some p → W.cell? ⟨g, (f + m) + j, none⟩ = some (.string (str p)) := fun W hW j p h => by
          rw [List.getElem?_map, List.getElem?_drop] at h
          rw [World.cell?_of_block (w := wr) (w' := W) (a := ⟨g, (f + m) + j, none⟩) (hW.block g hgl)]
          cases hq : l[f + m + j]? with
          | none => rw [hq] at h; cases h
          | some n => rw [hq] at h; obtain rfl := Option.some.inj h; exact hcl _ n hq
        have hcat : str (joinC 58 ((l.take f).map hexL)) ++ (⟨#[58, 58]⟩ : ByteArray) ++ str (joinC 58 ((l.drop (f + m)).map hexL)) = str (fmt6 l) := by
          rw [hF, ← str_append, ← str_append]; rfl
        obtain ⟨t, ht⟩ : ∃ t, t = f + m := ⟨_, rfl⟩
        rw [← ht] at hz hT8 h2l hjl2 hdl hdc hcat
        generalize joinC 58 ((l.take f).map hexL) = P0 at *
        obtain ⟨Q0, hQ0⟩ : ∃ Q0, Q0 = (l.drop t).map hexL := ⟨_, rfl⟩
        rw [← hQ0] at h2l hjl2 hdl hdc hcat
        have hj2 : ∀ (W : World) (hW : Below wr.heap.size wr W), t < 8 → Calls Tryd.prog 54 #[.slice (some ⟨g, t, none⟩) (8 - t) (cap' - t), .string ⟨#[58]⟩] W fun e w' => e = .returned (.string (str (joinC 58 Q0))) ∧ Below W.heap.size W w' := fun W hW h8 => by
          have := pjoin6 g t (cap' - t) Q0 58 W (Nat.lt_of_lt_of_le hgl hW.size) (hdc W hW) (by omega) (by omega) (by omega)
          rwa [hdl] at this
        have hj3 : t = 8 → joinC 58 Q0 = [] := fun h8 => by
          have : Q0 = [] := List.length_eq_zero_iff.1 (by omega)
          rw [this]; rfl
        have HZ := Lib.hid hz
        have HJ1 := Lib.hid hj1
        have HJ2 := Lib.hid hj2
        have HC := Lib.hid hcat
        have hft : f < t := by omega
        have dft : ((f : Int) == (t : Int)) = false := by rw [beq_eq_false_iff_ne]; omega
        have nft : ¬ f = t := by omega
        have hfi : (f : Int) ≤ 8 := by omega
        have hti : (t : Int) ≤ 8 := by omega
        have hti0 : (0 : Int) ≤ (t : Int) := by omega
        have hfi0 : (0 : Int) ≤ (f : Int) := by omega
        have hfc : f ≤ cap' := by omega
        have htc : t ≤ cap' := by omega
        have hfci : (f : Int) ≤ (cap' : Int) := by omega
        have htci : (t : Int) ≤ (cap' : Int) := by omega
        clear hz hj1 hj2 hjl hjl2 hcl hcell hMe hb HO HK hk8 HNB HFM hcat hF hdl hdc hQ0 ht hsp hfm hm2
        generalize joinC 58 Q0 = Q1 at *
        generalize hSe : str (fmt6 l) = S at *
        have HSE := Lib.hid hSe
        clear hSe
        generalize hPe : str P0 = P at *
        have hk1 : (9223372036854775807 < P.size + 2) = False := by simp only [eq_iff_iff, iff_false]; omega
        have hk2 : (9223372036854775807 < P.size + (⟨#[58, 58]⟩ : ByteArray).size) = False := hk1
        by_cases h8 : t = 8
        · have hj3' := hj3 h8
          rw [hj3'] at HC h2l
          have HJ3 := Lib.hid (fun (a : Option Addr) (c : Nat) (W : World) => lib_strings_Join_none a c ⟨#[58]⟩ W)
          clear hj3 hj3' HJ2 Q1 hPe
          subst h8
          have hS2 : str [] = (⟨#[]⟩ : ByteArray) := rfl
          rw [hS2] at HC h2l
          have hk3 : (9223372036854775807 < (P ++ (⟨#[58, 58]⟩ : ByteArray)).size + (⟨#[]⟩ : ByteArray).size) = False := by
            rw [ByteArray.size_append]; simp only [eq_iff_iff, iff_false]; show ¬ (_ < P.size + 2 + 0); omega
          have hk4 : (9223372036854775807 < P.size + 2 + (⟨#[]⟩ : ByteArray).size) = False := by
            simp only [eq_iff_iff, iff_false]; show ¬ (_ < P.size + 2 + 0); omega
          by_cases hc8 : cap' = 8
          · subst hc8
            go_wp2_with fail
            refine HZ.out.mono ?_
            rintro e w2 ⟨rfl, hw⟩
            have hw' := hw.symm
            clear hw
            subst hw'
            go_wp2_with fail
            go_region_held3 (fun _ => True) (trivial) (first
              | (go_at_call_of 54 (Value.slice (some (⟨g, 0, none⟩ : Addr)) f 8); refine (HJ1.out _ ?_).mono ?_; exact ⟨rfl, rfl, rfl, Nat.le_refl _, fun _ _ => rfl⟩; rintro e w5 ⟨rfl, hb3d⟩; have hb5 : Below wr.heap.size wr w5 := ⟨hb3d.os, hb3d.tape, hb3d.output, hb3d.size, hb3d.block⟩)
              | (go_at_call 54; refine (HJ3.out _ _ _).mono ?_; rintro e w6 ⟨rfl, rfl⟩))
            all_goals
              go_wp2_with fail
              go_ret
              exact ⟨ret_str6 (HC.out.trans HSE.out.symm), HBr.out.trans (hb5.mono HBr.out.size)⟩
          · have hc9 : ¬ 8 = cap' := fun h => hc8 h.symm
            go_wp2_with fail
            refine HZ.out.mono ?_
            rintro e w2 ⟨rfl, hw⟩
            have hw' := hw.symm
            clear hw
            subst hw'
            go_wp2_with fail
            go_region_held3 (fun _ => True) (trivial) (first
              | (go_at_call_of 54 (Value.slice (some (⟨g, 0, none⟩ : Addr)) f cap'); refine (HJ1.out _ ?_).mono ?_; exact ⟨rfl, rfl, rfl, Nat.le_refl _, fun _ _ => rfl⟩; rintro e w5 ⟨rfl, hb3d⟩; have hb5 : Below wr.heap.size wr w5 := ⟨hb3d.os, hb3d.tape, hb3d.output, hb3d.size, hb3d.block⟩)
              | (go_at_call 54; refine (HJ3.out _ _ _).mono ?_; rintro e w6 ⟨rfl, rfl⟩))
            all_goals
              go_wp2_with fail
              go_ret
              exact ⟨ret_str6 (HC.out.trans HSE.out.symm), HBr.out.trans (hb5.mono HBr.out.size)⟩
        · have ht8 : t < 8 := by omega
          have hk3 : (9223372036854775807 < (P ++ (⟨#[58, 58]⟩ : ByteArray)).size + (str Q1).size) = False := by
            rw [ByteArray.size_append]; simp only [eq_iff_iff, iff_false]; show ¬ (_ < P.size + 2 + _); omega
          have hk4 : (9223372036854775807 < P.size + 2 + (str Q1).size) = False := by
            simp only [eq_iff_iff, iff_false]; omega
          clear hj3 hPe
          generalize str Q1 = Q at *
          have htcn : ¬ cap' = t := by omega
          have htcn2 : t < cap' := by omega
          go_wp2_with fail
          refine HZ.out.mono ?_
          rintro e w2 ⟨rfl, hw⟩
          have hw' := hw.symm
          clear hw
          subst hw'
          go_wp2_with fail
          go_region_held3 (fun _ => True) (trivial) (first
            | (go_at_call_of 54 (Value.slice (some (⟨g, 0, none⟩ : Addr)) f cap'); refine (HJ1.out _ ?_).mono ?_; exact ⟨rfl, rfl, rfl, Nat.le_refl _, fun _ _ => rfl⟩; rintro e w5 ⟨rfl, hb3d⟩; have hb5 : Below wr.heap.size wr w5 := ⟨hb3d.os, hb3d.tape, hb3d.output, hb3d.size, hb3d.block⟩)
            | (go_at_call 54; refine (HJ2.out _ ?_ ht8).mono ?_; exact hb5; rintro e w6 ⟨rfl, hb4d⟩; have hb6 : Below wr.heap.size wr w6 := hb5.trans (hb4d.mono hb5.size)))
          all_goals
            go_wp2_with fail
            go_ret
            exact ⟨ret_str6 (HC.out.trans HSE.out.symm), HBr.out.trans (hb6.mono HBr.out.size)⟩
end Go.Proofs.YtcblgbonijloiaaDoor

/- Contracts of the program's layer 6: Format, FormatPrefix. -/
namespace Go.Proofs.YtcblgbonijloiaaDoor
open Go.ChangeShapes Go.WideShapes Go.ChangeAt Go.RowKit
set_option linter.unusedVariables false

theorem num_app_from : ∀ (b : By) (x : Nat), b.foldl (fun a c => a * 256 + c.toNat) x = x * 256 ^ b.length + num b
  | [], x => by simp [num]
  | c :: r, x => by
    rw [List.foldl_cons, num_app_from r]
    show _ = x * 256 ^ (r.length + 1) + r.foldl (fun a c => a * 256 + c.toNat) (0 * 256 + c.toNat)
    rw [num_app_from r, Nat.pow_succ, Nat.add_mul, Nat.mul_assoc, Nat.mul_comm 256, Nat.zero_mul, Nat.zero_add]
    omega
theorem num_append (a b : By) : num (a ++ b) = num a * 256 ^ b.length + num b := by
  show (a ++ b).foldl _ 0 = _
  rw [List.foldl_append]
  exact num_app_from b _
theorem num_inj {a b : By} (hl : a.length = b.length) (h : num a = num b) : a = b := by
  rw [← leL_reverse_num a, ← leL_reverse_num b, hl, h]
theorem adrB_6 {hi lo : Nat} (h1 : hi < 18446744073709551616) (h2 : lo < 18446744073709551616) : adrB true hi lo = gbytes (digitsOf 65536 (numA hi lo) 8) := by
  have h64 : (256 : Nat) ^ 8 = 18446744073709551616 := by decide
  have hn : numA hi lo < 65536 ^ 8 := by
    have := numA_lt h1 h2
    have e : (65536 : Nat) ^ 8 = 2 ^ 128 := by decide
    rw [e]; exact this
  apply num_inj
  · rw [adrB_length, gbytes_length, digitsOf_len]; rfl
  · rw [num_groups (fun n h => digitsOf_lt (by omega) 8 _ n h), ofDigits_of (by omega) 8 _ hn]
    show num ((leL 8 hi).reverse ++ (leL 8 lo).reverse) = _
    rw [num_append, num_reverse_leL, num_reverse_leL, List.length_reverse, leL_length, h64, Nat.mod_eq_of_lt h1, Nat.mod_eq_of_lt h2]
    unfold numA
    have : (2 : Nat) ^ 64 = 18446744073709551616 := by decide
    rw [this, Nat.mul_comm]
theorem adrB_4 {hi lo : Nat} (h2 : lo < 4294967296) : adrB false hi lo = bytesN (digitsOf 256 lo 4) := by
  have h64 : (256 : Nat) ^ 4 = 4294967296 := by decide
  apply num_inj
  · rw [adrB_length]; unfold bytesN; rw [List.length_map, digitsOf_len]; rfl
  · rw [num_bytesN (fun n h => digitsOf_lt (by omega) 4 _ n h), ofDigits_of (by omega) 4 _ (by omega)]
    show num ((leL 4 lo).reverse) = _
    rw [num_reverse_leL, h64, Nat.mod_eq_of_lt h2]
/-- The canonical text of an address. -/
def fmtA (v6 : Bool) (hi lo : Nat) : By := if v6 then fmt6 (digitsOf 65536 (numA hi lo) 8) else fmt4 (digitsOf 256 lo 4)
set_option maxHeartbeats 2000000 in
set_option maxRecDepth 20000 in
theorem qfmt_6 (hi lo : Nat) (w : World) (h1 : hi < 18446744073709551616) (h2 : lo < 18446744073709551616) (ht : TW w) :
    Calls Tryd.prog 21 #[.agg #[.bool true, .int .u64 hi, .int .u64 lo]] w fun e w' => e = .returned (.string (str (fmtA true hi lo))) ∧ Below w.heap.size w w' := by
  obtain ⟨W0, hW0⟩ : ∃ W0, W0 = w.alloc (.cells #[.bool true, .int .u64 hi, .int .u64 lo] 25) := ⟨_, rfl⟩
  have HX := Lib.hid (show AB W0 w.heap.size true hi lo by rw [hW0]; exact ab_new w true hi lo)
  have HB := Lib.hid (show Below w.heap.size w W0 by rw [hW0]; exact below_alloc6 w _)
  have HT := Lib.hid (show TW W0 from ht.kept (by rw [hW0]; exact below_alloc6 w _))
  have HBY := Lib.hid (fun W => qbytes_any true hi lo W h1 h2)
  have HF := Lib.hid (fun W t => qfmt6_any (str (adrB true hi lo)) (digitsOf 65536 (numA hi lo) 8) W (by rw [str_toList, adrB_6 h1 h2]) (digitsOf_len _ _ _) (fun n h => digitsOf_lt (by omega) 8 _ n h) t)
  have HE : Hid (fmtA true hi lo = fmt6 (digitsOf 65536 (numA hi lo) 8)) := Lib.hid rfl
  generalize str (adrB true hi lo) = B at *
  generalize fmt6 (digitsOf 65536 (numA hi lo) 8) = F at *
  clear h1 h2 ht
  go_enter Tryd.func21, Tryd.ntmps21
  go_wp2_with fail
  rw [← hW0]
  clear hW0
  have x0 := HX.out.c0
  have x1 := HX.out.c1
  have x2 := HX.out.c2
  go_wp2_with fail
  refine (HBY.out _).mono ?_
  rintro e w2 ⟨rfl, hb⟩
  have HX2 := Lib.hid (HX.out.kept hb HX.out.lt)
  have HB2 := Lib.hid (HB.out.trans (hb.mono HB.out.size))
  have HT2 := Lib.hid (HT.out.kept hb)
  clear hb HX HB HT x0 x1 x2
  have x0 := HX2.out.c0
  go_wp2_with fail
  refine (HF.out _ HT2.out).mono ?_
  rintro e w3 ⟨rfl, hb⟩
  have HB3 := Lib.hid (HB2.out.trans (hb.mono HB2.out.size))
  clear hb
  go_wp2_with fail
  go_ret
  exact ⟨ret_str6 (by rw [HE.out]), HB3.out⟩
set_option maxHeartbeats 2000000 in
set_option maxRecDepth 20000 in
theorem qfmt_4 (lo : Nat) (w : World) (h2 : lo < 4294967296) (ht : TW w) :
    Calls Tryd.prog 21 #[.agg #[.bool false, .int .u64 0, .int .u64 lo]] w fun e w' => e = .returned (.string (str (fmtA false 0 lo))) ∧ Below w.heap.size w w' := by
  obtain ⟨W0, hW0⟩ : ∃ W0, W0 = w.alloc (.cells #[.bool false, .int .u64 0, .int .u64 lo] 25) := ⟨_, rfl⟩
  have HX := Lib.hid (show AB W0 w.heap.size false 0 lo by rw [hW0]; exact ab_new w false 0 lo)
  have HB := Lib.hid (show Below w.heap.size w W0 by rw [hW0]; exact below_alloc6 w _)
  have HT := Lib.hid (show TW W0 from ht.kept (by rw [hW0]; exact below_alloc6 w _))
  have HBY := Lib.hid (fun W => qbytes_any false 0 lo W (by omega) (by omega))
  have HE : Hid (fmtA false 0 lo = joinC 46 ((digitsOf 256 lo 4).map numL)) := Lib.hid rfl
  have hbl : (str (adrB false 0 lo)).data.toList = bytesN (digitsOf 256 lo 4) := by rw [str_toList, adrB_4 h2]
  have hdl := digitsOf_len 256 4 lo
  have hd := digitsOf_lt (b := 256) (by omega) 4 lo
  generalize digitsOf 256 lo 4 = l at *
  generalize str (adrB false 0 lo) = s at *
  have hlen := toList_length6 s
  have hs4 : s.size = 4 := by rw [← hlen, hbl]; unfold bytesN; rw [List.length_map, hdl]
  have HS := Lib.hid (show s.size = 4 ∧ l.length = 4 from ⟨hs4, hdl⟩)
  have HL := Lib.hid (fun (k : Nat) (h1 : k < s.size) (h2 : k < l.length) => show ((s[k]'h1).toNat : Nat) = l[k] ∧ l[k] < 256 from by
    have hb := hd l[k] (List.getElem_mem h2)
    refine ⟨?_, hb⟩
    have e : s.data.toList[k]? = some (s[k]'h1) := by rw [List.getElem?_eq_getElem (by rw [hlen]; exact h1)]; rfl
    rw [hbl] at e
    unfold bytesN at e
    rw [List.getElem?_map, List.getElem?_eq_getElem h2] at e
    rw [← Option.some.inj e, UInt8.toNat_ofNat']
    omega)
  have hs1000 : s.size ≤ 4 := by omega
  have HIT := Lib.hid (fun n W h t => pitoa6 n W h t)
  obtain ⟨i0, hinf, hz0, hz1, hz2⟩ := info_parts info_str6
  have HD := Lib.hid hd
  clear h2 ht hbl hdl hd hlen hs4
  go_enter Tryd.func21, Tryd.ntmps21
  go_wp2_with fail
  rw [← hW0]
  clear hW0
  have x0 := HX.out.c0
  have x1 := HX.out.c1
  have x2 := HX.out.c2
  go_wp2_with fail
  refine (HBY.out _).mono ?_
  rintro e w2 ⟨rfl, hb⟩
  have HX2 := Lib.hid (HX.out.kept hb HX.out.lt)
  have HB2 := Lib.hid (HB.out.trans (hb.mono HB.out.size))
  have HT2 := Lib.hid (HT.out.kept hb)
  clear hb HX HB HT x0 x1 x2 HBY
  have x0 := HX2.out.c0
  have HO0 := Lib.hid (show w2.ownsRow w2.heap.size 9 1 (.slice none (List.map numL []).length 0) (List.map numL []).length (strC (List.map numL [])) from World.ownsRow_nil w2 w2.heap.size 9 1)
  go_wp2_with fail
  go_loopw [4, 14] (fun v4 v14 wr => ∃ k cap' : Nat, ∃ A' : Option Addr, ∃ M : List By, v4 = .slice A' M.length cap' ∧ v14 = .int .i64 k ∧ k ≤ 4 ∧ Hid (M = (l.take k).map numL) ∧ Hid (Below w2.heap.size w2 wr) ∧ Hid (wr.ownsRow w2.heap.size 9 1 (.slice A' M.length cap') M.length (strC M))) (fun _ v14 _ => 4 - (intOf v14).toNat)
  case atStart => exact ⟨0, 0, none, [], rfl, rfl, Nat.zero_le _, Lib.hid rfl, Lib.hid (Below.refl _ _), HO0⟩
  case round =>
    clear HO0
    obtain ⟨k, cap', A', M, rfl, rfl, hk4, HK, HB, HO⟩ := hrel
    have hszw := HB.out.size
    by_cases hlt : k < 4
    · have hlts : k < s.size := by have := HS.out; omega
      have hkl : k < l.length := by have := HS.out; omega
      have dlt : decide ((k : Int) < (s.size : Int)) = true := by rw [decide_eq_true_eq]; omega
      have hlti : (k : Int) < (s.size : Int) := by omega
      have hki0 : (0 : Int) ≤ (k : Int) := by omega
      have hLk := HL.out k hlts hkl
      have hx8 := u8_lt (s[k]'hlts)
      have hMl0 : M.length = k := by rw [HK.out, List.length_map, List.length_take]; omega
      obtain ⟨k1, hk1⟩ : ∃ k1, k1 = k + 1 := ⟨_, rfl⟩
      have k1i : (k : Int) + 1 = (k1 : Int) := by omega
      obtain ⟨M2, hM2⟩ : ∃ M2, M2 = M ++ [numL l[k]] := ⟨_, rfl⟩
      have HM2 := Lib.hid (show M2 = (l.take k1).map numL by rw [hM2, HK.out, hk1, List.take_succ_eq_append_getElem hkl, List.map_append]; rfl)
      have HSN := Lib.hid (show strC M ++ [.string (str (numL l[k]))] = strC M2 by rw [hM2, strC_snoc])
      have hMl : M.length + 1 = M2.length := by rw [hM2]; simp
      have hMb : M.length ≤ 16 := by omega
      have HK1 := Lib.hid (show k1 = k + 1 ∧ k1 ≤ 4 from ⟨hk1, by omega⟩)
      have HTr := Lib.hid (HT2.out.kept HB.out)
      have hit := fun W t => HIT.out (l[k]) W (by have := hLk.2; omega) t
      rw [← hLk.1] at hit HSN
      clear hM2 hk1 hMl0 hLk
      generalize hxc : s[k]'hlts = c at *
      have HI := Lib.hid hit
      clear hit
      generalize str (numL c.toNat) = S at *
      go_wp2_with fail
      refine (HI.out _ HTr.out).mono ?_
      rintro e w3 ⟨rfl, hb⟩
      have HBB := Lib.hid (HB.out.trans (hb.mono HB.out.size))
      have HOB := Lib.hid (own_below6 HO.out hb)
      have hsz2 := HBB.out.size
      have HB3 := Lib.hid (HBB.out.alloc HBB.out.size (.cells #[.string S] 9))
      clear hb HB HO
      go_wp2_with (at_builtin; refine wpList_append_lies _ rfl _ _ 57 rfl w2.heap.size 9 i0 (.string ⟨#[]⟩) 1 16 Tryd.underlying57 hinf hz0 hz1 hz2 rfl (by omega) _ M.length (strC M) rfl (HOB.out.alloc _) ⟨w3.heap.size, 0, none⟩ 1 1 [.string S] rfl rfl ?c1 ?c2 (by omega) ?c3 ?c4 ?c5 _ rfl ?_)
      case c1 => exact World.news_of_block (cs := #[.string S]) (t := 9) (fr := (0, 0)) (heap_alloc_new w3 _)
      case c2 => simp [Value.oneCell']
      case c3 => unfold maxLen; omega
      case c4 => omega
      case c5 => simp; omega
      intro g2 cap2 w4 hown3 hgrow hat hlt2
      have hB4 := HB3.out.grown hgrow (by simp; omega) (fun j hj => (HOB.out.lt j hj).1)
      rw [HSN.out] at hown3
      try rw [hMl] at hown3
      try rw [hMl]
      have HB4 := Lib.hid hB4
      have HO3 := Lib.hid hown3
      clear hB4 hown3 hgrow hat hlt2 HOB HB3 hMl
      go_wp2_with fail
      go_roundw
      case rel => exact ⟨k1, cap2, some ⟨g2, 0, none⟩, M2, rfl, by go_num, HK1.out.2, HM2, HB4, HO3⟩
      case measure => have := HK1.out; simp [intOf]; omega
    · obtain rfl : k = 4 := by omega
      have dlt : decide (((4 : Nat) : Int) < (s.size : Int)) = false := by rw [decide_eq_false_iff_not]; have := HS.out; omega
      have s4 : s.size = 4 := HS.out.1
      have hMe : M = l.map numL := by rw [HK.out, List.take_of_length_le (by have := HS.out; omega)]
      have hM4 : M.length = 4 := by rw [hMe, List.length_map]; exact HS.out.2
      have hcap := own_cap6 HO.out
      obtain ⟨g, hA, hgl, hcell⟩ := own_stl HO.out (by omega)
      subst hA
      rw [hM4] at hcap
      have hj := pjoin6 g 0 cap' M 46 wr hgl (fun j p h => by rw [Nat.zero_add]; exact hcell j p h) (by omega) (by omega) (by
        have := join_len 46 3 M (fun p hp => by
          rw [hMe] at hp
          obtain ⟨d, hd, rfl⟩ := List.mem_map.1 hp
          exact num_len (by have := HD.out d hd; omega))
        omega)
      rw [hM4] at hj
      have HE2 := Lib.hid (show fmtA false 0 lo = joinC 46 M by rw [HE.out, hMe])
      have HJ := Lib.hid hj
      clear hj hcell hMe HO HK HL
      generalize joinC 46 M = F at *
      go_wp2_with fail
      refine HJ.out.mono ?_
      rintro e w3 ⟨rfl, hb⟩
      have HB3 := Lib.hid (HB2.out.trans ((HB.out.trans (hb.mono HB.out.size)).mono HB2.out.size))
      clear hb
      go_wp2_with fail
      go_ret
      exact ⟨ret_str6 (by rw [HE2.out]), HB3.out⟩
/-- Format of every address. -/
theorem qfmt_any (v6 : Bool) (hi lo : Nat) (w : World) (h1 : hi < 18446744073709551616) (h2 : lo < 18446744073709551616) (hv : vldA v6 hi lo = true) (ht : TW w) :
    Calls Tryd.prog 21 #[.agg #[.bool v6, .int .u64 hi, .int .u64 lo]] w fun e w' => e = .returned (.string (str (fmtA v6 hi lo))) ∧ Below w.heap.size w w' := by
  cases v6 with
  | true => exact qfmt_6 hi lo w h1 h2 ht
  | false =>
    unfold vldA at hv
    simp only [Bool.false_or, Bool.and_eq_true, beq_iff_eq, decide_eq_true_eq] at hv
    obtain ⟨rfl, h⟩ := hv
    exact qfmt_4 lo w h ht
end Go.Proofs.YtcblgbonijloiaaDoor

/- Contract of the program's layer 6: ParsePrefix. -/
namespace Go.Proofs.YtcblgbonijloiaaDoor
open Go.ChangeShapes Go.WideShapes Go.ChangeAt Go.RowKit
set_option linter.unusedVariables false

theorem ofDigits_lt (b : Nat) : ∀ (l : List Nat) (a k : Nat), a < b ^ k → (∀ n ∈ l, n < b) → l.foldl (fun n d => n * b + d) a < b ^ (k + l.length)
  | [], a, k, h, _ => h
  | n :: r, a, k, h, hl => by
    have hn := hl n (by simp)
    have h2 : a * b + n < b ^ (k + 1) := by
      rw [Nat.pow_succ]
      have := Nat.mul_le_mul_right b (show a + 1 ≤ b ^ k from h)
      rw [Nat.add_mul, Nat.one_mul] at this
      omega
    have := ofDigits_lt b r (a * b + n) (k + 1) h2 (fun m hm => hl m (by simp [hm]))
    rw [List.length_cons, show k + (r.length + 1) = k + 1 + r.length by omega]
    exact this
theorem decAll_len : ∀ (l : List By) (x : List Nat), decAll l = some x → x.length = l.length ∧ ∀ n ∈ x, n < 256
  | [], x, h => by rw [decAll] at h; obtain rfl := Option.some.inj h; simp
  | p :: r, x, h => by
    rw [decAll] at h
    cases hd : decS 255 p with
    | negSucc n => rw [hd] at h; cases h
    | ofNat n =>
      rw [hd] at h
      simp only at h
      have hn : n < 256 := by
        unfold decS at hd
        split at hd
        · cases hd
        · split at hd
          · cases hd
          · rename_i m _
            split at hd
            · cases hd
            · have : (m : Int) = (n : Int) := hd
              omega
      cases hr : decAll r with
      | none => rw [hr] at h; cases h
      | some y =>
        rw [hr] at h
        obtain rfl := Option.some.inj h
        have ih := decAll_len r y hr
        refine ⟨by simp [ih.1], fun m hm => ?_⟩
        rcases List.mem_cons.1 hm with rfl | hm
        · exact hn
        · exact ih.2 m hm
/-- What is read is an address. -/
theorem prs_ok {s : By} {v : Bool} {hi lo : Nat} (h : prs s = some (v, hi, lo)) : hi < 18446744073709551616 ∧ lo < 18446744073709551616 ∧ vldA v hi lo = true := by
  unfold prs at h
  cases h4 : parse4 s with
  | some l =>
    rw [h4] at h
    have h' : some (false, 0, ofDigits 256 l) = some (v, hi, lo) := h
    obtain ⟨e1, e2⟩ := Prod.mk.inj (Option.some.inj h')
    obtain ⟨e3, e4⟩ := Prod.mk.inj e2
    subst e1 e3 e4
    unfold parse4 at h4
    split at h4
    · rename_i hl
      have hd := decAll_len _ l h4
      have := ofDigits_lt 256 l 0 0 (by decide) hd.2
      rw [hd.1, hl] at this
      have e : (256 : Nat) ^ (0 + 4) = 4294967296 := by decide
      have h5 : ofDigits 256 l < 4294967296 := by rw [← e]; exact this
      refine ⟨by omega, by omega, ?_⟩
      unfold vldA
      rw [decide_eq_true h5]; rfl
    · cases h4
  | none =>
    rw [h4] at h
    simp only at h
    cases h6 : parse6 s with
    | none => rw [h6] at h; cases h
    | some l =>
      rw [h6] at h
      have h' : some (true, halfH l, halfL l) = some (v, hi, lo) := h
      obtain ⟨e1, e2⟩ := Prod.mk.inj (Option.some.inj h')
      obtain ⟨e3, e4⟩ := Prod.mk.inj e2
      subst e1 e3 e4
      have hl := parse6_lt h6
      have e : (65536 : Nat) ^ (0 + 4) = 18446744073709551616 := by decide
      have a := ofDigits_lt 65536 (l.take 4) 0 0 (by decide) (fun n hn => hl.2 n (List.mem_of_mem_take hn))
      have b := ofDigits_lt 65536 (l.drop 4) 0 0 (by decide) (fun n hn => hl.2 n (List.mem_of_mem_drop hn))
      rw [List.length_take, hl.1, show min 4 8 = 4 by decide, e] at a
      rw [List.length_drop, hl.1, show 8 - 4 = 4 by decide, e] at b
      exact ⟨a, b, rfl⟩
def zeroP (e : Int) : Value := .tuple #[.agg #[.bool false, .int .u64 0, .int .u64 0, .int .i64 0], .int .i64 e]
/-- What ParsePrefix answers of an address and a number of bits. -/
def ppEnd (v : Bool) (hi lo : Nat) : Option Nat → Value
  | none => zeroP 2
  | some n => if n ≤ width v then (if mkH v n hi = hi ∧ mkL v n lo = lo then .tuple #[.agg #[.bool v, .int .u64 hi, .int .u64 lo, .int .i64 n], .int .i64 0] else zeroP 2) else zeroP 4
theorem ppEnd_some (v : Bool) (hi lo n : Nat) : ppEnd v hi lo (some n) = if n ≤ width v then (if mkH v n hi = hi ∧ mkL v n lo = lo then .tuple #[.agg #[.bool v, .int .u64 hi, .int .u64 lo, .int .i64 n], .int .i64 0] else zeroP 2) else zeroP 4 := rfl
def ppB (v : Bool) : Option By → Option Nat
  | none => some (width v)
  | some r => decV r
def ppRes (s : By) : Value := if 64 < s.length then zeroP 3 else match prs (cutAt 47 s).1 with
  | none => zeroP 2
  | some (v, hi, lo) => ppEnd v hi lo (ppB v (cutAt 47 s).2)
theorem cutAt_len (c : UInt8) : ∀ s : By, (cutAt c s).1.length ≤ s.length ∧ ∀ r, (cutAt c s).2 = some r → r.length ≤ s.length
  | [] => ⟨by simp [cutAt], fun r h => by simp [cutAt] at h⟩
  | x :: q => by
    have ih := cutAt_len c q
    rw [cutAt]
    split
    · exact ⟨by simp, fun r h => by obtain rfl := Option.some.inj h; simp⟩
    · exact ⟨by simp only [List.length_cons]; omega, fun r h => by have := ih.2 r h; simp only [List.length_cons]; omega⟩
/-- Cut at a byte, as the walks use it. -/
theorem pcut1 (s : ByteArray) (c : UInt8) (w : World) (hs : s.size ≤ 1000) (ht : TW w) :
    Calls Tryd.prog 44 #[.string s, .string ⟨#[c]⟩] w fun e w' => e = .returned (.tuple #[.string (str (cutAt c s.data.toList).1), .string (str ((cutAt c s.data.toList).2.getD [])), .bool (cutAt c s.data.toList).2.isSome]) ∧ ∃ n, w' = w.drewN n := by
  obtain ⟨m, hm⟩ := ht.mx
  refine (lib_strings_Cut s ⟨#[c]⟩ m w (by omega) hm).mono ?_
  rintro e w' ⟨rfl, hw⟩
  have h2 : Lib.cut s.data.toList (⟨#[c]⟩ : ByteArray).data.toList = ((cutAt c s.data.toList).1, (cutAt c s.data.toList).2.getD [], (cutAt c s.data.toList).2.isSome) := by
    rw [byte_str, cut_one]
    cases hq : cutAt c s.data.toList with
    | mk a o => cases o <;> rfl
  rw [h2]
  exact ⟨rfl, hw⟩
set_option maxHeartbeats 2000000 in
set_option maxRecDepth 20000 in
theorem qpparse_any (s : ByteArray) (w : World) (hs : s.size ≤ 900) (ht : TW w) :
    Calls Tryd.prog 13 #[.string s] w fun e w' => e = .returned (ppRes s.data.toList) ∧ Below w.heap.size w w' := by
  have hlen := toList_length6 s
  have hm := addr_guard
  obtain ⟨W0, hW0⟩ : ∃ W0, W0 = w.alloc (.cells #[.bool false, .int .u64 0, .int .u64 0, .int .i64 0] 30) := ⟨_, rfl⟩
  have HB0 := Lib.hid (show Below w.heap.size w W0 by rw [hW0]; exact below_alloc6 w _)
  have HR0 := Lib.hid (show PB W0 w.heap.size false 0 0 0 by rw [hW0]; exact pb_new w false 0 0 0)
  have HT0 := Lib.hid (show TW W0 from ht.kept (by rw [hW0]; exact below_alloc6 w _))
  by_cases h64 : 64 < s.size
  · have HR := Lib.hid (show ppRes s.data.toList = zeroP 3 by unfold ppRes; rw [if_pos (by omega)])
    have d : decide ((64 : Int) < (s.size : Int)) = true := by rw [decide_eq_true_eq]; omega
    clear ht HT0 hlen
    go_enter Tryd.func13, Tryd.ntmps13
    go_wp2_with fail
    rw [← hW0]
    exact bodyPost_ret (res_pfx2 rfl _ _ rfl HR0.out) rfl ⟨by rw [HR.out]; rfl, HB0.out⟩
  have hr : ppRes s.data.toList = match prs (cutAt 47 s.data.toList).1 with
    | none => zeroP 2
    | some (v, hi, lo) => ppEnd v hi lo (ppB v (cutAt 47 s.data.toList).2) := by unfold ppRes; rw [if_neg (by omega)]
  have d : decide ((64 : Int) < (s.size : Int)) = false := by rw [decide_eq_false_iff_not]; omega
  have HCT := Lib.hid (pcut1 s 47 W0 (by omega) HT0.out)
  have hcl := cutAt_len 47 s.data.toList
  have HPA := Lib.hid (fun W h => qparse_any (str (cutAt 47 s.data.toList).1) W (by rw [str_size]; omega) h)
  rw [str_toList] at HPA
  have hpr : pRes (cutAt 47 s.data.toList).1 = adRes (prs (cutAt 47 s.data.toList).1) := by unfold pRes; rw [if_neg (by omega)]
  rw [hpr] at HPA
  obtain ⟨Rz, hRz⟩ : ∃ Rz, Rz = ppRes s.data.toList := ⟨_, rfl⟩
  rw [← hRz]
  rw [← hRz] at hr
  have hpo := fun v hi lo h => prs_ok (s := (cutAt 47 s.data.toList).1) (v := v) (hi := hi) (lo := lo) h
  generalize prs (cutAt 47 s.data.toList).1 = pr at *
  have hrl := hcl.2
  rw [hlen] at hrl
  generalize (cutAt 47 s.data.toList).1 = t1 at *
  generalize (cutAt 47 s.data.toList).2 = o at *
  clear hcl hpr hlen ht hRz
  cases pr with
  | none =>
    have HR := Lib.hid (show Rz = zeroP 2 from hr)
    simp only [adRes] at HPA
    clear hr hpo
    go_enter Tryd.func13, Tryd.ntmps13
    go_wp2_with fail
    rw [← hW0]
    refine HCT.out.mono ?_
    rintro e w1 ⟨rfl, nd, hw1⟩
    have HT1 := Lib.hid (show TW w1 by rw [hw1]; exact HT0.out.drewN nd)
    have HB1 := Lib.hid (show Below w.heap.size w w1 by rw [hw1]; exact below_drewN6 HB0.out nd)
    have HR1 := Lib.hid (show PB w1 w.heap.size false 0 0 0 by rw [hw1]; exact HR0.out)
    clear hw1 HT0 HB0 HR0 HCT hW0
    go_wp2_with fail
    refine (HPA.out _ HT1.out).mono ?_
    rintro e w2 ⟨rfl, hb⟩
    have HB2 := Lib.hid (HB1.out.trans (hb.mono HB1.out.size))
    have HR2 := Lib.hid (HR1.out.kept hb HR1.out.lt)
    clear hb HT1 HB1 HR1
    have hgr := HR2.out.lt
    have r0 := HR2.out.c0
    have r1 := HR2.out.c1
    have r2 := HR2.out.c2
    have r3 := HR2.out.c3
    have rf0 := HR2.out.f 0
    have rf1 := HR2.out.f 1
    have rf2 := HR2.out.f 2
    have rf3 := HR2.out.f 3
    go_wp2_with fail
    change bodyPost _ _ _ _ _ ((pset w2 w.heap.size false 0 0 0).alloc _)
    have HR3 := HR2.out.set false 0 0 0
    have HB3 := pset_below HB2.out (Nat.le_refl _) false 0 0 0
    exact bodyPost_ret (res_pfx2 rfl _ _ rfl (HR3.kept (below_alloc6 _ _) HR3.lt)) rfl ⟨by rw [HR.out]; rfl, HB3.trans ((below_alloc6 _ _).mono HB3.size)⟩
  | some p =>
    obtain ⟨v, hi, lo⟩ := p
    obtain ⟨h1, h2, hv⟩ := hpo v hi lo rfl
    have hr2 : Rz = ppEnd v hi lo (ppB v o) := hr
    simp only [adRes] at HPA
    have HWD := Lib.hid (fun W => qwidth_any v hi lo W)
    clear hr hpo hv
    go_enter Tryd.func13, Tryd.ntmps13
    go_wp2_with fail
    rw [← hW0]
    refine HCT.out.mono ?_
    rintro e w1 ⟨rfl, nd, hw1⟩
    have HT1 := Lib.hid (show TW w1 by rw [hw1]; exact HT0.out.drewN nd)
    have HB1 := Lib.hid (show Below w.heap.size w w1 by rw [hw1]; exact below_drewN6 HB0.out nd)
    have HR1 := Lib.hid (show PB w1 w.heap.size false 0 0 0 by rw [hw1]; exact HR0.out)
    clear hw1 HT0 HB0 HR0 HCT hW0
    go_wp2_with fail
    refine (HPA.out _ HT1.out).mono ?_
    rintro e w2 ⟨rfl, hb⟩
    have HB2 := Lib.hid ((HB1.out.trans (hb.mono HB1.out.size)).trans ((below_alloc6 w2 (.cells #[.bool v, .int .u64 hi, .int .u64 lo] 25)).mono (HB1.out.trans (hb.mono HB1.out.size)).size))
    have HR2 := Lib.hid ((HR1.out.kept hb HR1.out.lt).kept (below_alloc6 w2 (.cells #[.bool v, .int .u64 hi, .int .u64 lo] 25)) (HR1.out.kept hb HR1.out.lt).lt)
    have HX2 := Lib.hid (ab_new w2 v hi lo)
    clear hb HT1 HB1 HR1
    go_wp2_with fail
    refine (HWD.out _).mono ?_
    rintro e w4 ⟨rfl, hb⟩
    obtain ⟨g7, hg7⟩ : ∃ g7, g7 = w2.heap.size := ⟨_, rfl⟩
    rw [← hg7] at HX2 ⊢
    have HB4 := Lib.hid (HB2.out.trans (hb.mono HB2.out.size))
    have HR4 := Lib.hid (HR2.out.kept hb HR2.out.lt)
    have HX4 := Lib.hid (HX2.out.kept hb HX2.out.lt)
    clear hb HB2 HR2 HX2 hg7
    have hgr := HR4.out.lt
    have hgx := HX4.out.lt
    have x0 := HX4.out.c0
    have x1 := HX4.out.c1
    have x2 := HX4.out.c2
    have r0 := HR4.out.c0
    have r1 := HR4.out.c1
    have r2 := HR4.out.c2
    have r3 := HR4.out.c3
    have rf0 := HR4.out.f 0
    have rf1 := HR4.out.f 1
    have rf2 := HR4.out.f 2
    have rf3 := HR4.out.f 3
    cases o with
    | none =>
      simp only [Option.getD_none, Option.isSome_none]
      have hr3 := hr2
      simp only [ppB] at hr2
      clear hr3
      by_cases hn : width v ≤ width v
      · have HM := Lib.hid (fun W => qmake_ok v hi lo (width v) W h1 h2 hn)
        have qn := fun W => addr_neq v v (mkH v (width v) hi : Nat) hi (mkL v (width v) lo : Nat) lo W
        by_cases hz : mkH v (width v) hi = hi ∧ mkL v (width v) lo = lo
        · have HE := Lib.hid (show Rz = .tuple #[.agg #[.bool v, .int .u64 hi, .int .u64 lo, .int .i64 (width v : Nat)], .int .i64 0] by rw [hr2, ppEnd_some, if_pos hn, if_pos hz])
          rw [hz.1, hz.2] at HM qn
          simp only [beq_self_eq_true, Bool.and_self, Bool.not_true] at qn
          clear hz hr2 h1 h2
          generalize width v = wd at *
          go_wp2_with fail
          refine (HM.out _).mono ?_
          rintro e w5 ⟨rfl, hb⟩
          have HB5 := Lib.hid (HB4.out.trans (hb.mono HB4.out.size))
          have HR5 := Lib.hid (HR4.out.kept hb HR4.out.lt)
          have HX5 := Lib.hid (HX4.out.kept hb HX4.out.lt)
          clear hb hgr hgx x0 x1 x2 r0 r1 r2 r3 rf0 rf1 rf2 rf3
          have hgr := HR5.out.lt
          have hgx := HX5.out.lt
          have x0 := HX5.out.c0
          have x1 := HX5.out.c1
          have x2 := HX5.out.c2
          have r0 := HR5.out.c0
          have r1 := HR5.out.c1
          have r2 := HR5.out.c2
          have r3 := HR5.out.c3
          have rf0 := HR5.out.f 0
          have rf1 := HR5.out.f 1
          have rf2 := HR5.out.f 2
          have rf3 := HR5.out.f 3
          go_wp2_with fail
          change bodyPost _ _ _ _ _ ((pset w5 w.heap.size v hi lo (wd : Nat)).alloc _)
          have HR6 := HR5.out.set v hi lo (wd : Nat)
          have HB6 := pset_below HB5.out (Nat.le_refl _) v hi lo (wd : Nat)
          exact bodyPost_ret (res_pfx2 rfl _ _ rfl (HR6.kept (below_alloc6 _ _) HR6.lt)) rfl ⟨by rw [HE.out]; rfl, HB6.trans ((below_alloc6 _ _).mono HB6.size)⟩
        · have HE := Lib.hid (show Rz = zeroP 2 by rw [hr2, ppEnd_some, if_pos hn, if_neg hz])
          have hzb : (v == v && (((mkH v (width v) hi : Nat) : Int) == (hi : Int) && ((mkL v (width v) lo : Nat) : Int) == (lo : Int))) = false := by
            rw [Bool.eq_false_iff]
            intro e
            simp only [beq_self_eq_true, Bool.true_and, Bool.and_eq_true, beq_iff_eq] at e
            exact hz ⟨by omega, by omega⟩
          rw [hzb] at qn
          simp only [Bool.not_false] at qn
          clear hz hzb hr2 h1 h2
          generalize mkH v (width v) hi = hi' at *
          generalize mkL v (width v) lo = lo' at *
          generalize width v = wd at *
          go_wp2_with fail
          refine (HM.out _).mono ?_
          rintro e w5 ⟨rfl, hb⟩
          have HB5 := Lib.hid (HB4.out.trans (hb.mono HB4.out.size))
          have HR5 := Lib.hid (HR4.out.kept hb HR4.out.lt)
          have HX5 := Lib.hid (HX4.out.kept hb HX4.out.lt)
          clear hb hgr hgx x0 x1 x2 r0 r1 r2 r3 rf0 rf1 rf2 rf3
          have hgr := HR5.out.lt
          have hgx := HX5.out.lt
          have x0 := HX5.out.c0
          have x1 := HX5.out.c1
          have x2 := HX5.out.c2
          have r0 := HR5.out.c0
          have r1 := HR5.out.c1
          have r2 := HR5.out.c2
          have r3 := HR5.out.c3
          have rf0 := HR5.out.f 0
          have rf1 := HR5.out.f 1
          have rf2 := HR5.out.f 2
          have rf3 := HR5.out.f 3
          go_wp2_with fail
          change bodyPost _ _ _ _ _ ((pset w5 w.heap.size false 0 0 0).alloc _)
          have HR6 := HR5.out.set false 0 0 0
          have HB6 := pset_below HB5.out (Nat.le_refl _) false 0 0 0
          exact bodyPost_ret (res_pfx2 rfl _ _ rfl (HR6.kept (below_alloc6 _ _) HR6.lt)) rfl ⟨by rw [HE.out]; rfl, HB6.trans ((below_alloc6 _ _).mono HB6.size)⟩
      · exact absurd (Nat.le_refl _) hn
    | some r =>
      simp only [Option.getD_some, Option.isSome_some]
      simp only [ppB] at hr2
      have HD := Lib.hid (fun W => qdecimal_any (str r) W (by rw [str_size]; have := hrl r rfl; omega))
      rw [str_toList] at HD
      have hdl := fun n h => decV_le (s := r) (n := n) h
      cases hdv : decV r with
      | none =>
        rw [hdv] at HD hr2
        simp only [vRes] at HD
        have HE := Lib.hid (show Rz = zeroP 2 from hr2)
        clear hr2 h1 h2 hdl hdv
        go_wp2_with fail
        refine (HD.out _).mono ?_
        rintro e w5 ⟨rfl, hw⟩
        have hw' := hw.symm
        clear hw
        subst hw'
        go_wp2_with fail
        change bodyPost _ _ _ _ _ (pset w4 w.heap.size false 0 0 0)
        have HR6 := HR4.out.set false 0 0 0
        have HB6 := pset_below HB4.out (Nat.le_refl _) false 0 0 0
        exact bodyPost_ret (res_pfx2 rfl _ _ rfl HR6) rfl ⟨by rw [HE.out]; rfl, HB6⟩
      | some n =>
        rw [hdv] at HD hr2
        simp only [vRes] at HD
        have hn65 := hdl n hdv
        clear hdl hdv
        by_cases hn : n ≤ width v
        · have HM := Lib.hid (fun W => qmake_ok v hi lo (n) W h1 h2 hn)
          have qn := fun W => addr_neq v v (mkH v (n) hi : Nat) hi (mkL v (n) lo : Nat) lo W
          by_cases hz : mkH v (n) hi = hi ∧ mkL v (n) lo = lo
          · have HE := Lib.hid (show Rz = .tuple #[.agg #[.bool v, .int .u64 hi, .int .u64 lo, .int .i64 (n : Nat)], .int .i64 0] by rw [hr2, ppEnd_some, if_pos hn, if_pos hz])
            rw [hz.1, hz.2] at HM qn
            simp only [beq_self_eq_true, Bool.and_self, Bool.not_true] at qn
            clear hz hr2 h1 h2
            generalize width v = wd at *
            go_wp2_with fail
            refine (HD.out _).mono ?_
            rintro e w4' ⟨rfl, hw⟩
            have hw' := hw.symm
            clear hw
            subst hw'
            go_wp2_with fail
            refine (HM.out _).mono ?_
            rintro e w5 ⟨rfl, hb⟩
            have HB5 := Lib.hid (HB4.out.trans (hb.mono HB4.out.size))
            have HR5 := Lib.hid (HR4.out.kept hb HR4.out.lt)
            have HX5 := Lib.hid (HX4.out.kept hb HX4.out.lt)
            clear hb hgr hgx x0 x1 x2 r0 r1 r2 r3 rf0 rf1 rf2 rf3
            have hgr := HR5.out.lt
            have hgx := HX5.out.lt
            have x0 := HX5.out.c0
            have x1 := HX5.out.c1
            have x2 := HX5.out.c2
            have r0 := HR5.out.c0
            have r1 := HR5.out.c1
            have r2 := HR5.out.c2
            have r3 := HR5.out.c3
            have rf0 := HR5.out.f 0
            have rf1 := HR5.out.f 1
            have rf2 := HR5.out.f 2
            have rf3 := HR5.out.f 3
            go_wp2_with fail
            change bodyPost _ _ _ _ _ ((pset w5 w.heap.size v hi lo (n : Nat)).alloc _)
            have HR6 := HR5.out.set v hi lo (n : Nat)
            have HB6 := pset_below HB5.out (Nat.le_refl _) v hi lo (n : Nat)
            exact bodyPost_ret (res_pfx2 rfl _ _ rfl (HR6.kept (below_alloc6 _ _) HR6.lt)) rfl ⟨by rw [HE.out]; rfl, HB6.trans ((below_alloc6 _ _).mono HB6.size)⟩
          · have HE := Lib.hid (show Rz = zeroP 2 by rw [hr2, ppEnd_some, if_pos hn, if_neg hz])
            have hzb : (v == v && (((mkH v (n) hi : Nat) : Int) == (hi : Int) && ((mkL v (n) lo : Nat) : Int) == (lo : Int))) = false := by
              rw [Bool.eq_false_iff]
              intro e
              simp only [beq_self_eq_true, Bool.true_and, Bool.and_eq_true, beq_iff_eq] at e
              exact hz ⟨by omega, by omega⟩
            rw [hzb] at qn
            simp only [Bool.not_false] at qn
            clear hz hzb hr2 h1 h2
            generalize mkH v (n) hi = hi' at *
            generalize mkL v (n) lo = lo' at *
            generalize width v = wd at *
            go_wp2_with fail
            refine (HD.out _).mono ?_
            rintro e w4' ⟨rfl, hw⟩
            have hw' := hw.symm
            clear hw
            subst hw'
            go_wp2_with fail
            refine (HM.out _).mono ?_
            rintro e w5 ⟨rfl, hb⟩
            have HB5 := Lib.hid (HB4.out.trans (hb.mono HB4.out.size))
            have HR5 := Lib.hid (HR4.out.kept hb HR4.out.lt)
            have HX5 := Lib.hid (HX4.out.kept hb HX4.out.lt)
            clear hb hgr hgx x0 x1 x2 r0 r1 r2 r3 rf0 rf1 rf2 rf3
            have hgr := HR5.out.lt
            have hgx := HX5.out.lt
            have x0 := HX5.out.c0
            have x1 := HX5.out.c1
            have x2 := HX5.out.c2
            have r0 := HR5.out.c0
            have r1 := HR5.out.c1
            have r2 := HR5.out.c2
            have r3 := HR5.out.c3
            have rf0 := HR5.out.f 0
            have rf1 := HR5.out.f 1
            have rf2 := HR5.out.f 2
            have rf3 := HR5.out.f 3
            go_wp2_with fail
            change bodyPost _ _ _ _ _ ((pset w5 w.heap.size false 0 0 0).alloc _)
            have HR6 := HR5.out.set false 0 0 0
            have HB6 := pset_below HB5.out (Nat.le_refl _) false 0 0 0
            exact bodyPost_ret (res_pfx2 rfl _ _ rfl (HR6.kept (below_alloc6 _ _) HR6.lt)) rfl ⟨by rw [HE.out]; rfl, HB6.trans ((below_alloc6 _ _).mono HB6.size)⟩
        · have HM := Lib.hid (fun W => qmake_bad v hi lo ((n : Nat) : Int) W (.inr (by omega)))
          have HE := Lib.hid (show Rz = zeroP 4 by rw [hr2, ppEnd_some, if_neg hn])
          clear hr2 h1 h2
          generalize width v = wd at *
          go_wp2_with fail
          refine (HD.out _).mono ?_
          rintro e w4' ⟨rfl, hw⟩
          have hw' := hw.symm
          clear hw
          subst hw'
          go_wp2_with fail
          refine (HM.out _).mono ?_
          rintro e w5 ⟨rfl, hb⟩
          have HB5 := Lib.hid (HB4.out.trans (hb.mono HB4.out.size))
          have HR5 := Lib.hid (HR4.out.kept hb HR4.out.lt)
          have HX5 := Lib.hid (HX4.out.kept hb HX4.out.lt)
          clear hb hgr hgx x0 x1 x2 r0 r1 r2 r3 rf0 rf1 rf2 rf3
          have hgr := HR5.out.lt
          have hgx := HX5.out.lt
          have x0 := HX5.out.c0
          have x1 := HX5.out.c1
          have x2 := HX5.out.c2
          have r0 := HR5.out.c0
          have r1 := HR5.out.c1
          have r2 := HR5.out.c2
          have r3 := HR5.out.c3
          have rf0 := HR5.out.f 0
          have rf1 := HR5.out.f 1
          have rf2 := HR5.out.f 2
          have rf3 := HR5.out.f 3
          go_wp2_with fail
          change bodyPost _ _ _ _ _ ((pset w5 w.heap.size false 0 0 0).alloc _)
          have HR6 := HR5.out.set false 0 0 0
          have HB6 := pset_below HB5.out (Nat.le_refl _) false 0 0 0
          exact bodyPost_ret (res_pfx2 rfl _ _ rfl (HR6.kept (below_alloc6 _ _) HR6.lt)) rfl ⟨by rw [HE.out]; rfl, HB6.trans ((below_alloc6 _ _).mono HB6.size)⟩
end Go.Proofs.YtcblgbonijloiaaDoor

/- Contract of the program's layer 6: FormatPrefix. -/
namespace Go.Proofs.YtcblgbonijloiaaDoor
open Go.ChangeShapes Go.WideShapes Go.ChangeAt Go.RowKit
set_option linter.unusedVariables false

theorem fmtA_fmtS {v : Bool} {hi lo : Nat} (hv : vldA v hi lo = true) : fmtA v hi lo = fmtS ⟨v, numA hi lo⟩ := by
  cases v with
  | true => rfl
  | false =>
    unfold vldA at hv
    simp only [Bool.false_or, Bool.and_eq_true, beq_iff_eq, decide_eq_true_eq] at hv
    obtain ⟨rfl, h⟩ := hv
    have : numA 0 lo = lo := by unfold numA; omega
    unfold fmtA fmtS
    rw [this]
theorem adr_ok {v : Bool} {hi lo : Nat} (h1 : hi < 18446744073709551616) (h2 : lo < 18446744073709551616) (hv : vldA v hi lo = true) : (Adr.mk v (numA hi lo)).ok := by
  show numA hi lo < 2 ^ width v
  cases v with
  | true => exact numA_lt h1 h2
  | false =>
    unfold vldA at hv
    simp only [Bool.false_or, Bool.and_eq_true, beq_iff_eq, decide_eq_true_eq] at hv
    obtain ⟨rfl, h⟩ := hv
    have : numA 0 lo = lo := by unfold numA; omega
    rw [this]
    have e : (2 : Nat) ^ width false = 4294967296 := by decide
    rw [e]; exact h
theorem fmtA_len {v : Bool} {hi lo : Nat} (h1 : hi < 18446744073709551616) (h2 : lo < 18446744073709551616) (hv : vldA v hi lo = true) : (fmtA v hi lo).length ≤ 42 := by
  rw [fmtA_fmtS hv]; exact fmt_len (adr_ok h1 h2 hv)
/-- The canonical text of a prefix. -/
def fmtPA (v : Bool) (hi lo k : Nat) : By := fmtA v hi lo ++ 47 :: numL k
set_option maxHeartbeats 2000000 in
set_option maxRecDepth 20000 in
theorem qfmtp_any (v6 : Bool) (hi lo k : Nat) (w : World) (h1 : hi < 18446744073709551616) (h2 : lo < 18446744073709551616) (hv : vldA v6 hi lo = true) (hk : k ≤ 128) (ht : TW w) :
    Calls Tryd.prog 25 #[.agg #[.bool v6, .int .u64 hi, .int .u64 lo, .int .i64 k]] w fun e w' => e = .returned (.string (str (fmtPA v6 hi lo k))) ∧ Below w.heap.size w w' := by
  obtain ⟨W0, hW0⟩ : ∃ W0, W0 = w.alloc (.cells #[.bool v6, .int .u64 hi, .int .u64 lo, .int .i64 k] 30) := ⟨_, rfl⟩
  have HX := Lib.hid (show PB W0 w.heap.size v6 hi lo k by rw [hW0]; exact pb_new w v6 hi lo k)
  have HB := Lib.hid (show Below w.heap.size w W0 by rw [hW0]; exact below_alloc6 w _)
  have HT := Lib.hid (show TW W0 from ht.kept (by rw [hW0]; exact below_alloc6 w _))
  have HF := Lib.hid (fun W t => qfmt_any v6 hi lo W h1 h2 hv t)
  have HI := Lib.hid (fun W t => pitoa6 k W (by omega) t)
  have hl := fmtA_len h1 h2 hv
  have hl2 : (numL k).length ≤ 3 := num_len (by omega)
  have HC := Lib.hid (show str (fmtA v6 hi lo) ++ (⟨#[47]⟩ : ByteArray) ++ str (numL k) = str (fmtPA v6 hi lo k) by
    unfold fmtPA
    rw [show (47 : UInt8) :: numL k = [47] ++ numL k from rfl, ← List.append_assoc, ← str_append, ← str_append]; rfl)
  have hs1 : (str (fmtA v6 hi lo)).size ≤ 42 := by rw [str_size]; exact hl
  have hs2 : (str (numL k)).size ≤ 3 := by rw [str_size]; exact hl2
  generalize str (fmtA v6 hi lo) = P at *
  generalize str (numL k) = Q at *
  generalize hSe : str (fmtPA v6 hi lo k) = S at *
  have HSE := Lib.hid hSe
  have hk1 : (9223372036854775807 < P.size + 1) = False := by simp only [eq_iff_iff, iff_false]; omega
  have hk2 : (9223372036854775807 < P.size + (⟨#[47]⟩ : ByteArray).size) = False := hk1
  have hk3 : (9223372036854775807 < (P ++ (⟨#[47]⟩ : ByteArray)).size + Q.size) = False := by
    rw [ByteArray.size_append]; simp only [eq_iff_iff, iff_false]; show ¬ (_ < P.size + 1 + _); omega
  have hk4 : (9223372036854775807 < P.size + 1 + Q.size) = False := by simp only [eq_iff_iff, iff_false]; omega
  clear h1 h2 hv ht hSe hl hl2
  go_enter Tryd.func25, Tryd.ntmps25
  go_wp2_with fail
  rw [← hW0]
  clear hW0
  have x0 := HX.out.c0
  have x1 := HX.out.c1
  have x2 := HX.out.c2
  have x3 := HX.out.c3
  go_region_held3 (fun w' => w'.cell? ⟨w.heap.size, 0, none⟩ = some (.bool v6) ∧ w'.cell? ⟨w.heap.size, 1, none⟩ = some (.int .u64 hi) ∧ w'.cell? ⟨w.heap.size, 2, none⟩ = some (.int .u64 lo) ∧ w'.cell? ⟨w.heap.size, 3, none⟩ = some (.int .i64 k)) (go_keep) (first
    | (go_at_call 21; refine (HF.out _ ?_).mono ?_; exact ⟨HT.out.mx, HT.out.p10, HT.out.db⟩; rintro e w5 ⟨rfl, hb3d⟩; have hb5 : Below W0.heap.size W0 w5 := ⟨hb3d.os, hb3d.tape, hb3d.output, hb3d.size, hb3d.block⟩; have hx5 := HX.out.kept hb5 HX.out.lt; have ht5 := HT.out.kept hb5; have j0 := hx5.c0; have j1 := hx5.c1; have j2 := hx5.c2; have j3 := hx5.c3)
    | (go_at_call 53; refine (HI.out _ ?_).mono ?_; exact ht5; rintro e w6 ⟨rfl, hb4d⟩; have hb6 : Below W0.heap.size W0 w6 := hb5.trans (hb4d.mono hb5.size); have hx6 := HX.out.kept hb6 HX.out.lt; have i0 := hx6.c0; have i1 := hx6.c1; have i2 := hx6.c2; have i3 := hx6.c3))
  all_goals
    have HB6 := Lib.hid (HB.out.trans (hb6.mono HB.out.size))
    go_wp2_with fail
    go_ret
    exact ⟨ret_str6 HC.out, HB6.out⟩
end Go.Proofs.YtcblgbonijloiaaDoor

/- Contracts of the program's layer 6: Next, Previous. -/
namespace Go.Proofs.YtcblgbonijloiaaDoor
open Go.ChangeShapes Go.WideShapes Go.ChangeAt Go.RowKit
set_option linter.unusedVariables false

theorem vldP_whole (v6 : Bool) : vldP v6 0 0 ((0 : Nat) : Int) = true := by cases v6 <;> decide +kernel
theorem last_h (v6 : Bool) : lowO (frH v6 0) 0 = if v6 then 18446744073709551615 else 0 := by cases v6 <;> decide +kernel
theorem last_l (v6 : Bool) : lowO (frL v6 0) 0 = if v6 then 18446744073709551615 else 4294967295 := by cases v6 <;> decide +kernel
/-- Is an address the last one of its family? -/
def isLast (v6 : Bool) (hi lo : Nat) : Bool := v6 == v6 && ((hi : Int) == ((lowO (frH v6 0) 0 : Nat) : Int) && (lo : Int) == ((lowO (frL v6 0) 0 : Nat) : Int))
theorem last_true {v6 : Bool} {hi lo : Nat} (h : isLast v6 hi lo = true) : nxtA v6 hi lo = none := by
  unfold isLast at h
  rw [last_h, last_l] at h
  simp only [beq_self_eq_true, Bool.true_and, Bool.and_eq_true, beq_iff_eq] at h
  obtain ⟨a, b⟩ := h
  unfold nxtA
  cases v6 with
  | true =>
    rw [if_pos rfl] at a b
    rw [if_neg (by omega), if_pos rfl, if_neg (by omega)]
  | false =>
    rw [if_neg (by decide)] at a b
    rw [if_pos (by omega), if_pos ⟨rfl, by omega⟩]
theorem last_false {v6 : Bool} {hi lo : Nat} (h : isLast v6 hi lo = false) (hv : vldA v6 hi lo = true) (h1 : hi < 18446744073709551616) (h2 : lo < 18446744073709551616) :
    (lo + 1 < 18446744073709551616 ∧ nxtA v6 hi lo = some (v6, hi, lo + 1)) ∨ (lo + 1 = 18446744073709551616 ∧ hi + 1 < 18446744073709551616 ∧ nxtA v6 hi lo = some (v6, hi + 1, 0)) := by
  unfold isLast at h
  rw [last_h, last_l] at h
  simp only [beq_self_eq_true, Bool.true_and, Bool.and_eq_false_iff, beq_eq_false_iff_ne, ne_eq] at h
  unfold vldA at hv
  unfold nxtA
  cases v6 with
  | true =>
    rw [if_pos rfl, if_pos rfl] at h
    by_cases a : lo + 1 < 18446744073709551616
    · left
      rw [if_pos a, if_neg (by simp)]
      exact ⟨a, rfl⟩
    · right
      rw [if_neg a, if_pos rfl, if_pos (by omega)]
      exact ⟨by omega, by omega, rfl⟩
  | false =>
    simp only [Bool.false_eq_true, if_false] at h
    simp only [Bool.false_or, Bool.and_eq_true, beq_iff_eq, decide_eq_true_eq] at hv
    left
    rw [if_pos (by omega), if_neg (by intro e; omega)]
    exact ⟨by omega, rfl⟩
theorem rng_hi (v1 : Bool) (h1 l1 : Int) (v2 : Bool) (h2 l2 : Int) (W : World) : (Instr.field 40 (.agg #[.bool v1, .int .u64 h1, .int .u64 l1, .bool v2, .int .u64 h2, .int .u64 l2]) 1).run Tryd.prog W = .ok (.agg #[.bool v2, .int .u64 h2, .int .u64 l2]) W := by kernel_rfl
theorem rng_lo (v1 : Bool) (h1 l1 : Int) (v2 : Bool) (h2 l2 : Int) (W : World) : (Instr.field 40 (.agg #[.bool v1, .int .u64 h1, .int .u64 l1, .bool v2, .int .u64 h2, .int .u64 l2]) 0).run Tryd.prog W = .ok (.agg #[.bool v1, .int .u64 h1, .int .u64 l1]) W := by kernel_rfl
set_option maxHeartbeats 1000000 in
set_option maxRecDepth 20000 in
theorem qnext_any (v6 : Bool) (hi lo : Nat) (w : World) (h1 : hi < 18446744073709551616) (h2 : lo < 18446744073709551616) (hv : vldA v6 hi lo = true) :
    Calls Tryd.prog 31 #[.agg #[.bool v6, .int .u64 hi, .int .u64 lo]] w fun e w' => e = .returned (aRes (nxtA v6 hi lo)) ∧ Below w.heap.size w w' := by
  have hm := addr_guard
  have hfd := rng_hi v6 0 0 v6 (lowO (frH v6 0) 0 : Nat) (lowO (frL v6 0) 0 : Nat)
  have HX := Lib.hid (ab_new w v6 hi lo |>.kept (below_alloc6 _ (.cells #[.bool false, .int .u64 0, .int .u64 0] 25)) (alloc_lt6 w _))
  have HR := Lib.hid (ab2 w (.cells #[.bool v6, .int .u64 hi, .int .u64 lo] 25) false 0 0)
  have HB := Lib.hid (below2 w (.cells #[.bool v6, .int .u64 hi, .int .u64 lo] 25) (.cells #[.bool false, .int .u64 0, .int .u64 0] 25))
  have HF := Lib.hid (fun W => qfirst_any v6 W)
  have HBD := Lib.hid (fun W => qbounds_any v6 0 0 0 W (by decide) (by decide) (vldP_whole v6))
  have HE := Lib.hid (fun (h : isLast v6 hi lo = true) => last_true h)
  have HN := Lib.hid (fun (h : isLast v6 hi lo = false) => last_false h hv h1 h2)
  have qe : ∀ W, (binOp .eql 25 (.agg #[.bool v6, .int .u64 hi, .int .u64 lo]) (.agg #[.bool v6, .int .u64 (lowO (frH v6 0) 0 : Nat), .int .u64 (lowO (frL v6 0) 0 : Nat)])).run Tryd.prog W = .ok (.bool (isLast v6 hi lo)) W := fun W => addr_eql v6 v6 hi (lowO (frH v6 0) 0 : Nat) lo (lowO (frL v6 0) 0 : Nat) W
  generalize isLast v6 hi lo = E at *
  generalize lowO (frH v6 0) 0 = lh at *
  generalize lowO (frL v6 0) 0 = ll at *
  clear h1 h2 hv
  go_enter Tryd.func31, Tryd.ntmps31
  go_wp2_with fail
  generalize (w.alloc (.cells #[.bool v6, .int .u64 hi, .int .u64 lo] 25)).alloc (.cells #[.bool false, .int .u64 0, .int .u64 0] 25) = w1 at *
  have x0 := HX.out.c0
  have x1 := HX.out.c1
  have x2 := HX.out.c2
  go_region_held3 (fun w' => w'.cell? ⟨w.heap.size, 0, none⟩ = some (.bool v6) ∧ w'.cell? ⟨w.heap.size, 1, none⟩ = some (.int .u64 hi) ∧ w'.cell? ⟨w.heap.size, 2, none⟩ = some (.int .u64 lo)) (go_keep) (first
    | (go_at_call 61; refine (HF.out _).mono ?_; rintro e w5 ⟨rfl, hb3d⟩; have hb5 : Below w1.heap.size w1 w5 := ⟨hb3d.os, hb3d.tape, hb3d.output, hb3d.size, hb3d.block⟩; have hx5 := HX.out.kept hb5 HX.out.lt; have j0 := hx5.c0; have j1 := hx5.c1; have j2 := hx5.c2)
    | (go_at_call 27; refine (HBD.out _).mono ?_; rintro e w6 ⟨rfl, hb4d⟩; have hb6 : Below w1.heap.size w1 w6 := hb5.trans ((show Below w5.heap.size w5 w6 from ⟨hb4d.os, hb4d.tape, hb4d.output, hb4d.size, hb4d.block⟩).mono hb5.size); have hx6 := HX.out.kept hb6 HX.out.lt; have i0 := hx6.c0; have i1 := hx6.c1; have i2 := hx6.c2))
  all_goals
    have HX6 := Lib.hid hx6
    have HR6 := Lib.hid (HR.out.kept hb6 HR.out.lt)
    have HB6 := Lib.hid (HB.out.trans (hb6.mono HB.out.size))
    clear hb5 hx5 j0 j1 j2 hb6 hx6 i0 i1 i2 x0 x1 x2 HX HR HB qe hfd
    have x0 := HX6.out.c0
    have x1 := HX6.out.c1
    have x2 := HX6.out.c2
    have xf1 := HX6.out.f 1
    have xf2 := HX6.out.f 2
    have r0 := HR6.out.c0
    have r1 := HR6.out.c1
    have r2 := HR6.out.c2
    have rf0 := HR6.out.f 0
    have rf1 := HR6.out.f 1
    have rf2 := HR6.out.f 2
    cases E with
    | true =>
      have HEE := Lib.hid (HE.out rfl)
      clear HE HN
      go_wp2_with fail
      change bodyPost _ _ _ _ _ (aset w6 (w.heap.size + 1) false 0 0)
      exact bodyPost_ret (res_addr2 rfl _ _ rfl (HR6.out.set false 0 0)) rfl ⟨by rw [HEE.out]; rfl, aset_below HB6.out (Nat.le_succ _) false 0 0⟩
    | false =>
      rcases HN.out rfl with ⟨n1, n2⟩ | ⟨n1, n3, n2⟩
      · have HN2 := Lib.hid n2
        have e0 : ((lo : Int) + 1 == 0) = false := by rw [beq_eq_false_iff_ne]; omega
        have HR7 := Lib.hid (HR6.out.far (b := w.heap.size) (i := 2) (by omega) (.int .u64 ((lo + 1 : Nat) : Int)))
        have HB7 := Lib.hid (HB6.out.setCell (p := ⟨w.heap.size, 2, none⟩) (Nat.le_refl _) (.int .u64 ((lo + 1 : Nat) : Int)))
        clear HE HN n2
        go_wp2_with fail
        change bodyPost _ _ _ _ _ (aset (w6.setCell ⟨w.heap.size, 2, none⟩ (.int .u64 ((lo + 1 : Nat) : Int))) (w.heap.size + 1) v6 hi (lo + 1))
        exact bodyPost_ret (res_addr2 rfl _ _ rfl (HR7.out.set v6 hi (lo + 1))) rfl ⟨by rw [HN2.out]; rfl, aset_below HB7.out (Nat.le_succ _) v6 hi (lo + 1)⟩
      · have HN2 := Lib.hid n2
        have hw := wrap_u64_up n1
        have hm2 : ((lo : Int) + 1) % 18446744073709551616 = 0 := by omega
        have HR7 := Lib.hid ((HR6.out.far (b := w.heap.size) (i := 2) (by omega) (.int .u64 ((0 : Nat) : Int))).far (b := w.heap.size) (i := 1) (by omega) (.int .u64 ((hi + 1 : Nat) : Int)))
        have HB7 := Lib.hid ((HB6.out.setCell (p := ⟨w.heap.size, 2, none⟩) (Nat.le_refl _) (.int .u64 ((0 : Nat) : Int))).setCell (p := ⟨w.heap.size, 1, none⟩) (Nat.le_refl _) (.int .u64 ((hi + 1 : Nat) : Int)))
        clear HE HN n2 n1
        go_wp2_with fail
        change bodyPost _ _ _ _ _ (aset ((w6.setCell ⟨w.heap.size, 2, none⟩ (.int .u64 ((0 : Nat) : Int))).setCell ⟨w.heap.size, 1, none⟩ (.int .u64 ((hi + 1 : Nat) : Int))) (w.heap.size + 1) v6 (hi + 1) 0)
        exact bodyPost_ret (res_addr2 rfl _ _ rfl (HR7.out.set v6 (hi + 1) 0)) rfl ⟨by rw [HN2.out]; rfl, aset_below HB7.out (Nat.le_succ _) v6 (hi + 1) 0⟩
/-- Is an address the first one of its family? -/
def isFirst (v6 : Bool) (hi lo : Nat) : Bool := v6 == v6 && ((hi : Int) == 0 && (lo : Int) == 0)
theorem wrap_u64_down : IntKind.u64.wrap (-1) = 18446744073709551615 := by decide
set_option maxHeartbeats 1000000 in
set_option maxRecDepth 20000 in
theorem qprev_any (v6 : Bool) (hi lo : Nat) (w : World) (h1 : hi < 18446744073709551616) (h2 : lo < 18446744073709551616) :
    Calls Tryd.prog 35 #[.agg #[.bool v6, .int .u64 hi, .int .u64 lo]] w fun e w' => e = .returned (aRes (prvA v6 hi lo)) ∧ Below w.heap.size w w' := by
  have hm := addr_guard
  have HX := Lib.hid (ab_new w v6 hi lo |>.kept (below_alloc6 _ (.cells #[.bool false, .int .u64 0, .int .u64 0] 25)) (alloc_lt6 w _))
  have HR := Lib.hid (ab2 w (.cells #[.bool v6, .int .u64 hi, .int .u64 lo] 25) false 0 0)
  have HB := Lib.hid (below2 w (.cells #[.bool v6, .int .u64 hi, .int .u64 lo] 25) (.cells #[.bool false, .int .u64 0, .int .u64 0] 25))
  have HF := Lib.hid (fun W => qfirst_any v6 W)
  have HE := Lib.hid (show isFirst v6 hi lo = true → prvA v6 hi lo = none from fun h => by
    unfold isFirst at h
    simp only [beq_self_eq_true, Bool.true_and, Bool.and_eq_true, beq_iff_eq] at h
    unfold prvA
    rw [if_pos (by omega), if_pos (by omega)])
  have HN := Lib.hid (show isFirst v6 hi lo = false → (0 < lo ∧ prvA v6 hi lo = some (v6, hi, lo - 1)) ∨ (lo = 0 ∧ 0 < hi ∧ prvA v6 hi lo = some (v6, hi - 1, 18446744073709551615)) from fun h => by
    unfold isFirst at h
    simp only [beq_self_eq_true, Bool.true_and, Bool.and_eq_false_iff, beq_eq_false_iff_ne, ne_eq] at h
    unfold prvA
    by_cases a : lo = 0
    · exact .inr ⟨a, by omega, by rw [if_pos a, if_neg (by omega)]⟩
    · exact .inl ⟨by omega, by rw [if_neg a]⟩)
  have qe : ∀ W, (binOp .eql 25 (.agg #[.bool v6, .int .u64 hi, .int .u64 lo]) (.agg #[.bool v6, .int .u64 0, .int .u64 0])).run Tryd.prog W = .ok (.bool (isFirst v6 hi lo)) W := fun W => addr_eql v6 v6 hi 0 lo 0 W
  generalize isFirst v6 hi lo = E at *
  go_enter Tryd.func35, Tryd.ntmps35
  go_wp2_with fail
  generalize (w.alloc (.cells #[.bool v6, .int .u64 hi, .int .u64 lo] 25)).alloc (.cells #[.bool false, .int .u64 0, .int .u64 0] 25) = w1 at *
  have x0 := HX.out.c0
  have x1 := HX.out.c1
  have x2 := HX.out.c2
  go_region_held3 (fun w' => w'.cell? ⟨w.heap.size, 0, none⟩ = some (.bool v6) ∧ w'.cell? ⟨w.heap.size, 1, none⟩ = some (.int .u64 hi) ∧ w'.cell? ⟨w.heap.size, 2, none⟩ = some (.int .u64 lo)) (go_keep) (first
    | (go_at_call 61; refine (HF.out _).mono ?_; rintro e w6 ⟨rfl, hb3d⟩; have hb6 : Below w1.heap.size w1 w6 := ⟨hb3d.os, hb3d.tape, hb3d.output, hb3d.size, hb3d.block⟩; have hx6 := HX.out.kept hb6 HX.out.lt; have j0 := hx6.c0; have j1 := hx6.c1; have j2 := hx6.c2))
  all_goals
    have HX6 := Lib.hid hx6
    have HR6 := Lib.hid (HR.out.kept hb6 HR.out.lt)
    have HB6 := Lib.hid (HB.out.trans (hb6.mono HB.out.size))
    clear hb6 hx6 j0 j1 j2 x0 x1 x2 HX HR HB qe
    have x0 := HX6.out.c0
    have x1 := HX6.out.c1
    have x2 := HX6.out.c2
    have xf1 := HX6.out.f 1
    have xf2 := HX6.out.f 2
    have r0 := HR6.out.c0
    have r1 := HR6.out.c1
    have r2 := HR6.out.c2
    have rf0 := HR6.out.f 0
    have rf1 := HR6.out.f 1
    have rf2 := HR6.out.f 2
    cases E with
    | true =>
      have HEE := Lib.hid (HE.out rfl)
      clear HE HN
      go_wp2_with fail
      change bodyPost _ _ _ _ _ (aset w6 (w.heap.size + 1) false 0 0)
      exact bodyPost_ret (res_addr2 rfl _ _ rfl (HR6.out.set false 0 0)) rfl ⟨by rw [HEE.out]; rfl, aset_below HB6.out (Nat.le_succ _) false 0 0⟩
    | false =>
      rcases HN.out rfl with ⟨n1, n2⟩ | ⟨n1, n3, n2⟩
      · have HN2 := Lib.hid n2
        obtain ⟨m, hm⟩ : ∃ m, lo = m + 1 := ⟨lo - 1, by omega⟩
        rw [show lo - 1 = m by omega] at HN2
        have e0 : ((lo : Int) == 0) = false := by rw [beq_eq_false_iff_ne]; omega
        have e1 : (lo : Int) - 1 = (m : Int) := by omega
        have HR7 := Lib.hid (HR6.out.far (b := w.heap.size) (i := 2) (by omega) (.int .u64 (m : Int)))
        have HB7 := Lib.hid (HB6.out.setCell (p := ⟨w.heap.size, 2, none⟩) (Nat.le_refl _) (.int .u64 (m : Int)))
        clear HE HN n2 hm
        go_wp2_with fail
        change bodyPost _ _ _ _ _ (aset (w6.setCell ⟨w.heap.size, 2, none⟩ (.int .u64 (m : Int))) (w.heap.size + 1) v6 hi m)
        exact bodyPost_ret (res_addr2 rfl _ _ rfl (HR7.out.set v6 hi m)) rfl ⟨by rw [HN2.out]; rfl, aset_below HB7.out (Nat.le_succ _) v6 hi m⟩
      · have HN2 := Lib.hid n2
        obtain ⟨m, hm⟩ : ∃ m, hi = m + 1 := ⟨hi - 1, by omega⟩
        rw [show hi - 1 = m by omega] at HN2
        have e1 : (hi : Int) - 1 = (m : Int) := by omega
        have hw := wrap_u64_down
        have HR7 := Lib.hid ((HR6.out.far (b := w.heap.size) (i := 1) (by omega) (.int .u64 (m : Int))).far (b := w.heap.size) (i := 2) (by omega) (.int .u64 ((18446744073709551615 : Nat) : Int)))
        have HB7 := Lib.hid ((HB6.out.setCell (p := ⟨w.heap.size, 1, none⟩) (Nat.le_refl _) (.int .u64 (m : Int))).setCell (p := ⟨w.heap.size, 2, none⟩) (Nat.le_refl _) (.int .u64 ((18446744073709551615 : Nat) : Int)))
        subst n1
        clear HE HN n2 hm n3
        go_wp2_with fail
        change bodyPost _ _ _ _ _ (aset ((w6.setCell ⟨w.heap.size, 1, none⟩ (.int .u64 (m : Int))).setCell ⟨w.heap.size, 2, none⟩ (.int .u64 ((18446744073709551615 : Nat) : Int))) (w.heap.size + 1) v6 m 18446744073709551615)
        exact bodyPost_ret (res_addr2 rfl _ _ rfl (HR7.out.set v6 m 18446744073709551615)) rfl ⟨by rw [HN2.out]; rfl, aset_below HB7.out (Nat.le_succ _) v6 m 18446744073709551615⟩
end Go.Proofs.YtcblgbonijloiaaDoor

/- The law's examples (lives) of layer 6. -/
namespace Go.Proofs.YtcblgbonijloiaaDoor
open Go.ChangeShapes Go.WideShapes Go.ChangeAt Go.RowKit
set_option linter.unusedVariables false

theorem num1 {n : Nat} (h : n ≤ 9) : numL n = [dig n] := by rw [numL, if_pos h]
theorem hex1 {n : Nat} (h : n ≤ 15) : hexL n = [hexd n] := by rw [hexL, if_pos h]
theorem num10 : numL 10 = [49, 48] := by
  rw [numL, if_neg (by decide), num1 (by decide)]; rfl
theorem live_f4 : str (fmtA false 0 167838211) = ⟨#[49, 48, 46, 49, 46, 50, 46, 51]⟩ := by
  have e : digitsOf 256 167838211 4 = [10, 1, 2, 3] := by decide
  unfold fmtA
  rw [if_neg (by decide), e]
  unfold fmt4
  rw [List.map_cons, List.map_cons, List.map_cons, List.map_cons, num10, num1 (by decide), num1 (by decide), num1 (by decide)]
  rfl
theorem live_f6 : str (fmtA true 0 65536) = ⟨#[58, 58, 49, 58, 48]⟩ := by
  have e : digitsOf 65536 (numA 0 65536) 8 = [0, 0, 0, 0, 0, 0, 1, 0] := by decide
  have hb : best [0, 0, 0, 0, 0, 0, 1, 0] = (some 0, 6) := by decide
  unfold fmtA
  rw [if_pos (by decide), e, fmt6_some hb]
  show str (joinC 58 [] ++ [58, 58] ++ joinC 58 [hexL 1, hexL 0]) = _
  rw [hex1 (by decide), hex1 (by decide)]
  rfl
theorem live_p1 : pRes [58, 58, 49, 58, 48] = .tuple #[.agg #[.bool true, .int .u64 ((0 : Nat) : Int), .int .u64 ((65536 : Nat) : Int)], .int .i64 0] := by kernel_rfl
theorem live_p2 : ppRes [49, 48, 46, 48, 46, 48, 46, 48, 47, 56] = .tuple #[.agg #[.bool false, .int .u64 ((0 : Nat) : Int), .int .u64 ((167772160 : Nat) : Int), .int .i64 ((8 : Nat) : Int)], .int .i64 0] := by kernel_rfl
theorem live_p3 : pRes [49, 48, 46, 49, 46, 50, 46, 51] = .tuple #[.agg #[.bool false, .int .u64 ((0 : Nat) : Int), .int .u64 ((167838211 : Nat) : Int)], .int .i64 0] := by kernel_rfl
theorem live_c : cntB false 0 167772160 ((8 : Nat) : Int) false 0 167838211 = true := by decide +kernel
theorem live_cmp : cmpA false 0 167838211 true 0 65536 = -1 := by decide
theorem live_v : vldA false 0 167838211 = true := by decide
theorem live_n : nxtA false 0 255 = some (false, 0, 256) := by decide
theorem AB.al {w : World} {g : Nat} {v6 : Bool} {hi lo : Nat} (h : AB w g v6 hi lo) (o : Obj) : AB (w.alloc o) g v6 hi lo := h.kept (below_alloc6 w o) h.lt
theorem PB.al {w : World} {g : Nat} {v6 : Bool} {hi lo : Nat} {k : Int} (h : PB w g v6 hi lo k) (o : Obj) : PB (w.alloc o) g v6 hi lo k := h.kept (below_alloc6 w o) h.lt
theorem TW.al {w : World} (h : TW w) (o : Obj) : TW (w.alloc o) := h.kept (below_alloc6 w o)
set_option maxHeartbeats 4000000 in
set_option maxRecDepth 20000 in
/-- THE LAW'S EXAMPLES. -/
theorem lives_any (w : World) (ht : TW w) : Calls Tryd.prog 10 #[] w fun e w' => e = .returned (.bool true) ∧ Below w.heap.size w w' := by
  have hm := addr_guard
  have hm2 := pfx_guard
  have HT := Lib.hid ht
  have HP1 := Lib.hid (fun W t => show Calls Tryd.prog 11 #[.string ⟨#[58, 58, 49, 58, 48]⟩] W fun e w' => e = .returned (.tuple #[.agg #[.bool true, .int .u64 ((0 : Nat) : Int), .int .u64 ((65536 : Nat) : Int)], .int .i64 0]) ∧ Below W.heap.size W w' from by
    have h := qparse_any ⟨#[58, 58, 49, 58, 48]⟩ W (by decide) t
    rw [show (⟨#[58, 58, 49, 58, 48]⟩ : ByteArray).data.toList = [58, 58, 49, 58, 48] from rfl, live_p1] at h
    exact h)
  have HP2 := Lib.hid (fun W t => show Calls Tryd.prog 13 #[.string ⟨#[49, 48, 46, 48, 46, 48, 46, 48, 47, 56]⟩] W fun e w' => e = .returned (.tuple #[.agg #[.bool false, .int .u64 ((0 : Nat) : Int), .int .u64 ((167772160 : Nat) : Int), .int .i64 ((8 : Nat) : Int)], .int .i64 0]) ∧ Below W.heap.size W w' from by
    have h := qpparse_any ⟨#[49, 48, 46, 48, 46, 48, 46, 48, 47, 56]⟩ W (by decide) t
    rw [show (⟨#[49, 48, 46, 48, 46, 48, 46, 48, 47, 56]⟩ : ByteArray).data.toList = [49, 48, 46, 48, 46, 48, 46, 48, 47, 56] from rfl, live_p2] at h
    exact h)
  have HP3 := Lib.hid (fun W t => show Calls Tryd.prog 11 #[.string ⟨#[49, 48, 46, 49, 46, 50, 46, 51]⟩] W fun e w' => e = .returned (.tuple #[.agg #[.bool false, .int .u64 ((0 : Nat) : Int), .int .u64 ((167838211 : Nat) : Int)], .int .i64 0]) ∧ Below W.heap.size W w' from by
    have h := qparse_any ⟨#[49, 48, 46, 49, 46, 50, 46, 51]⟩ W (by decide) t
    rw [show (⟨#[49, 48, 46, 49, 46, 50, 46, 51]⟩ : ByteArray).data.toList = [49, 48, 46, 49, 46, 50, 46, 51] from rfl, live_p3] at h
    exact h)
  have HNX := Lib.hid (fun W => show Calls Tryd.prog 31 #[.agg #[.bool false, .int .u64 0, .int .u64 255]] W fun e w' => e = .returned (.tuple #[.agg #[.bool false, .int .u64 ((0 : Nat) : Int), .int .u64 ((256 : Nat) : Int)], .bool true]) ∧ Below W.heap.size W w' from by
    have h := qnext_any false 0 255 W (by decide) (by decide) (by decide)
    rw [live_n] at h
    exact h)
  have HCO := Lib.hid (fun W => show Calls Tryd.prog 37 #[.agg #[.bool false, .int .u64 0, .int .u64 167772160, .int .i64 8], .agg #[.bool false, .int .u64 0, .int .u64 167838211]] W fun e w' => e = .returned (.bool true) ∧ Below W.heap.size W w' from by
    have h := qcont_any false 0 167772160 ((8 : Nat) : Int) false 0 167838211 W (by decide) (by decide)
    rw [live_c] at h
    exact h)
  have HVA := Lib.hid (fun W => show Calls Tryd.prog 15 #[.agg #[.bool false, .int .u64 0, .int .u64 167838211]] W fun e w' => e = .returned (.bool true) ∧ Below W.heap.size W w' from by
    have h := qvalid_any false 0 167838211 W
    rw [live_v] at h
    exact h)
  have HF4 := Lib.hid (fun W t => show Calls Tryd.prog 21 #[.agg #[.bool false, .int .u64 0, .int .u64 167838211]] W fun e w' => e = .returned (.string ⟨#[49, 48, 46, 49, 46, 50, 46, 51]⟩) ∧ Below W.heap.size W w' from by
    have h := qfmt_any false 0 167838211 W (by decide) (by decide) (by decide) t
    rw [live_f4] at h
    exact h)
  have HF6 := Lib.hid (fun W t => show Calls Tryd.prog 21 #[.agg #[.bool true, .int .u64 0, .int .u64 65536]] W fun e w' => e = .returned (.string ⟨#[58, 58, 49, 58, 48]⟩) ∧ Below W.heap.size W w' from by
    have h := qfmt_any true 0 65536 W (by decide) (by decide) (by decide) t
    rw [live_f6] at h
    exact h)
  have HCM := Lib.hid (fun W => show Calls Tryd.prog 33 #[.agg #[.bool false, .int .u64 0, .int .u64 167838211], .agg #[.bool true, .int .u64 0, .int .u64 65536]] W fun e w' => e = .returned (.int .i64 (-1)) ∧ Below W.heap.size W w' from by
    have h := qcmp_any false 0 167838211 true 0 65536 W
    rw [live_cmp] at h
    exact h)
  have q1 := fun W => addr_eql true true 0 0 65536 65536 W
  have q2 := fun W => pfx_eql false false 0 0 167772160 167772160 8 8 W
  have q3 := fun W => addr_eql false false 0 0 256 256 W
  simp only [beq_self_eq_true, Bool.and_self] at q1 q2 q3
  clear ht
  go_enter Tryd.func10, Tryd.ntmps10
  go_wp2_with fail
  refine (HP1.out _ HT.out).mono ?_
  rintro e w1 ⟨rfl, hb⟩
  obtain ⟨g1, hg1⟩ : ∃ g, g = w1.heap.size := ⟨_, rfl⟩
  obtain ⟨W1, hW1⟩ : ∃ W, W = w1.alloc (.cells #[.bool true, .int .u64 0, .int .u64 65536] 25) := ⟨_, rfl⟩
  have HA1 := Lib.hid (show AB W1 g1 true 0 65536 by rw [hW1, hg1]; exact ab_new w1 true 0 65536)
  have HB1 := Lib.hid (show Below w.heap.size w W1 by rw [hW1]; exact hb.trans ((below_alloc6 w1 _).mono hb.size))
  have HT1 := Lib.hid (show TW W1 by rw [hW1]; exact (HT.out.kept hb).al _)
  clear hb
  go_wp2_with fail
  rw [← hW1, ← hg1]
  clear hW1 hg1
  refine (HP2.out _ HT1.out).mono ?_
  rintro e w2 ⟨rfl, hb⟩
  obtain ⟨g2, hg2⟩ : ∃ g, g = w2.heap.size := ⟨_, rfl⟩
  obtain ⟨W2, hW2⟩ : ∃ W, W = w2.alloc (.cells #[.bool false, .int .u64 0, .int .u64 167772160, .int .i64 8] 30) := ⟨_, rfl⟩
  have HA2 := Lib.hid (show PB W2 g2 false 0 167772160 8 by rw [hW2, hg2]; exact pb_new w2 false 0 167772160 8)
  have HB2 := Lib.hid (show Below w.heap.size w W2 by rw [hW2]; exact (HB1.out.trans (hb.mono HB1.out.size)).trans ((below_alloc6 w2 _).mono (HB1.out.trans (hb.mono HB1.out.size)).size))
  have HT2 := Lib.hid (show TW W2 by rw [hW2]; exact (HT1.out.kept hb).al _)
  have HA1_ := Lib.hid (show AB W2 g1 true 0 65536 by rw [hW2]; exact (HA1.out.kept hb HA1.out.lt).al _)
  clear hb
  go_wp2_with fail
  rw [← hW2, ← hg2]
  clear hW2 hg2
  refine (HP3.out _ HT2.out).mono ?_
  rintro e w3 ⟨rfl, hb⟩
  obtain ⟨g3, hg3⟩ : ∃ g, g = w3.heap.size := ⟨_, rfl⟩
  obtain ⟨W3, hW3⟩ : ∃ W, W = w3.alloc (.cells #[.bool false, .int .u64 0, .int .u64 167838211] 25) := ⟨_, rfl⟩
  have HA3 := Lib.hid (show AB W3 g3 false 0 167838211 by rw [hW3, hg3]; exact ab_new w3 false 0 167838211)
  have HB3 := Lib.hid (show Below w.heap.size w W3 by rw [hW3]; exact (HB2.out.trans (hb.mono HB2.out.size)).trans ((below_alloc6 w3 _).mono (HB2.out.trans (hb.mono HB2.out.size)).size))
  have HT3 := Lib.hid (show TW W3 by rw [hW3]; exact (HT2.out.kept hb).al _)
  have HA1__ := Lib.hid (show AB W3 g1 true 0 65536 by rw [hW3]; exact (HA1_.out.kept hb HA1_.out.lt).al _)
  have HA2_ := Lib.hid (show PB W3 g2 false 0 167772160 8 by rw [hW3]; exact (HA2.out.kept hb HA2.out.lt).al _)
  clear hb
  go_wp2_with fail
  rw [← hW3, ← hg3]
  clear hW3 hg3
  refine (HNX.out _).mono ?_
  rintro e w4 ⟨rfl, hb⟩
  obtain ⟨g4, hg4⟩ : ∃ g, g = w4.heap.size := ⟨_, rfl⟩
  obtain ⟨W4, hW4⟩ : ∃ W, W = w4.alloc (.cells #[.bool false, .int .u64 0, .int .u64 256] 25) := ⟨_, rfl⟩
  have HB4 := Lib.hid (show Below w.heap.size w W4 by rw [hW4]; exact (HB3.out.trans (hb.mono HB3.out.size)).trans ((below_alloc6 w4 _).mono (HB3.out.trans (hb.mono HB3.out.size)).size))
  have HT4 := Lib.hid (show TW W4 by rw [hW4]; exact (HT3.out.kept hb).al _)
  have HE4 := Lib.hid (show AB W4 g1 true 0 65536 ∧ PB W4 g2 false 0 167772160 8 ∧ AB W4 g3 false 0 167838211 ∧ AB W4 g4 false 0 256 from by rw [hW4, hg4]; exact ⟨(HA1__.out.kept hb HA1__.out.lt).al _, (HA2_.out.kept hb HA2_.out.lt).al _, (HA3.out.kept hb HA3.out.lt).al _, ab_new w4 false 0 256⟩)
  have hx1 := HA1__.out.kept hb HA1__.out.lt
  have hx2 := HA2_.out.kept hb HA2_.out.lt
  have hx3 := HA3.out.kept hb HA3.out.lt
  have a0 := hx1.c0
  have a1 := hx1.c1
  have a2 := hx1.c2
  have al := hx1.lt
  have p0 := hx2.c0
  have p1 := hx2.c1
  have p2 := hx2.c2
  have p3 := hx2.c3
  have pl := hx2.lt
  have b0 := hx3.c0
  have b1 := hx3.c1
  have b2 := hx3.c2
  have bl := hx3.lt
  clear hb hx1 hx2 hx3
  go_wp2_with fail
  rw [← hW4, ← hg4]
  clear hW4 hg4 al pl bl a0 a1 a2 p0 p1 p2 p3 b0 b1 b2
  refine (HCO.out _).mono ?_
  rintro e w5 ⟨rfl, hb⟩
  have HE5 := Lib.hid (show AB w5 g1 true 0 65536 ∧ PB w5 g2 false 0 167772160 8 ∧ AB w5 g3 false 0 167838211 ∧ AB w5 g4 false 0 256 from ⟨HE4.out.1.kept hb HE4.out.1.lt, HE4.out.2.1.kept hb HE4.out.2.1.lt, HE4.out.2.2.1.kept hb HE4.out.2.2.1.lt, HE4.out.2.2.2.kept hb HE4.out.2.2.2.lt⟩)
  have HB5 := Lib.hid (HB4.out.trans (hb.mono HB4.out.size))
  have HT5 := Lib.hid (HT4.out.kept hb)
  clear hb HE4 HB4 HT4
  have a0 := HE5.out.1.c0
  have a1 := HE5.out.1.c1
  have a2 := HE5.out.1.c2
  have p0 := HE5.out.2.1.c0
  have p1 := HE5.out.2.1.c1
  have p2 := HE5.out.2.1.c2
  have p3 := HE5.out.2.1.c3
  have b0 := HE5.out.2.2.1.c0
  have b1 := HE5.out.2.2.1.c1
  have b2 := HE5.out.2.2.1.c2
  have n0 := HE5.out.2.2.2.c0
  have n1 := HE5.out.2.2.2.c1
  have n2 := HE5.out.2.2.2.c2
  go_wp2_with fail
  clear a0 a1 a2 p0 p1 p2 p3 b0 b1 b2 n0 n1 n2
  refine (HVA.out _).mono ?_
  rintro e w6 ⟨rfl, hb⟩
  have HE6 := Lib.hid (show AB w6 g1 true 0 65536 ∧ PB w6 g2 false 0 167772160 8 ∧ AB w6 g3 false 0 167838211 ∧ AB w6 g4 false 0 256 from ⟨HE5.out.1.kept hb HE5.out.1.lt, HE5.out.2.1.kept hb HE5.out.2.1.lt, HE5.out.2.2.1.kept hb HE5.out.2.2.1.lt, HE5.out.2.2.2.kept hb HE5.out.2.2.2.lt⟩)
  have HB6 := Lib.hid (HB5.out.trans (hb.mono HB5.out.size))
  have HT6 := Lib.hid (HT5.out.kept hb)
  clear hb HE5 HB5 HT5
  have a0 := HE6.out.1.c0
  have a1 := HE6.out.1.c1
  have a2 := HE6.out.1.c2
  have p0 := HE6.out.2.1.c0
  have p1 := HE6.out.2.1.c1
  have p2 := HE6.out.2.1.c2
  have p3 := HE6.out.2.1.c3
  have b0 := HE6.out.2.2.1.c0
  have b1 := HE6.out.2.2.1.c1
  have b2 := HE6.out.2.2.1.c2
  have n0 := HE6.out.2.2.2.c0
  have n1 := HE6.out.2.2.2.c1
  have n2 := HE6.out.2.2.2.c2
  go_wp2_with fail
  clear a0 a1 a2 p0 p1 p2 p3 b0 b1 b2 n0 n1 n2
  refine (HF4.out _ HT6.out).mono ?_
  rintro e w7 ⟨rfl, hb⟩
  have HE7 := Lib.hid (show AB w7 g1 true 0 65536 ∧ PB w7 g2 false 0 167772160 8 ∧ AB w7 g3 false 0 167838211 ∧ AB w7 g4 false 0 256 from ⟨HE6.out.1.kept hb HE6.out.1.lt, HE6.out.2.1.kept hb HE6.out.2.1.lt, HE6.out.2.2.1.kept hb HE6.out.2.2.1.lt, HE6.out.2.2.2.kept hb HE6.out.2.2.2.lt⟩)
  have HB7 := Lib.hid (HB6.out.trans (hb.mono HB6.out.size))
  have HT7 := Lib.hid (HT6.out.kept hb)
  clear hb HE6 HB6 HT6
  have a0 := HE7.out.1.c0
  have a1 := HE7.out.1.c1
  have a2 := HE7.out.1.c2
  have p0 := HE7.out.2.1.c0
  have p1 := HE7.out.2.1.c1
  have p2 := HE7.out.2.1.c2
  have p3 := HE7.out.2.1.c3
  have b0 := HE7.out.2.2.1.c0
  have b1 := HE7.out.2.2.1.c1
  have b2 := HE7.out.2.2.1.c2
  have n0 := HE7.out.2.2.2.c0
  have n1 := HE7.out.2.2.2.c1
  have n2 := HE7.out.2.2.2.c2
  go_wp2_with fail
  clear a0 a1 a2 p0 p1 p2 p3 b0 b1 b2 n0 n1 n2
  refine (HF6.out _ HT7.out).mono ?_
  rintro e w8 ⟨rfl, hb⟩
  have HE8 := Lib.hid (show AB w8 g1 true 0 65536 ∧ PB w8 g2 false 0 167772160 8 ∧ AB w8 g3 false 0 167838211 ∧ AB w8 g4 false 0 256 from ⟨HE7.out.1.kept hb HE7.out.1.lt, HE7.out.2.1.kept hb HE7.out.2.1.lt, HE7.out.2.2.1.kept hb HE7.out.2.2.1.lt, HE7.out.2.2.2.kept hb HE7.out.2.2.2.lt⟩)
  have HB8 := Lib.hid (HB7.out.trans (hb.mono HB7.out.size))
  have HT8 := Lib.hid (HT7.out.kept hb)
  clear hb HE7 HB7 HT7
  have a0 := HE8.out.1.c0
  have a1 := HE8.out.1.c1
  have a2 := HE8.out.1.c2
  have p0 := HE8.out.2.1.c0
  have p1 := HE8.out.2.1.c1
  have p2 := HE8.out.2.1.c2
  have p3 := HE8.out.2.1.c3
  have b0 := HE8.out.2.2.1.c0
  have b1 := HE8.out.2.2.1.c1
  have b2 := HE8.out.2.2.1.c2
  have n0 := HE8.out.2.2.2.c0
  have n1 := HE8.out.2.2.2.c1
  have n2 := HE8.out.2.2.2.c2
  go_wp2_with fail
  clear a0 a1 a2 p0 p1 p2 p3 b0 b1 b2 n0 n1 n2
  refine (HCM.out _).mono ?_
  rintro e w9 ⟨rfl, hb⟩
  have HE9 := Lib.hid (show AB w9 g1 true 0 65536 ∧ PB w9 g2 false 0 167772160 8 ∧ AB w9 g3 false 0 167838211 ∧ AB w9 g4 false 0 256 from ⟨HE8.out.1.kept hb HE8.out.1.lt, HE8.out.2.1.kept hb HE8.out.2.1.lt, HE8.out.2.2.1.kept hb HE8.out.2.2.1.lt, HE8.out.2.2.2.kept hb HE8.out.2.2.2.lt⟩)
  have HB9 := Lib.hid (HB8.out.trans (hb.mono HB8.out.size))
  have HT9 := Lib.hid (HT8.out.kept hb)
  clear hb HE8 HB8 HT8
  have a0 := HE9.out.1.c0
  have a1 := HE9.out.1.c1
  have a2 := HE9.out.1.c2
  have p0 := HE9.out.2.1.c0
  have p1 := HE9.out.2.1.c1
  have p2 := HE9.out.2.1.c2
  have p3 := HE9.out.2.1.c3
  have b0 := HE9.out.2.2.1.c0
  have b1 := HE9.out.2.2.1.c1
  have b2 := HE9.out.2.2.1.c2
  have n0 := HE9.out.2.2.2.c0
  have n1 := HE9.out.2.2.2.c1
  have n2 := HE9.out.2.2.2.c2
  go_wp2_with fail
  go_ret
  exact ⟨rfl, HB9.out⟩
end Go.Proofs.YtcblgbonijloiaaDoor

/- Contract of the reference of layer 6: Parse. -/
namespace Go.Proofs.YtcblgbonijloiaaDoor
open Go.ChangeShapes Go.WideShapes Go.ChangeAt Go.RowKit
set_option linter.unusedVariables false

set_option maxHeartbeats 4000000 in
set_option maxRecDepth 20000 in
theorem rprs_any (s : ByteArray) (w : World) (hs : s.size ≤ 900) :
    Calls Tryd.prog 12 #[.string s] w fun e w' => e = .returned (pRes s.data.toList) ∧ Below w.heap.size w w' := by
  have hlen := toList_length6 s
  obtain ⟨W0, hW0⟩ : ∃ W0, W0 = w.alloc (.cells #[.bool false, .int .u64 0, .int .u64 0] 25) := ⟨_, rfl⟩
  have HB0 := Lib.hid (show Below w.heap.size w W0 by rw [hW0]; exact below_alloc6 w _)
  have HE0 := Lib.hid (show AB W0 w.heap.size false 0 0 by rw [hW0]; exact ab_new w false 0 0)
  by_cases h64 : 64 < s.size
  · have HR := Lib.hid (show pRes s.data.toList = .tuple #[.agg #[.bool false, .int .u64 0, .int .u64 0], .int .i64 3] by unfold pRes; rw [if_pos (by omega)])
    have d : decide ((64 : Int) < (s.size : Int)) = true := by rw [decide_eq_true_eq]; omega
    clear hlen
    go_enter Tryd.func12, Tryd.ntmps12
    go_wp2_with fail
    rw [← hW0]
    exact bodyPost_ret (res_addr2 rfl _ _ rfl HE0.out) rfl ⟨by rw [HR.out]; rfl, HB0.out⟩
  have hr : pRes s.data.toList = adRes (prs s.data.toList) := by unfold pRes; rw [if_neg (by omega)]
  have d : decide ((64 : Int) < (s.size : Int)) = false := by rw [decide_eq_false_iff_not]; omega
  have HP4 := Lib.hid (fun W => rparse46_any s W (by omega))
  have HP6 := Lib.hid (fun W => rparse66_any s W hs)
  unfold prs at hr
  obtain ⟨Rz, hRz⟩ : ∃ Rz, Rz = pRes s.data.toList := ⟨_, rfl⟩
  rw [← hRz] at hr ⊢
  clear hRz
  cases h4 : parse4 s.data.toList with
  | some l =>
    rw [h4] at HP4 hr
    simp only [P4, Option.map_some] at HP4
    simp only [adRes] at hr
    generalize ofDigits 256 l = n at *
    have HR := Lib.hid hr
    clear h4 hr hlen HP6
    go_enter Tryd.func12, Tryd.ntmps12
    go_wp2_with fail
    rw [← hW0]
    clear hW0
    refine (HP4.out _).mono ?_
    rintro e w2 ⟨rfl, hb⟩
    have HB2 := Lib.hid (HB0.out.trans (hb.mono HB0.out.size))
    have HR2 := Lib.hid (HE0.out.kept hb HE0.out.lt)
    clear hb HB0 HE0
    have hgr := HR2.out.lt
    have r0 := HR2.out.c0
    have r1 := HR2.out.c1
    have r2 := HR2.out.c2
    have rf0 := HR2.out.f 0
    have rf1 := HR2.out.f 1
    have rf2 := HR2.out.f 2
    go_wp2_with fail
    change bodyPost _ _ _ _ _ ((aset w2 w.heap.size false 0 n).alloc _)
    have HR3 := HR2.out.set false 0 n
    have HB3 := aset_below HB2.out (Nat.le_refl _) false 0 n
    exact bodyPost_ret (res_addr2 rfl _ _ rfl (HR3.kept (below_alloc6 _ _) HR3.lt)) rfl ⟨by rw [HR.out]; rfl, HB3.trans ((below_alloc6 _ _).mono HB3.size)⟩
  | none =>
    rw [h4] at HP4 hr
    simp only [P4, Option.map_none] at HP4
    cases h6 : parse6 s.data.toList with
    | none =>
      rw [h6] at HP6 hr
      simp only [P6] at HP6
      simp only [Option.map_none, adRes] at hr
      have HR := Lib.hid hr
      clear h4 h6 hr hlen
      go_enter Tryd.func12, Tryd.ntmps12
      go_wp2_with fail
      rw [← hW0]
      clear hW0
      refine (HP4.out _).mono ?_
      rintro e w1 ⟨rfl, hb⟩
      obtain ⟨ga, hga⟩ : ∃ g, g = w1.heap.size := ⟨_, rfl⟩
      obtain ⟨W1, hW1⟩ : ∃ W, W = w1.alloc (.cells #[.bool false, .int .u64 0, .int .u64 0] 25) := ⟨_, rfl⟩
      have HE1 := Lib.hid (show AB W1 w.heap.size false 0 0 ∧ AB W1 ga false 0 0 from by rw [hW1, hga]; exact ⟨(HE0.out.kept hb HE0.out.lt).al _ , ab_new w1 false 0 0⟩)
      have HB1 := Lib.hid (show Below w.heap.size w W1 by rw [hW1]; exact (HB0.out.trans (hb.mono HB0.out.size)).trans ((below_alloc6 w1 _).mono (HB0.out.trans (hb.mono HB0.out.size)).size))
      have HLT_ga := Lib.hid (show w.heap.size < ga ∧ w.heap.size ≤ ga from by rw [hga]; exact ⟨(HE0.out.kept hb HE0.out.lt).lt , (HB0.out.trans (hb.mono HB0.out.size)).size⟩)
      have hx := HE0.out.kept hb HE0.out.lt
      have f0_0 := hx.c0
      have f0_1 := hx.c1
      have f0_2 := hx.c2
      have fl0 := hx.lt
      clear hx
      clear hb HE0 HB0 
      go_wp2_with fail
      first | rw [← hW1, ← hga] | rw [← hW1] | skip
      clear hW1 hga
      clear f0_0 f0_1 f0_2 fl0
      refine (HP6.out _).mono ?_
      rintro e w2 ⟨rfl, hb⟩
      obtain ⟨W2, hW2⟩ : ∃ W, W = ((w2.setCell ⟨ga, 0, none⟩ (.bool false)).setCell ⟨ga, 1, none⟩ (.int .u64 0)).setCell ⟨ga, 2, none⟩ (.int .u64 0) := ⟨_, rfl⟩
      have HE2 := Lib.hid (show AB W2 w.heap.size false 0 0 ∧ AB W2 ga false 0 0 from by rw [hW2]; exact ⟨(((HE1.out.1.kept hb HE1.out.1.lt).far (Nat.ne_of_lt HLT_ga.out.1) _).far (Nat.ne_of_lt HLT_ga.out.1) _).far (Nat.ne_of_lt HLT_ga.out.1) _ , (HE1.out.2.kept hb HE1.out.2.lt).set false 0 0⟩)
      have HB2 := Lib.hid (show Below w.heap.size w W2 by rw [hW2]; exact aset_below (HB1.out.trans (hb.mono HB1.out.size)) HLT_ga.out.2 false 0 0)
      have hx := (HE1.out.1.kept hb HE1.out.1.lt)
      have f0_0 := hx.c0
      have f0_1 := hx.c1
      have f0_2 := hx.c2
      have fl0 := hx.lt
      clear hx
      have hx := (HE1.out.2.kept hb HE1.out.2.lt)
      have f1_0 := hx.c0
      have qf1_0 := hx.f 0
      have f1_1 := hx.c1
      have qf1_1 := hx.f 1
      have f1_2 := hx.c2
      have qf1_2 := hx.f 2
      have fl1 := hx.lt
      clear hx
      have g0_0 := HE2.out.1.c0
      rw [hW2] at g0_0
      have g0_1 := HE2.out.1.c1
      rw [hW2] at g0_1
      have g0_2 := HE2.out.1.c2
      rw [hW2] at g0_2
      have g1_0 := HE2.out.2.c0
      rw [hW2] at g1_0
      have g1_1 := HE2.out.2.c1
      rw [hW2] at g1_1
      have g1_2 := HE2.out.2.c2
      rw [hW2] at g1_2
      have gf0_0 := HE2.out.1.f 0
      rw [hW2] at gf0_0
      have gf0_1 := HE2.out.1.f 1
      rw [hW2] at gf0_1
      have gf0_2 := HE2.out.1.f 2
      rw [hW2] at gf0_2
      clear hb HE1 HB1 
      go_wp2_with fail
      rw [← hW2]
      clear hW2
      change bodyPost _ _ _ _ _ (aset W2 w.heap.size false 0 0)
      exact bodyPost_ret (res_addr2 rfl _ _ rfl (HE2.out.1.set false 0 0)) rfl ⟨by rw [HR.out]; rfl, aset_below HB2.out (Nat.le_refl _) false 0 0⟩
    | some l =>
      rw [h6] at HP6 hr
      simp only [P6] at HP6
      simp only [Option.map_some, adRes] at hr
      generalize halfH l = hi at *
      generalize halfL l = lo at *
      have HR := Lib.hid hr
      clear h4 h6 hr hlen
      go_enter Tryd.func12, Tryd.ntmps12
      go_wp2_with fail
      rw [← hW0]
      clear hW0
      refine (HP4.out _).mono ?_
      rintro e w1 ⟨rfl, hb⟩
      obtain ⟨ga, hga⟩ : ∃ g, g = w1.heap.size := ⟨_, rfl⟩
      obtain ⟨W1, hW1⟩ : ∃ W, W = w1.alloc (.cells #[.bool false, .int .u64 0, .int .u64 0] 25) := ⟨_, rfl⟩
      have HE1 := Lib.hid (show AB W1 w.heap.size false 0 0 ∧ AB W1 ga false 0 0 from by rw [hW1, hga]; exact ⟨(HE0.out.kept hb HE0.out.lt).al _ , ab_new w1 false 0 0⟩)
      have HB1 := Lib.hid (show Below w.heap.size w W1 by rw [hW1]; exact (HB0.out.trans (hb.mono HB0.out.size)).trans ((below_alloc6 w1 _).mono (HB0.out.trans (hb.mono HB0.out.size)).size))
      have HLT_ga := Lib.hid (show w.heap.size < ga ∧ w.heap.size ≤ ga from by rw [hga]; exact ⟨(HE0.out.kept hb HE0.out.lt).lt , (HB0.out.trans (hb.mono HB0.out.size)).size⟩)
      have hx := HE0.out.kept hb HE0.out.lt
      have f0_0 := hx.c0
      have f0_1 := hx.c1
      have f0_2 := hx.c2
      have fl0 := hx.lt
      clear hx
      clear hb HE0 HB0 
      go_wp2_with fail
      first | rw [← hW1, ← hga] | rw [← hW1] | skip
      clear hW1 hga
      clear f0_0 f0_1 f0_2 fl0
      refine (HP6.out _).mono ?_
      rintro e w2 ⟨rfl, hb⟩
      obtain ⟨W2, hW2⟩ : ∃ W, W = ((w2.setCell ⟨ga, 0, none⟩ (.bool true)).setCell ⟨ga, 1, none⟩ (.int .u64 hi)).setCell ⟨ga, 2, none⟩ (.int .u64 lo) := ⟨_, rfl⟩
      have HE2 := Lib.hid (show AB W2 w.heap.size false 0 0 ∧ AB W2 ga true hi lo from by rw [hW2]; exact ⟨(((HE1.out.1.kept hb HE1.out.1.lt).far (Nat.ne_of_lt HLT_ga.out.1) _).far (Nat.ne_of_lt HLT_ga.out.1) _).far (Nat.ne_of_lt HLT_ga.out.1) _ , (HE1.out.2.kept hb HE1.out.2.lt).set true hi lo⟩)
      have HB2 := Lib.hid (show Below w.heap.size w W2 by rw [hW2]; exact aset_below (HB1.out.trans (hb.mono HB1.out.size)) HLT_ga.out.2 true hi lo)
      have hx := (HE1.out.1.kept hb HE1.out.1.lt)
      have f0_0 := hx.c0
      have f0_1 := hx.c1
      have f0_2 := hx.c2
      have fl0 := hx.lt
      clear hx
      have hx := (HE1.out.2.kept hb HE1.out.2.lt)
      have f1_0 := hx.c0
      have qf1_0 := hx.f 0
      have f1_1 := hx.c1
      have qf1_1 := hx.f 1
      have f1_2 := hx.c2
      have qf1_2 := hx.f 2
      have fl1 := hx.lt
      clear hx
      have g0_0 := HE2.out.1.c0
      rw [hW2] at g0_0
      have g0_1 := HE2.out.1.c1
      rw [hW2] at g0_1
      have g0_2 := HE2.out.1.c2
      rw [hW2] at g0_2
      have g1_0 := HE2.out.2.c0
      rw [hW2] at g1_0
      have g1_1 := HE2.out.2.c1
      rw [hW2] at g1_1
      have g1_2 := HE2.out.2.c2
      rw [hW2] at g1_2
      have gf0_0 := HE2.out.1.f 0
      rw [hW2] at gf0_0
      have gf0_1 := HE2.out.1.f 1
      rw [hW2] at gf0_1
      have gf0_2 := HE2.out.1.f 2
      rw [hW2] at gf0_2
      clear hb HE1 HB1 
      go_wp2_with fail
      rw [← hW2]
      clear hW2
      change bodyPost _ _ _ _ _ (aset W2 w.heap.size true hi lo)
      exact bodyPost_ret (res_addr2 rfl _ _ rfl (HE2.out.1.set true hi lo)) rfl ⟨by rw [HR.out]; rfl, aset_below HB2.out (Nat.le_refl _) true hi lo⟩
end Go.Proofs.YtcblgbonijloiaaDoor
