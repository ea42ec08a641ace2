/- Contracts of the functions, part 7: AdqHex, Pick, PrtPFI, PrtRDig, PrtRFmt, PrtPFmt, PrtPar, PrtRNum, PrtBnd, PrtRSpl. -/
import Derived.Deep.QuietTactic
import Derived.Laws.StructEq
import Derived.Laws.RangeAny
import Derived.Test.YtepbmnpjpkmmfaaGreatDoorPA1
import Derived.Test.YtepbmnpjpkmmfaaGreatDoorPA3
import Derived.Test.YtepbmnpjpkmmfaaGreatDoorPA4
import Derived.Test.YtepbmnpjpkmmfaaGreatDoorPA5
import Derived.Test.YtepbmnpjpkmmfaaGreatDoorPA6
/- Contract of strconv.FormatUint at base 16 for numbers of 16 bits. -/
namespace Go.Proofs.YtepbmnpjpkmmfaaGreatDoor
open Go.ChangeShapes Go.WideShapes Go.ChangeAt Go.RowKit
set_option linter.unusedVariables false

theorem hexL_get : ∀ (k n : Nat), n < 16 ^ (k + 1) → (k = 0 ∨ 16 ^ k ≤ n) → (hexL n).length = k + 1 ∧ ∀ j, j < k + 1 → (hexL n)[j]? = some (hexd (n / 16 ^ (k - j) % 16))
  | 0, n, h, _ => by
    have h16 : n < 16 := by simpa using h
    rw [hexL, if_pos (by omega)]
    refine ⟨rfl, fun j hj => ?_⟩
    obtain rfl : j = 0 := by omega
    simp [Nat.mod_eq_of_lt h16]
  | k + 1, n, h, hk => by
    have h1 : 16 ^ (k + 1) ≤ n := by rcases hk with e | e; · omega
                                     · exact e
    have hp : 16 ≤ 16 ^ (k + 1) := by
      have := Nat.pow_le_pow_right (n := 16) (by omega) (show 1 ≤ k + 1 by omega)
      simpa using this
    have h2 : n / 16 < 16 ^ (k + 1) := by rw [Nat.div_lt_iff_lt_mul (by omega), ← Nat.pow_succ]; exact h
    have h3 : k = 0 ∨ 16 ^ k ≤ n / 16 := by
      right
      rw [Nat.le_div_iff_mul_le (by omega), ← Nat.pow_succ]; exact h1
    obtain ⟨ih1, ih2⟩ := hexL_get k (n / 16) h2 h3
    rw [hexL, if_neg (by omega)]
    refine ⟨by rw [List.length_append, ih1]; rfl, fun j hj => ?_⟩
    by_cases hjk : j < k + 1
    · rw [List.getElem?_append_left (by rw [ih1]; exact hjk), ih2 j hjk, Nat.div_div_eq_div_mul, Nat.mul_comm 16, ← Nat.pow_succ, show (k - j).succ = k + 1 - j by omega]
    · obtain rfl : j = k + 1 := by omega
      rw [List.getElem?_append_right (by rw [ih1]; exact Nat.le_refl _), ih1, Nat.sub_self, Nat.pow_zero, Nat.div_one]
      rfl
set_option maxRecDepth 20000 in
theorem lpow2_16 (w : World) : Calls Tryz.prog 123 #[.int .i64 16] w fun e w' => e = .returned (.bool true) ∧ w' = w := by
  have h : bits .and .i64 16 15 = 0 := by decide
  go_enter Tryz.func123, Tryz.ntmps123
  go_wp2_with fail
  go_ret
  exact ⟨rfl, rfl⟩
set_option maxRecDepth 20000 in
theorem ltrail64_16 (w : World) (ht : TW w) : Calls Tryz.prog 130 #[.int .u64 16] w fun e w' => e = .returned (.int .i64 4) ∧ w' = w := by
  have hdb := ht.db
  have h0 : IntKind.u64.wrap (-16) = 18446744073709551600 := by decide
  have h1 : bits .and .u64 16 18446744073709551600 = 16 := by decide
  have h2 : IntKind.u64.wrap (16 * 285870213051353865) = 4573923408821661840 := by decide
  have h3 : IntKind.u64.wrap 4573923408821661840 = 4573923408821661840 := by decide
  go_enter Tryz.func130, Tryz.ntmps130
  go_wp2_with fail
  go_ret
  exact ⟨rfl, rfl⟩
set_option maxRecDepth 20000 in
theorem ltrail_16 (w : World) (ht : TW w) : Calls Tryz.prog 124 #[.int .u64 16] w fun e w' => e = .returned (.int .i64 4) ∧ w' = w := by
  have H := Lib.hid (ltrail64_16 w ht)
  go_enter Tryz.func124, Tryz.ntmps124
  go_wp2_with fail
  refine H.out.mono ?_
  rintro e w2 ⟨rfl, hw⟩
  have hw' := hw.symm
  clear hw
  subst hw'
  go_wp2_with fail
  go_ret
  exact ⟨rfl, rfl⟩
/-- The digits, one by one. -/
theorem dig36 (j : Nat) (h : j < 16) (W : World) : (Instr.index 9 (.string ⟨#[48, 49, 50, 51, 52, 53, 54, 55, 56, 57, 97, 98, 99, 100, 101, 102, 103, 104, 105, 106, 107, 108, 109, 110, 111, 112, 113, 114, 115, 116, 117, 118, 119, 120, 121, 122]⟩) (.int .u64 (j : Int))).run Tryz.prog W = .ok (.int .u8 (((hexd j).toNat : Nat) : Int)) W := by
  have i0 : ∀ V, (Instr.index 9 (.string ⟨#[48, 49, 50, 51, 52, 53, 54, 55, 56, 57, 97, 98, 99, 100, 101, 102, 103, 104, 105, 106, 107, 108, 109, 110, 111, 112, 113, 114, 115, 116, 117, 118, 119, 120, 121, 122]⟩) (.int .u64 0)).run Tryz.prog V = .ok (.int .u8 48) V := fun _ => by kernel_rfl
  have i1 : ∀ V, (Instr.index 9 (.string ⟨#[48, 49, 50, 51, 52, 53, 54, 55, 56, 57, 97, 98, 99, 100, 101, 102, 103, 104, 105, 106, 107, 108, 109, 110, 111, 112, 113, 114, 115, 116, 117, 118, 119, 120, 121, 122]⟩) (.int .u64 1)).run Tryz.prog V = .ok (.int .u8 49) V := fun _ => by kernel_rfl
  have i2 : ∀ V, (Instr.index 9 (.string ⟨#[48, 49, 50, 51, 52, 53, 54, 55, 56, 57, 97, 98, 99, 100, 101, 102, 103, 104, 105, 106, 107, 108, 109, 110, 111, 112, 113, 114, 115, 116, 117, 118, 119, 120, 121, 122]⟩) (.int .u64 2)).run Tryz.prog V = .ok (.int .u8 50) V := fun _ => by kernel_rfl
  have i3 : ∀ V, (Instr.index 9 (.string ⟨#[48, 49, 50, 51, 52, 53, 54, 55, 56, 57, 97, 98, 99, 100, 101, 102, 103, 104, 105, 106, 107, 108, 109, 110, 111, 112, 113, 114, 115, 116, 117, 118, 119, 120, 121, 122]⟩) (.int .u64 3)).run Tryz.prog V = .ok (.int .u8 51) V := fun _ => by kernel_rfl
  have i4 : ∀ V, (Instr.index 9 (.string ⟨#[48, 49, 50, 51, 52, 53, 54, 55, 56, 57, 97, 98, 99, 100, 101, 102, 103, 104, 105, 106, 107, 108, 109, 110, 111, 112, 113, 114, 115, 116, 117, 118, 119, 120, 121, 122]⟩) (.int .u64 4)).run Tryz.prog V = .ok (.int .u8 52) V := fun _ => by kernel_rfl
  have i5 : ∀ V, (Instr.index 9 (.string ⟨#[48, 49, 50, 51, 52, 53, 54, 55, 56, 57, 97, 98, 99, 100, 101, 102, 103, 104, 105, 106, 107, 108, 109, 110, 111, 112, 113, 114, 115, 116, 117, 118, 119, 120, 121, 122]⟩) (.int .u64 5)).run Tryz.prog V = .ok (.int .u8 53) V := fun _ => by kernel_rfl
  have i6 : ∀ V, (Instr.index 9 (.string ⟨#[48, 49, 50, 51, 52, 53, 54, 55, 56, 57, 97, 98, 99, 100, 101, 102, 103, 104, 105, 106, 107, 108, 109, 110, 111, 112, 113, 114, 115, 116, 117, 118, 119, 120, 121, 122]⟩) (.int .u64 6)).run Tryz.prog V = .ok (.int .u8 54) V := fun _ => by kernel_rfl
  have i7 : ∀ V, (Instr.index 9 (.string ⟨#[48, 49, 50, 51, 52, 53, 54, 55, 56, 57, 97, 98, 99, 100, 101, 102, 103, 104, 105, 106, 107, 108, 109, 110, 111, 112, 113, 114, 115, 116, 117, 118, 119, 120, 121, 122]⟩) (.int .u64 7)).run Tryz.prog V = .ok (.int .u8 55) V := fun _ => by kernel_rfl
  have i8 : ∀ V, (Instr.index 9 (.string ⟨#[48, 49, 50, 51, 52, 53, 54, 55, 56, 57, 97, 98, 99, 100, 101, 102, 103, 104, 105, 106, 107, 108, 109, 110, 111, 112, 113, 114, 115, 116, 117, 118, 119, 120, 121, 122]⟩) (.int .u64 8)).run Tryz.prog V = .ok (.int .u8 56) V := fun _ => by kernel_rfl
  have i9 : ∀ V, (Instr.index 9 (.string ⟨#[48, 49, 50, 51, 52, 53, 54, 55, 56, 57, 97, 98, 99, 100, 101, 102, 103, 104, 105, 106, 107, 108, 109, 110, 111, 112, 113, 114, 115, 116, 117, 118, 119, 120, 121, 122]⟩) (.int .u64 9)).run Tryz.prog V = .ok (.int .u8 57) V := fun _ => by kernel_rfl
  have i10 : ∀ V, (Instr.index 9 (.string ⟨#[48, 49, 50, 51, 52, 53, 54, 55, 56, 57, 97, 98, 99, 100, 101, 102, 103, 104, 105, 106, 107, 108, 109, 110, 111, 112, 113, 114, 115, 116, 117, 118, 119, 120, 121, 122]⟩) (.int .u64 10)).run Tryz.prog V = .ok (.int .u8 97) V := fun _ => by kernel_rfl
  have i11 : ∀ V, (Instr.index 9 (.string ⟨#[48, 49, 50, 51, 52, 53, 54, 55, 56, 57, 97, 98, 99, 100, 101, 102, 103, 104, 105, 106, 107, 108, 109, 110, 111, 112, 113, 114, 115, 116, 117, 118, 119, 120, 121, 122]⟩) (.int .u64 11)).run Tryz.prog V = .ok (.int .u8 98) V := fun _ => by kernel_rfl
  have i12 : ∀ V, (Instr.index 9 (.string ⟨#[48, 49, 50, 51, 52, 53, 54, 55, 56, 57, 97, 98, 99, 100, 101, 102, 103, 104, 105, 106, 107, 108, 109, 110, 111, 112, 113, 114, 115, 116, 117, 118, 119, 120, 121, 122]⟩) (.int .u64 12)).run Tryz.prog V = .ok (.int .u8 99) V := fun _ => by kernel_rfl
  have i13 : ∀ V, (Instr.index 9 (.string ⟨#[48, 49, 50, 51, 52, 53, 54, 55, 56, 57, 97, 98, 99, 100, 101, 102, 103, 104, 105, 106, 107, 108, 109, 110, 111, 112, 113, 114, 115, 116, 117, 118, 119, 120, 121, 122]⟩) (.int .u64 13)).run Tryz.prog V = .ok (.int .u8 100) V := fun _ => by kernel_rfl
  have i14 : ∀ V, (Instr.index 9 (.string ⟨#[48, 49, 50, 51, 52, 53, 54, 55, 56, 57, 97, 98, 99, 100, 101, 102, 103, 104, 105, 106, 107, 108, 109, 110, 111, 112, 113, 114, 115, 116, 117, 118, 119, 120, 121, 122]⟩) (.int .u64 14)).run Tryz.prog V = .ok (.int .u8 101) V := fun _ => by kernel_rfl
  have i15 : ∀ V, (Instr.index 9 (.string ⟨#[48, 49, 50, 51, 52, 53, 54, 55, 56, 57, 97, 98, 99, 100, 101, 102, 103, 104, 105, 106, 107, 108, 109, 110, 111, 112, 113, 114, 115, 116, 117, 118, 119, 120, 121, 122]⟩) (.int .u64 15)).run Tryz.prog V = .ok (.int .u8 102) V := fun _ => by kernel_rfl
  have hk : j = 0 ∨ j = 1 ∨ j = 2 ∨ j = 3 ∨ j = 4 ∨ j = 5 ∨ j = 6 ∨ j = 7 ∨ j = 8 ∨ j = 9 ∨ j = 10 ∨ j = 11 ∨ j = 12 ∨ j = 13 ∨ j = 14 ∨ j = 15 := by omega
  rcases hk with rfl | rfl | rfl | rfl | rfl | rfl | rfl | rfl | rfl | rfl | rfl | rfl | rfl | rfl | rfl | rfl
  · exact i0 W
  · exact i1 W
  · exact i2 W
  · exact i3 W
  · exact i4 W
  · exact i5 W
  · exact i6 W
  · exact i7 W
  · exact i8 W
  · exact i9 W
  · exact i10 W
  · exact i11 W
  · exact i12 W
  · exact i13 W
  · exact i14 W
  · exact i15 W
theorem and15 (u : Nat) (h : u < 18446744073709551616) : bits .and .u64 (u : Int) 15 = ((u % 16 : Nat) : Int) := by
  have := u64_and_nat u 15 h (by omega)
  rw [show ((15 : Nat) : Int) = 15 from rfl] at this
  rw [this]
  congr 1
  exact Nat.and_two_pow_sub_one_eq_mod u 4
theorem row65 (w : World) (cs : Array Value) (h : cs = Array.replicate 65 (.int .u8 0)) : (w.alloc (.cells cs 137)).rowIs w.heap.size 137 65 (fun _ => .int .u8 0) := by
  subst h
  refine World.rowIs.congr (World.rowIs_alloc w _ _ (fun _ => .int .u8 0) ?_) (fun i _ => rfl)
  intro i hi
  rw [Array.size_replicate] at hi
  rw [Array.getElem?_replicate, if_pos hi]
theorem zero65 : Tryz.zeroCells137 = Array.replicate 65 (.int .u8 0) := by kernel_rfl
set_option maxHeartbeats 2000000 in
set_option maxRecDepth 40000 in
theorem lbits_any (n : Nat) (w : World) (hn : n < 65536) (ht : TW w) :
    Calls Tryz.prog 106 #[.slice none 0 0, .int .u64 n, .int .i64 16, .bool false, .bool false] w fun e w' => e = .returned (.tuple #[.slice none 0 0, .string (str (hexL n))]) ∧ Below w.heap.size w w' := by
  obtain ⟨W0, hW0⟩ : ∃ W0, W0 = w.alloc (.cells Tryz.zeroCells137 137) := ⟨_, rfl⟩
  have HT0 := Lib.hid (show TW W0 by rw [hW0]; exact ht.kept (below_alloc6 w _))
  have HB0 := Lib.hid (show Below w.heap.size w W0 by rw [hW0]; exact below_alloc6 w _)
  have HR0 := Lib.hid (show W0.rowIs w.heap.size 137 65 (fun _ => .int .u8 0) by rw [hW0]; exact row65 w _ zero65)
  have HIX := Lib.hid (fun j h => dig36 j h)
  have HPW := Lib.hid (fun W => lpow2_16 W)
  have HTR := Lib.hid (fun W h => ltrail_16 W h)
  have HA := Lib.hid (fun u h => and15 u h)
  clear ht
  go_enter Tryz.func106, Tryz.ntmps106
  go_wp2_with fail
  rw [← hW0]
  refine (HPW.out _).mono ?_
  rintro e w1 ⟨rfl, hw⟩
  have hw' := hw.symm
  clear hw hW0
  subst hw'
  go_wp2_with fail
  refine (HTR.out _ HT0.out).mono ?_
  rintro e w1 ⟨rfl, hw⟩
  have hw' := hw.symm
  clear hw
  subst hw'
  go_wp2_with fail
  go_loopw [1, 13] (fun v1 v13 wr => ∃ k u i : Nat, i + k = 65 ∧ k ≤ 4 ∧ v1 = .int .u64 u ∧ v13 = .int .i64 i ∧ u < 65536 ∧ Hid (u = n / 16 ^ k ∧ (k = 0 ∨ 16 ^ k ≤ n)) ∧ wr.rowIs w.heap.size 137 65 (fun x => .int .u8 (if i ≤ x then (((hexd (n / 16 ^ (64 - x) % 16)).toNat : Nat) : Int) else 0)) ∧ Below w.heap.size w wr) (fun v1 v13 _ => (intOf v13).toNat)
  case atStart => exact ⟨0, n, 65, rfl, by omega, rfl, rfl, hn, Lib.hid ⟨by simp, .inl rfl⟩, HR0.out.congr (fun x hx => by rw [if_neg (by omega)]), HB0.out⟩
  case round =>
    clear HR0 HB0
    obtain ⟨k, u, i, hik, hk4, rfl, rfl, hu, HU, hrow, hb⟩ := hrel
    obtain ⟨q, hq⟩ : ∃ q, i = q + 1 := ⟨i - 1, by omega⟩
    have hqi : (i : Int) - 1 = (q : Int) := by omega
    have hq65 : q < 65 := by omega
    have hc := hrow.cell hq65
    rw [if_neg (by omega)] at hc
    have hf := hrow.frozen q
    have HU16 := Lib.hid (show n / 16 ^ (64 - q) % 16 = u % 16 by rw [HU.out.1, show 64 - q = k by omega])
    have hq0 : (0 : Int) ≤ (q : Int) := by omega
    have hq1 : (q : Int) < 65 := by omega
    have HIK := Lib.hid (show i = q + 1 ∧ i + k = 65 from ⟨hq, hik⟩)
    by_cases h16 : 16 ≤ u
    · have d16 : decide ((16 : Int) ≤ (u : Int)) = true := by rw [decide_eq_true_eq]; omega
      have hand := HA.out u (by omega)
      have hix := HIX.out (u % 16) (by omega)
      obtain ⟨u1, hu1⟩ : ∃ u1, u1 = u / 16 := ⟨_, rfl⟩
      have hu1i : (u : Int) / 16 = (u1 : Int) := by omega
      have hu1j : (u : Int) / 2 ^ 4 = (u1 : Int) := by omega
      have hu1b : u1 < 65536 := by omega
      have HN := Lib.hid (show u1 = n / 16 ^ (k + 1) ∧ (k + 1 = 0 ∨ 16 ^ (k + 1) ≤ n) from ⟨by rw [hu1, HU.out.1, Nat.div_div_eq_div_mul, ← Nat.pow_succ], .inr (by
        have := HU.out.1
        rw [this, Nat.le_div_iff_mul_le (Nat.two_pow_pos 0 |> fun _ => Nat.pow_pos (by omega)), Nat.mul_comm, ← Nat.pow_succ] at h16
        exact h16)⟩)
      have hk3 : k + 1 ≤ 4 := by
        have h1 := HN.out.2.resolve_left (by omega)
        apply Decidable.byContradiction
        intro hc
        obtain rfl : k = 4 := by omega
        have e : (16 : Nat) ^ (4 + 1) = 1048576 := by decide
        omega
      obtain ⟨j, hj⟩ : ∃ j, j = u % 16 := ⟨_, rfl⟩
      rw [← hj] at hand hix HU16
      generalize hd : hexd j = d at *
      have HD := Lib.hid hd
      clear hj hu1 hq hik hd
      go_wp2_with fail
      exact ⟨⟨k + 1, u1, q, by have := HIK.out; omega, hk3, rfl, rfl, hu1b, HN, (hrow.set q _).congr (fun x hx => by
        have := HIK.out
        by_cases e : x = q
        · subst e
          rw [if_pos rfl, if_pos (by omega), HU16.out, HD.out]
        · rw [if_neg e]
          by_cases e2 : i ≤ x
          · rw [if_pos e2, if_pos (by omega)]
          · rw [if_neg e2, if_neg (by omega)]), hb.setCell (Nat.le_refl _) _⟩, by have := HIK.out; simp [intOf]; omega⟩
    · have d16 : decide ((16 : Int) ≤ (u : Int)) = false := by rw [decide_eq_false_iff_not]; omega
      have d16n : ¬ 16 ≤ u := h16
      have hix := HIX.out u (by omega)
      have HX := Lib.hid (hexL_get k n (by
        have e := HU.out.1
        rw [e] at h16
        rw [Nat.pow_succ]
        apply Decidable.byContradiction
        intro hc
        apply h16
        rw [Nat.le_div_iff_mul_le (Nat.pow_pos (by omega)), Nat.mul_comm]
        omega) HU.out.2)
      have HUM := Lib.hid (show n / 16 ^ (64 - q) % 16 = u by rw [HU16.out]; omega)
      generalize hd : hexd u = d at *
      have HD := Lib.hid hd
      clear hq hik hd HU HU16
      have hrow2 := hrow.set q (.int .u8 (d.toNat : Nat))
      have hb2 := hb.setCell (p := ⟨w.heap.size, q, none⟩) (Nat.le_refl _) (.int .u8 (d.toNat : Nat))
      obtain ⟨m, hm⟩ : ∃ m, m = k + 1 := ⟨_, rfl⟩
      have hqm : q + m = 65 := by have := HIK.out; omega
      have hl : (hexL n).length = m := by rw [HX.out.1, hm]
      have hbs : BS (wr.setCell ⟨w.heap.size, q, none⟩ (.int .u8 (d.toNat : Nat))) w.heap.size (.slice (some ⟨w.heap.size, q, none⟩) (hexL n).length m) (hexL n) := by
        refine ⟨some ⟨w.heap.size, q, none⟩, m, rfl, by omega, fun _ => ⟨w.heap.size, q, rfl, Nat.le_refl _, hrow2.lt, fun x hx => ?_⟩⟩
        have hx65 : q + x < 65 := by omega
        refine ⟨?_, hrow2.frozen (q + x)⟩
        rw [hrow2.cell hx65]
        have hg := HX.out.2 x (by omega)
        rw [List.getElem?_eq_getElem hx] at hg
        rw [Option.some.inj hg]
        by_cases e : x = 0
        · subst e
          rw [if_pos (by omega)]
          have e1 : k - 0 = 64 - q := by omega
          rw [e1, HUM.out, HD.out]
        · rw [if_neg (by omega), if_pos (by have := HIK.out; omega), show 64 - (q + x) = k - x by omega]
      have hcv := bs_string hbs
      rw [hl] at hcv
      have hmi : (65 : Int) - (q : Int) = (m : Int) := by omega
      have hmn : 65 - q = m := by omega
      have hq65i : (q : Int) ≤ 65 := by omega
      clear hbs hm hl hrow2
      have HB2 := Lib.hid hb2
      go_wp2_with fail
      go_ret2
      exact ⟨rfl, HB2.out⟩
/-- Join, as the walks use it. -/
theorem pjoin6 (g o cap : Nat) (L : List By) (c : UInt8) (w : World) (hg : g < w.heap.size) (hcells : ∀ (j : Nat) p, L[j]? = some p → w.cell? ⟨g, o + j, none⟩ = some (.string (str p))) (hcap : L.length ≤ cap) (hN : L.length ≤ 1000) (hlen : (joinC c L).length ≤ 100000) :
    Calls Tryz.prog 34 #[.slice (some ⟨g, o, none⟩) L.length cap, .string ⟨#[c]⟩] w fun e w' => e = .returned (.string (str (joinC c L))) ∧ Below w.heap.size w w' := by
  have hm : (L.map str).map (·.data.toList) = L := by
    rw [List.map_map]
    exact (List.map_congr_left (fun p _ => str_toList p)).trans (List.map_id L)
  have hl : (L.map str).length = L.length := List.length_map ..
  have h := lib_strings_Join g o cap (L.map str) ⟨#[c]⟩ w (fun j x hx => by
    rw [List.getElem?_map] at hx
    cases hq : L[j]? with
    | none => rw [hq] at hx; cases hx
    | some p =>
      rw [hq] at hx
      obtain rfl := Option.some.inj hx
      exact hcells j p hq) hg (by rw [hl]; omega) (by rw [hl]; exact hcap) (by rw [hm, byte_str, join_joinC]; omega)
  rw [hm, byte_str, join_joinC, hl] at h
  exact h
/-- Itoa, as the walks use it. -/
theorem pitoa6 (n : Nat) (w : World) (hn : n < 1000000) (ht : TW w) :
    Calls Tryz.prog 52 #[.int .i64 n] w fun e w' => e = .returned (.string (str (numL n))) ∧ Below w.heap.size w w' := by
  refine (lib_strconv_Itoa n (by omega) (by omega) w ht.p10).mono ?_
  rintro e w' ⟨rfl, k, os, rfl⟩
  refine ⟨by rw [itoa_num]; rfl, ?_⟩
  refine ⟨rfl, rfl, rfl, ?_, fun j hj => ?_⟩
  · show w.heap.size ≤ (w.heap ++ os).size
    rw [Array.size_append]; omega
  · show (w.heap ++ os)[j]? = w.heap[j]?
    rw [Array.getElem?_append_left hj]
end Go.Proofs.YtepbmnpjpkmmfaaGreatDoor

/- A region that draws its order, whose calls make memory and whose guards may be false: one walk of the lexical order, over any class of worlds (Deep/Quiet's law), the class written as the worlds 'p u' of a function p. -/
namespace Go.Proofs.YtepbmnpjpkmmfaaGreatDoor
open Go.ChangeShapes Go.WideShapes Go.ChangeAt Go.RowKit
set_option linter.unusedVariables false

theorem wp_region_pick {P : Program} {id : Nat} {Q : Exit → Act → World → Prop} {a : Act} {w : World} {l : List Oper} (S : World → Prop) (hm : P.follows .mixedOrders = true) (hB : Region.lexB .any l.toArray = true) (hS : S w) (hD : S { w with drawn := w.drawn + 1 })
    (h : ∀ p : World → World, (∀ u, S (p u)) → (∀ W, S W → ∃ u, W = p u) → wpQuiet P l.toArray (fun w' => ∃ u, w' = p u) (fun a' => ∀ w', (∃ u, w' = p u) → Q .normal a' w') l a) : (Code.region id l.toArray true).wp P Q a w := by
  classical
  have h1 : ∀ u, S ((fun u => if S u then u else w) u) := fun u => by
    show S (if S u then u else w)
    split
    · assumption
    · exact hS
  have h2 : ∀ W, S W → ∃ u, W = (fun u => if S u then u else w) u := fun W hW => ⟨W, by show W = if S W then W else w; rw [if_pos hW]⟩
  exact wp_region_quiet (C := fun w' => ∃ u, w' = (fun u => if S u then u else w) u) hm hB (h2 _ hD) (by simpa using h _ h1 h2)
/-- A callee's contract, met in a world of the class. -/
theorem Calls.pick_of {P : Program} {f : FuncId} {args : Array Value} {S : World → Prop} {p : World → World} {u : World} {v : Value} (hq : ∀ W, S W → ∃ u, W = p u) (hs : ∀ W', Below (p u).heap.size (p u) W' → S W')
    (h : Calls P f args (p u) fun e w' => e = .returned v ∧ Below (p u).heap.size (p u) w') : Calls P f args (p u) fun e w'' => e = .returned v ∧ ∃ u', w'' = p u' :=
  h.mono fun _ _ ⟨he, hb⟩ => ⟨he, hq _ (hs _ hb)⟩
end Go.Proofs.YtepbmnpjpkmmfaaGreatDoor

/- Contract of the program of layer 8: formatItem. -/
namespace Go.Proofs.YtepbmnpjpkmmfaaGreatDoor
open Go.ChangeShapes Go.WideShapes Go.ChangeAt Go.RowKit
set_option linter.unusedVariables false

theorem str_eq2 (a b : By) : ((str a).toList == (str b).toList) = decide (a = b) := by
  rw [(ByteArray.toList_eq _).trans (str_toList a), (ByteArray.toList_eq _).trans (str_toList b)]
  rw [Bool.eq_iff_iff, beq_iff_eq, decide_eq_true_eq]
set_option maxHeartbeats 2000000 in
set_option maxRecDepth 20000 in
theorem pfmtI8_any (lo hi : Nat) (w : World) (h1 : lo ≤ hi) (h2 : hi ≤ 65535) (ht : TW w) :
    Calls Tryz.prog 32 #[.agg #[.int .i64 (lo : Int), .int .i64 (hi : Int)]] w fun e w' => e = .returned (.string (str (fmtSp ⟨lo, hi⟩))) ∧ Below w.heap.size w w' := by
  obtain ⟨W0, hW0⟩ : ∃ W0, W0 = w.alloc (.cells #[.int .i64 (lo : Int), .int .i64 (hi : Int)] 34) := ⟨_, rfl⟩
  have HX := Lib.hid (show SB2 W0 w.heap.size lo hi by rw [hW0]; exact sb2_new w lo hi)
  have HB := Lib.hid (show Below w.heap.size w W0 by rw [hW0]; exact below_alloc5 w _)
  have HT := Lib.hid (show TW W0 from ht.kept (by rw [hW0]; exact below_alloc5 w _))
  have HI := Lib.hid (fun W t => pitoa6 lo W (by omega) t)
  have HJ := Lib.hid (fun W t => pitoa6 hi W (by omega) t)
  have heq := str_eq2 (numL lo) (numL hi)
  have hl1 := numL_len5 (n := lo) (by omega)
  have hl2 := numL_len5 h2
  have HC := Lib.hid (show str (numL lo) ++ (⟨#[58]⟩ : ByteArray) ++ str (numL hi) = str (numL lo ++ 58 :: numL hi) by
    rw [show (58 : UInt8) :: numL hi = [58] ++ numL hi from rfl, ← List.append_assoc, ← str_append, ← str_append]; rfl)
  have hs1 : (str (numL lo)).size ≤ 5 := by rw [str_size]; exact hl1
  have hs2 : (str (numL hi)).size ≤ 5 := by rw [str_size]; exact hl2
  have HE : lo = hi ∨ numL lo ≠ numL hi := by
    by_cases e : lo = hi
    · exact Or.inl e
    · exact Or.inr (fun h => e (numL_inj (by omega) h2 h))
  have HFE := Lib.hid (show lo = hi → str (fmtSp ⟨lo, hi⟩) = str (numL lo) from fun e => by rw [fmtSp_nat, if_pos e])
  have HFN := Lib.hid (show lo ≠ hi → str (fmtSp ⟨lo, hi⟩) = str (numL lo ++ 58 :: numL hi) from fun e => by rw [fmtSp_nat, if_neg e])
  generalize str (fmtSp ⟨lo, hi⟩) = F at *
  generalize str (numL lo ++ 58 :: numL hi) = G at *
  have hb : ((str (numL lo)).toList == (str (numL hi)).toList) = true ∧ lo = hi ∨ ((str (numL lo)).toList == (str (numL hi)).toList) = false ∧ lo ≠ hi := by
    rcases HE with e | e
    · exact Or.inl ⟨by rw [heq, e]; simp, e⟩
    · exact Or.inr ⟨by rw [heq]; simpa using e, fun h => e (by rw [h])⟩
  clear heq HE hl1 hl2 ht
  generalize str (numL lo) = P at *
  generalize str (numL hi) = Q at *
  have hk1 : (9223372036854775807 < P.size + 1) = False := by simp only [eq_iff_iff, iff_false]; omega
  have hk2 : (9223372036854775807 < P.size + (⟨#[58]⟩ : ByteArray).size) = False := hk1
  have hk3 : (9223372036854775807 < (P ++ (⟨#[58]⟩ : ByteArray)).size + Q.size) = False := by
    rw [ByteArray.size_append]; simp only [eq_iff_iff, iff_false]; show ¬ (_ < P.size + 1 + _); omega
  have hk4 : (9223372036854775807 < P.size + 1 + Q.size) = False := by simp only [eq_iff_iff, iff_false]; omega
  go_enter Tryz.func32, Tryz.ntmps32
  go_wp2_with fail
  rw [← hW0]
  clear hW0
  refine wp_region_pick (fun w' => Below W0.heap.size W0 w') (by kernel_rfl) (by kernel_rfl) (Below.refl _ _) ⟨rfl, rfl, rfl, Nat.le_refl _, fun _ _ => rfl⟩ (fun p hp hq => ?_)
  have pp0 : ∀ u, (p u).cell? ⟨w.heap.size, 0, none⟩ = some (.int .i64 (lo : Int)) := fun u => (HX.out.kept (hp u) HX.out.lt).c0
  have pp1 : ∀ u, (p u).cell? ⟨w.heap.size, 1, none⟩ = some (.int .i64 (hi : Int)) := fun u => (HX.out.kept (hp u) HX.out.lt).c1
  have HP := Lib.hid hp
  have HQ := Lib.hid hq
  clear hp hq
  repeat (go_big_quiet_step ((first | with_reducible exact Calls.pick_of HQ.out (fun W' hb => (HP.out _).trans (hb.mono (HP.out _).size)) (HI.out _ (HT.out.kept (HP.out _))) | with_reducible exact Calls.pick_of HQ.out (fun W' hb => (HP.out _).trans (hb.mono (HP.out _).size)) (HJ.out _ (HT.out.kept (HP.out _))))))
  refine wpQuiet_nil ?_
  rintro _ ⟨u, rfl⟩
  have HBP := Lib.hid (HB.out.trans ((HP.out u).mono HB.out.size))
  generalize p u = W2 at *
  clear HP HQ pp0 pp1
  rcases hb with ⟨hb, hne⟩ | ⟨hb, hne⟩
  · have hF := HFE.out hne
    clear HFE HFN hne
    go_wp2_with fail
    go_ret
    exact ⟨by rw [hF]; rfl, HBP.out⟩
  · have hF := HFN.out hne
    clear HFE HFN hne
    go_wp2_with fail
    go_ret
    exact ⟨by rw [hF, ← HC.out]; rfl, HBP.out⟩
end Go.Proofs.YtepbmnpjpkmmfaaGreatDoor

/- Contract of the reference of layer 8: digits. -/
namespace Go.Proofs.YtepbmnpjpkmmfaaGreatDoor
open Go.ChangeShapes Go.WideShapes Go.ChangeAt Go.RowKit
set_option linter.unusedVariables false

theorem numL_small {k : Nat} (h : k ≤ 9) : numL k = [dig k] := by rw [numL, if_pos h]
theorem numL_step {k : Nat} (h : ¬ k ≤ 9) : numL k = numL (k / 10) ++ [dig (k % 10)] := by rw [numL, if_neg h]
set_option maxRecDepth 20000 in
theorem rdig8_any (n : Nat) (w : World) (hn : n ≤ 1000000000) :
    Calls Tryz.prog 36 #[.int .i64 n] w fun e w' => e = .returned (.string (str (numL n))) ∧ Below w.heap.size w w' := by
  obtain ⟨R, hR⟩ : ∃ R, R = numL n := ⟨_, rfl⟩
  rw [← hR]
  have HR := Lib.hid hR
  have hRl : R.length ≤ 10 := by rw [hR]; exact num_len_pow 9 n (by omega)
  have HB := Lib.hid (Below.refl w.heap.size w)
  clear hR
  go_enter Tryz.func36, Tryz.ntmps36
  go_wp2_with fail
  go_loopw [0, 3] (fun v0 v3 wr => ∃ k : Nat, ∃ q : By, v0 = .int .i64 k ∧ v3 = .string (str q) ∧ k ≤ 1000000000 ∧ Hid (numL k ++ q = R) ∧ Hid (Below w.heap.size w wr)) (fun v0 _ _ => (intOf v0).toNat)
  case atStart => exact ⟨n, [], rfl, rfl, hn, Lib.hid (by rw [HR.out]; simp), HB⟩
  case round =>
    clear HB
    obtain ⟨k, q, rfl, rfl, hk, HQ, HB⟩ := hrel
    have hq : q.length ≤ 10 := by
      have := congrArg List.length HQ.out
      rw [List.length_append] at this
      omega
    have hcv := fun W g => one_string W g (48 + (k : Int) % 10) (by omega) (by omega)
    rw [show (48 + (k : Int) % 10).toNat = 48 + k % 10 by omega] at hcv
    have hcat : (9223372036854775807 < (str [UInt8.ofNat (48 + k % 10)]).size + (str q).size) = False := by
      rw [str_size, str_size]; simp; omega
    have HB2 := Lib.hid (HB.out.alloc HB.out.size (.cells #[.int .u8 (48 + (k : Int) % 10)] 5))
    have HF := Lib.hid (show str [UInt8.ofNat (48 + k % 10)] ++ str q = str (dig (k % 10) :: q) from str_append _ _)
    by_cases h9 : k ≤ 9
    · have HQ2 := Lib.hid (show dig (k % 10) :: q = R by
        rw [← HQ.out, numL_small h9, show k % 10 = k by omega]; rfl)
      have d9 : ((k : Int) / 10 == 0) = true := by simp; omega
      have d8 : (k : Int) / 10 = 0 := by omega
      generalize str q = S at *
      generalize str [UInt8.ofNat (48 + k % 10)] = U at *
      go_wp2_with fail
      go_ret
      exact ⟨by rw [HF.out, HQ2.out]; rfl, HB2.out⟩
    · have HQ2 := Lib.hid (show numL (k / 10) ++ (dig (k % 10) :: q) = R by
        rw [← HQ.out, numL_step h9]
        simp)
      have d9 : ((k : Int) / 10 == 0) = false := by simp; omega
      have d8 : ¬ (k : Int) / 10 = 0 := by omega
      generalize str q = S at *
      generalize str [UInt8.ofNat (48 + k % 10)] = U at *
      go_wp2_with fail
      go_roundw
      case rel => exact ⟨k / 10, dig (k % 10) :: q, by go_num, by rw [HF.out], by omega, HQ2, HB2⟩
      case measure => simp [intOf]; omega
end Go.Proofs.YtepbmnpjpkmmfaaGreatDoor

/- Contract of the reference of layer 8: Format. -/
namespace Go.Proofs.YtepbmnpjpkmmfaaGreatDoor
open Go.ChangeShapes Go.WideShapes Go.ChangeAt Go.RowKit
set_option linter.unusedVariables false

/-- What Format returns. -/
def FmtP (w : World) (l : List Spn) (e : Ending) (w' : World) : Prop :=
  ∃ L : List Spn, okL 4294967296 0 L ∧ (∀ m, anyS L m = prtF l m) ∧ e = .returned (.string (str (fmtL L))) ∧ Below w.heap.size w w'
theorem FmtP.known {w : World} {l : List Spn} {e : Ending} {w' : World} (h : FmtP w l e w') {K : List Spn} (hK : okL 4294967296 0 K) (hf : ∀ m, anyS K m = prtF l m) : e = .returned (.string (str (fmtL K))) ∧ Below w.heap.size w w' := by
  obtain ⟨L, h1, h2, h3, h4⟩ := h
  obtain rfl : L = K := okL_uniq L K 0 0 h1 hK (fun m => (h2 m).trans (hf m).symm)
  exact ⟨h3, h4⟩
theorem span_guard8 : Tryz.prog.eqGuardType Tryz.prog.depth 34 = false := by kernel_rfl
theorem span_eql8 (k k' a a' : Int) (W : World) :
    (binOp .eql 34 (.agg #[.int .i64 k, .int .i64 a]) (.agg #[.int .i64 k', .int .i64 a'])).run Tryz.prog W = .ok (.bool (k == k' && a == a')) W := by
  have u3 := Tryz.underlying3
  have a3 := Tryz.isAgg3
  have z3 := Tryz.sizeOf3
  have hS : Tryz.prog.underlying 34 = some (.struct (Tryz.prog.fieldsOf 34)) := by kernel_rfl
  have hp : Tryz.prog.stoodInHeld 34 = false := by kernel_rfl
  rw [run_eql_struct, show (10000 : Nat) = 9999 + 1 from rfl, run_equalIn_agg W 9999 34 _ _ hS hp]
  simp only [Program.fieldsOf, Tryz.underlying34]
  go_simp
  cases h1 : (k == k') <;> cases h3 : (a == a') <;> simp_all
theorem add_ok {P Q : ByteArray} {a b : Nat} (h1 : P.size ≤ a) (h2 : Q.size ≤ b) (h : a + b ≤ 1000000) : (9223372036854775807 < P.size + Q.size) = False := by
  simp only [eq_iff_iff, iff_false]; omega
theorem add_size {P Q : ByteArray} {a b : Nat} (h1 : P.size ≤ a) (h2 : Q.size ≤ b) : (P ++ Q).size ≤ a + b := by
  rw [ByteArray.size_append]; omega
theorem cons44 (l : By) : str (44 :: l) = (⟨#[44]⟩ : ByteArray) ++ str l := by rw [show (44 : UInt8) :: l = [44] ++ l from rfl, ← str_append]; rfl
theorem cons58 (l : By) : str (58 :: l) = (⟨#[58]⟩ : ByteArray) ++ str l := by rw [show (58 : UInt8) :: l = [58] ++ l from rfl, ← str_append]; rfl
set_option maxHeartbeats 4000000 in
set_option maxRecDepth 20000 in
theorem rfmt8_any (A : Option Addr) (cap : Nat) (l : List Spn) (w : World) (h : SpL w A l) (hl : l.length ≤ 900) :
    Calls Tryz.prog 15 #[.slice A l.length cap] w (FmtP w l) := by
  have HR := Lib.hid (rports8_any A cap l w h hl)
  have hm := span_guard8
  generalize l.length = ll at *
  clear h
  go_enter Tryz.func15, Tryz.ntmps15
  go_wp2_with fail
  refine HR.out.mono ?_
  rintro e w1 ⟨L, A1, c1, ok, any, le, rfl, own, hb⟩
  have HK := Lib.hid (show okL 4294967296 0 L ∧ ∀ m, anyS L m = prtF l m from ⟨ok, any⟩)
  have HOK := Lib.hid (okL_prt ok any)
  have HS := Lib.hid (spl_of_own own)
  have HB := Lib.hid hb
  obtain ⟨n, hn⟩ : ∃ n, n = L.length := ⟨_, rfl⟩
  have hn9 : n ≤ 900 := by omega
  have HN := Lib.hid hn
  rw [← hn]
  clear ok any own hb HR le hn
  by_cases h0 : n = 0
  · have hL : L = [] := List.eq_nil_of_length_eq_zero (by rw [← HN.out]; exact h0)
    have d0 : ((n : Int) == 0) = true := by simp; omega
    subst hL
    clear h0
    go_wp2_with fail
    go_ret
    exact ⟨[], HK.out.1, HK.out.2, rfl, HB.out⟩
  · have d0 : ((n : Int) == 0) = false := by rw [beq_eq_false_iff_ne]; omega
    have n0 : ¬ (n : Int) = 0 := by omega
    obtain ⟨s0, hs0⟩ : ∃ s, L[0]? = some s := ⟨L[0]'(by have := HN.out; omega), List.getElem?_eq_getElem _⟩
    obtain ⟨g, o, rfl, hg, hc⟩ := HS.out (by have := HN.out; omega)
    obtain ⟨y0, y1⟩ := HS.out.at_ hs0 (Below.refl _ _)
    have hq := fun W => span_eql8 s0.lo 0 s0.hi 65535 W
    have hn1 : (0 : Int) < (n : Int) := by omega
    clear hc
    by_cases hall : s0.lo = 0 ∧ s0.hi = 65535
    · have hf : fmtL L = anyT := by
        cases L with
        | nil => cases hs0
        | cons x r =>
          obtain rfl : x = s0 := by simpa using hs0
          exact fmtL_any hall
      have HF := Lib.hid (show str (fmtL L) = str anyT by rw [hf])
      rw [show (s0.lo == 0 && s0.hi == 65535) = true by simp [hall]] at hq
      clear hs0 hf hall
      obtain ⟨slo, shi⟩ := s0
      simp only at y0 y1 hq
      rw [Nat.zero_mul, Nat.add_zero] at y0 y1
      go_wp2_with fail
      go_ret
      exact ⟨L, HK.out.1, HK.out.2, by rw [HF.out]; rfl, HB.out⟩
    · have HF := Lib.hid (show str (fmtL L) = str (preL L n) by rw [fmtL_join hs0 hall, HN.out, preL_all])
      rw [show (s0.lo == 0 && s0.hi == 65535) = false by
        rw [Bool.and_eq_false_iff, beq_eq_false_iff_ne, beq_eq_false_iff_ne]
        by_cases e : s0.lo = 0
        · exact Or.inr (fun e2 => hall ⟨e, e2⟩)
        · exact Or.inl e] at hq
      clear hs0 hall
      obtain ⟨slo, shi⟩ := s0
      simp only at y0 y1 hq
      rw [Nat.zero_mul, Nat.add_zero] at y0 y1
      go_wp2_with fail
      clear y0 y1 hq
      go_loopw [4, 5] (fun v4 v5 wr => ∃ k : Nat, v4 = .string (str (preL L k)) ∧ v5 = .int .i64 k ∧ k ≤ n ∧ Hid (Below w1.heap.size w1 wr)) (fun _ v5 _ => n - (intOf v5).toNat)
      case atStart => exact ⟨0, rfl, rfl, Nat.zero_le _, Lib.hid (Below.refl _ _)⟩
      case round =>
        obtain ⟨k, rfl, rfl, hk, HBr⟩ := hrel
        obtain ⟨k1, hk1'⟩ : ∃ k1, k1 = k + 1 := ⟨_, rfl⟩
        have k1i : (k : Int) + 1 = (k1 : Int) := by omega
        by_cases hlt : k < n
        · have hki : (k : Int) < (n : Int) := by omega
          have hki0 : (0 : Int) ≤ (k : Int) := by omega
          have dlt : decide ((k : Int) < (n : Int)) = true := by simp; omega
          obtain ⟨s, hget⟩ : ∃ s, L[k]? = some s := ⟨L[k]'(by have := HN.out; omega), List.getElem?_eq_getElem _⟩
          obtain ⟨lo, hi, rfl, hlh, hh⟩ := okL_nat HOK.out hget
          have HAT := Lib.hid (fun w' (hb : Below w1.heap.size w1 w') => HS.out.at_ hget hb)
          have HD1 := Lib.hid (fun W => rdig8_any lo W (by omega))
          have HD2 := Lib.hid (fun W => rdig8_any hi W (by omega))
          have hS : (str (preL L k)).size ≤ 10800 := by rw [str_size]; have := preL_len HOK.out k (by have := HN.out; omega); omega
          have hP : (str (numL lo)).size ≤ 5 := by rw [str_size]; exact numL_len5 (by omega)
          have hQ : (str (numL hi)).size ≤ 5 := by rw [str_size]; exact numL_len5 hh
          have HF0 := Lib.hid (show k = 0 → preL L k1 = preL L k ++ fmtSp ⟨lo, hi⟩ from fun e => by subst e; rw [hk1', preL_first hget, preL_zero]; rfl)
          have HF1 := Lib.hid (show 0 < k → preL L k1 = preL L k ++ 44 :: fmtSp ⟨lo, hi⟩ from fun e => by rw [hk1', preL_next hget e])
          have HK1 := Lib.hid hk1'
          have k1n : k1 ≤ n := by omega
          have hcm : (⟨#[44]⟩ : ByteArray).size ≤ 1 := Nat.le_refl 1
          have hco : (⟨#[58]⟩ : ByteArray).size ≤ 1 := Nat.le_refl 1
          clear hget hk1'
          have HX : (lo = hi ∧ ((lo : Int) != (hi : Int)) = false ∧ fmtSp ⟨lo, hi⟩ = numL lo) ∨ (lo ≠ hi ∧ ((lo : Int) != (hi : Int)) = true ∧ fmtSp ⟨lo, hi⟩ = numL lo ++ 58 :: numL hi) := by
            by_cases e : lo = hi
            · exact Or.inl ⟨e, by rw [e]; simp, by rw [fmtSp_nat, if_pos e]⟩
            · exact Or.inr ⟨e, by rw [bne_iff_ne]; omega, by rw [fmtSp_nat, if_neg e]⟩
          by_cases hk0 : k = 0
          · have dk : decide ((0 : Int) < (k : Int)) = false := by simp; omega
            have hpre := HF0.out hk0
            have nk : ¬ 0 < k := by omega
            clear HF0 HF1 hk0
            rcases HX with ⟨hne, tx, hfs⟩ | ⟨hne, tx, hfs⟩
            · skip
              have HFIN := Lib.hid (show str (preL L k) ++ str (numL lo) = str (preL L k1) by
                rw [hpre, hfs]
                rw [str_append])
              clear hpre hfs hne HD2
              generalize str (preL L k) = S at *
              generalize str (numL lo) = P at *
              have q0 := add_ok hS hP (by omega)
              have r0 : (9223372036854775807 < S.size + P.size) = False := by simp only [eq_iff_iff, iff_false]; omega
              obtain ⟨c0, c1⟩ := HAT.out wr HBr.out
              try simp only at c0 c1
              go_wp2_with fail
              refine (HD1.out _).mono ?_
              rintro e w3 ⟨rfl, hb3⟩
              have HB3 := Lib.hid (HBr.out.trans (hb3.mono HBr.out.size))
              clear HBr hb3 c0 c1
              obtain ⟨c0, c1⟩ := HAT.out w3 HB3.out
              try simp only at c0 c1
              go_wp2_with fail
              go_quiet (fail)
              have HB4 := Lib.hid (below_drewN5 HB3.out nq)
              clear HB3 c0 c1
              generalize w3.drewN nq = w4 at *
              go_wp2_with fail
              go_roundw
              case rel => exact ⟨k1, by rw [← HFIN.out], by go_num, k1n, HB4⟩
              case measure => have := HK1.out; simp [intOf]; omega
            · skip
              have HFIN := Lib.hid (show str (preL L k) ++ str (numL lo) ++ (⟨#[58]⟩ : ByteArray) ++ str (numL hi) = str (preL L k1) by
                rw [hpre, hfs]
                simp only [← str_append, cons58, ByteArray.append_assoc])
              clear hpre hfs
              generalize str (preL L k) = S at *
              generalize str (numL lo) = P at *
              generalize str (numL hi) = Q at *
              have q0 := add_ok hS hP (by omega)
              have q1 := add_ok (add_size hS hP) hco (by omega)
              have q2 := add_ok (add_size (add_size hS hP) hco) hQ (by omega)
              have r0 : (9223372036854775807 < S.size + P.size) = False := by simp only [eq_iff_iff, iff_false]; omega
              have r1 : (9223372036854775807 < S.size + P.size + 1) = False := by simp only [eq_iff_iff, iff_false]; omega
              have r2 : (9223372036854775807 < S.size + P.size + 1 + Q.size) = False := by simp only [eq_iff_iff, iff_false]; omega
              obtain ⟨c0, c1⟩ := HAT.out wr HBr.out
              try simp only at c0 c1
              go_wp2_with fail
              refine (HD1.out _).mono ?_
              rintro e w3 ⟨rfl, hb3⟩
              have HB3 := Lib.hid (HBr.out.trans (hb3.mono HBr.out.size))
              clear HBr hb3 c0 c1
              obtain ⟨c0, c1⟩ := HAT.out w3 HB3.out
              try simp only at c0 c1
              go_wp2_with fail
              go_quiet (fail)
              have HB4 := Lib.hid (below_drewN5 HB3.out nq)
              clear HB3 c0 c1
              generalize w3.drewN nq = w4 at *
              obtain ⟨c0, c1⟩ := HAT.out w4 HB4.out
              try simp only at c0 c1
              go_wp2_with fail
              refine (HD2.out _).mono ?_
              rintro e w5 ⟨rfl, hb5⟩
              have HB5 := Lib.hid (HB4.out.trans (hb5.mono HB4.out.size))
              clear HB4 hb5 c0 c1
              go_wp2_with fail
              go_roundw
              case rel => exact ⟨k1, by rw [← HFIN.out], by go_num, k1n, HB5⟩
              case measure => have := HK1.out; simp [intOf]; omega
          · have hkp : 0 < k := by omega
            have dk : decide ((0 : Int) < (k : Int)) = true := by simp; omega
            have hpre := HF1.out hkp
            clear HF0 HF1 hk0
            rcases HX with ⟨hne, tx, hfs⟩ | ⟨hne, tx, hfs⟩
            · skip
              have HFIN := Lib.hid (show str (preL L k) ++ (⟨#[44]⟩ : ByteArray) ++ str (numL lo) = str (preL L k1) by
                rw [hpre, hfs]
                simp only [← str_append, cons44, ByteArray.append_assoc])
              clear hpre hfs hne HD2
              generalize str (preL L k) = S at *
              generalize str (numL lo) = P at *
              have q0 := add_ok hS hcm (by omega)
              have q1 := add_ok (add_size hS hcm) hP (by omega)
              have r0 : (9223372036854775807 < S.size + 1) = False := by simp only [eq_iff_iff, iff_false]; omega
              have r1 : (9223372036854775807 < S.size + 1 + P.size) = False := by simp only [eq_iff_iff, iff_false]; omega
              obtain ⟨c0, c1⟩ := HAT.out wr HBr.out
              try simp only at c0 c1
              go_wp2_with fail
              refine (HD1.out _).mono ?_
              rintro e w3 ⟨rfl, hb3⟩
              have HB3 := Lib.hid (HBr.out.trans (hb3.mono HBr.out.size))
              clear HBr hb3 c0 c1
              obtain ⟨c0, c1⟩ := HAT.out w3 HB3.out
              try simp only at c0 c1
              go_wp2_with fail
              go_quiet (fail)
              have HB4 := Lib.hid (below_drewN5 HB3.out nq)
              clear HB3 c0 c1
              generalize w3.drewN nq = w4 at *
              go_wp2_with fail
              go_roundw
              case rel => exact ⟨k1, by rw [← HFIN.out], by go_num, k1n, HB4⟩
              case measure => have := HK1.out; simp [intOf]; omega
            · skip
              have HFIN := Lib.hid (show str (preL L k) ++ (⟨#[44]⟩ : ByteArray) ++ str (numL lo) ++ (⟨#[58]⟩ : ByteArray) ++ str (numL hi) = str (preL L k1) by
                rw [hpre, hfs]
                simp only [← str_append, cons44, cons58, ByteArray.append_assoc])
              clear hpre hfs
              generalize str (preL L k) = S at *
              generalize str (numL lo) = P at *
              generalize str (numL hi) = Q at *
              have q0 := add_ok hS hcm (by omega)
              have q1 := add_ok (add_size hS hcm) hP (by omega)
              have q2 := add_ok (add_size (add_size hS hcm) hP) hco (by omega)
              have q3 := add_ok (add_size (add_size (add_size hS hcm) hP) hco) hQ (by omega)
              have r0 : (9223372036854775807 < S.size + 1) = False := by simp only [eq_iff_iff, iff_false]; omega
              have r1 : (9223372036854775807 < S.size + 1 + P.size) = False := by simp only [eq_iff_iff, iff_false]; omega
              have r2 : (9223372036854775807 < S.size + 1 + P.size + 1) = False := by simp only [eq_iff_iff, iff_false]; omega
              have r3 : (9223372036854775807 < S.size + 1 + P.size + 1 + Q.size) = False := by simp only [eq_iff_iff, iff_false]; omega
              obtain ⟨c0, c1⟩ := HAT.out wr HBr.out
              try simp only at c0 c1
              go_wp2_with fail
              refine (HD1.out _).mono ?_
              rintro e w3 ⟨rfl, hb3⟩
              have HB3 := Lib.hid (HBr.out.trans (hb3.mono HBr.out.size))
              clear HBr hb3 c0 c1
              obtain ⟨c0, c1⟩ := HAT.out w3 HB3.out
              try simp only at c0 c1
              go_wp2_with fail
              go_quiet (fail)
              have HB4 := Lib.hid (below_drewN5 HB3.out nq)
              clear HB3 c0 c1
              generalize w3.drewN nq = w4 at *
              obtain ⟨c0, c1⟩ := HAT.out w4 HB4.out
              try simp only at c0 c1
              go_wp2_with fail
              refine (HD2.out _).mono ?_
              rintro e w5 ⟨rfl, hb5⟩
              have HB5 := Lib.hid (HB4.out.trans (hb5.mono HB4.out.size))
              clear HB4 hb5 c0 c1
              go_wp2_with fail
              go_roundw
              case rel => exact ⟨k1, by rw [← HFIN.out], by go_num, k1n, HB5⟩
              case measure => have := HK1.out; simp [intOf]; omega
        · have dlt : decide ((k : Int) < (n : Int)) = false := by simp; omega
          have nlt : ¬ (k : Int) < (n : Int) := by omega
          have HE := Lib.hid (show str (preL L k) = str (fmtL L) by rw [HF.out, show k = n by omega])
          clear HF
          generalize str (preL L k) = S at *
          go_wp2_with fail
          go_ret
          exact ⟨L, HK.out.1, HK.out.2, by rw [HE.out]; rfl, HB.out.trans (HBr.out.mono HB.out.size)⟩
end Go.Proofs.YtepbmnpjpkmmfaaGreatDoor

/- Contract of the program of layer 8: Format. -/
namespace Go.Proofs.YtepbmnpjpkmmfaaGreatDoor
open Go.ChangeShapes Go.WideShapes Go.ChangeAt Go.RowKit
set_option linter.unusedVariables false

/-- A string as an element: one cell. -/
def EStr : Enc By := ⟨1, by decide, fun p => [.string (str p)], fun _ => rfl, fun s v hv => by
  rw [List.mem_singleton] at hv
  rw [hv]; rfl⟩
theorem stTy : ElemTy 38 9 1 16 :=
  ⟨Tryz.underlying38, by
    obtain ⟨i, h1, h2, h3, h4⟩ := info_parts info_str6
    exact ⟨i, _, h1, h2, h3, h4, rfl⟩⟩
theorem every_text : fmtSp ⟨0, 65535⟩ = [48, 58, 54, 53, 53, 51, 53] := by decide +kernel
set_option maxHeartbeats 4000000 in
set_option maxRecDepth 20000 in
theorem pfmt8_any (A : Option Addr) (cap : Nat) (l : List Spn) (w : World) (h : SpL w A l) (hl : l.length ≤ 900) (ht : TW w) :
    Calls Tryz.prog 14 #[.slice A l.length cap] w (FmtP w l) := by
  have HR := Lib.hid (pports8_any A cap l w h (by omega))
  have HV := Lib.hid (fun W => pevery8_any W)
  have HEV := Lib.hid (fun W t => show Calls Tryz.prog 32 #[.agg #[.int .i64 0, .int .i64 65535]] W fun e w' => e = .returned (.string (str (fmtSp ⟨0, 65535⟩))) ∧ Below W.heap.size W w' from pfmtI8_any 0 65535 W (by omega) (by omega) t)
  have hm := span_guard8
  have HT := Lib.hid ht
  generalize l.length = ll at *
  clear h ht
  go_enter Tryz.func14, Tryz.ntmps14
  go_wp2_with fail
  refine HR.out.mono ?_
  rintro e w1 ⟨L, A1, c1, ok, any, le, rfl, own, hb⟩
  have HK := Lib.hid (show okL 4294967296 0 L ∧ ∀ m, anyS L m = prtF l m from ⟨ok, any⟩)
  have HOK := Lib.hid (okL_prt ok any)
  have HS := Lib.hid (spl_of_own own)
  have HB := Lib.hid hb
  have HT1 := Lib.hid (HT.out.kept hb)
  obtain ⟨n, hn⟩ : ∃ n, n = L.length := ⟨_, rfl⟩
  have hn9 : n ≤ 900 := by omega
  have HN := Lib.hid hn
  rw [← hn]
  clear ok any own hb HR le hn HT
  by_cases h0 : n = 0
  · have hL : L = [] := List.eq_nil_of_length_eq_zero (by rw [← HN.out]; exact h0)
    have d0 : ((n : Int) == 0) = true := by simp; omega
    subst hL
    have HF := Lib.hid (show (⟨#[33]⟩ : ByteArray) ++ str (fmtSp ⟨0, 65535⟩) = str (fmtL []) by rw [every_text]; rfl)
    have hs : (str (fmtSp ⟨0, 65535⟩)).size ≤ 11 := by rw [str_size, every_text]; decide
    have q1 := add_ok (P := (⟨#[33]⟩ : ByteArray)) (a := 1) (Nat.le_refl 1) hs (by omega)
    have q2 : (9223372036854775807 < 1 + (str (fmtSp ⟨0, 65535⟩)).size) = False := by simp only [eq_iff_iff, iff_false]; omega
    generalize str (fmtSp ⟨0, 65535⟩) = S at *
    clear h0
    go_wp2_with fail
    refine (HV.out _).mono ?_
    rintro e w2 ⟨rfl, hb2⟩
    have HB2 := Lib.hid (HB.out.trans (hb2.mono HB.out.size))
    have HT2 := Lib.hid (HT1.out.kept hb2)
    clear hb2 HB HT1
    go_wp2_with fail
    refine (HEV.out _ HT2.out).mono ?_
    rintro e w3 ⟨rfl, hb3⟩
    have HB3 := Lib.hid (HB2.out.trans (hb3.mono HB2.out.size))
    clear hb3 HB2 HT2
    go_wp2_with fail
    go_ret
    exact ⟨[], HK.out.1, HK.out.2, by rw [← HF.out]; rfl, HB3.out⟩
  · have d0 : ((n : Int) == 0) = false := by rw [beq_eq_false_iff_ne]; omega
    have n0 : ¬ (n : Int) = 0 := by omega
    obtain ⟨s0, hs0⟩ : ∃ s, L[0]? = some s := ⟨L[0]'(by have := HN.out; omega), List.getElem?_eq_getElem _⟩
    obtain ⟨g, o, rfl, hg, hc⟩ := HS.out (by have := HN.out; omega)
    have HAT0 := Lib.hid (fun w' (hb : Below w1.heap.size w1 w') => HS.out.at_ hs0 hb)
    have hq1 := fun W => span_eql8 s0.lo 0 s0.hi 65535 W
    have hn1 : (0 : Int) < (n : Int) := by omega
    have hn2 : 0 < n := by omega
    clear hc HEV
    by_cases hall : s0.lo = 0 ∧ s0.hi = 65535
    · have hf : fmtL L = anyT := by
        cases L with
        | nil => cases hs0
        | cons x r =>
          obtain rfl : x = s0 := by simpa using hs0
          exact fmtL_any hall
      have HF := Lib.hid (show str (fmtL L) = str anyT by rw [hf])
      rw [show (s0.lo == 0 && s0.hi == 65535) = true by simp [hall]] at hq1
      clear hs0 hf hall
      obtain ⟨slo, shi⟩ := s0
      simp only at HAT0 hq1
      rw [Nat.zero_mul, Nat.add_zero] at HAT0
      go_wp2_with fail
      refine wp_region_pick (fun w' => Below w1.heap.size w1 w') (by kernel_rfl) (by kernel_rfl) (Below.refl _ _) ⟨rfl, rfl, rfl, Nat.le_refl _, fun _ _ => rfl⟩ (fun p hp hq => ?_)
      have pp0 : ∀ u, (p u).cell? ⟨g, o, none⟩ = some (.int .i64 slo) := fun u => (HAT0.out _ (hp u)).1
      have pp1 : ∀ u, (p u).cell? ⟨g, o + 1, none⟩ = some (.int .i64 shi) := fun u => (HAT0.out _ (hp u)).2
      have HP := Lib.hid hp
      have HQ := Lib.hid hq
      clear hp hq
      repeat (go_big_quiet_step ((first | with_reducible exact Calls.pick_of HQ.out (fun W' hb => (HP.out _).trans (hb.mono (HP.out _).size)) (HV.out _))))
      refine wpQuiet_nil ?_
      rintro _ ⟨u, rfl⟩
      have HB2 := Lib.hid (HB.out.trans ((HP.out u).mono HB.out.size))
      generalize p u = w2 at *
      clear HP HQ pp0 pp1 hq1
      go_wp2_with fail
      go_ret
      exact ⟨L, HK.out.1, HK.out.2, by rw [HF.out]; rfl, HB2.out⟩
    · have HF := Lib.hid (show str (fmtL L) = str (joinC 44 (L.map fmtSp)) by rw [fmtL_join hs0 hall])
      rw [show (s0.lo == 0 && s0.hi == 65535) = false by
        rw [Bool.and_eq_false_iff, beq_eq_false_iff_ne, beq_eq_false_iff_ne]
        by_cases e : s0.lo = 0
        · exact Or.inr (fun e2 => hall ⟨e, e2⟩)
        · exact Or.inl e] at hq1
      clear hs0 hall
      obtain ⟨slo, shi⟩ := s0
      simp only at HAT0 hq1
      rw [Nat.zero_mul, Nat.add_zero] at HAT0
      go_wp2_with fail
      refine wp_region_pick (fun w' => Below w1.heap.size w1 w') (by kernel_rfl) (by kernel_rfl) (Below.refl _ _) ⟨rfl, rfl, rfl, Nat.le_refl _, fun _ _ => rfl⟩ (fun p hp hq => ?_)
      have pp0 : ∀ u, (p u).cell? ⟨g, o, none⟩ = some (.int .i64 slo) := fun u => (HAT0.out _ (hp u)).1
      have pp1 : ∀ u, (p u).cell? ⟨g, o + 1, none⟩ = some (.int .i64 shi) := fun u => (HAT0.out _ (hp u)).2
      have HP := Lib.hid hp
      have HQ := Lib.hid hq
      clear hp hq
      repeat (go_big_quiet_step ((first | with_reducible exact Calls.pick_of HQ.out (fun W' hb => (HP.out _).trans (hb.mono (HP.out _).size)) (HV.out _))))
      refine wpQuiet_nil ?_
      rintro _ ⟨u, rfl⟩
      have HB2 := Lib.hid (HP.out u)
      generalize p u = w2 at *
      clear HP HQ pp0 pp1 hq1 HAT0 HV
      go_wp2_with fail
      go_loopw [4, 22] (fun v4 v22 wr => ∃ k c' : Nat, ∃ A' : Option Addr, v4 = .slice A' k c' ∧ v22 = .int .i64 k ∧ k ≤ n ∧ Hid (Below w1.heap.size w1 wr) ∧ Hid (wr.ownsRow w1.heap.size 9 1 (.slice A' k c') k (EStr.cells ((L.take k).map fmtSp)))) (fun _ v22 _ => n - (intOf v22).toNat)
      case atStart => exact ⟨0, 0, none, rfl, rfl, Nat.zero_le _, HB2, World.ownsRow_nil _ _ _ _⟩
      case round =>
        clear HB2
        obtain ⟨k, c', A', rfl, rfl, hk, HBr, HO⟩ := hrel
        obtain ⟨k1, hk1'⟩ : ∃ k1, k1 = k + 1 := ⟨_, rfl⟩
        have k1i : (k : Int) + 1 = (k1 : Int) := by omega
        have HK1 := Lib.hid hk1'
        by_cases hlt : k < n
        · have hki : (k : Int) < (n : Int) := by omega
          have hki0 : (0 : Int) ≤ (k : Int) := by omega
          have dlt : decide ((k : Int) < (n : Int)) = true := by simp; omega
          obtain ⟨s, hget⟩ : ∃ s, L[k]? = some s := ⟨L[k]'(by have := HN.out; omega), List.getElem?_eq_getElem _⟩
          obtain ⟨lo, hi, rfl, hlh, hh⟩ := okL_nat HOK.out hget
          obtain ⟨c0, c1⟩ := HS.out.at_ hget HBr.out
          simp only at c0 c1
          have hmap : (L.take k).map fmtSp ++ [fmtSp ⟨lo, hi⟩] = (L.take k1).map fmtSp := by
            obtain ⟨hkl, e⟩ := List.getElem?_eq_some_iff.1 hget
            rw [hk1', List.take_succ_eq_append_getElem hkl, List.map_append, List.map_cons, List.map_nil, e]
          have HMAP := Lib.hid hmap
          have HFI := Lib.hid (fun W t => pfmtI8_any lo hi W hlh hh t)
          have HA1 := Lib.hid (HBr.out.alloc HBr.out.size (.cells #[.int .i64 (lo : Int), .int .i64 (hi : Int)] 34))
          have HTr := Lib.hid (HT1.out.kept HA1.out)
          have HO1 := Lib.hid (HO.out.alloc (.cells #[.int .i64 (lo : Int), .int .i64 (hi : Int)] 34))
          have HCS := Lib.hid (show (#[.string (str (fmtSp ⟨lo, hi⟩))] : Array Value).toList = EStr.cells [fmtSp ⟨lo, hi⟩] from rfl)
          generalize fmtSp ⟨lo, hi⟩ = F at *
          clear hget hk1' hmap HBr HO
          go_wp2_with fail
          refine (HFI.out _ HTr.out).mono ?_
          rintro e w5 ⟨rfl, hb5⟩
          have HB5 := Lib.hid (HA1.out.trans (hb5.mono HA1.out.size))
          have HO5 := Lib.hid (own_of_blocks5 HO1.out (fun b _ hl => hb5.block b hl))
          clear hb5 HA1 HO1 HTr HFI c0 c1
          have k1n : k1 ≤ n := by have := HK1.out; omega
          go_wp2_with (at_builtin; refine wpList_push (E := EStr) stTy (by rfl) _ _ (by rfl) w1.heap.size _ k ((L.take k).map fmtSp) [F] (by rfl) (HO5.out.alloc _) _ 1 1 #[.string (str F)] (0, 0) (by rfl) (heap_alloc_new _ _) HCS.out rfl (by omega) (by omega) (by decide) ?hb ?_)
          case hb => have := HB5.out.size; simp; omega
          intro g2 cap2 w9 hown hgrow hat hlt2
          have HB9 := Lib.hid ((HB5.out.alloc HB5.out.size (.cells #[.string (str F)] 9)).grown hgrow (by have := HB5.out.size; simp; omega) (fun j hj => (HO5.out.lt j hj).1))
          have HO9 := Lib.hid (show w9.ownsRow w1.heap.size 9 1 (.slice (some ⟨g2, 0, none⟩) k1 cap2) k1 (EStr.cells ((L.take k1).map fmtSp)) by rw [← HMAP.out, HK1.out, List.map_take]; exact hown)
          clear hown hgrow hat hlt2 HB5 HO5 HMAP
          go_wp2_with fail
          go_roundw
          case rel => exact ⟨k1, cap2, some ⟨g2, 0, none⟩, by rw [HK1.out], by go_num, k1n, HB9, HO9⟩
          case measure => have := HK1.out; simp [intOf]; omega
        · have dlt : decide ((k : Int) < (n : Int)) = false := by simp; omega
          have nlt : ¬ (k : Int) < (n : Int) := by omega
          have hkn : k = L.length := by have := HN.out; omega
          have hln : (L.map fmtSp).length = k := by rw [List.length_map, hkn]
          have ho := HO.out
          rw [show (L.take k).map fmtSp = L.map fmtSp by rw [hkn, List.take_length]] at ho
          have hcap := own_cap ho
          obtain ⟨g2, o2, hA2, hg2, hc2⟩ := rowl_of_own (E := EStr) ho hln.symm (by rw [hln]; omega)
          subst hA2
          have hlen : (joinC 44 (L.map fmtSp)).length ≤ 100000 := by
            have h1 := preL_len HOK.out L.length (Nat.le_refl _)
            rw [preL_all] at h1
            omega
          have HJ := Lib.hid (pjoin6 g2 o2 c' (L.map fmtSp) 44 wr hg2 (fun j p hp => by
            have := hc2 j p hp 0 (.string (str p)) rfl
            rwa [show o2 + j * EStr.k + 0 = o2 + j from by show o2 + j * 1 + 0 = o2 + j; omega] at this) (by rw [hln]; exact hcap.1) (by rw [hln]; omega) hlen)
          rw [hln] at HJ
          have HB9 := Lib.hid (HB.out.trans (HBr.out.mono HB.out.size))
          clear hkn hln ho hcap hc2 hlen HO HBr hk1'
          generalize joinC 44 (L.map fmtSp) = J at *
          go_wp2_with fail
          refine HJ.out.mono ?_
          rintro e w5 ⟨rfl, hb5⟩
          have HB5 := Lib.hid (HB9.out.trans (hb5.mono HB9.out.size))
          clear hb5
          go_wp2_with fail
          go_ret
          exact ⟨L, HK.out.1, HK.out.2, by rw [HF.out]; rfl, HB5.out⟩
end Go.Proofs.YtepbmnpjpkmmfaaGreatDoor

/- What both Parses share: the result, the two rows of spans under way, the mathematics of a round. -/
namespace Go.Proofs.YtepbmnpjpkmmfaaGreatDoor
open Go.ChangeShapes Go.WideShapes Go.ChangeAt Go.RowKit
set_option linter.unusedVariables false

/-- The ports that a text denotes; none at an error. -/
def parF (s : By) (m : Int) : Bool := if errP s = 0 then setP s m else false
/-- What Parse returns. -/
def ParP (w : World) (s : By) (b : Nat) (e : Ending) (w' : World) : Prop :=
  ∃ L : List Spn, ∃ A cap, okL 4294967296 0 L ∧ (∀ m, anyS L m = parF s m) ∧ L.length ≤ b ∧ e = .returned (.tuple #[.slice A L.length cap, .int .i64 (errP s)]) ∧ w'.ownsRow w.heap.size 34 2 (.slice A L.length cap) L.length (spCells L) ∧ Below w.heap.size w w'
theorem ParP.err {w w' : World} {s : By} {b k : Nat} (hb : Below w.heap.size w w') (he : errP s = k) (hk : k ≠ 0) : ParP w s b (.returned (.tuple #[.slice none 0 0, .int .i64 k])) w' :=
  ⟨[], none, 0, trivial, fun m => by unfold parF; rw [if_neg (by omega)]; rfl, Nat.zero_le _, by rw [he]; rfl, World.ownsRow_nil _ _ _ _, hb⟩
/-- Two rows of spans that the call owns. -/
structure PS (w0 wr : World) (A1 : Option Addr) (n1 c1 : Nat) (W : List Spn) (A2 : Option Addr) (n2 c2 : Nat) (O : List Spn) : Prop where
  b : Below w0.heap.size w0 wr
  r1 : wr.ownsRow w0.heap.size 34 2 (.slice A1 n1 c1) n1 (spCells W)
  r2 : wr.ownsRow w0.heap.size 34 2 (.slice A2 n2 c2) n2 (spCells O)
  d : ∀ x, (Value.slice A1 n1 c1).ownBlock = some x → (Value.slice A2 n2 c2).ownBlock = some x → False
  l1 : n1 = W.length
  l2 : n2 = O.length
theorem PS.swap {w0 wr : World} {A1 : Option Addr} {n1 c1 : Nat} {W : List Spn} {A2 : Option Addr} {n2 c2 : Nat} {O : List Spn} (h : PS w0 wr A1 n1 c1 W A2 n2 c2 O) : PS w0 wr A2 n2 c2 O A1 n1 c1 W :=
  ⟨h.b, h.r2, h.r1, fun x h2 h1 => h.d x h1 h2, h.l2, h.l1⟩
theorem PS.kept {w0 wr w' : World} {A1 : Option Addr} {n1 c1 : Nat} {W : List Spn} {A2 : Option Addr} {n2 c2 : Nat} {O : List Spn} (h : PS w0 wr A1 n1 c1 W A2 n2 c2 O) (hb : Below wr.heap.size wr w') : PS w0 w' A1 n1 c1 W A2 n2 c2 O :=
  ⟨h.b.trans (hb.mono h.b.size), own_of_blocks5 h.r1 (fun b _ hl => hb.block b hl), own_of_blocks5 h.r2 (fun b _ hl => hb.block b hl), h.d, h.l1, h.l2⟩
theorem PS.al {w0 wr : World} {A1 : Option Addr} {n1 c1 : Nat} {W : List Spn} {A2 : Option Addr} {n2 c2 : Nat} {O : List Spn} (h : PS w0 wr A1 n1 c1 W A2 n2 c2 O) (o : Obj) : PS w0 (wr.alloc o) A1 n1 c1 W A2 n2 c2 O := h.kept (below_alloc5 wr o)
theorem PS.push {w0 wr w3 : World} {A1 : Option Addr} {n1 c1 : Nat} {W : List Spn} {A2 : Option Addr} {n2 c2 : Nat} {O : List Spn} {g cap : Nat} {s : Spn} (h : PS w0 wr A1 n1 c1 W A2 n2 c2 O)
    (hown : w3.ownsRow w0.heap.size 34 2 (.slice (some ⟨g, 0, none⟩) (n1 + 1) cap) (n1 + 1) (spCells (W ++ [s]))) (hgrow : wr.grownBy w3 (Value.slice A1 n1 c1).ownBlock) (hat : (Value.slice A1 n1 c1).ownBlock = some g ∨ g = wr.heap.size) :
    PS w0 w3 (some ⟨g, 0, none⟩) (n1 + 1) cap (W ++ [s]) A2 n2 c2 O := by
  refine ⟨h.b.grown hgrow h.b.size (fun j hj => (h.r1.lt j hj).1), hown, own_only h.r2 hgrow (fun c hc e => h.d c e.symm hc), ?_, ?_, h.l2⟩
  · intro x h1 h2
    simp only [Value.ownBlock, Option.some.injEq] at h1
    subst h1
    rcases hat with ha | ha
    · exact h.d _ ha h2
    · have := (h.r2.lt _ h2).2
      omega
  · rw [List.length_append, ← h.l1]; rfl
/-! ### The mathematics of a round -/
def PM (L : List By) (k : Nat) (W O : List Spn) : Prop := errL (L.take k) = 0 ∧ W = incL (L.take k) ∧ O = excL (L.take k)
theorem PM.zero (L : List By) : PM L 0 [] [] := ⟨rfl, rfl, rfl⟩
theorem PM.step {L : List By} {k : Nat} {W O : List Spn} (h : PM L k W O) {t : By} (ht : L[k]? = some t) {lo hi : Nat} (hi0 : itemP (bare t) = ⟨0, lo, hi⟩) :
    (exc t = true → PM L (k + 1) W (O ++ [⟨lo, hi⟩])) ∧ (exc t = false → PM L (k + 1) (W ++ [⟨lo, hi⟩]) O) := by
  obtain ⟨hk, e⟩ := List.getElem?_eq_some_iff.1 ht
  have htk : L.take (k + 1) = L.take k ++ [t] := by rw [List.take_succ_eq_append_getElem hk, e]
  obtain ⟨h1, h2, h3⟩ := h
  have he : errL [t] = 0 := by rw [errL, hi0]; rfl
  have hs : spP t = ⟨lo, hi⟩ := by unfold spP; rw [hi0]
  refine ⟨fun hx => ?_, fun hx => ?_⟩
  · refine ⟨?_, ?_, ?_⟩
    · rw [htk, errL_append, if_pos h1, he]
    · rw [htk, incL_append, incL_one, if_pos hx, List.append_nil, h2]
    · rw [htk, excL_append, excL_one, if_pos hx, h3, hs]
  · refine ⟨?_, ?_, ?_⟩
    · rw [htk, errL_append, if_pos h1, he]
    · rw [htk, incL_append, incL_one, if_neg (by rw [hx]; decide), h2, hs]
    · rw [htk, excL_append, excL_one, if_neg (by rw [hx]; decide), List.append_nil, h3]
theorem PM.err {L : List By} {k : Nat} {W O : List Spn} (h : PM L k W O) {t : By} (ht : L[k]? = some t) {e : Nat} (he : (itemP (bare t)).e = e) (h0 : e ≠ 0) : errL L = e := by
  obtain ⟨hk, et⟩ := List.getElem?_eq_some_iff.1 ht
  have hL : L = L.take k ++ t :: L.drop (k + 1) := by
    have := List.take_append_drop k L
    rw [List.drop_eq_getElem_cons hk, et] at this
    exact this.symm
  rw [hL, errL_append, if_pos h.1, errL, if_neg (by rw [he]; exact h0), he]
theorem PM.all {L : List By} {k : Nat} {W O : List Spn} (h : PM L k W O) (hk : k = L.length) : errL L = 0 ∧ W = incL L ∧ O = excL L := by
  unfold PM at h
  rw [hk, List.take_length] at h
  exact h
/-- A part of a text: how its mark of exclusion reads. -/
theorem exc_cons (c : UInt8) (r : By) : exc (c :: r) = decide (c = 33) := by
  unfold exc
  rw [List.head?_cons]
  by_cases h : c = 33
  · rw [h]; rfl
  · rw [decide_eq_false h, decide_eq_false_iff_not]
    intro e
    exact h (Option.some.inj e)
theorem bare_mark (r : By) : bare (33 :: r) = r := rfl
theorem bare_plain {t : By} (h : exc t = false) : bare t = t := by unfold bare; rw [if_neg (by rw [h]; decide)]
theorem bare_len (t : By) : (bare t).length ≤ t.length := by
  unfold bare
  split
  · rw [List.length_tail]; omega
  · exact Nat.le_refl _
end Go.Proofs.YtepbmnpjpkmmfaaGreatDoor

/- Contract of the reference of layer 8: number. -/
namespace Go.Proofs.YtepbmnpjpkmmfaaGreatDoor
open Go.ChangeShapes Go.WideShapes Go.ChangeAt Go.RowKit
set_option linter.unusedVariables false

def numRes : Option Nat → Value
  | some n => .tuple #[.int .i64 n, .bool true]
  | none => .tuple #[.int .i64 0, .bool false]
theorem numP_le {s : By} {n : Nat} (h : numP s = some n) : n ≤ 65536 := by
  unfold numP at h
  split at h
  · cases h
  · have key : ∀ (t : By) (m k : Nat), m ≤ 65536 → decGo 65535 m t = some k → k ≤ 65536 := by
      intro t
      induction t with
      | nil => intro m k hm e; rw [decGo] at e; obtain rfl := Option.some.inj e; exact hm
      | cons c r ih =>
        intro m k hm e
        rw [decGo] at e
        split at e
        · exact ih _ _ (by omega) e
        · cases e
    exact key _ _ _ (by omega) h
set_option maxHeartbeats 400000 in
set_option maxRecDepth 20000 in
theorem rnum8_any (s : ByteArray) (w : World) (hs : s.size ≤ 10000) :
    Calls Tryz.prog 50 #[.string s] w fun e w' => e = .returned (numRes (numP s.data.toList)) ∧ w = w' := by
  obtain ⟨R, hR⟩ : ∃ R, R = numP s.data.toList := ⟨_, rfl⟩
  rw [← hR]
  have hlen : s.data.toList.length = s.size := by show s.data.toList.length = s.data.size; simp only [Array.length_toList]
  by_cases c0 : s.size = 0
  · have h0 : s.data.toList = [] := List.eq_nil_of_length_eq_zero (by rw [hlen, c0])
    have e : R = none := by rw [hR, numP, if_pos (Or.inl (by rw [hlen, c0]))]
    subst e
    have em : s.toList.isEmpty = true := by rw [isEmpty6, h0]; rfl
    clear hR hlen c0 h0
    go_enter Tryz.func50, Tryz.ntmps50
    go_wp2_with fail
    go_ret2
    exact ⟨rfl, rfl⟩
  have h0 : 0 < s.size := Nat.pos_of_ne_zero c0
  have hd : s.data.toList.head? = some s[0] := by
    have := drop_at6 s 0 h0
    rw [List.drop_zero] at this
    rw [this]; rfl
  have em : s.toList.isEmpty = false := by
    rw [isEmpty6]
    cases h : s.data.toList with
    | nil => rw [h] at hlen; simp at hlen; omega
    | cons a b => rfl
  by_cases c1 : 1 < s.size ∧ s[0].toNat = 48
  · have hz : s[0] = 48 := UInt8.toNat_inj.mp (by rw [c1.2]; rfl)
    have e : R = none := by rw [hR, numP, if_pos (Or.inr ⟨by rw [hlen]; exact c1.1, by rw [hd, hz]⟩)]
    subst e
    have d1 : decide ((1 : Int) < (s.size : Int)) = true := by simp; omega
    have d2 : ((s[0].toNat : Int) == 48) = true := by simp; omega
    clear hR hlen hd hz
    go_enter Tryz.func50, Tryz.ntmps50
    go_wp2_with fail
    go_ret2
    exact ⟨rfl, rfl⟩
  have hne : ¬ (s.data.toList.length = 0 ∨ (1 < s.data.toList.length ∧ s.data.toList.head? = some 48)) := by
    rintro (h | ⟨h, h'⟩)
    · omega
    · rw [hd] at h'
      have : s[0] = 48 := Option.some.inj h'
      exact c1 ⟨by omega, by rw [this]; rfl⟩
  rw [numP, if_neg hne] at hR
  have HD := Lib.hid (show decGo 65535 0 (s.data.toList.drop 0) = R by rw [hR, List.drop_zero])
  have hguard : decide ((1 : Int) < (s.size : Int)) = false ∨ (decide ((1 : Int) < (s.size : Int)) = true ∧ ((s[0].toNat : Int) == 48) = false) := by
    by_cases h : 1 < s.size
    · exact Or.inr ⟨by simp; omega, by rw [beq_eq_false_iff_ne]; intro e; exact c1 ⟨h, by omega⟩⟩
    · exact Or.inl (by simp; omega)
  clear hR hlen hd hne c1
  go_enter Tryz.func50, Tryz.ntmps50
  rcases hguard with g1 | ⟨g1, g2⟩
  all_goals
  go_wp2_with fail
  go_loopw [4, 5] (fun v5 v6 wr => ∃ m k : Nat, v5 = .int .i64 m ∧ v6 = .int .i64 k ∧ k ≤ s.size ∧ m ≤ 65536 ∧ Hid (decGo 65535 m (s.data.toList.drop k) = R) ∧ w = wr) (fun _ v6 _ => s.size - (intOf v6).toNat)
  case atStart => exact ⟨0, 0, rfl, rfl, Nat.zero_le _, Nat.zero_le _, HD, rfl⟩
  case round =>
    obtain ⟨m, k, rfl, rfl, hk, hmm, HQ, rfl⟩ := hrel
    by_cases hlt : k < s.size
    · have hki : (k : Int) < (s.size : Int) := by omega
      have hki0 : (0 : Int) ≤ (k : Int) := by omega
      have hx8 := u8_lt s[k]
      have hq := HQ.out
      rw [drop_at6 s k hlt, decGo] at hq
      obtain ⟨k1, hk1⟩ : ∃ k1, k1 = k + 1 := ⟨_, rfl⟩
      have k1i : (k : Int) + 1 = (k1 : Int) := by omega
      have k1s : k1 ≤ s.size := by omega
      rw [← hk1] at hq
      have HK1 := Lib.hid hk1
      clear hk1
      by_cases hdg : 48 ≤ s[k].toNat ∧ s[k].toNat ≤ 57
      · rw [if_pos hdg] at hq
        obtain ⟨m1, hm1⟩ : ∃ m1, m1 = min (10 * m + (s[k].toNat - 48)) (65535 + 1) := ⟨_, rfl⟩
        rw [← hm1] at hq
        have hm1l : m1 ≤ 65536 := by omega
        have em1 : min ((m : Int) * 10 + ((s[k].toNat : Int) - 48)) 65536 = (m1 : Int) := by omega
        have em2 : min ((m : Int) * 10 + (s[k].toNat : Int) - 48) 65536 = (m1 : Int) := by omega
        have t1 : decide ((s[k].toNat : Int) < 48) = false := by simp; omega
        have t2 : decide ((57 : Int) < (s[k].toNat : Int)) = false := by simp; omega
        have t3 : (48 : Int) ≤ (s[k].toNat : Int) := by omega
        have t4 : (s[k].toNat : Int) ≤ 57 := by omega
        have HQ2 := Lib.hid hq
        clear hq hm1
        go_wp2_with fail
        go_roundw
        case rel => exact ⟨m1, k1, by first | rw [← em1] | rw [← em2], by go_num, k1s, hm1l, HQ2, by first | trivial | rfl⟩
        case measure => have := HK1.out; simp [intOf]; omega
      · rw [if_neg hdg] at hq
        have e : R = none := hq.symm
        by_cases hl : s[k].toNat < 48
        · have t1 : decide ((s[k].toNat : Int) < 48) = true := by simp; omega
          clear hq
          go_wp2_with fail
          go_ret2
          exact ⟨by first | rfl | (rw [e]; rfl), rfl⟩
        · have t1 : decide ((s[k].toNat : Int) < 48) = false := by simp; omega
          have t2 : decide ((57 : Int) < (s[k].toNat : Int)) = true := by simp; omega
          clear hq
          go_wp2_with fail
          go_ret2
          exact ⟨by first | rfl | (rw [e]; rfl), rfl⟩
    · have ek : k = s.size := by omega
      have hq := HQ.out
      rw [List.drop_of_length_le (by rw [ek]; show s.data.toList.length ≤ s.data.size; simp), decGo] at hq
      have HE := Lib.hid (show R = some m from hq.symm)
      have nlt : ¬ (k : Int) < (s.size : Int) := by omega
      have dlt : decide ((k : Int) < (s.size : Int)) = false := by simp; omega
      clear hq ek
      go_wp2_with fail
      go_ret2
      exact ⟨by rw [HE.out]; rfl, rfl⟩
end Go.Proofs.YtepbmnpjpkmmfaaGreatDoor

/- Contract of the program of layer 8: parseBound. -/
namespace Go.Proofs.YtepbmnpjpkmmfaaGreatDoor
open Go.ChangeShapes Go.WideShapes Go.ChangeAt Go.RowKit
set_option linter.unusedVariables false

/-- A bound's value: 'missing' for an empty text. -/
def bndP (missing : Nat) (s : By) : Option Nat := if s = [] then some missing else numP s
set_option maxHeartbeats 2000000 in
set_option maxRecDepth 20000 in
theorem pbound8_any (s : ByteArray) (missing : Nat) (w : World) (hs : s.size ≤ 10000) :
    Calls Tryz.prog 49 #[.string s, .int .i64 missing] w fun e w' => e = .returned (numRes (bndP missing s.data.toList)) ∧ Below w.heap.size w w' := by
  obtain ⟨R, hR⟩ : ∃ R, R = bndP missing s.data.toList := ⟨_, rfl⟩
  rw [← hR]
  unfold bndP at hR
  have hlen := toList_length6 s
  by_cases c0 : s.size = 0
  · have h0 : s.data.toList = [] := List.eq_nil_of_length_eq_zero (by rw [hlen, c0])
    have e : R = some missing := by rw [hR, if_pos h0]
    subst e
    have em : s.toList.isEmpty = true := by rw [isEmpty6, h0]; rfl
    clear hR hlen c0 h0
    go_enter Tryz.func49, Tryz.ntmps49
    go_wp2_with fail
    go_ret2
    exact ⟨rfl, Below.refl _ _⟩
  have h0 : 0 < s.size := Nat.pos_of_ne_zero c0
  have hne : s.data.toList ≠ [] := fun e => by rw [e] at hlen; simp at hlen; omega
  rw [if_neg hne] at hR
  have hd : s.data.toList.head? = some s[0] := by
    have := drop_at6 s 0 h0
    rw [List.drop_zero] at this
    rw [this]; rfl
  have em : s.toList.isEmpty = false := by
    rw [isEmpty6]
    cases h : s.data.toList with
    | nil => exact absurd h hne
    | cons a b => rfl
  have hb0 : ∀ p, Below w.heap.size w (w.iter s p) := fun p => below_alloc5 w _
  have HBI := Lib.hid hb0
  by_cases hZ : 1 < s.size ∧ s[0].toNat = 48
  · obtain ⟨hz1, hz2⟩ := hZ
    have hz : s[0] = 48 := UInt8.toNat_inj.mp (by rw [hz2]; rfl)
    have e : R = none := by rw [hR, numP, if_pos (Or.inr ⟨by rw [hlen]; exact hz1, by rw [hd, hz]⟩)]
    subst e
    clear hR hlen hne hd hz c0 hb0
    go_enter Tryz.func49, Tryz.ntmps49
    go_wp2_with fail
    go_loopw [6] (fun v6 wr => ∃ k : Nat, wr = w.iter s k ∧ v6 = .int .i64 0 ∧ k ≤ 1) (fun _ wr => s.size - wr.iterPos w.heap.size)
    case atStart => exact ⟨0, rfl, rfl, Nat.zero_le _⟩
    case round =>
      obtain ⟨k, rfl, rfl, hk⟩ := hrel
      have hp : k < s.size := by omega
      by_cases hk0 : k = 0
      · subst hk0
        have hnx : ∀ ty, (Instr.next (.pointer (some ⟨w.heap.size, 0, none⟩)) true ty).run Tryz.prog (w.iter s 0) = .ok (.tuple #[.bool true, .int .i64 0, .int .i32 48]) (w.iter s 1) := fun ty => by
          rw [run_next_ascii w s 0 ty hp (by omega), hz2]; rfl
        go_wp2_with fail
        go_roundw
        case rel => exact ⟨1, rfl, rfl, Nat.le_refl _⟩
        case measure => simp; omega
      · obtain rfl : k = 1 := by omega
        have tz : ((s[0].toNat : Int) == 48) = true := by simp; omega
        obtain ⟨c, p, hc, hnx⟩ : ∃ c : Int, ∃ p : Nat, (0 ≤ c ∧ c ≤ 2147483647) ∧ ∀ ty, (Instr.next (.pointer (some ⟨w.heap.size, 0, none⟩)) true ty).run Tryz.prog (w.iter s 1) = .ok (.tuple #[.bool true, .int .i64 1, .int .i32 c]) (w.iter s p) :=
          ⟨_, _, ⟨Int.natCast_nonneg _, by have := decode_le s 1; omega⟩, fun ty => run_next_any w s 1 ty hp⟩
        by_cases h1 : c < 48
        · have t1 : decide (c < 48) = true := by simpa using h1
          go_wp2_with fail
          go_ret2
          exact ⟨rfl, HBI.out _⟩
        · have t1 : decide (c < 48) = false := by simpa using h1
          by_cases h2 : 57 < c
          · have t2 : decide (57 < c) = true := by simpa using h2
            go_wp2_with fail
            go_ret2
            exact ⟨rfl, HBI.out _⟩
          · have t2 : decide (57 < c) = false := by simpa using h2
            go_wp2_with fail
            go_ret2
            exact ⟨rfl, HBI.out _⟩
  · have hnz : ¬ (s.data.toList.length = 0 ∨ (1 < s.data.toList.length ∧ s.data.toList.head? = some 48)) := by
      rintro (h | ⟨h, h'⟩)
      · omega
      · rw [hd] at h'
        have : s[0] = 48 := Option.some.inj h'
        exact hZ ⟨by omega, by rw [this]; rfl⟩
    rw [numP, if_neg hnz] at hR
    have HD := Lib.hid (show decGo 65535 0 (s.data.toList.drop 0) = R by rw [hR, List.drop_zero])
    have HZ := Lib.hid (show 1 < s.size → ((s[0].toNat : Int) == 48) = false from fun h => by
      rw [beq_eq_false_iff_ne]; intro e; exact hZ ⟨h, by omega⟩)
    clear hR hlen hne hd hnz hZ c0 hb0
    go_enter Tryz.func49, Tryz.ntmps49
    go_wp2_with fail
    go_loopw [6] (fun v6 wr => ∃ k m : Nat, wr = w.iter s k ∧ v6 = .int .i64 m ∧ k ≤ s.size ∧ m ≤ 65536 ∧ Hid (decGo 65535 m (s.data.toList.drop k) = R)) (fun _ wr => s.size - wr.iterPos w.heap.size)
    case atStart => exact ⟨0, 0, rfl, rfl, Nat.zero_le _, Nat.zero_le _, HD⟩
    case round =>
      clear HD
      obtain ⟨k, m, rfl, rfl, hk, hmm, HQ⟩ := hrel
      by_cases hp : k < s.size
      · have hq := HQ.out
        rw [drop_at6 s k hp, decGo] at hq
        by_cases ha : s[k].toNat < 128
        · have hnx := fun ty => run_next_ascii (P := Tryz.prog) w s k ty hp ha
          obtain ⟨k1, hk1⟩ : ∃ k1, k1 = k + 1 := ⟨_, rfl⟩
          have k1s : k1 ≤ s.size := by omega
          rw [← hk1] at hq hnx
          have HK1 := Lib.hid hk1
          clear hk1
          by_cases hdg : 48 ≤ s[k].toNat ∧ s[k].toNat ≤ 57
          · rw [if_pos hdg] at hq
            obtain ⟨m1, hm1⟩ : ∃ m1, m1 = min (10 * m + (s[k].toNat - 48)) (65535 + 1) := ⟨_, rfl⟩
            rw [← hm1] at hq
            have hm1l : m1 ≤ 65536 := by omega
            have em1 : min (10 * (m : Int) + ((s[k].toNat : Int) - 48)) 65536 = (m1 : Int) := by omega
            have t1 : decide ((s[k].toNat : Int) < 48) = false := by simp; omega
            have t2 : decide ((57 : Int) < (s[k].toNat : Int)) = false := by simp; omega
            have t3 : (48 : Int) ≤ (s[k].toNat : Int) := by omega
            have t4 : (s[k].toNat : Int) ≤ 57 := by omega
            have HQ2 := Lib.hid hq
            clear hq hm1 HQ
            by_cases hk0 : 0 < k
            · have t5 : decide ((0 : Int) < (k : Int)) = true := by simp; omega
              have t6 := HZ.out (by omega)
              generalize s[k].toNat = x at *
              go_wp2_with fail
              go_roundw
              case rel => exact ⟨k1, m1, rfl, by rw [← em1], k1s, hm1l, HQ2⟩
              case measure => have := HK1.out; simp; omega
            · have t5 : decide ((0 : Int) < (k : Int)) = false := by simp; omega
              generalize s[k].toNat = x at *
              go_wp2_with fail
              go_roundw
              case rel => exact ⟨k1, m1, rfl, by rw [← em1], k1s, hm1l, HQ2⟩
              case measure => have := HK1.out; simp; omega
          · rw [if_neg hdg] at hq
            have e : R = none := hq.symm
            by_cases hl : s[k].toNat < 48
            · have t1 : decide ((s[k].toNat : Int) < 48) = true := by simp; omega
              clear hq
              go_wp2_with fail
              go_ret2
              exact ⟨by first | rfl | (rw [e]; rfl), HBI.out _⟩
            · have t1 : decide ((s[k].toNat : Int) < 48) = false := by simp; omega
              have t2 : decide ((57 : Int) < (s[k].toNat : Int)) = true := by simp; omega
              clear hq
              go_wp2_with fail
              go_ret2
              exact ⟨by first | rfl | (rw [e]; rfl), HBI.out _⟩
        · rw [if_neg (by omega)] at hq
          have e : R = none := hq.symm
          obtain ⟨c, p, hc, hnx⟩ : ∃ c : Int, ∃ p : Nat, (128 ≤ c ∧ c ≤ 2147483647) ∧ ∀ ty, (Instr.next (.pointer (some ⟨w.heap.size, 0, none⟩)) true ty).run Tryz.prog (w.iter s k) = .ok (.tuple #[.bool true, .int .i64 k, .int .i32 c]) (w.iter s p) :=
            ⟨_, _, ⟨by have := (decode_high s k hp (by omega)).1; omega, by have := decode_le s k; omega⟩, fun ty => run_next_any w s k ty hp⟩
          have t1 : decide (c < 48) = false := by simp; omega
          have t2 : decide (57 < c) = true := by simp; omega
          clear hq ha
          go_wp2_with fail
          go_ret2
          exact ⟨by first | rfl | (rw [e]; rfl), HBI.out _⟩
      · have ek : k = s.size := by omega
        have hq := HQ.out
        rw [List.drop_of_length_le (by rw [ek]; show s.data.toList.length ≤ s.data.size; simp), decGo] at hq
        have HE := Lib.hid (show R = some m from hq.symm)
        have hnx := fun ty => run_next_end (P := Tryz.prog) w s k ty hp
        clear hq ek
        go_wp2_with fail
        go_ret2
        exact ⟨by rw [HE.out]; rfl, HBI.out _⟩
end Go.Proofs.YtepbmnpjpkmmfaaGreatDoor

/- Contract of the reference of layer 8: split. -/
namespace Go.Proofs.YtepbmnpjpkmmfaaGreatDoor
open Go.ChangeShapes Go.WideShapes Go.ChangeAt Go.RowKit
set_option linter.unusedVariables false

theorem own_none8 (w : World) (e : TypeId) : (w.alloc (.cells #[] e)).ownsRow w.heap.size e 1 (.slice (some ⟨w.heap.size, 0, none⟩) 0 0) 0 [] :=
  ⟨by simp, .inr ⟨w.heap.size, 0, #[], rfl, Nat.le_refl _, heap_alloc_new w _, Nat.le_refl _, Nat.zero_le _, by simp, by simp⟩⟩
set_option maxHeartbeats 800000 in
set_option maxRecDepth 20000 in
theorem rsplit8_any (s : ByteArray) (c : UInt8) (w : World) (hs : s.size ≤ 10000) :
    Calls Tryz.prog 29 #[.string s, .int .u8 c.toNat] w fun e w' => ∃ A cap, e = .returned (.slice A (splitL c s.data.toList).length cap) ∧ w'.ownsRow w.heap.size 9 1 (.slice A (splitL c s.data.toList).length cap) (splitL c s.data.toList).length (strC (splitL c s.data.toList)) ∧ Below w.heap.size w w' := by
  obtain ⟨R, hR⟩ : ∃ R, R = splitL c s.data.toList := ⟨_, rfl⟩
  rw [← hR]
  have H0 := Lib.hid (show [] ++ restS c s.data.toList 0 0 = R by rw [restS_zero, hR]; rfl)
  have HB0 := Lib.hid (below_alloc6 w (.cells #[] 9))
  have HO0 := Lib.hid (show (w.alloc (.cells #[] 9)).ownsRow w.heap.size 9 1 (.slice (some ⟨w.heap.size, 0, none⟩) 0 0) 0 (strC []) from own_none8 w _)
  have hc8 := u8_lt c
  obtain ⟨i0, hinf, hz0, hz1, hz2⟩ := info_parts info_str6
  clear hR
  go_enter Tryz.func29, Tryz.ntmps29
  go_wp2_with fail
  go_loopw [5, 6, 7] (fun v5 v6 v7 wr => ∃ f k cap' : Nat, ∃ A' : Option Addr, ∃ out : List By, v5 = .slice A' out.length cap' ∧ v6 = .int .i64 f ∧ v7 = .int .i64 k ∧ f ≤ k ∧ k ≤ s.size + 1 ∧ out.length ≤ k ∧ Hid (out ++ restS c s.data.toList f k = R) ∧ Hid (Below w.heap.size w wr) ∧ Hid (wr.ownsRow w.heap.size 9 1 (.slice A' out.length cap') out.length (strC out))) (fun _ _ v7 _ => s.size + 1 - (intOf v7).toNat)
  case atStart => exact ⟨0, 0, 0, some ⟨w.heap.size, 0, none⟩, [], rfl, rfl, rfl, Nat.le_refl _, Nat.zero_le _, Nat.le_refl _, H0, HB0, HO0⟩
  case round =>
    clear H0 HB0 HO0
    obtain ⟨f, k, cap', A', out, rfl, rfl, rfl, hfk, hk, hol, HQ, HB, HO⟩ := hrel
    have hlen := toList_length6 s
    obtain ⟨k1, hk1⟩ : ∃ k1, k1 = k + 1 := ⟨_, rfl⟩
    have k1i : (k : Int) + 1 = (k1 : Int) := by omega
    by_cases hle : k ≤ s.size
    · have dle : decide ((k : Int) ≤ (s.size : Int)) = true := by simp; omega
      have hle' : (k : Int) ≤ (s.size : Int) := by omega
      have k1s : k1 ≤ s.size + 1 := by omega
      have hPs : s.extract f k = str ((s.data.toList.drop f).take (k - f)) := extract_str6 s f k
      obtain ⟨M, hM⟩ : ∃ M, M = out ++ [(s.data.toList.drop f).take (k - f)] := ⟨_, rfl⟩
      have HSN := Lib.hid (show strC out ++ [.string (s.extract f k)] = strC M by rw [hM, strC_snoc, hPs])
      have hMl : out.length + 1 = M.length := by rw [hM]; simp
      have hMk : M.length ≤ k1 := by omega
      have hsz := HB.out.size
      have HB1 := Lib.hid (HB.out.alloc hsz (.cells #[.string (s.extract f k)] 9))
      have HT : (s.size = k ∧ ((k : Int) == (s.size : Int)) = true ∨ ((k : Int) == (s.size : Int)) = false ∧ ∃ hk : k < s.size, True) := by
        by_cases e : k = s.size
        · exact Or.inl ⟨e.symm, by simp [e]⟩
        · exact Or.inr ⟨by rw [beq_eq_false_iff_ne]; omega, by omega, trivial⟩
      rcases HT with ⟨hke, tb⟩ | ⟨tb, hks, -⟩
      · have hq := HQ.out
        rw [restS_end _ _ _ _ (by omega) k1 hk1, ← List.append_assoc, ← hM] at hq
        have HQ2 := Lib.hid hq
        clear hq hPs hM HQ hle hlen
        go_wp2_with (at_builtin; refine wpList_append_lies _ rfl _ _ 38 rfl w.heap.size 9 i0 (.string ⟨#[]⟩) 1 16 Tryz.underlying38 hinf hz0 hz1 hz2 rfl (by omega) _ out.length (strC out) rfl (HO.out.alloc _) ⟨wr.heap.size, 0, none⟩ 1 1 [.string (s.extract f k)] rfl rfl ?c1 ?c2 (by omega) ?c3 ?c4 ?c5 _ rfl ?_)
        case c1 => exact World.news_of_block (cs := #[.string (s.extract f k)]) (t := 9) (fr := (0, 0)) (heap_alloc_new wr _)
        case c2 => simp [Value.oneCell']
        case c3 => unfold maxLen; omega
        case c4 => omega
        case c5 => simp; omega
        intro g2 cap2 w3 hown3 hgrow hat hlt2
        have hB3 := HB1.out.grown hgrow (by simp; omega) (fun j hj => (HO.out.lt j hj).1)
        rw [HSN.out] at hown3
        try rw [hMl] at hown3
        try rw [hMl]
        have HB3 := Lib.hid hB3
        have HO3 := Lib.hid hown3
        have HK1 := Lib.hid hk1
        clear hB3 hown3 hgrow hat hlt2 HB HO HB1 hMl hk1
        go_wp2_with fail
        go_roundw
        case rel => exact ⟨k1, k1, cap2, some ⟨g2, 0, none⟩, M, rfl, by go_num, by go_num, Nat.le_refl _, k1s, hMk, HQ2, HB3, HO3⟩
        case measure => have := HK1.out; simp [intOf]; omega
      · have hks' : (k : Int) < (s.size : Int) := by omega
        have ha : s.data.toList[k]'(by omega) = s[k] := rfl
        have hx8 := u8_lt s[k]
        by_cases hcc : s[k] = c
        · have tc : ((s[k].toNat : Int) == (c.toNat : Int)) = true := by rw [hcc]; simp
          have hq := HQ.out
          rw [restS_at _ _ _ _ (by omega) (by rw [ha]; exact hcc) k1 hk1, ← List.append_assoc, ← hM] at hq
          have HQ2 := Lib.hid hq
          clear hq hPs hM HQ hlen ha hcc
          go_wp2_with (at_builtin; refine wpList_append_lies _ rfl _ _ 38 rfl w.heap.size 9 i0 (.string ⟨#[]⟩) 1 16 Tryz.underlying38 hinf hz0 hz1 hz2 rfl (by omega) _ out.length (strC out) rfl (HO.out.alloc _) ⟨wr.heap.size, 0, none⟩ 1 1 [.string (s.extract f k)] rfl rfl ?c1 ?c2 (by omega) ?c3 ?c4 ?c5 _ rfl ?_)
          case c1 => exact World.news_of_block (cs := #[.string (s.extract f k)]) (t := 9) (fr := (0, 0)) (heap_alloc_new wr _)
          case c2 => simp [Value.oneCell']
          case c3 => unfold maxLen; omega
          case c4 => omega
          case c5 => simp; omega
          intro g2 cap2 w3 hown3 hgrow hat hlt2
          have hB3 := HB1.out.grown hgrow (by simp; omega) (fun j hj => (HO.out.lt j hj).1)
          rw [HSN.out] at hown3
          try rw [hMl] at hown3
          try rw [hMl]
          have HB3 := Lib.hid hB3
          have HO3 := Lib.hid hown3
          have HK1 := Lib.hid hk1
          clear hB3 hown3 hgrow hat hlt2 HB HO HB1 hMl hk1
          go_wp2_with fail
          go_roundw
          case rel => exact ⟨k1, k1, cap2, some ⟨g2, 0, none⟩, M, rfl, by go_num, by go_num, Nat.le_refl _, k1s, hMk, HQ2, HB3, HO3⟩
          case measure => have := HK1.out; simp [intOf]; omega
        · have tc : ((s[k].toNat : Int) == (c.toNat : Int)) = false := by
            rw [beq_eq_false_iff_ne]; intro e
            exact hcc (UInt8.toNat_inj.mp (by omega))
          have hq := HQ.out
          rw [restS_on _ _ _ _ (by omega) hfk (by rw [ha]; exact hcc) k1 hk1] at hq
          have HQ2 := Lib.hid hq
          have hok : out.length ≤ k1 := by omega
          have hfk1 : f ≤ k1 := by omega
          have HK1 := Lib.hid hk1
          clear hq hPs hM HQ hlen ha hcc HSN hMl hMk HB1 hk1
          go_wp2_with fail
          go_roundw
          case rel => exact ⟨f, k1, cap', A', out, rfl, rfl, by go_num, hfk1, k1s, hok, HQ2, HB, HO⟩
          case measure => have := HK1.out; simp [intOf]; omega
    · have dle : decide ((k : Int) ≤ (s.size : Int)) = false := by simp; omega
      have nle : ¬ (k : Int) ≤ (s.size : Int) := by omega
      have hq := HQ.out
      rw [restS_over _ _ _ _ (by omega), List.append_nil] at hq
      subst hq
      clear HQ hk1
      go_wp2_with fail
      go_ret
      exact ⟨A', cap', rfl, HO.out, HB.out⟩
end Go.Proofs.YtepbmnpjpkmmfaaGreatDoor
