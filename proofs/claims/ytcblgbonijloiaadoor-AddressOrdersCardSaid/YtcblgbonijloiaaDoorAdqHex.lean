/- Contract of strconv.FormatUint at base 16 for numbers of 16 bits. -/
import Derived.Test.YtcblgbonijloiaaDoorAdqMem
namespace Go.Proofs.YtcblgbonijloiaaDoor
open Go.ChangeShapes Go.WideShapes Go.ChangeAt Go.RowKit
set_option linter.unusedVariables false

theorem hexL_get : ∀ (k n : Nat), n < 16 ^ (k + 1) → (k = 0 ∨ 16 ^ k ≤ n) → (hexL n).length = k + 1 ∧ ∀ j, j < k + 1 → (hexL n)[j]? = some (hexd (n / 16 ^ (k - j) % 16))
  | 0, n, h, _ => by
    have h16 : n < 16 := by simpa using h
    rw [hexL, if_pos (by omega)]
    refine ⟨rfl, fun j hj => ?_⟩
    obtain rfl : j = 0 := by omega
    simp [Nat.mod_eq_of_lt h16]
  | k + 1, n, h, hk => by
    have h1 : 16 ^ (k + 1) ≤ n := by rcases hk with e | e; · omega
                                     · exact e
    have hp : 16 ≤ 16 ^ (k + 1) := by
      have := Nat.pow_le_pow_right (n := 16) (by omega) (show 1 ≤ k + 1 by omega)
      simpa using this
    have h2 : n / 16 < 16 ^ (k + 1) := by rw [Nat.div_lt_iff_lt_mul (by omega), ← Nat.pow_succ]; exact h
    have h3 : k = 0 ∨ 16 ^ k ≤ n / 16 := by
      right
      rw [Nat.le_div_iff_mul_le (by omega), ← Nat.pow_succ]; exact h1
    obtain ⟨ih1, ih2⟩ := hexL_get k (n / 16) h2 h3
    rw [hexL, if_neg (by omega)]
    refine ⟨by rw [List.length_append, ih1]; rfl, fun j hj => ?_⟩
    by_cases hjk : j < k + 1
    · rw [List.getElem?_append_left (by rw [ih1]; exact hjk), ih2 j hjk, Nat.div_div_eq_div_mul, Nat.mul_comm 16, ← Nat.pow_succ, show (k - j).succ = k + 1 - j by omega]
    · obtain rfl : j = k + 1 := by omega
      rw [List.getElem?_append_right (by rw [ih1]; exact Nat.le_refl _), ih1, Nat.sub_self, Nat.pow_zero, Nat.div_one]
      rfl
set_option maxRecDepth 20000 in
theorem lpow2_16 (w : World) : Calls Tryd.prog 112 #[.int .i64 16] w fun e w' => e = .returned (.bool true) ∧ w' = w := by
  have h : bits .and .i64 16 15 = 0 := by decide
  go_enter Tryd.func112, Tryd.ntmps112
  go_wp2_with fail
  go_ret
  exact ⟨rfl, rfl⟩
set_option maxRecDepth 20000 in
theorem ltrail64_16 (w : World) (ht : TW w) : Calls Tryd.prog 116 #[.int .u64 16] w fun e w' => e = .returned (.int .i64 4) ∧ w' = w := by
  have hdb := ht.db
  have h0 : IntKind.u64.wrap (-16) = 18446744073709551600 := by decide
  have h1 : bits .and .u64 16 18446744073709551600 = 16 := by decide
  have h2 : IntKind.u64.wrap (16 * 285870213051353865) = 4573923408821661840 := by decide
  have h3 : IntKind.u64.wrap 4573923408821661840 = 4573923408821661840 := by decide
  go_enter Tryd.func116, Tryd.ntmps116
  go_wp2_with fail
  go_ret
  exact ⟨rfl, rfl⟩
set_option maxRecDepth 20000 in
theorem ltrail_16 (w : World) (ht : TW w) : Calls Tryd.prog 113 #[.int .u64 16] w fun e w' => e = .returned (.int .i64 4) ∧ w' = w := by
  have H := Lib.hid (ltrail64_16 w ht)
  go_enter Tryd.func113, Tryd.ntmps113
  go_wp2_with fail
  refine H.out.mono ?_
  rintro e w2 ⟨rfl, hw⟩
  have hw' := hw.symm
  clear hw
  subst hw'
  go_wp2_with fail
  go_ret
  exact ⟨rfl, rfl⟩
/-- The digits, one by one. -/
theorem dig36 (j : Nat) (h : j < 16) (W : World) : (Instr.index 9 (.string ⟨#[48, 49, 50, 51, 52, 53, 54, 55, 56, 57, 97, 98, 99, 100, 101, 102, 103, 104, 105, 106, 107, 108, 109, 110, 111, 112, 113, 114, 115, 116, 117, 118, 119, 120, 121, 122]⟩) (.int .u64 (j : Int))).run Tryd.prog W = .ok (.int .u8 (((hexd j).toNat : Nat) : Int)) W := by
  have i0 : ∀ V, (Instr.index 9 (.string ⟨#[48, 49, 50, 51, 52, 53, 54, 55, 56, 57, 97, 98, 99, 100, 101, 102, 103, 104, 105, 106, 107, 108, 109, 110, 111, 112, 113, 114, 115, 116, 117, 118, 119, 120, 121, 122]⟩) (.int .u64 0)).run Tryd.prog V = .ok (.int .u8 48) V := fun _ => by kernel_rfl
  have i1 : ∀ V, (Instr.index 9 (.string ⟨#[48, 49, 50, 51, 52, 53, 54, 55, 56, 57, 97, 98, 99, 100, 101, 102, 103, 104, 105, 106, 107, 108, 109, 110, 111, 112, 113, 114, 115, 116, 117, 118, 119, 120, 121, 122]⟩) (.int .u64 1)).run Tryd.prog V = .ok (.int .u8 49) V := fun _ => by kernel_rfl
  have i2 : ∀ V, (Instr.index 9 (.string ⟨#[48, 49, 50, 51, 52, 53, 54, 55, 56, 57, 97, 98, 99, 100, 101, 102, 103, 104, 105, 106, 107, 108, 109, 110, 111, 112, 113, 114, 115, 116, 117, 118, 119, 120, 121, 122]⟩) (.int .u64 2)).run Tryd.prog V = .ok (.int .u8 50) V := fun _ => by kernel_rfl
  have i3 : ∀ V, (Instr.index 9 (.string ⟨#[48, 49, 50, 51, 52, 53, 54, 55, 56, 57, 97, 98, 99, 100, 101, 102, 103, 104, 105, 106, 107, 108, 109, 110, 111, 112, 113, 114, 115, 116, 117, 118, 119, 120, 121, 122]⟩) (.int .u64 3)).run Tryd.prog V = .ok (.int .u8 51) V := fun _ => by kernel_rfl
  have i4 : ∀ V, (Instr.index 9 (.string ⟨#[48, 49, 50, 51, 52, 53, 54, 55, 56, 57, 97, 98, 99, 100, 101, 102, 103, 104, 105, 106, 107, 108, 109, 110, 111, 112, 113, 114, 115, 116, 117, 118, 119, 120, 121, 122]⟩) (.int .u64 4)).run Tryd.prog V = .ok (.int .u8 52) V := fun _ => by kernel_rfl
  have i5 : ∀ V, (Instr.index 9 (.string ⟨#[48, 49, 50, 51, 52, 53, 54, 55, 56, 57, 97, 98, 99, 100, 101, 102, 103, 104, 105, 106, 107, 108, 109, 110, 111, 112, 113, 114, 115, 116, 117, 118, 119, 120, 121, 122]⟩) (.int .u64 5)).run Tryd.prog V = .ok (.int .u8 53) V := fun _ => by kernel_rfl
  have i6 : ∀ V, (Instr.index 9 (.string ⟨#[48, 49, 50, 51, 52, 53, 54, 55, 56, 57, 97, 98, 99, 100, 101, 102, 103, 104, 105, 106, 107, 108, 109, 110, 111, 112, 113, 114, 115, 116, 117, 118, 119, 120, 121, 122]⟩) (.int .u64 6)).run Tryd.prog V = .ok (.int .u8 54) V := fun _ => by kernel_rfl
  have i7 : ∀ V, (Instr.index 9 (.string ⟨#[48, 49, 50, 51, 52, 53, 54, 55, 56, 57, 97, 98, 99, 100, 101, 102, 103, 104, 105, 106, 107, 108, 109, 110, 111, 112, 113, 114, 115, 116, 117, 118, 119, 120, 121, 122]⟩) (.int .u64 7)).run Tryd.prog V = .ok (.int .u8 55) V := fun _ => by kernel_rfl
  have i8 : ∀ V, (Instr.index 9 (.string ⟨#[48, 49, 50, 51, 52, 53, 54, 55, 56, 57, 97, 98, 99, 100, 101, 102, 103, 104, 105, 106, 107, 108, 109, 110, 111, 112, 113, 114, 115, 116, 117, 118, 119, 120, 121, 122]⟩) (.int .u64 8)).run Tryd.prog V = .ok (.int .u8 56) V := fun _ => by kernel_rfl
  have i9 : ∀ V, (Instr.index 9 (.string ⟨#[48, 49, 50, 51, 52, 53, 54, 55, 56, 57, 97, 98, 99, 100, 101, 102, 103, 104, 105, 106, 107, 108, 109, 110, 111, 112, 113, 114, 115, 116, 117, 118, 119, 120, 121, 122]⟩) (.int .u64 9)).run Tryd.prog V = .ok (.int .u8 57) V := fun _ => by kernel_rfl
  have i10 : ∀ V, (Instr.index 9 (.string ⟨#[48, 49, 50, 51, 52, 53, 54, 55, 56, 57, 97, 98, 99, 100, 101, 102, 103, 104, 105, 106, 107, 108, 109, 110, 111, 112, 113, 114, 115, 116, 117, 118, 119, 120, 121, 122]⟩) (.int .u64 10)).run Tryd.prog V = .ok (.int .u8 97) V := fun _ => by kernel_rfl
  have i11 : ∀ V, (Instr.index 9 (.string ⟨#[48, 49, 50, 51, 52, 53, 54, 55, 56, 57, 97, 98, 99, 100, 101, 102, 103, 104, 105, 106, 107, 108, 109, 110, 111, 112, 113, 114, 115, 116, 117, 118, 119, 120, 121, 122]⟩) (.int .u64 11)).run Tryd.prog V = .ok (.int .u8 98) V := fun _ => by kernel_rfl
  have i12 : ∀ V, (Instr.index 9 (.string ⟨#[48, 49, 50, 51, 52, 53, 54, 55, 56, 57, 97, 98, 99, 100, 101, 102, 103, 104, 105, 106, 107, 108, 109, 110, 111, 112, 113, 114, 115, 116, 117, 118, 119, 120, 121, 122]⟩) (.int .u64 12)).run Tryd.prog V = .ok (.int .u8 99) V := fun _ => by kernel_rfl
  have i13 : ∀ V, (Instr.index 9 (.string ⟨#[48, 49, 50, 51, 52, 53, 54, 55, 56, 57, 97, 98, 99, 100, 101, 102, 103, 104, 105, 106, 107, 108, 109, 110, 111, 112, 113, 114, 115, 116, 117, 118, 119, 120, 121, 122]⟩) (.int .u64 13)).run Tryd.prog V = .ok (.int .u8 100) V := fun _ => by kernel_rfl
  have i14 : ∀ V, (Instr.index 9 (.string ⟨#[48, 49, 50, 51, 52, 53, 54, 55, 56, 57, 97, 98, 99, 100, 101, 102, 103, 104, 105, 106, 107, 108, 109, 110, 111, 112, 113, 114, 115, 116, 117, 118, 119, 120, 121, 122]⟩) (.int .u64 14)).run Tryd.prog V = .ok (.int .u8 101) V := fun _ => by kernel_rfl
  have i15 : ∀ V, (Instr.index 9 (.string ⟨#[48, 49, 50, 51, 52, 53, 54, 55, 56, 57, 97, 98, 99, 100, 101, 102, 103, 104, 105, 106, 107, 108, 109, 110, 111, 112, 113, 114, 115, 116, 117, 118, 119, 120, 121, 122]⟩) (.int .u64 15)).run Tryd.prog V = .ok (.int .u8 102) V := fun _ => by kernel_rfl
  have hk : j = 0 ∨ j = 1 ∨ j = 2 ∨ j = 3 ∨ j = 4 ∨ j = 5 ∨ j = 6 ∨ j = 7 ∨ j = 8 ∨ j = 9 ∨ j = 10 ∨ j = 11 ∨ j = 12 ∨ j = 13 ∨ j = 14 ∨ j = 15 := by omega
  rcases hk with rfl | rfl | rfl | rfl | rfl | rfl | rfl | rfl | rfl | rfl | rfl | rfl | rfl | rfl | rfl | rfl
  · exact i0 W
  · exact i1 W
  · exact i2 W
  · exact i3 W
  · exact i4 W
  · exact i5 W
  · exact i6 W
  · exact i7 W
  · exact i8 W
  · exact i9 W
  · exact i10 W
  · exact i11 W
  · exact i12 W
  · exact i13 W
  · exact i14 W
  · exact i15 W
theorem and15 (u : Nat) (h : u < 18446744073709551616) : bits .and .u64 (u : Int) 15 = ((u % 16 : Nat) : Int) := by
  have := u64_and_nat u 15 h (by omega)
  rw [show ((15 : Nat) : Int) = 15 from rfl] at this
  rw [this]
  congr 1
  exact Nat.and_two_pow_sub_one_eq_mod u 4
theorem row65 (w : World) (cs : Array Value) (h : cs = Array.replicate 65 (.int .u8 0)) : (w.alloc (.cells cs 124)).rowIs w.heap.size 124 65 (fun _ => .int .u8 0) := by
  subst h
  refine World.rowIs.congr (World.rowIs_alloc w _ _ (fun _ => .int .u8 0) ?_) (fun i _ => rfl)
  intro i hi
  rw [Array.size_replicate] at hi
  rw [Array.getElem?_replicate, if_pos hi]
theorem zero65 : Tryd.zeroCells124 = Array.replicate 65 (.int .u8 0) := by kernel_rfl
set_option maxHeartbeats 2000000 in
set_option maxRecDepth 40000 in
theorem lbits_any (n : Nat) (w : World) (hn : n < 65536) (ht : TW w) :
    Calls Tryd.prog 101 #[.slice none 0 0, .int .u64 n, .int .i64 16, .bool false, .bool false] w fun e w' => e = .returned (.tuple #[.slice none 0 0, .string (str (hexL n))]) ∧ Below w.heap.size w w' := by
  obtain ⟨W0, hW0⟩ : ∃ W0, W0 = w.alloc (.cells Tryd.zeroCells124 124) := ⟨_, rfl⟩
  have HT0 := Lib.hid (show TW W0 by rw [hW0]; exact ht.kept (below_alloc6 w _))
  have HB0 := Lib.hid (show Below w.heap.size w W0 by rw [hW0]; exact below_alloc6 w _)
  have HR0 := Lib.hid (show W0.rowIs w.heap.size 124 65 (fun _ => .int .u8 0) by rw [hW0]; exact row65 w _ zero65)
  have HIX := Lib.hid (fun j h => dig36 j h)
  have HPW := Lib.hid (fun W => lpow2_16 W)
  have HTR := Lib.hid (fun W h => ltrail_16 W h)
  have HA := Lib.hid (fun u h => and15 u h)
  clear ht
  go_enter Tryd.func101, Tryd.ntmps101
  go_wp2_with fail
  rw [← hW0]
  refine (HPW.out _).mono ?_
  rintro e w1 ⟨rfl, hw⟩
  have hw' := hw.symm
  clear hw hW0
  subst hw'
  go_wp2_with fail
  refine (HTR.out _ HT0.out).mono ?_
  rintro e w1 ⟨rfl, hw⟩
  have hw' := hw.symm
  clear hw
  subst hw'
  go_wp2_with fail
  go_loopw [1, 13] (fun v1 v13 wr => ∃ k u i : Nat, i + k = 65 ∧ k ≤ 4 ∧ v1 = .int .u64 u ∧ v13 = .int .i64 i ∧ u < 65536 ∧ Hid (u = n / 16 ^ k ∧ (k = 0 ∨ 16 ^ k ≤ n)) ∧ wr.rowIs w.heap.size 124 65 (fun x => .int .u8 (if i ≤ x then (((hexd (n / 16 ^ (64 - x) % 16)).toNat : Nat) : Int) else 0)) ∧ Below w.heap.size w wr) (fun v1 v13 _ => (intOf v13).toNat)
  case atStart => exact ⟨0, n, 65, rfl, by omega, rfl, rfl, hn, Lib.hid ⟨by simp, .inl rfl⟩, HR0.out.congr (fun x hx => by rw [if_neg (by omega)]), HB0.out⟩
  case round =>
    clear HR0 HB0
    obtain ⟨k, u, i, hik, hk4, rfl, rfl, hu, HU, hrow, hb⟩ := hrel
    obtain ⟨q, hq⟩ : ∃ q, i = q + 1 := ⟨i - 1, by omega⟩
    have hqi : (i : Int) - 1 = (q : Int) := by omega
    have hq65 : q < 65 := by omega
    have hc := hrow.cell hq65
    rw [if_neg (by omega)] at hc
    have hf := hrow.frozen q
    have HU16 := Lib.hid (show n / 16 ^ (64 - q) % 16 = u % 16 by rw [HU.out.1, show 64 - q = k by omega])
    have hq0 : (0 : Int) ≤ (q : Int) := by omega
    have hq1 : (q : Int) < 65 := by omega
    have HIK := Lib.hid (show i = q + 1 ∧ i + k = 65 from ⟨hq, hik⟩)
    by_cases h16 : 16 ≤ u
    · have d16 : decide ((16 : Int) ≤ (u : Int)) = true := by rw [decide_eq_true_eq]; omega
      have hand := HA.out u (by omega)
      have hix := HIX.out (u % 16) (by omega)
      obtain ⟨u1, hu1⟩ : ∃ u1, u1 = u / 16 := ⟨_, rfl⟩
      have hu1i : (u : Int) / 16 = (u1 : Int) := by omega
      have hu1j : (u : Int) / 2 ^ 4 = (u1 : Int) := by omega
      have hu1b : u1 < 65536 := by omega
      have HN := Lib.hid (show u1 = n / 16 ^ (k + 1) ∧ (k + 1 = 0 ∨ 16 ^ (k + 1) ≤ n) from ⟨by rw [hu1, HU.out.1, Nat.div_div_eq_div_mul, ← Nat.pow_succ], .inr (by
        have := HU.out.1
        rw [this, Nat.le_div_iff_mul_le (Nat.two_pow_pos 0 |> fun _ => Nat.pow_pos (by omega)), Nat.mul_comm, ← Nat.pow_succ] at h16
        exact h16)⟩)
      have hk3 : k + 1 ≤ 4 := by
        have h1 := HN.out.2.resolve_left (by omega)
        apply Decidable.byContradiction
        intro hc
        obtain rfl : k = 4 := by omega
        have e : (16 : Nat) ^ (4 + 1) = 1048576 := by decide
        omega
      obtain ⟨j, hj⟩ : ∃ j, j = u % 16 := ⟨_, rfl⟩
      rw [← hj] at hand hix HU16
      generalize hd : hexd j = d at *
      have HD := Lib.hid hd
      clear hj hu1 hq hik hd
      go_wp2_with fail
      exact ⟨⟨k + 1, u1, q, by have := HIK.out; omega, hk3, rfl, rfl, hu1b, HN, (hrow.set q _).congr (fun x hx => by
        have := HIK.out
        by_cases e : x = q
        · subst e
          rw [if_pos rfl, if_pos (by omega), HU16.out, HD.out]
        · rw [if_neg e]
          by_cases e2 : i ≤ x
          · rw [if_pos e2, if_pos (by omega)]
          · rw [if_neg e2, if_neg (by omega)]), hb.setCell (Nat.le_refl _) _⟩, by have := HIK.out; simp [intOf]; omega⟩
    · have d16 : decide ((16 : Int) ≤ (u : Int)) = false := by rw [decide_eq_false_iff_not]; omega
      have d16n : ¬ 16 ≤ u := h16
      have hix := HIX.out u (by omega)
      have HX := Lib.hid (hexL_get k n (by
        have e := HU.out.1
        rw [e] at h16
        rw [Nat.pow_succ]
        apply Decidable.byContradiction
        intro hc
        apply h16
        rw [Nat.le_div_iff_mul_le (Nat.pow_pos (by omega)), Nat.mul_comm]
        omega) HU.out.2)
      have HUM := Lib.hid (show n / 16 ^ (64 - q) % 16 = u by rw [HU16.out]; omega)
      generalize hd : hexd u = d at *
      have HD := Lib.hid hd
      clear hq hik hd HU HU16
      have hrow2 := hrow.set q (.int .u8 (d.toNat : Nat))
      have hb2 := hb.setCell (p := ⟨w.heap.size, q, none⟩) (Nat.le_refl _) (.int .u8 (d.toNat : Nat))
      obtain ⟨m, hm⟩ : ∃ m, m = k + 1 := ⟨_, rfl⟩
      have hqm : q + m = 65 := by have := HIK.out; omega
      have hl : (hexL n).length = m := by rw [HX.out.1, hm]
      have hbs : BS (wr.setCell ⟨w.heap.size, q, none⟩ (.int .u8 (d.toNat : Nat))) w.heap.size (.slice (some ⟨w.heap.size, q, none⟩) (hexL n).length m) (hexL n) := by
        refine ⟨some ⟨w.heap.size, q, none⟩, m, rfl, by omega, fun _ => ⟨w.heap.size, q, rfl, Nat.le_refl _, hrow2.lt, fun x hx => ?_⟩⟩
        have hx65 : q + x < 65 := by omega
        refine ⟨?_, hrow2.frozen (q + x)⟩
        rw [hrow2.cell hx65]
        have hg := HX.out.2 x (by omega)
        rw [List.getElem?_eq_getElem hx] at hg
        rw [Option.some.inj hg]
        by_cases e : x = 0
        · subst e
          rw [if_pos (by omega)]
          have e1 : k - 0 = 64 - q := by omega
          rw [e1, HUM.out, HD.out]
        · rw [if_neg (by omega), if_pos (by have := HIK.out; omega), show 64 - (q + x) = k - x by omega]
      have hcv := bs_string hbs
      rw [hl] at hcv
      have hmi : (65 : Int) - (q : Int) = (m : Int) := by omega
      have hmn : 65 - q = m := by omega
      have hq65i : (q : Int) ≤ 65 := by omega
      clear hbs hm hl hrow2
      have HB2 := Lib.hid hb2
      go_wp2_with fail
      go_ret2
      exact ⟨rfl, HB2.out⟩
set_option maxRecDepth 20000 in
theorem lfmti_any (n : Nat) (w : World) (hn : n < 65536) (ht : TW w) :
    Calls Tryd.prog 85 #[.int .u64 n, .int .i64 16] w fun e w' => e = .returned (.string (str (hexL n))) ∧ Below w.heap.size w w' := by
  have H := Lib.hid (lbits_any n w hn ht)
  go_enter Tryd.func85, Tryd.ntmps85
  go_wp2_with fail
  refine H.out.mono ?_
  rintro e w2 ⟨rfl, hb⟩
  have HB := Lib.hid hb
  go_wp2_with fail
  go_ret
  exact ⟨rfl, HB.out⟩
set_option maxRecDepth 20000 in
/-- strconv.FormatUint(n, 16). -/
theorem lfmt_any (n : Nat) (w : World) (hn : n < 65536) (ht : TW w) :
    Calls Tryd.prog 72 #[.int .u64 n, .int .i64 16] w fun e w' => e = .returned (.string (str (hexL n))) ∧ Below w.heap.size w w' := by
  have H := Lib.hid (lfmti_any n w hn ht)
  go_enter Tryd.func72, Tryd.ntmps72
  go_wp2_with fail
  refine H.out.mono ?_
  rintro e w2 ⟨rfl, hb⟩
  have HB := Lib.hid hb
  go_wp2_with fail
  go_ret
  exact ⟨rfl, HB.out⟩
/-- Join, as the walks use it. -/
theorem pjoin6 (g o cap : Nat) (L : List By) (c : UInt8) (w : World) (hg : g < w.heap.size) (hcells : ∀ (j : Nat) p, L[j]? = some p → w.cell? ⟨g, o + j, none⟩ = some (.string (str p))) (hcap : L.length ≤ cap) (hN : L.length ≤ 1000) (hlen : (joinC c L).length ≤ 100000) :
    Calls Tryd.prog 54 #[.slice (some ⟨g, o, none⟩) L.length cap, .string ⟨#[c]⟩] w fun e w' => e = .returned (.string (str (joinC c L))) ∧ Below w.heap.size w w' := by
  have hm : (L.map str).map (·.data.toList) = L := by
    rw [List.map_map]
    exact (List.map_congr_left (fun p _ => str_toList p)).trans (List.map_id L)
  have hl : (L.map str).length = L.length := List.length_map ..
  have h := lib_strings_Join g o cap (L.map str) ⟨#[c]⟩ w (fun j x hx => by
    rw [List.getElem?_map] at hx
    cases hq : L[j]? with
    | none => rw [hq] at hx; cases hx
    | some p =>
      rw [hq] at hx
      obtain rfl := Option.some.inj hx
      exact hcells j p hq) hg (by rw [hl]; omega) (by rw [hl]; exact hcap) (by rw [hm, byte_str, join_joinC]; omega)
  rw [hm, byte_str, join_joinC, hl] at h
  exact h
/-- Itoa, as the walks use it. -/
theorem pitoa6 (n : Nat) (w : World) (hn : n < 1000000) (ht : TW w) :
    Calls Tryd.prog 53 #[.int .i64 n] w fun e w' => e = .returned (.string (str (numL n))) ∧ Below w.heap.size w w' := by
  refine (lib_strconv_Itoa n (by omega) (by omega) w ht.p10).mono ?_
  rintro e w' ⟨rfl, k, os, rfl⟩
  refine ⟨by rw [itoa_num]; rfl, ?_⟩
  refine ⟨rfl, rfl, rfl, ?_, fun j hj => ?_⟩
  · show w.heap.size ≤ (w.heap ++ os).size
    rw [Array.size_append]; omega
  · show (w.heap ++ os)[j]? = w.heap[j]?
    rw [Array.getElem?_append_left hj]
end Go.Proofs.YtcblgbonijloiaaDoor
