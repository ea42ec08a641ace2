/- Contracts: CRC-32 of the program and of the reference. -/
import Derived.Test.YtajoejpodflnlaaDoorMem2
import Derived.Test.YtajoejpodflnlaaDoorCrcMath
import Derived.Deep.WholeRow
namespace Go.Proofs.YtajoejpodflnlaaDoor
open Go.ChangeShapes Go.WideShapes Go.ChangeAt Go.RowKit

theorem and_one (r : Nat) (h : r < 4294967296) : bits .and .u32 (r : Int) 1 = ((r % 2 : Nat) : Int) := by
  rw [show (1 : Int) = ((1 : Nat) : Int) from rfl, u32_and_nat r 1 h (by decide), nat_mask1]
theorem xor_poly (r : Nat) (h : r < 4294967296) : bits .xor .u32 ((r / 2 : Nat) : Int) 3988292384 = ((r / 2 ^^^ 3988292384 : Nat) : Int) :=
  u32_xor_nat (r / 2) 3988292384 (by omega) (by decide)
theorem st_of_odd {r : Nat} (h : r % 2 = 1) : st r = r / 2 ^^^ 3988292384 := if_pos h
theorem st_of_even {r : Nat} (h : ¬ r % 2 = 1) : st r = r / 2 := if_neg h

theorem eight_any (r0 : Nat) (w : World) (h0 : r0 < 4294967296) :
    Calls Tryd.prog 40 #[.int .u32 r0] w fun e w' => e = .returned (.int .u32 (stn 8 r0 : Nat)) ∧ w = w' := by
  go_enter Tryd.func40, Tryd.ntmps40
  go_wp2_with fail
  go_loop [0, 4] (fun p i => ∃ k r : Nat, k ≤ 8 ∧ i = .int .i64 k ∧ p = .int .u32 r ∧ r < 4294967296 ∧ Hid (stn (8 - k) r = stn 8 r0)) (fun _ i => 8 - (intOf i).toNat)
  case atStart => exact ⟨0, r0, by omega, rfl, rfl, h0, rfl⟩
  case round =>
    obtain ⟨k, r, hk, rfl, rfl, hr, hm⟩ := hrel
    have hand := and_one r hr
    have hxor := xor_poly r hr
    have hst := Lib.hid (st_lt hr)
    by_cases hlt : k < 8
    · have H : Hid (stn (8 - (k + 1)) (st r) = stn 8 r0) := by
        have := hm.out
        rw [show 8 - k = (8 - (k + 1)) + 1 by omega] at this
        exact this
      by_cases ho : r % 2 = 1
      · have hs := st_of_odd ho
        rw [← hs] at hxor
        have hd : ((r : Int) / 2) = ((r / 2 : Nat) : Int) := by omega
        rw [← hd] at hxor
        have ht : (((r % 2 : Nat) : Int) == 1) = true := by rw [ho]; rfl
        clear hs hd hm
        generalize st r = q at *
        generalize hz : ((r % 2 : Nat) : Int) = z at *
        go_wp2_with fail
        go_round
        case rel => exact ⟨k + 1, q, by omega, by go_num, rfl, hst.out, H⟩
        case measure => simp [intOf]; omega
      · have hs := st_of_even ho
        have hd : ((st r : Nat) : Int) = (r : Int) / 2 := by rw [hs]; omega
        have HD := Lib.hid hd
        have ht : (((r % 2 : Nat) : Int) == 1) = false := by simp; omega
        clear hs hd hm
        generalize st r = q at *
        generalize hz : ((r % 2 : Nat) : Int) = z at *
        go_wp2_with fail
        go_round
        case rel => exact ⟨k + 1, q, by omega, by go_num, by rw [HD.out], hst.out, H⟩
        case measure => simp [intOf]; omega
    · have hf : stn 8 r0 = r := by rw [← hm.out, show 8 - k = 0 by omega]; rfl
      have HF := Lib.hid hf
      clear hf hm
      go_wp2_with fail
      go_ret
      exact ⟨ret_int (by rw [HF.out]), rfl⟩

theorem xor_ones (c : Nat) (h : c < 4294967296) : bits .xor .u32 (c : Int) 4294967295 = ((flip c : Nat) : Int) := u32_xor_nat c 4294967295 h (by decide)
theorem ones_xor (c : Nat) (h : c < 4294967296) : bits .xor .u32 IntKind.u32.max (c : Int) = ((flip c : Nat) : Int) := by
  rw [show IntKind.u32.max = ((4294967295 : Nat) : Int) from by decide, u32_xor_nat 4294967295 c (by decide) h, Nat.xor_comm]
  rfl
theorem xor_byte (c : Nat) (b : UInt8) (h : c < 4294967296) : bits .xor .u32 (c : Int) (b.toNat : Int) = ((c ^^^ b.toNat : Nat) : Int) := u32_xor_nat c b.toNat h (by have := b.toNat_lt; omega)

theorem rcrcu_any (c0 : Nat) (s : ByteArray) (w : World) (h0 : c0 < 4294967296) (hs : s.size ≤ 9223372036854775805) :
    Calls Tryd.prog 23 #[.int .u32 c0, .string s] w fun e w' => e = .returned (.int .u32 (crcU c0 s.data.toList : Nat)) ∧ w = w' := by
  have hl : s.data.toList.length = s.size := by simp
  have hget : ∀ k (h : k < s.size), s.data.toList.drop k = s[k] :: s.data.toList.drop (k + 1) := fun k h => by
    rw [List.drop_eq_getElem_cons (by omega)]; rfl
  generalize s.data.toList = L at *
  have HG := Lib.hid hget
  clear hget
  have hx0 := xor_ones c0 h0
  have hf0 := flip_lt h0
  have HC : Hid (crcU c0 L = flip (bytesIn (flip c0) L)) := rfl
  generalize crcU c0 L = ans at *
  generalize flip c0 = f0 at *
  go_enter Tryd.func23, Tryd.ntmps23
  go_wp2_with fail
  go_loop [5, 6] (fun p i => ∃ k c : Nat, k ≤ s.size ∧ i = .int .i64 k ∧ p = .int .u32 c ∧ c < 4294967296 ∧ Hid (bytesIn c (L.drop k) = bytesIn f0 L)) (fun _ i => s.size - (intOf i).toNat)
  case atStart => exact ⟨0, f0, by omega, rfl, rfl, hf0, rfl⟩
  case round =>
    obtain ⟨k, c, hk, rfl, rfl, hc, hm⟩ := hrel
    by_cases hlt : k < s.size
    · have hxb := xor_byte c s[k] hc
      have hb : s[k].toNat < 256 := u8_lt _
      have hcx : c ^^^ s[k].toNat < 4294967296 := xor_lt32 hc (by have := s[k].toNat_lt; omega)
      have hby : Hid (stn 8 (c ^^^ s[k].toNat) = byteIn c s[k]) := rfl
      have hbl := byteIn_lt hc s[k]
      have hm2 : Hid (bytesIn (byteIn c s[k]) (L.drop (k + 1)) = bytesIn f0 L) := by
        have := hm.out
        rw [HG.out k hlt] at this
        exact this
      clear hm
      generalize byteIn c s[k] = d at *
      generalize c ^^^ s[k].toNat = c1 at *
      go_wp2_with fail
      go_loop [5, 7] (fun p i => ∃ j r : Nat, j ≤ 8 ∧ i = .int .i64 j ∧ p = .int .u32 r ∧ r < 4294967296 ∧ Hid (stn (8 - j) r = d)) (fun _ i => 8 - (intOf i).toNat)
      case atStart => exact ⟨0, c1, by omega, rfl, rfl, hcx, hby⟩
      case round =>
        obtain ⟨j, r, hj, rfl, rfl, hr, hm⟩ := hrel
        have hand := and_one r hr
        have hxor := xor_poly r hr
        have hst := Lib.hid (st_lt hr)
        by_cases hlt : j < 8
        · have H : Hid (stn (8 - (j + 1)) (st r) = d) := by
            have := hm.out
            rw [show 8 - j = (8 - (j + 1)) + 1 by omega] at this
            exact this
          by_cases ho : r % 2 = 1
          · have hs := st_of_odd ho
            rw [← hs] at hxor
            have hd : ((r : Int) / 2) = ((r / 2 : Nat) : Int) := by omega
            rw [← hd] at hxor
            have ht : (((r % 2 : Nat) : Int) == 1) = true := by rw [ho]; rfl
            clear hs hd hm
            generalize st r = q at *
            generalize hz : ((r % 2 : Nat) : Int) = z at *
            go_wp2_with fail
            go_round
            case rel => exact ⟨j + 1, q, by omega, by go_num, rfl, hst.out, H⟩
            case measure => simp [intOf]; omega
          · have hs := st_of_even ho
            have hd : ((st r : Nat) : Int) = (r : Int) / 2 := by rw [hs]; omega
            have HD := Lib.hid hd
            have ht : (((r % 2 : Nat) : Int) == 1) = false := by simp; omega
            clear hs hd hm
            generalize st r = q at *
            generalize hz : ((r % 2 : Nat) : Int) = z at *
            go_wp2_with fail
            go_round
            case rel => exact ⟨j + 1, q, by omega, by go_num, by rw [HD.out], hst.out, H⟩
            case measure => simp [intOf]; omega
        · have hf : r = d := by rw [← hm.out, show 8 - j = 0 by omega]; rfl
          subst hf
          clear hm
          go_wp2_with fail
          go_round
          case rel => exact ⟨k + 1, r, by omega, by go_num, rfl, hbl, hm2⟩
          case measure => simp [intOf]; omega
    · have hf : bytesIn f0 L = c := by rw [← hm.out, List.drop_eq_nil_of_le (by omega)]; rfl
      have hx := xor_ones c hc
      have HF : Hid (ans = flip c) := by rw [← hf]; exact HC
      clear hf hm
      generalize flip c = fc at *
      go_wp2_with fail
      go_ret
      exact ⟨ret_int (by rw [HF.out]), rfl⟩
end Go.Proofs.YtajoejpodflnlaaDoor
