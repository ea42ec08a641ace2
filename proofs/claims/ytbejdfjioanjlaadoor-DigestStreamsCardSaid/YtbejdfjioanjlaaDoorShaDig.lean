/- Contracts: a string in hexadecimal digits, of the program and of the reference. -/
import Derived.Test.YtbejdfjioanjlaaDoorSha
import Derived.Test.YtbejdfjioanjlaaDoorRef2
import Derived.Deep.AppendLies
import Derived.Deep.RegionHeld3
namespace Go.Proofs.YtbejdfjioanjlaaDoor
open Go.ChangeShapes Go.WideShapes Go.ChangeAt Go.RowKit

theorem dig_at (k : Nat) (h : k < 16) (W : World) : (Instr.index 9 (.string ⟨#[48, 49, 50, 51, 52, 53, 54, 55, 56, 57, 97, 98, 99, 100, 101, 102]⟩) (.int .u8 (k : Int))).run Tryd.prog W = .ok (.int .u8 ((dgt k).toNat : Int)) W := by
  match k, h with
  | 0, _ => exact (show ∀ V, _ = _ from fun _ => by kernel_rfl) W
  | 1, _ => exact (show ∀ V, _ = _ from fun _ => by kernel_rfl) W
  | 2, _ => exact (show ∀ V, _ = _ from fun _ => by kernel_rfl) W
  | 3, _ => exact (show ∀ V, _ = _ from fun _ => by kernel_rfl) W
  | 4, _ => exact (show ∀ V, _ = _ from fun _ => by kernel_rfl) W
  | 5, _ => exact (show ∀ V, _ = _ from fun _ => by kernel_rfl) W
  | 6, _ => exact (show ∀ V, _ = _ from fun _ => by kernel_rfl) W
  | 7, _ => exact (show ∀ V, _ = _ from fun _ => by kernel_rfl) W
  | 8, _ => exact (show ∀ V, _ = _ from fun _ => by kernel_rfl) W
  | 9, _ => exact (show ∀ V, _ = _ from fun _ => by kernel_rfl) W
  | 10, _ => exact (show ∀ V, _ = _ from fun _ => by kernel_rfl) W
  | 11, _ => exact (show ∀ V, _ = _ from fun _ => by kernel_rfl) W
  | 12, _ => exact (show ∀ V, _ = _ from fun _ => by kernel_rfl) W
  | 13, _ => exact (show ∀ V, _ = _ from fun _ => by kernel_rfl) W
  | 14, _ => exact (show ∀ V, _ = _ from fun _ => by kernel_rfl) W
  | 15, _ => exact (show ∀ V, _ = _ from fun _ => by kernel_rfl) W
  | k + 16, h => exact absurd h (by omega)

theorem nib (b : UInt8) : bits .and .u8 (b.toNat : Int) 15 = ((b.toNat % 16 : Nat) : Int) := by
  rw [show (15 : Int) = ((15 : Nat) : Int) from rfl, u8_and_nat _ 15 (u8_lt b) (by decide), nat_mask4]

set_option maxRecDepth 20000 in
theorem digits_any (s : ByteArray) (w : World) (hs : s.size ≤ 1000000) :
    Calls Tryd.prog 24 #[.string s] w fun e w' => e = .returned (.string (str (dgs s.data.toList))) ∧ Below w.heap.size w w' := by
  obtain ⟨i0, hi, hz0, hz1, hz2⟩ := info_parts info5
  have hl : s.data.toList.length = s.size := by simp
  have hget : ∀ k (h : k < s.size), s.data.toList.take (k + 1) = s.data.toList.take k ++ [s[k]] := fun k h => by
    rw [List.take_succ_eq_append_getElem (by omega)]; rfl
  have htk : s.data.toList.take s.size = s.data.toList := by rw [← hl, List.take_length]
  generalize s.data.toList = L at *
  have HG := Lib.hid hget
  have HTK := Lib.hid htk
  have HL := Lib.hid hl
  clear hget htk hl
  obtain ⟨m, hm⟩ : ∃ m, m = 2 * s.size := ⟨_, rfl⟩
  have hmi : (2 : Int) * (s.size : Int) = (m : Int) := by omega
  have hmle : m ≤ 2000000 := by omega
  clear hm
  go_enter Tryd.func24, Tryd.ntmps24
  go_wp2_with (at_make; refine wpList_make_own _ rfl _ _ 27 rfl w.heap.size 5 i0 (.int .u8 0) 1 Tryd.underlying27 hi hz0 hz1 .i64 .i64 _ m rfl rfl (by rfl) (by rw [hz2]; omega) (by unfold maxLen; omega) (Nat.le_refl _) ?_; intro w0 hown0 hgrow0)
  have hb0 : Below w.heap.size w w0 := (Below.refl _ _).grown hgrow0 (Nat.le_refl _) (fun k hk => by cases hk)
  clear hgrow0
  go_loopw [3, 11] (fun b i wr => ∃ k : Nat, ∃ A cap, k ≤ s.size ∧ i = .int .i64 k ∧ b = .slice A (dgs (L.take k)).length cap ∧ wr.ownsRow w.heap.size 5 1 (.slice A (dgs (L.take k)).length cap) (dgs (L.take k)).length (cellsOf (dgs (L.take k))) ∧ Below w.heap.size w wr) (fun _ i _ => s.size - (intOf i).toNat)
  case atStart => exact ⟨0, _, m, by omega, rfl, rfl, hown0, hb0⟩
  case round =>
    clear hown0 hb0
    obtain ⟨k, A, cap, hk, rfl, rfl, hown, hb⟩ := hrel
    by_cases hlt : k < s.size
    · have hsn : dgs (L.take (k + 1)) = dgs (L.take k) ++ [dgt (s[k].toNat / 16), dgt (s[k].toNat % 16)] := by rw [HG.out k hlt, dgs_snoc]
      have hlen : (dgs (L.take k)).length ≤ 2000000 := by rw [dgs_length, List.length_take]; omega
      have h15 := nib s[k]
      obtain ⟨hx, hhx⟩ : ∃ h, h = s[k].toNat / 16 := ⟨_, rfl⟩
      obtain ⟨lx, hlx⟩ : ∃ h, h = s[k].toNat % 16 := ⟨_, rfl⟩
      have hb8 := u8_lt s[k]
      rw [← hhx, ← hlx] at hsn
      rw [← hlx] at h15
      have h16 : (s[k].toNat : Int) / 16 = (hx : Int) := by omega
      have i1 := dig_at hx (by omega)
      have i2 := dig_at lx (by omega)
      have HS := Lib.hid hsn
      clear hsn hhx hlx
      generalize dgt hx = d1 at *
      generalize dgt lx = d2 at *
      generalize hM : dgs (L.take (k + 1)) = M at *
      have HM := Lib.hid hM
      clear hM
      generalize dgs (L.take k) = N at *
      have hbB := hb.size
      have hki : (0 : Int) ≤ (k : Int) := Int.natCast_nonneg _
      have hki2 : (k : Int) < (s.size : Int) := by omega
      go_wp2_with fail
      go_region_held3 (fun _ => True) (trivial) ((refine step_append_lies _ (by rfl) _ _ 27 (by rfl) w.heap.size 5 i0 (.int .u8 0) 1 1 Tryd.underlying27 hi hz0 hz1 hz2 rfl (by omega) (.slice A N.length cap) N.length (cellsOf N) (by rfl) ((hown.alloc _).drew) ⟨wr.heap.size, 0, none⟩ 2 2 [.int .u8 (d1.toNat : Int), .int .u8 (d2.toNat : Int)] (by rfl) (by rfl) (World.news_of_block (cs := #[.int .u8 (d1.toNat : Int), .int .u8 (d2.toNat : Int)]) (t := 5) (fr := (0, 0)) (heap_alloc_new wr _)) (by simp [Value.oneCell']) (by omega) (by unfold maxLen; omega) (by omega) (by simp; omega) (wr.heap.size + 1) (by simp) ?_; intro gg cap' w1 hown1 hgrow hat hlt1))
      all_goals
        have hown2 : w1.ownsRow w.heap.size 5 1 (.slice (some ⟨gg, 0, none⟩) M.length cap') M.length (cellsOf M) := by
          have e : M = N ++ [d1, d2] := HS.out
          have e2 : M.length = N.length + 2 := by rw [e]; simp
          rw [e2, e]
          have e3 : cellsOf (N ++ [d1, d2]) = cellsOf N ++ [.int .u8 (d1.toNat : Int), .int .u8 (d2.toNat : Int)] := by simp [cellsOf]
          rw [e3]
          exact hown1
        have hml : N.length + 2 = M.length := by rw [HS.out]; simp
        have hb1 : Below w.heap.size w w1 := ((hb.alloc hb.size _).drew).grown hgrow (by have := hb.size; simp; omega) (fun k hk => (hown.lt k hk).1)
        rw [hml]
        clear hown1 hgrow hat hlt1 hml hown i1 i2
        go_wp2_with fail
        go_roundw
        case rel => exact ⟨k + 1, some ⟨gg, 0, none⟩, cap', by omega, by go_num, by rw [HM.out], by rw [HM.out]; exact hown2, hb1⟩
        case measure => simp [intOf]; omega
    · obtain rfl : k = s.size := by omega
      have hcv := bs_string (bs_of_own hown)
      have hd : decide ((s.size : Int) < (s.size : Int)) = false := by simp
      rw [HTK.out] at *
      generalize hgl : dgs L = M at *
      have HO := Lib.hid hgl
      clear hgl
      go_wp2_with fail
      go_ret
      exact ⟨by rw [HO.out]; rfl, hb⟩

set_option maxRecDepth 20000 in
theorem rdigits_any (s : ByteArray) (w : World) (hs : s.size ≤ 1000000) :
    Calls Tryd.prog 18 #[.string s] w fun e w' => e = .returned (.string (str (dgs s.data.toList))) ∧ Below w.heap.size w w' := by
  obtain ⟨i0, hi, hz0, hz1, hz2⟩ := info_parts info5
  have hl : s.data.toList.length = s.size := by simp
  have hget : ∀ k (h : k < s.size), s.data.toList.take (k + 1) = s.data.toList.take k ++ [s[k]] := fun k h => by
    rw [List.take_succ_eq_append_getElem (by omega)]; rfl
  have htk : s.data.toList.take s.size = s.data.toList := by rw [← hl, List.take_length]
  generalize s.data.toList = L at *
  have HG := Lib.hid hget
  have HTK := Lib.hid htk
  have HL := Lib.hid hl
  clear hget htk hl
  go_enter Tryd.func18, Tryd.ntmps18
  go_wp2_with fail
  go_loopw [3, 4] (fun b i wr => ∃ k : Nat, ∃ A cap, k ≤ s.size ∧ i = .int .i64 k ∧ b = .slice A (dgs (L.take k)).length cap ∧ wr.ownsRow w.heap.size 5 1 (.slice A (dgs (L.take k)).length cap) (dgs (L.take k)).length (cellsOf (dgs (L.take k))) ∧ Below w.heap.size w wr) (fun _ i _ => s.size - (intOf i).toNat)
  case atStart => exact ⟨0, none, 0, by omega, rfl, rfl, World.ownsRow_nil .., Below.refl _ _⟩
  case round =>
    obtain ⟨k, A, cap, hk, rfl, rfl, hown, hb⟩ := hrel
    by_cases hlt : k < s.size
    · have hsn : dgs (L.take (k + 1)) = dgs (L.take k) ++ [dgt (s[k].toNat / 16), dgt (s[k].toNat % 16)] := by rw [HG.out k hlt, dgs_snoc]
      have hlen : (dgs (L.take k)).length ≤ 2000000 := by rw [dgs_length, List.length_take]; omega
      have h15 := nib s[k]
      obtain ⟨hx, hhx⟩ : ∃ h, h = s[k].toNat / 16 := ⟨_, rfl⟩
      obtain ⟨lx, hlx⟩ : ∃ h, h = s[k].toNat % 16 := ⟨_, rfl⟩
      have hb8 := u8_lt s[k]
      rw [← hhx, ← hlx] at hsn
      rw [← hlx] at h15
      have h16 : (s[k].toNat : Int) / 16 = (hx : Int) := by omega
      have i1 := dig_at hx (by omega)
      have i2 := dig_at lx (by omega)
      have HS := Lib.hid hsn
      clear hsn hhx hlx
      generalize dgt hx = d1 at *
      generalize dgt lx = d2 at *
      generalize hM : dgs (L.take (k + 1)) = M at *
      have HM := Lib.hid hM
      clear hM
      generalize dgs (L.take k) = N at *
      have hbB := hb.size
      have hki : (0 : Int) ≤ (k : Int) := Int.natCast_nonneg _
      have hki2 : (k : Int) < (s.size : Int) := by omega
      go_wp2_with fail
      go_region_held3 (fun _ => True) (trivial) ((refine step_append_lies _ (by rfl) _ _ 27 (by rfl) w.heap.size 5 i0 (.int .u8 0) 1 1 Tryd.underlying27 hi hz0 hz1 hz2 rfl (by omega) (.slice A N.length cap) N.length (cellsOf N) (by rfl) ((hown.alloc _).drew) ⟨wr.heap.size, 0, none⟩ 2 2 [.int .u8 (d1.toNat : Int), .int .u8 (d2.toNat : Int)] (by rfl) (by rfl) (World.news_of_block (cs := #[.int .u8 (d1.toNat : Int), .int .u8 (d2.toNat : Int)]) (t := 5) (fr := (0, 0)) (heap_alloc_new wr _)) (by simp [Value.oneCell']) (by omega) (by unfold maxLen; omega) (by omega) (by simp; omega) (wr.heap.size + 1) (by simp) ?_; intro gg cap' w1 hown1 hgrow hat hlt1))
      all_goals
        have hown2 : w1.ownsRow w.heap.size 5 1 (.slice (some ⟨gg, 0, none⟩) M.length cap') M.length (cellsOf M) := by
          have e : M = N ++ [d1, d2] := HS.out
          have e2 : M.length = N.length + 2 := by rw [e]; simp
          rw [e2, e]
          have e3 : cellsOf (N ++ [d1, d2]) = cellsOf N ++ [.int .u8 (d1.toNat : Int), .int .u8 (d2.toNat : Int)] := by simp [cellsOf]
          rw [e3]
          exact hown1
        have hml : N.length + 2 = M.length := by rw [HS.out]; simp
        have hb1 : Below w.heap.size w w1 := ((hb.alloc hb.size _).drew).grown hgrow (by have := hb.size; simp; omega) (fun k hk => (hown.lt k hk).1)
        rw [hml]
        clear hown1 hgrow hat hlt1 hml hown i1 i2
        go_wp2_with fail
        go_roundw
        case rel => exact ⟨k + 1, some ⟨gg, 0, none⟩, cap', by omega, by go_num, by rw [HM.out], by rw [HM.out]; exact hown2, hb1⟩
        case measure => simp [intOf]; omega
    · obtain rfl : k = s.size := by omega
      have hcv := bs_string (bs_of_own hown)
      have hd : decide ((s.size : Int) < (s.size : Int)) = false := by simp
      rw [HTK.out] at *
      generalize hgl : dgs L = M at *
      have HO := Lib.hid hgl
      clear hgl
      go_wp2_with fail
      go_ret
      exact ⟨by rw [HO.out]; rfl, hb⟩
end Go.Proofs.YtbejdfjioanjlaaDoor
