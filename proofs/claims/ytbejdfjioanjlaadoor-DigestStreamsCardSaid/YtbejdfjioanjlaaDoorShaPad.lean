/- Contract: what the program lays behind a string to pad it. -/
import Derived.Test.YtbejdfjioanjlaaDoorSha
import Derived.Test.YtbejdfjioanjlaaDoorMem2
import Derived.IntWalk
import Derived.WalkSmall
namespace Go.Proofs.YtbejdfjioanjlaaDoor
open Go.ChangeShapes Go.WideShapes Go.ChangeAt Go.RowKit

/-- What stands at place x of the m bytes, k bytes of the count c being laid. -/
def padAt (m c k x : Nat) : Nat := if x = 0 then 128 else if m ≤ x + k then c / pw (m - 1 - x) % 256 else 0
theorem padAt_done (n x : Nat) (hx : x < (padL n).length) : padAt (padL n).length (8 * n) 8 x = ((padL n)[x]).toNat := by
  rw [padL_length] at hx
  unfold padAt
  rw [padL_length]
  by_cases h0 : x = 0
  · subst h0; rfl
  · obtain ⟨y, rfl⟩ : ∃ y, x = y + 1 := ⟨x - 1, by omega⟩
    rw [if_neg h0]
    simp only [padL, List.getElem_cons_succ]
    by_cases h : y < (119 - n % 64) % 64
    · rw [if_neg (by omega), List.getElem_append_left (by simpa using h), List.getElem_replicate]; rfl
    · rw [if_pos (by omega), List.getElem_append_right (by simpa using h)]
      simp only [beL8, List.getElem_reverse, List.length_replicate, leL_length]
      rw [leL_get, UInt8.toNat_ofNat']
      unfold pw
      rw [show 9 + (119 - n % 64) % 64 - 1 - (y + 1) = 8 - 1 - (y - (119 - n % 64) % 64) by omega]
      omega

set_option maxRecDepth 20000 in
theorem padding_any (n : Nat) (w : World) (hn : n ≤ 1152921504606846975) :
    Calls Tryd.prog 27 #[.int .i64 n] w fun e w' => e = .returned (.string (str (padL n))) ∧ Below w.heap.size w w' := by
  have hlen := padL_length n
  have hdone := fun x hx => padAt_done n x hx
  generalize padL n = L at *
  obtain ⟨r, hr⟩ : ∃ r, r = n % 64 := ⟨_, rfl⟩
  obtain ⟨q, hq⟩ : ∃ q, q + r = 119 := ⟨119 - r, by omega⟩
  obtain ⟨z, hz⟩ : ∃ z, z = q % 64 := ⟨_, rfl⟩
  obtain ⟨z1, hz1⟩ : ∃ z1, z1 = 1 + z := ⟨_, rfl⟩
  obtain ⟨m, hm⟩ : ∃ m, m = z1 + 8 := ⟨_, rfl⟩
  obtain ⟨m1, hm1⟩ : ∃ m1, m1 + 1 = m := ⟨m - 1, by omega⟩
  obtain ⟨c, hc⟩ : ∃ c, c = 8 * n := ⟨_, rfl⟩
  have hlm : L.length = m := by rw [hlen]; omega
  have hdone2 : ∀ x (hx : x < L.length), padAt m c 8 x = (L[x]).toNat := fun x hx => by rw [← hlm, hc]; exact hdone x hx
  have e0 : (n : Int) % 64 = (r : Int) := by omega
  have e1 : (119 : Int) - (r : Int) = (q : Int) := by omega
  have e2 : (q : Int) % 64 = (z : Int) := by omega
  have e3 : (1 : Int) + (z : Int) = (z1 : Int) := by omega
  have e4 : (z1 : Int) + 8 = (m : Int) := by omega
  have e5 : (m : Int) - 1 = (m1 : Int) := by omega
  have e6 : (n : Int) * 8 = (c : Int) := by omega
  have hmk := fun W => run_make_row' (P := Tryd.prog) 27 5 (.int .u8 0) 1 Tryd.underlying27 info5 rfl .i64 .i64 m (by omega) (by omega) W
  have hmpos : 0 < m := by omega
  have hmpi : (0 : Int) < (m : Int) := by omega
  have hm9 : 9 ≤ m := by omega
  have hm00 : (madeCells #[Value.int .u8 0] m)[0]? = some (.int .u8 0) := by simp [madeCells, hmpos]
  have hmle : m ≤ 72 := by omega
  have hcl : c < 9223372036854775808 := by omega
  have HD := Lib.hid hdone2
  have HL := Lib.hid hlm
  clear hr hq hz hz1 hm hc hlen hdone hdone2 hlm
  go_enter Tryd.func27, Tryd.ntmps27
  go_wp2_with fail
  go_loopw [20] (fun i wr => ∃ k : Nat, k ≤ 8 ∧ i = .int .i64 k ∧ wr.rowIs w.heap.size 5 m (fun x => .int .u8 (padAt m c k x : Nat)) ∧ Below w.heap.size w wr) (fun i _ => 8 - (intOf i).toNat)
  case atStart =>
    refine ⟨0, by omega, rfl, ?_, (Below.refl _ _).alloc (Nat.le_refl _) _⟩
    have := World.rowIs_alloc w ((madeCells #[Value.int .u8 0] m).setIfInBounds 0 (.int .u8 128)) 5 (fun x => .int .u8 (padAt m c 0 x : Nat)) (fun x hx => by
      have hx' : x < m := by simpa [madeCells] using hx
      unfold padAt
      rw [Array.getElem?_setIfInBounds]
      by_cases e : x = 0
      · subst e; simp [madeCells, hmpos]
      · rw [if_neg (fun h => e h.symm), if_neg e, if_neg (by omega)]
        simp [madeCells, hx', Nat.mod_one])
    simpa [madeCells] using this
  case round =>
    obtain ⟨k, hk, rfl, hrow, hb⟩ := hrel
    by_cases hlt : k < 8
    · obtain ⟨j, hj⟩ : ∃ j, j + k = m1 := ⟨m1 - k, by omega⟩
      have e7 : (m1 : Int) - (k : Int) = (j : Int) := by omega
      have hjm : j < m := by omega
      have hcell := hrow.cell hjm
      have hf := hrow.frozen j
      have hrel : ∀ (wx : World), wx.rowIs w.heap.size 5 m (fun x => if x = j then .int .u8 ((c : Int) / 2 ^ (8 * k) % 256) else .int .u8 (padAt m c k x : Nat)) → wx.rowIs w.heap.size 5 m (fun x => .int .u8 (padAt m c (k + 1) x : Nat)) := fun wx h => h.congr (fun x hx => by
        unfold padAt
        by_cases e : x = j
        · rw [if_pos e, if_neg (by omega), if_pos (by omega), shr_pw', show m - 1 - x = k by omega]
          simp
        · rw [if_neg e]
          by_cases e0 : x = 0
          · rw [if_pos e0, if_pos e0]
          · rw [if_neg e0, if_neg e0]
            by_cases e1 : m ≤ x + k
            · rw [if_pos e1, if_pos (by omega)]
            · rw [if_neg e1, if_neg (by omega)])
      have HREL := Lib.hid hrel
      have HROW := Lib.hid hrow
      have HJ := Lib.hid hj
      clear hrel hrow hj
      go_wp2_with fail
      go_roundw
      case rel => exact ⟨k + 1, by omega, by go_num, HREL.out _ (HROW.out.set j _), hb.setCell (Nat.le_refl _) _⟩
      case measure => simp [intOf]; omega
    · obtain rfl : k = 8 := by omega
      have hbs : BS wr w.heap.size (.slice (some ⟨w.heap.size, 0, none⟩) L.length m) L := ⟨_, m, rfl, by rw [HL.out]; exact Nat.le_refl _, fun _ => ⟨w.heap.size, 0, rfl, Nat.le_refl _, hrow.lt, fun x hx => by
        rw [Nat.zero_add]
        refine ⟨?_, hrow.frozen x⟩
        rw [hrow.cell (by rw [← HL.out]; exact hx), HD.out x hx]⟩⟩
      have hcv := bs_string hbs
      rw [HL.out] at hcv
      clear hbs hrow
      have hd : decide ((8 : Int) < 8) = false := by decide
      go_wp2_with fail
      go_ret
      exact ⟨rfl, hb⟩
end Go.Proofs.YtbejdfjioanjlaaDoor
