/- Contract: the program's bytes of a state. -/
import Derived.Test.YtbejdfjioanjlaaDoorShaObj
import Derived.Test.YtbejdfjioanjlaaDoorRef2
import Derived.Deep.AppendLies
namespace Go.Proofs.YtbejdfjioanjlaaDoor
open Go.ChangeShapes Go.WideShapes Go.ChangeAt Go.RowKit

/-- The bytes of a word. -/
def wB (v : Nat) : List UInt8 := [UInt8.ofNat (v / 16777216), UInt8.ofNat (v / 65536), UInt8.ofNat (v / 256), UInt8.ofNat v]
/-- The bytes of the first k words. -/
def outK (S : St) (k : Nat) : List UInt8 := (List.range k).flatMap fun i => wB (S.get i)
theorem outK_succ (S : St) (k : Nat) : outK S (k + 1) = outK S k ++ wB (S.get k) := by simp [outK, List.range_succ]
theorem outK_length (S : St) (k : Nat) : (outK S k).length = 4 * k := by
  induction k with
  | zero => rfl
  | succ k ih => rw [outK_succ, List.length_append, ih]; simp [wB]; omega
theorem outK_done (S : St) : outK S 8 = outB S := rfl
theorem cellsOf_app (a b : List UInt8) : cellsOf a ++ cellsOf b = cellsOf (a ++ b) := by simp [cellsOf]
theorem wB_cells (v : Nat) (hv : v < 4294967296) : cellsOf (wB v) = [.int .u8 ((v : Int) / 16777216), .int .u8 ((v : Int) / 65536 % 256), .int .u8 ((v : Int) / 256 % 256), .int .u8 ((v : Int) % 256)] := by
  simp [cellsOf, wB, UInt8.toNat_ofNat']
  omega

set_option maxRecDepth 20000 in
theorem bytes_any (g : Nat) (S : St) (P : List UInt8) (n : Nat) (w : World) (hh : HH w g S P n) (hok : S.ok) :
    Calls Tryd.prog 28 #[.pointer (some ⟨g, 0, none⟩)] w fun e w' => e = .returned (.string (str (outB S))) ∧ Below w.heap.size w w' := by
  obtain ⟨i0, hi, hz0, hz1, hz2⟩ := info_parts info5
  have HHH := Lib.hid hh
  have hgl := hh.lt
  clear hh
  go_enter Tryd.func28, Tryd.ntmps28
  go_wp2_with (at_make; refine wpList_make_own _ rfl _ _ 27 rfl w.heap.size 5 i0 (.int .u8 0) 1 Tryd.underlying27 hi hz0 hz1 .i64 .i64 _ 32 rfl rfl (by rfl) (by rw [hz2]; omega) (by unfold maxLen; omega) (Nat.le_refl _) ?_; intro w0 hown0 hgrow0)
  have hb0 : Below w.heap.size w w0 := (Below.refl _ _).grown hgrow0 (Nat.le_refl _) (fun k hk => by cases hk)
  clear hgrow0
  go_loopw [3, 8] (fun b i wr => ∃ k : Nat, ∃ A cap, k ≤ 8 ∧ i = .int .i64 k ∧ b = .slice A (outK S k).length cap ∧ wr.ownsRow w.heap.size 5 1 (.slice A (outK S k).length cap) (outK S k).length (cellsOf (outK S k)) ∧ Below w.heap.size w wr) (fun _ i _ => 8 - (intOf i).toNat)
  case atStart => exact ⟨0, _, 32, by omega, rfl, rfl, hown0, hb0⟩
  case round =>
    clear hown0 hb0
    obtain ⟨k, A, cap, hk, rfl, rfl, hown, hb⟩ := hrel
    by_cases hlt : k < 8
    · have hc : wr.cell? ⟨g, k, none⟩ = some (.int .u32 (S.get k : Nat)) := (HHH.out.kept hb).word hlt
      have hl : (outK S k).length ≤ 32 := by rw [outK_length]; omega
      have hv := St.get_lt hok k
      have hsn := outK_succ S k
      have hwc := wB_cells (S.get k) hv
      have hwl : (wB (S.get k)).length = 4 := rfl
      generalize wB (S.get k) = B at *
      generalize S.get k = v at *
      have HS := Lib.hid hsn
      have HWC := Lib.hid hwc
      clear hsn hwc
      generalize hM : outK S (k + 1) = M at *
      have HM := Lib.hid hM
      clear hM
      generalize outK S k = L at *
      go_wp2_with (at_builtin; refine wpList_append_own _ rfl _ _ 27 rfl w.heap.size 5 i0 (.int .u8 0) 1 1 Tryd.underlying27 hi hz0 hz1 hz2 rfl (by decide) _ _ _ rfl (hown.alloc _) ⟨wr.heap.size, 0, none⟩ 4 4 [.int .u8 ((v : Int) / 16777216), .int .u8 ((v : Int) / 65536 % 256), .int .u8 ((v : Int) / 256 % 256), .int .u8 ((v : Int) % 256)] rfl rfl ?c1 ?c2 ?c3 ?c4 ?c5 ?_)
      case c1 => exact World.news_of_block (cs := #[.int .u8 ((v : Int) / 16777216), .int .u8 ((v : Int) / 65536 % 256), .int .u8 ((v : Int) / 256 % 256), .int .u8 ((v : Int) % 256)]) (t := 5) (fr := (0, 0)) (heap_alloc_new wr _)
      case c2 => simp [Value.oneCell']
      case c3 => unfold maxLen; omega
      case c4 => omega
      case c5 => have := hb.size; simp; omega
      intro v' w1 hown' hgrow _
      rw [← HWC.out, cellsOf_app, ← HS.out] at hown'
      have hlen : L.length + 4 = M.length := by rw [HS.out, List.length_append, hwl]
      rw [hlen] at hown'
      obtain ⟨A', cap', hv'⟩ : ∃ A' cap', v' = .slice A' M.length cap' := by
        rcases hown'.2 with ⟨h1, h2⟩ | ⟨g, c, cur, h1, _⟩
        · exact ⟨none, 0, by rw [h1, h2]⟩
        · exact ⟨_, _, h1⟩
      subst hv'
      have hb1 : Below w.heap.size w w1 := (hb.alloc hb.size _).grown hgrow (by have := hb.size; simp; omega) (fun k hk => (hown.lt k hk).1)
      clear hlen hgrow hown hc hl
      go_wp2_with fail
      go_roundw
      case rel => exact ⟨k + 1, A', cap', by omega, by go_num, by rw [HM.out], by rw [HM.out]; exact hown', hb1⟩
      case measure => simp [intOf]; omega
    · obtain rfl : k = 8 := by omega
      have hcv := bs_string (bs_of_own hown)
      rw [outK_done] at *
      generalize hgl : outB S = L at *
      have HO := Lib.hid hgl
      clear hgl
      have hd : decide ((8 : Int) < 8) = false := by decide
      go_wp2_with fail
      go_ret
      exact ⟨by rw [HO.out]; rfl, hb⟩
end Go.Proofs.YtbejdfjioanjlaaDoor
