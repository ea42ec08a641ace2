/- The examples of the laws of layer 2: awake returns true. -/
import Derived.Test.YtajoejpodflnlaaDoorPseudoBoth
import Derived.Test.YtajoejpodflnlaaDoorCsum
import Derived.Test.YtajoejpodflnlaaDoorCrcTab
namespace Go.Proofs.YtajoejpodflnlaaDoor
open Go.ChangeShapes Go.WideShapes Go.ChangeAt Go.RowKit
set_option linter.unusedVariables false

theorem long_yes (s : ByteArray) (w : World) (hm : s.size ≤ maxLen) (h : 20000 < s.size) :
    Calls Tryd.prog 10 #[.string s] w fun e w' => e = .returned (.bool true) ∧ w = w' := by
  unfold maxLen at hm
  go_enter Tryd.func10, Tryd.ntmps10
  go_wp2_with fail
  go_ret
  exact ⟨ret_bool (by simp; omega), rfl⟩
theorem long_no (s : ByteArray) (w : World) (h : s.size ≤ 20000) :
    Calls Tryd.prog 10 #[.string s] w fun e w' => e = .returned (.bool false) ∧ w = w' := by
  have hd : decide (20000 < (s.size : Int)) = false := by simp; omega
  go_enter Tryd.func10, Tryd.ntmps10
  go_wp2_with fail
  go_ret
  exact ⟨rfl, rfl⟩

theorem crc_example : crcU 0 [49, 50, 51, 52, 53, 54, 55, 56, 57] = 3421780262 := by decide +kernel
theorem sum_example : csum [0, 1, 242, 3, 244, 245, 246, 247] = 8717 := by decide +kernel
theorem pseudo_example (W : World) (h : Sh W) :
    Calls Tryd.prog 18 #[.agg #[.bool false, .int .u64 0, .int .u64 167772161], .agg #[.bool false, .int .u64 0, .int .u64 167772161], .int .i64 17, .int .i64 8] W fun e w' => e = .returned (.string ⟨#[10, 0, 0, 1, 10, 0, 0, 1, 0, 17, 0, 8]⟩) ∧ Below W.heap.size W w' := by
  have := pseudo_good false 0 167772161 0 167772161 17 8 2 (str (leL 1 17).reverse) (str (leL 2 8).reverse) (str (adr false 0 167772161)) (str (adr false 0 167772161)) W h rfl (by decide) (by decide)
    (fun W => put_yes 17 1 W (by decide) (by decide) (by decide) (by decide) (by decide)) (fun W => put_yes 8 2 W (by decide) (by decide) (by decide) (by decide) (by decide))
    (fun W h => addrb_any false 0 167772161 W (by decide) (by decide) h) (fun W h => addrb_any false 0 167772161 W (by decide) (by decide) h) (be_isEmpty 0 _) (be_isEmpty 1 _) (by rw [be_size]; decide) (by rw [be_size]; decide) (adr_le _ _ _) (adr_le _ _ _)
  exact this

set_option maxHeartbeats 400000 in
theorem awake_any (w : World) (hsh : Sh w) :
    Calls Tryd.prog 11 #[] w fun e w' => e = .returned (.bool true) ∧ Below w.heap.size w w' := by
  have h1 := fun W => sum_any ⟨#[0, 1, 242, 3, 244, 245, 246, 247]⟩ W (by decide)
  rw [show csum (⟨#[0, 1, 242, 3, 244, 245, 246, 247]⟩ : ByteArray).data.toList = 8717 from sum_example] at h1
  have h2 := fun W => sum_any ⟨#[]⟩ W (by decide)
  rw [show csum (⟨#[]⟩ : ByteArray).data.toList = 65535 from rfl] at h2
  have h3 := fun W => add_any 65535 1 W
  rw [show oc (65535 % 65536) (1 % 65536) = 1 from by decide] at h3
  have h4 := fun W => update_any 65534 1 2 W
  rw [show upd 65534 1 2 = 65533 from by decide] at h4
  have h5 := fun W => crc_any ⟨#[49, 50, 51, 52, 53, 54, 55, 56, 57]⟩ W (by decide)
  rw [show crcU 0 (⟨#[49, 50, 51, 52, 53, 54, 55, 56, 57]⟩ : ByteArray).data.toList = 3421780262 from crc_example] at h5
  have H1 := Lib.hid h1
  have H2 := Lib.hid h2
  have H3 := Lib.hid h3
  have H4 := Lib.hid h4
  have H5 := Lib.hid h5
  have H6 := Lib.hid pseudo_example
  clear h1 h2 h3 h4 h5
  go_enter Tryd.func11, Tryd.ntmps11
  go_wp2_with fail
  obtain ⟨W0, hW⟩ : ∃ W0, W0 = w.alloc (.cells #[.bool false, .int .u64 0, .int .u64 167772161] 30) := ⟨_, rfl⟩
  rw [← hW]
  have c0 : W0.cell? ⟨w.heap.size, 0, none⟩ = some (.bool false) := by rw [hW, World.cell?_alloc_at _ _ _ _ rfl]; rfl
  have c1 : W0.cell? ⟨w.heap.size, 1, none⟩ = some (.int .u64 0) := by rw [hW, World.cell?_alloc_at _ _ _ _ rfl]; rfl
  have c2 : W0.cell? ⟨w.heap.size, 2, none⟩ = some (.int .u64 167772161) := by rw [hW, World.cell?_alloc_at _ _ _ _ rfl]; rfl
  have hs0 : Sh W0 := by rw [hW]; exact hsh.alloc _
  have hB0 : Below w.heap.size w W0 := by rw [hW]; exact (Below.refl _ _).alloc (Nat.le_refl _) _
  have hg0 : w.heap.size < W0.heap.size := by rw [hW]; simp
  clear hW
  refine (H1.out _).mono ?_
  rintro e w1 ⟨rfl, rfl⟩
  go_wp2_with fail
  refine (H2.out _).mono ?_
  rintro e w1 ⟨rfl, rfl⟩
  go_wp2_with fail
  refine (H3.out _).mono ?_
  rintro e w1 ⟨rfl, rfl⟩
  go_wp2_with fail
  refine (H4.out _).mono ?_
  rintro e w1 ⟨rfl, rfl⟩
  go_wp2_with fail
  refine (H5.out _).mono ?_
  rintro e w2 ⟨rfl, hb2⟩
  have k := fun o => kept_cells hb2 w.heap.size o hg0
  have d0 := (k 0).trans c0
  have d1 := (k 1).trans c1
  have d2 := (k 2).trans c2
  have hs2 := hs0.kept hb2
  have hB2 := hB0.trans (hb2.mono hB0.size)
  clear k c0 c1 c2 hb2 hB0 hs0
  go_wp2_with fail
  refine (H6.out _ ?_).mono ?_
  exact hs2
  rintro e w3 ⟨rfl, hb3⟩
  go_wp2_with fail
  go_ret
  exact ⟨rfl, hB2.trans (hb3.mono hB2.size)⟩
end Go.Proofs.YtajoejpodflnlaaDoor
