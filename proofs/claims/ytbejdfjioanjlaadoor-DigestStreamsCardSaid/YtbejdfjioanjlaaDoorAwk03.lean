/- The examples of the laws of layer 3: lives returns true. -/
import Derived.Test.YtbejdfjioanjlaaDoorShaHash
import Derived.Test.YtbejdfjioanjlaaDoorShaRSum
import Derived.Test.YtbejdfjioanjlaaDoorTied03
namespace Go.Proofs.YtbejdfjioanjlaaDoor
open Go.ChangeShapes Go.WideShapes Go.ChangeAt Go.RowKit
set_option linter.unusedVariables false

theorem abc_str : str (hexL [97, 98, 99]) = ⟨#[98, 97, 55, 56, 49, 54, 98, 102, 56, 102, 48, 49, 99, 102, 101, 97, 52, 49, 52, 49, 52, 48, 100, 101, 53, 100, 97, 101, 50, 50, 50, 51, 98, 48, 48, 51, 54, 49, 97, 51, 57, 54, 49, 55, 55, 97, 57, 99, 98, 52, 49, 48, 102, 102, 54, 49, 102, 50, 48, 48, 49, 53, 97, 100]⟩ := by rw [abc_hex]; rfl

set_option maxHeartbeats 400000 in
set_option maxRecDepth 20000 in
theorem lives_any (w : World) (hk : Kt w) :
    Calls Tryd.prog 8 #[] w fun e w' => e = .returned (.bool true) ∧ Below w.heap.size w w' := by
  have hkl := hk.lt
  have h1 := fun W (a : Kt W) (b : Ob W w.heap.size []) => write_any w.heap.size [] ⟨#[97]⟩ W a (by omega) b (by decide) (by decide)
  have h2 := fun W (a : Kt W) (b : Ob W w.heap.size [97]) => write_any w.heap.size [97] ⟨#[98, 99]⟩ W a (by omega) b (by decide) (by decide)
  have h3 := fun W (b : Ob W w.heap.size [97, 98, 99]) => len_any w.heap.size [97, 98, 99] W b
  have h4 := fun W (a : Kt W) (b : Ob W w.heap.size [97, 98, 99]) => hexm_any w.heap.size [97, 98, 99] W a b (by decide)
  have h5 := fun W (a : Kt W) => phex_any ⟨#[97, 98, 99]⟩ W a (by decide)
  have h6 := fun W (a : Kt W) => psum_any ⟨#[]⟩ W a (by decide)
  rw [show (⟨#[97, 98, 99]⟩ : ByteArray).data.toList = [97, 98, 99] from rfl] at h5
  rw [abc_str] at h4 h5
  have hz : (str (sha (⟨#[]⟩ : ByteArray).data.toList)).size = 32 := by rw [str_size, sha_length]
  generalize str (sha (⟨#[]⟩ : ByteArray).data.toList) = Z at *
  have H1 : Hid (∀ W, Kt W → Ob W w.heap.size [] → Calls Tryd.prog 14 #[.pointer (some ⟨w.heap.size, 0, none⟩), .string ⟨#[97]⟩] W fun e w' => e = .returned (.tuple #[]) ∧ Ob w' w.heap.size [97] ∧ W.grownBy w' (some w.heap.size)) := h1
  have H2 : Hid (∀ W, Kt W → Ob W w.heap.size [97] → Calls Tryd.prog 14 #[.pointer (some ⟨w.heap.size, 0, none⟩), .string ⟨#[98, 99]⟩] W fun e w' => e = .returned (.tuple #[]) ∧ Ob w' w.heap.size [97, 98, 99] ∧ W.grownBy w' (some w.heap.size)) := h2
  have H3 : Hid (∀ W, Ob W w.heap.size [97, 98, 99] → Calls Tryd.prog 16 #[.pointer (some ⟨w.heap.size, 0, none⟩)] W fun e w' => e = .returned (.int .i64 3) ∧ W = w') := h3
  have H4 := Lib.hid h4
  have H5 := Lib.hid h5
  have H6 := Lib.hid h6
  have HK := Lib.hid hk
  clear h1 h2 h3 h4 h5 h6 hk
  go_enter Tryd.func8, Tryd.ntmps8
  go_wp2_with fail
  refine (newh_any _).mono ?_
  rintro e w1 ⟨rfl, hob, hb1⟩
  have HO1 := Lib.hid hob
  have HK1 := Lib.hid (HK.out.kept hb1)
  have HB1 := Lib.hid hb1
  clear hob hb1
  go_wp2_with fail
  refine (H1.out _ HK1.out HO1.out).mono ?_
  rintro e w2 ⟨rfl, hob, hg⟩
  have HO2 := Lib.hid hob
  have HK2 := Lib.hid (HK1.out.only hg (by omega))
  have HB2 := Lib.hid (below_but HB1.out hg (Nat.le_refl _) HB1.out.size)
  clear hob hg
  go_wp2_with fail
  refine (H2.out _ HK2.out HO2.out).mono ?_
  rintro e w3 ⟨rfl, hob, hg⟩
  have HO3 := Lib.hid hob
  have HK3 := Lib.hid (HK2.out.only hg (by omega))
  have HB3 := Lib.hid (below_but HB2.out hg (Nat.le_refl _) HB2.out.size)
  clear hob hg
  go_wp2_with fail
  refine (H3.out _ HO3.out).mono ?_
  rintro e w4 ⟨rfl, rfl⟩
  go_wp2_with fail
  refine (H4.out _ HK3.out HO3.out).mono ?_
  rintro e w4 ⟨rfl, hb⟩
  have HK4 := Lib.hid (HK3.out.kept hb)
  have HB4 := Lib.hid (HB3.out.trans (hb.mono HB3.out.size))
  clear hb
  go_wp2_with fail
  refine (H5.out _ HK4.out).mono ?_
  rintro e w5 ⟨rfl, hb⟩
  have HK5 := Lib.hid (HK4.out.kept hb)
  have HB5 := Lib.hid (HB4.out.trans (hb.mono HB4.out.size))
  clear hb
  go_wp2_with fail
  refine (H5.out _ HK5.out).mono ?_
  rintro e w6 ⟨rfl, hb⟩
  have HK6 := Lib.hid (HK5.out.kept hb)
  have HB6 := Lib.hid (HB5.out.trans (hb.mono HB5.out.size))
  clear hb
  go_wp2_with fail
  refine (H6.out _ HK6.out).mono ?_
  rintro e w7 ⟨rfl, hb⟩
  have HB7 := Lib.hid (HB6.out.trans (hb.mono HB6.out.size))
  clear hb
  go_wp2_with fail
  go_ret
  exact ⟨rfl, HB7.out⟩
end Go.Proofs.YtbejdfjioanjlaaDoor
