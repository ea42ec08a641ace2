/- Contract: each whole block of a string changes the state. -/
import Derived.Test.YtbejdfjioanjlaaDoorShaAdd
import Derived.Test.YtbejdfjioanjlaaDoorMem2
import Derived.Lib.Strings
namespace Go.Proofs.YtbejdfjioanjlaaDoor
open Go.ChangeShapes Go.WideShapes Go.ChangeAt Go.RowKit

theorem str_cut (L : List UInt8) (a b : Nat) : (str L).extract a b = str ((L.take b).drop a) := by
  apply ByteArray.ext
  apply Array.ext'
  rw [Lib.extract_data]
  simp [str, List.drop_take]

set_option maxRecDepth 20000 in
theorem each_any (g : Nat) (S : St) (P : List UInt8) (n : Nat) (s : ByteArray) (w : World) (hs : s.size ≤ 4611686018427387903) (hk : Kt w) (hh : HH w g S P n) (hok : S.ok) (hg : g ≠ 0) :
    Calls Tryd.prog 26 #[.string s, .func (.func 25) #[.pointer (some ⟨g, 0, none⟩)] #[]] w fun e w' => e = .returned (.string (str (rest s.data.toList))) ∧ HH w' g (blks S s.data.toList (s.size / 64)) P n ∧ w.grownBy w' (some g) := by
  obtain ⟨L, rfl⟩ : ∃ L, s = str L := ⟨s.data.toList, (str_of s).symm⟩
  rw [str_toList]
  rw [str_size] at *
  obtain ⟨q, hq⟩ : ∃ q, q = L.length / 64 := ⟨_, rfl⟩
  have hqi : (L.length : Int) / 64 = (q : Int) := by omega
  have hq6 : 64 * q ≤ L.length := by omega
  have hrest : rest L = L.drop (64 * q) := by rw [hq]; rfl
  rw [← hq]
  have HREST := Lib.hid hrest
  have HHH := Lib.hid hh
  have HK := Lib.hid hk
  clear hrest hh hk hq
  have hsz := str_size L
  generalize hW : str L = s0 at *
  have HW := Lib.hid hW
  clear hW
  go_enter Tryd.func26, Tryd.ntmps26
  go_wp2_with fail
  go_loopw [0, 8] (fun sv i wr => ∃ k : Nat, ∃ b : ByteArray, k ≤ q ∧ i = .int .i64 k ∧ sv = .string b ∧ Hid (b = str (L.drop (64 * k))) ∧ HH wr g (blks S L k) P n ∧ Kt wr ∧ w.grownBy wr (some g)) (fun _ i _ => q - (intOf i).toNat)
  case atStart => exact ⟨0, s0, by omega, rfl, rfl, by rw [List.drop_zero]; exact HW.out.symm, HHH.out, HK.out, but_refl _ _⟩
  case round =>
    obtain ⟨k, b, hkq, rfl, rfl, hbs, hhr, hkr, hgr⟩ := hrel
    by_cases hlt : k < q
    · have hb64 : 64 ≤ b.size := by rw [hbs.out, str_size, List.length_drop]; omega
      have hbz : b.size ≤ 4611686018427387903 := by rw [hbs.out, str_size, List.length_drop]; omega
      have hx1 : (b.extract 0 64).size = 64 := by rw [hbs.out, str_cut, str_size]; simp; omega
      have hx2 : comp (blks S L k) (b.extract 0 64).data.toList = blks S L (k + 1) := by
        rw [hbs.out, str_cut, str_toList, List.drop_zero, comp_take, blks]
      have hx3 : b.extract 64 b.size = str (L.drop (64 * (k + 1))) := by
        rw [hbs.out, str_cut, str_size, List.take_length, List.drop_drop, Nat.mul_succ]
      have hokk := blks_ok hok L k
      have hcall := fun W (h1 : Kt W) (h2 : HH W g (blks S L k) P n) => hadd_any g (blks S L k) P n (b.extract 0 64) W hx1 h1 h2 hokk
      rw [hx2] at hcall
      have HC := Lib.hid hcall
      have HX3 := Lib.hid hx3
      have HH1 := Lib.hid hhr
      have HK1 := Lib.hid hkr
      clear hx1 hx2 hx3 hcall hokk hhr hkr
      have hki : (k : Int) < (q : Int) := by omega
      go_wp2_with fail
      refine (HC.out _ HK1.out HH1.out).mono ?_
      rintro e w1 ⟨rfl, hh1, hg1⟩
      have hk1 := HK1.out.only hg1 hg
      have hg2 := but_trans hgr hg1
      have HH2 := Lib.hid hh1
      clear hh1 hg1 HH1 HK1 hgr HC
      go_wp2_with fail
      go_roundw
      case rel => exact ⟨k + 1, _, by omega, by go_num, rfl, HX3.out, HH2.out, hk1, hg2⟩
      case measure => simp [intOf]; omega
    · obtain rfl : k = q := by omega
      have hf : b = str (rest L) := by rw [hbs.out, HREST.out]
      have HF := Lib.hid hf
      clear hf
      have hd : decide ((k : Int) < (k : Int)) = false := by simp
      go_wp2_with fail
      go_ret
      exact ⟨by rw [← HF.out]; rfl, hhr, hgr⟩
end Go.Proofs.YtbejdfjioanjlaaDoor
