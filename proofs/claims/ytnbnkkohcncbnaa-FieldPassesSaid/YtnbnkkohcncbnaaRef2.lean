/- Contracts of the reference: Reverse, PutLittle, Get, GetLittle. -/
import Derived.Test.YtnbnkkohcncbnaaRef
namespace Go.Proofs.Ytnbnkkohcncbnaa
open Go.ChangeShapes Go.WideShapes Go.ChangeAt Go.RowKit
set_option linter.unusedVariables false

/-- Bytes as cells. -/
def cellsOf (l : List UInt8) : List Value := l.map fun b => .int .u8 (b.toNat : Int)

theorem bs_of_own {w : World} {base : Nat} {A : Option Addr} {cap : Nat} {l : List UInt8} (h : w.ownsRow base 5 1 (.slice A l.length cap) l.length (cellsOf l)) : BS w base (.slice A l.length cap) l := by
  refine ⟨A, cap, rfl, ?_, fun hpos => ?_⟩
  · rcases h.2 with ⟨hv, hn⟩ | ⟨g, c, cur, hv, _, _, hn, _⟩
    · omega
    · cases hv; exact hn
  · rcases h.2 with ⟨hv, hn⟩ | ⟨g, c, cur, hv, hg, hh, hn, _⟩
    · omega
    · cases hv
      have hlt : g < w.heap.size := (h.lt g rfl).2
      refine ⟨g, 0, rfl, hg, hlt, fun j hj => ?_⟩
      rw [Nat.zero_add]
      refine ⟨?_, h.frozenAt j⟩
      rw [h.cellAt j (by omega)]
      simp [cellsOf, hj]

theorem cellsOf_snoc (l : List UInt8) (b : UInt8) : cellsOf l ++ [.int .u8 (b.toNat : Int)] = cellsOf (l ++ [b]) := by simp [cellsOf]
theorem cellsOf_length (l : List UInt8) : (cellsOf l).length = l.length := by simp [cellsOf]

theorem back_take (l : List UInt8) (q : Nat) (h : q < l.length) : (l.drop (q + 1)).reverse ++ [l[q]] = (l.drop q).reverse := by
  rw [List.drop_eq_getElem_cons h, List.reverse_cons]

theorem rrev_any (s : ByteArray) (w : World) (hs : s.size ≤ 7) :
    Calls Try.prog 32 #[.string s] w fun e w' => e = .returned (.string (str s.data.toList.reverse)) ∧ Below w.heap.size w w' := by
  obtain ⟨i0, hi, hz0, hz1, hz2⟩ := info_parts info5
  go_enter Try.func32, Try.ntmps32
  go_wp2_with fail
  go_loopw [3, 4] (fun b i wr => ∃ j : Nat, ∃ A cap, j ≤ s.size ∧ i = .int .i64 ((j : Int) - 1) ∧ b = .slice A (s.data.toList.drop j).reverse.length cap ∧ wr.ownsRow w.heap.size 5 1 (.slice A (s.data.toList.drop j).reverse.length cap) (s.data.toList.drop j).reverse.length (cellsOf (s.data.toList.drop j).reverse) ∧ Below w.heap.size w wr) (fun _ i _ => (intOf i + 1).toNat)
  case atStart =>
    have hn : (s.data.toList.drop s.size).reverse = [] := by simp
    refine ⟨s.size, none, 0, Nat.le_refl _, by go_num, by rw [hn]; rfl, ?_, Below.refl _ _⟩
    rw [hn]
    exact World.ownsRow_nil ..
  case round =>
    obtain ⟨j, A, cap, hj, rfl, rfl, hown, hb⟩ := hrel
    rcases j with _ | q
    · rw [show (((0 : Nat) : Int) - 1) = -1 by omega]
      have hcv := bs_string (bs_of_own hown)
      rw [List.drop_zero] at *
      generalize hgl : s.data.toList.reverse = L at *
      have Hg := Lib.hid hgl
      clear hgl
      go_wp2_with fail
      go_ret
      exact ⟨by rw [Hg.out]; rfl, hb⟩
    · rw [show (((q + 1 : Nat) : Int) - 1) = (q : Int) by omega]
      have hq : q < s.size := by omega
      have hsn := back_take s.data.toList q (by simp; omega)
      rw [show s.data.toList[q]'(by simp; omega) = s[q] from rfl] at hsn
      have hL : (s.data.toList.drop (q + 1)).reverse.length ≤ 6 := by simp; omega
      generalize (s.data.toList.drop (q + 1)).reverse = L at *
      have HS := Lib.hid hsn
      clear hsn
      go_wp2_with (at_builtin; refine wpList_append_own _ rfl _ _ 47 rfl w.heap.size 5 i0 (.int .u8 0) 1 1 Try.underlying47 hi hz0 hz1 hz2 rfl (by decide) _ _ _ rfl (hown.alloc _) ⟨wr.heap.size, 0, none⟩ 1 1 [.int .u8 (s[q].toNat : Int)] rfl rfl ?c1 ?c2 ?c3 ?c4 ?c5 ?_)
      case c1 => intro x u hu; rcases x with _ | x <;> simp at hu; subst hu; simp [Addr.add]
      case c2 => simp [Value.oneCell']
      case c3 => unfold maxLen; omega
      case c4 => omega
      case c5 => have := hb.size; simp; omega
      intro v' w1 hown' hgrow _
      rw [cellsOf_snoc, HS.out] at hown'
      have hlen : L.length + 1 = (s.data.toList.drop q).reverse.length := by rw [← HS.out]; simp
      rw [hlen] at hown'
      obtain ⟨A', cap', hv'⟩ : ∃ A' cap', v' = .slice A' (s.data.toList.drop q).reverse.length cap' := by
        rcases hown'.2 with ⟨h1, h2⟩ | ⟨g, c, cur, h1, _⟩
        · exact ⟨none, 0, by rw [h1, h2]⟩
        · exact ⟨_, _, h1⟩
      subst hv'
      have hb1 : Below w.heap.size w w1 := (hb.alloc hb.size _).grown hgrow (by have := hb.size; simp; omega) (fun k hk => (hown.lt k hk).1)
      clear hlen hgrow hown
      generalize hgl : (s.data.toList.drop q).reverse = M at *
      have HM := Lib.hid hgl
      clear hgl
      go_wp2_with fail
      go_roundw
      case rel => exact ⟨q, A', cap', by omega, by go_num, by rw [HM.out], by rw [HM.out]; exact hown', hb1⟩
      case measure => simp [intOf]

theorem rputl_no (n size : Int) (w : World) (h : size < 1 ∨ 7 < size ∨ n < 0 ∨ (1 ≤ size ∧ pw size.toNat ≤ n.toNat)) :
    Calls Try.prog 11 #[.int .i64 n, .int .i64 size] w fun e w' => e = .returned (.string (str [])) ∧ Below w.heap.size w w' := by
  go_enter Try.func11, Try.ntmps11
  go_wp2_with fail
  refine (rput_no n size _ h).mono ?_
  rintro e w1 ⟨rfl, rfl⟩
  go_wp2_with fail
  refine (rrev_any (str []) _ (by simp [str_size])).mono ?_
  rintro e w2 ⟨rfl, hb⟩
  go_wp2_with fail
  go_ret
  exact ⟨rfl, hb⟩

theorem rputl_yes (n size : Int) (w : World) (h1 : 1 ≤ size) (h2 : size ≤ 7) (h3 : 0 ≤ n) (h4 : n.toNat < pw size.toNat) :
    Calls Try.prog 11 #[.int .i64 n, .int .i64 size] w fun e w' => e = .returned (.string (str (leL size.toNat n.toNat))) ∧ Below w.heap.size w w' := by
  obtain ⟨k, hk⟩ : ∃ k : Nat, size = (k : Int) + 1 := ⟨(size - 1).toNat, by omega⟩
  have hsz : size.toNat = k + 1 := by omega
  rw [hsz] at h4 ⊢
  have hl7 : (str (leL (k + 1) n.toNat).reverse).size ≤ 7 := by rw [str_size, List.length_reverse, leL_length]; omega
  have Hk := Lib.hid hk
  clear hk hsz
  go_enter Try.func11, Try.ntmps11
  go_wp2_with fail
  refine (rput_yes k n size _ Hk.out h2 h3 h4).mono ?_
  rintro e w1 ⟨rfl, hb1⟩
  generalize hgl : (leL (k + 1) n.toNat).reverse = L at *
  have Hg := Lib.hid hgl
  clear hgl
  go_wp2_with fail
  refine (rrev_any (str L) _ hl7).mono ?_
  rintro e w2 ⟨rfl, hb⟩
  go_wp2_with fail
  go_ret
  exact ⟨by rw [str_toList, ← List.reverse_reverse (leL (k + 1) n.toNat), Hg.out]; rfl, hb1.trans (hb.mono hb1.size)⟩

theorem rget_range (s : ByteArray) (at_ size : Int) (w : World) (h : size < 1 ∨ 7 < size ∨ at_ < 0) :
    Calls Try.prog 14 #[.string s, .int .i64 at_, .int .i64 size] w fun e w' => e = .returned (.tuple #[.int .i64 0, .int .i64 4]) ∧ w = w' := by
  by_cases h1 : size < 1
  · go_enter Try.func14, Try.ntmps14
    go_wp2_with fail
    go_ret2
    exact ⟨rfl, rfl⟩
  have d1 : decide (size < 1) = false := by simp; omega
  by_cases h2 : 7 < size
  · go_enter Try.func14, Try.ntmps14
    go_wp2_with fail
    go_ret2
    exact ⟨rfl, rfl⟩
  have d2 : decide (7 < size) = false := by simp; omega
  have h3 : at_ < 0 := by omega
  go_enter Try.func14, Try.ntmps14
  go_wp2_with fail
  go_ret2
  exact ⟨rfl, rfl⟩

theorem rget_short (s : ByteArray) (at_ size : Int) (w : World) (hs : s.size ≤ 9223372036854775807) (h1 : 1 ≤ size) (h2 : size ≤ 7) (h3 : 0 ≤ at_) (h5 : at_ ≤ 9223372036854775807) (h : (s.size : Int) - at_ < size) :
    Calls Try.prog 14 #[.string s, .int .i64 at_, .int .i64 size] w fun e w' => e = .returned (.tuple #[.int .i64 0, .int .i64 1]) ∧ w = w' := by
  have d1 : decide (size < 1) = false := by simp; omega
  have d2 : decide (7 < size) = false := by simp; omega
  have d3 : decide (at_ < 0) = false := by simp; omega
  by_cases h4 : (s.size : Int) < at_
  · go_enter Try.func14, Try.ntmps14
    go_wp2_with fail
    go_ret2
    exact ⟨rfl, rfl⟩
  have d4 : decide ((s.size : Int) < at_) = false := by simp; omega
  go_enter Try.func14, Try.ntmps14
  go_wp2_with fail
  go_ret2
  exact ⟨rfl, rfl⟩

theorem ext_size (s : ByteArray) (a k : Nat) : (s.extract a (a + k)).size ≤ k := by
  rw [ByteArray.size_extract]; omega

theorem rget_ok (s : ByteArray) (at_ size : Int) (w : World) (hs : s.size ≤ 9223372036854775807) (h1 : 1 ≤ size) (h2 : size ≤ 7) (h3 : 0 ≤ at_) (h : at_ + size ≤ s.size) :
    Calls Try.prog 14 #[.string s, .int .i64 at_, .int .i64 size] w fun e w' => e = .returned (.tuple #[.int .i64 (num (sub s at_.toNat size.toNat) : Nat), .int .i64 0]) ∧ w = w' := by
  obtain ⟨k, rfl⟩ := Int.eq_ofNat_of_zero_le (show 0 ≤ size by omega)
  obtain ⟨a, rfl⟩ := Int.eq_ofNat_of_zero_le h3
  rw [Int.toNat_natCast, Int.toNat_natCast] at *
  have d1 : decide ((k : Int) < 1) = false := by simp; omega
  have d2 : decide ((7 : Int) < k) = false := by simp; omega
  have d3 : decide ((a : Int) < 0) = false := by simp
  have d4 : decide ((s.size : Int) < a) = false := by simp; omega
  have d4' : decide (s.size < a) = false := by simp; omega
  go_enter Try.func14, Try.ntmps14
  go_wp2_with fail
  refine (value_any _ _ (Nat.le_trans (ext_size s a k) (by omega))).mono ?_
  rintro e w1 ⟨rfl, rfl⟩
  go_wp2_with fail
  go_ret2
  exact ⟨rfl, rfl⟩

theorem rgetl_range (s : ByteArray) (at_ size : Int) (w : World) (h : size < 1 ∨ 7 < size ∨ at_ < 0) :
    Calls Try.prog 16 #[.string s, .int .i64 at_, .int .i64 size] w fun e w' => e = .returned (.tuple #[.int .i64 0, .int .i64 4]) ∧ w = w' := by
  go_enter Try.func16, Try.ntmps16
  go_wp2_with fail
  refine (rget_range s at_ size _ h).mono ?_
  rintro e w1 ⟨rfl, rfl⟩
  go_wp2_with fail
  go_ret2
  exact ⟨rfl, rfl⟩

theorem rgetl_short (s : ByteArray) (at_ size : Int) (w : World) (hs : s.size ≤ 9223372036854775807) (h1 : 1 ≤ size) (h2 : size ≤ 7) (h3 : 0 ≤ at_) (h5 : at_ ≤ 9223372036854775807) (h : (s.size : Int) - at_ < size) :
    Calls Try.prog 16 #[.string s, .int .i64 at_, .int .i64 size] w fun e w' => e = .returned (.tuple #[.int .i64 0, .int .i64 1]) ∧ w = w' := by
  go_enter Try.func16, Try.ntmps16
  go_wp2_with fail
  refine (rget_short s at_ size _ hs h1 h2 h3 h5 h).mono ?_
  rintro e w1 ⟨rfl, rfl⟩
  go_wp2_with fail
  go_ret2
  exact ⟨rfl, rfl⟩

theorem rgetl_ok (s : ByteArray) (at_ size : Int) (w : World) (hs : s.size ≤ 9223372036854775807) (h1 : 1 ≤ size) (h2 : size ≤ 7) (h3 : 0 ≤ at_) (h : at_ + size ≤ s.size) :
    Calls Try.prog 16 #[.string s, .int .i64 at_, .int .i64 size] w fun e w' => e = .returned (.tuple #[.int .i64 (num (sub s at_.toNat size.toNat).reverse : Nat), .int .i64 0]) ∧ Below w.heap.size w w' := by
  obtain ⟨k, rfl⟩ := Int.eq_ofNat_of_zero_le (show 0 ≤ size by omega)
  obtain ⟨a, rfl⟩ := Int.eq_ofNat_of_zero_le h3
  rw [Int.toNat_natCast, Int.toNat_natCast] at *
  have hl := sub_length (s := s) (a := a) (k := k) (by omega)
  have hl7 : (sub s a k).length ≤ 7 := by omega
  clear hl
  go_enter Try.func16, Try.ntmps16
  go_wp2_with fail
  refine (rget_ok s a k _ hs h1 h2 h3 h).mono ?_
  rintro e w1 ⟨rfl, rfl⟩
  go_wp2_with fail
  refine (rrev_any _ _ (Nat.le_trans (ext_size s a k) (by omega))).mono ?_
  rintro e w1 ⟨rfl, hb⟩
  have hsub : (s.extract a (a + k)).data.toList = sub s a k := by
    rw [Lib.extract_data, sub, show a + k - a = k by omega]
  rw [hsub]
  clear hsub
  have hl7' : (str (sub s a k).reverse).size ≤ 7 := by rw [str_size, List.length_reverse]; exact hl7
  generalize hgl : (sub s a k).reverse = L at *
  go_wp2_with fail
  refine (value_any (str L) _ hl7').mono ?_
  rintro e w2 ⟨rfl, rfl⟩
  go_wp2_with fail
  go_ret2
  exact ⟨by rw [str_toList, hgl]; rfl, hb⟩
end Go.Proofs.Ytnbnkkohcncbnaa
