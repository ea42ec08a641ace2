/- Contracts of the reference's reader, and one contract per call for both readers: what a call answers and leaves, as a function of what was left and the error. -/
import Derived.Test.YtnbnkkohcncbnaaAwake
namespace Go.Proofs.Ytnbnkkohcncbnaa
open Go.ChangeShapes Go.WideShapes Go.ChangeAt Go.RowKit
set_option linter.unusedVariables false

/-- A call Take(n): its answer, what is left, the error. -/
def takeR (l : List UInt8) (err n : Int) : List UInt8 × List UInt8 × Int :=
  if err ≠ 0 then ([], l, err) else if n < 0 then ([], l, 4) else if (l.length : Int) < n then ([], l, 1) else (l.take n.toNat, l.drop n.toNat, 0)
/-- A call Int(n). -/
def intR (l : List UInt8) (err n : Int) : Nat × List UInt8 × Int :=
  if err ≠ 0 then (0, l, err) else if n < 1 ∨ 7 < n then (0, l, 4) else if (l.length : Int) < n then (0, l, 1) else (num (l.take n.toNat), l.drop n.toNat, 0)

theorem takeR_left (l : List UInt8) (err n : Int) : (takeR l err n).2.1.length ≤ l.length := by
  unfold takeR
  repeat' split
  all_goals simp
theorem intR_left (l : List UInt8) (err n : Int) : (intR l err n).2.1.length ≤ l.length := by
  unfold intR
  repeat' split
  all_goals simp

theorem int_all (p : Nat) (l : List UInt8) (err n : Int) (w : World) (h : Rd w p l err) (hm : l.length ≤ 9223372036854775807) :
    Calls Try.prog 19 #[.pointer (some ⟨p, 0, none⟩), .int .i64 n] w fun e w' => e = .returned (.int .i64 ((intR l err n).1 : Nat)) ∧ Rd w' p (intR l err n).2.1 (intR l err n).2.2 ∧ w.grownBy w' (some p) := by
  unfold intR
  by_cases he : err ≠ 0
  · rw [if_pos he]; exact int_err p l err n w h he
  · obtain rfl : err = 0 := by omega
    rw [if_neg he]
    by_cases hn : n < 1 ∨ 7 < n
    · rw [if_pos hn]; exact int_bad p l n w h hn
    · rw [if_neg hn]
      by_cases hs : (l.length : Int) < n
      · rw [if_pos hs]; exact int_short p l n w h hm (by omega) (by omega) hs
      · rw [if_neg hs]
        obtain ⟨k, rfl⟩ := Int.eq_ofNat_of_zero_le (show 0 ≤ n by omega)
        rw [Int.toNat_natCast]
        exact int_ok p l k w h hm (by omega) (by omega) (by omega)

theorem take_all (p : Nat) (l : List UInt8) (err n : Int) (w : World) (h : Rd w p l err) (hm : l.length ≤ 9223372036854775807) :
    Calls Try.prog 21 #[.pointer (some ⟨p, 0, none⟩), .int .i64 n] w fun e w' => e = .returned (.string (str (takeR l err n).1)) ∧ Rd w' p (takeR l err n).2.1 (takeR l err n).2.2 ∧ w.grownBy w' (some p) := by
  unfold takeR
  by_cases he : err ≠ 0
  · rw [if_pos he]; exact take_err p l err n w h he
  · obtain rfl : err = 0 := by omega
    rw [if_neg he]
    by_cases hn : n < 0
    · rw [if_pos hn]; exact take_bad p l n w h hn
    · rw [if_neg hn]
      by_cases hs : (l.length : Int) < n
      · rw [if_pos hs]; exact take_short p l n w h hm hs
      · rw [if_neg hs]
        obtain ⟨k, rfl⟩ := Int.eq_ofNat_of_zero_le (show 0 ≤ n by omega)
        rw [Int.toNat_natCast]
        exact take_ok p l k w h hm (by omega)

theorem rest_all (p : Nat) (l : List UInt8) (err : Int) (w : World) (h : Rd w p l err) (hm : l.length ≤ 9223372036854775807) :
    Calls Try.prog 23 #[.pointer (some ⟨p, 0, none⟩)] w fun e w' => e = .returned (.string (str (takeR l err l.length).1)) ∧ Rd w' p (takeR l err l.length).2.1 (takeR l err l.length).2.2 ∧ w.grownBy w' (some p) := by
  unfold takeR
  by_cases he : err ≠ 0
  · rw [if_pos he]; exact rest_err p l err w h he
  · obtain rfl : err = 0 := by omega
    rw [if_neg he, if_neg (by omega), if_neg (by omega), Int.toNat_natCast, List.take_length, List.drop_length]
    exact rest_ok p l w h hm

/-- The reference's reader at block q. -/
def RR (w : World) (q : Nat) (l : List UInt8) (err : Int) : Prop := Cells w q 59 #[.string (str l), .int .i64 err]

theorem str_take (l : List UInt8) (n : Nat) : (str l).extract 0 n = str (l.take n) := by
  apply ByteArray.ext
  apply Array.toList_inj.1
  rw [Lib.extract_data, str_toList, str_toList, List.drop_zero, Nat.sub_zero]
theorem str_drop (l : List UInt8) (n : Nat) : (str l).extract n l.length = str (l.drop n) := by
  apply ByteArray.ext
  apply Array.toList_inj.1
  rw [Lib.extract_data, str_toList, str_toList]
  exact List.take_of_length_le (by rw [List.length_drop]; omega)

theorem rtake_all (q : Nat) (l : List UInt8) (err n : Int) (w : World) (h : RR w q l err) (hm : l.length ≤ 9223372036854775807) :
    Calls Try.prog 22 #[.pointer (some ⟨q, 0, none⟩), .int .i64 n] w fun e w' => e = .returned (.string (str (takeR l err n).1)) ∧ RR w' q (takeR l err n).2.1 (takeR l err n).2.2 ∧ w.grownBy w' (some q) := by
  have c0 := h.cell 0
  have c1 := h.cell 1
  have f0 := h.frozen 0
  have f1 := h.frozen 1
  simp at c0 c1
  unfold takeR
  by_cases he : err ≠ 0
  · rw [if_pos he]
    have hb : (err != 0) = true := by simpa using he
    clear he
    go_enter Try.func22, Try.ntmps22
    go_wp2_with fail
    go_ret
    exact ⟨rfl, h, only_refl ..⟩
  · obtain rfl : err = 0 := by omega
    rw [if_neg he]
    clear he
    by_cases hn : n < 0
    · rw [if_pos hn]
      go_enter Try.func22, Try.ntmps22
      go_wp2_with fail
      go_ret
      exact ⟨rfl, h.set 1 _, only_set ..⟩
    · rw [if_neg hn]
      have hsz : (str l).size = l.length := str_size l
      by_cases hs : (l.length : Int) < n
      · rw [if_pos hs]
        go_enter Try.func22, Try.ntmps22
        go_wp2_with fail
        go_ret
        exact ⟨rfl, h.set 1 _, only_set ..⟩
      · rw [if_neg hs]
        obtain ⟨k, rfl⟩ := Int.eq_ofNat_of_zero_le (show 0 ≤ n by omega)
        rw [Int.toNat_natCast]
        go_enter Try.func22, Try.ntmps22
        go_wp2_with fail
        go_ret
        refine ⟨by rw [← str_take]; rfl, ?_, only_set ..⟩
        rw [str_drop]
        exact h.set 0 _

theorem value_nil (w : World) : Calls Try.prog 35 #[.string (str [])] w fun e w' => e = .returned (.int .i64 0) ∧ w = w' :=
  value_any (str []) w (by simp [str_size])

theorem rint_all (q : Nat) (l : List UInt8) (err n : Int) (w : World) (h : RR w q l err) (hm : l.length ≤ 9223372036854775807) :
    Calls Try.prog 20 #[.pointer (some ⟨q, 0, none⟩), .int .i64 n] w fun e w' => e = .returned (.int .i64 ((intR l err n).1 : Nat)) ∧ RR w' q (intR l err n).2.1 (intR l err n).2.2 ∧ w.grownBy w' (some q) := by
  have c0 := h.cell 0
  have c1 := h.cell 1
  have f1 := h.frozen 1
  simp at c0 c1
  unfold intR
  by_cases he : err ≠ 0
  · rw [if_pos he]
    have hb : (err == 0) = false := by simpa using he
    have ht : takeR l err n = ([], l, err) := by unfold takeR; rw [if_pos he]
    have HT := Lib.hid ht
    have Hc := Lib.hid (rtake_all q l err n w h hm)
    clear he ht
    go_enter Try.func20, Try.ntmps20
    go_wp2_with fail
    refine Hc.out.mono ?_
    rw [HT.out]
    rintro e w1 ⟨rfl, h1, hg1⟩
    go_wp2_with fail
    refine (value_nil _).mono ?_
    rintro e w2 ⟨rfl, rfl⟩
    go_wp2_with fail
    go_ret
    exact ⟨rfl, h1, hg1⟩
  · obtain rfl : err = 0 := by omega
    rw [if_neg he]
    clear he
    by_cases hn : n < 1 ∨ 7 < n
    · rw [if_pos hn]
      have h4 := h.set 1 (.int .i64 4)
      have hg4 := only_set w q 1 (.int .i64 4)
      have ht : takeR l 4 n = ([], l, 4) := by unfold takeR; rw [if_pos (by decide)]
      have HT := Lib.hid ht
      have Hc := Lib.hid (rtake_all q l 4 n (w.setCell ⟨q, 1, none⟩ (.int .i64 4)) h4 hm)
      clear ht h4
      by_cases hn1 : n < 1
      · go_enter Try.func20, Try.ntmps20
        go_wp2_with fail
        refine Hc.out.mono ?_
        rw [HT.out]
        rintro e w1 ⟨rfl, h1, hg1⟩
        go_wp2_with fail
        refine (value_nil _).mono ?_
        rintro e w2 ⟨rfl, rfl⟩
        go_wp2_with fail
        go_ret
        exact ⟨rfl, h1, only_trans hg4 hg1⟩
      · have hd : decide (n < 1) = false := by simp; omega
        have hn7 : 7 < n := by omega
        clear hn
        go_enter Try.func20, Try.ntmps20
        go_wp2_with fail
        refine Hc.out.mono ?_
        rw [HT.out]
        rintro e w1 ⟨rfl, h1, hg1⟩
        go_wp2_with fail
        refine (value_nil _).mono ?_
        rintro e w2 ⟨rfl, rfl⟩
        go_wp2_with fail
        go_ret
        exact ⟨rfl, h1, only_trans hg4 hg1⟩
    · rw [if_neg hn]
      have hd : decide (n < 1) = false := by simp; omega
      have hd7 : decide (7 < n) = false := by simp; omega
      have hn1 : 1 ≤ n := by omega
      have hn7 : n ≤ 7 := by omega
      clear hn
      have Hc := Lib.hid (rtake_all q l 0 n w h hm)
      by_cases hs : (l.length : Int) < n
      · rw [if_pos hs]
        have ht : takeR l 0 n = ([], l, 1) := by unfold takeR; rw [if_neg (by decide), if_neg (by omega), if_pos hs]
        have HT := Lib.hid ht
        clear ht
        go_enter Try.func20, Try.ntmps20
        go_wp2_with fail
        refine Hc.out.mono ?_
        rw [HT.out]
        rintro e w1 ⟨rfl, h1, hg1⟩
        go_wp2_with fail
        refine (value_nil _).mono ?_
        rintro e w2 ⟨rfl, rfl⟩
        go_wp2_with fail
        go_ret
        exact ⟨rfl, h1, hg1⟩
      · rw [if_neg hs]
        have ht : takeR l 0 n = (l.take n.toNat, l.drop n.toNat, 0) := by unfold takeR; rw [if_neg (by decide), if_neg (by omega), if_neg hs]
        have hl7 : (str (l.take n.toNat)).size ≤ 7 := by rw [str_size, List.length_take]; omega
        have hv := value_any (str (l.take n.toNat))
        rw [str_toList] at hv
        have HV := Lib.hid hv
        have HT := Lib.hid ht
        clear ht hv
        generalize l.take n.toNat = A at *
        generalize l.drop n.toNat = B at *
        go_enter Try.func20, Try.ntmps20
        go_wp2_with fail
        refine Hc.out.mono ?_
        rw [HT.out]
        rintro e w1 ⟨rfl, h1, hg1⟩
        go_wp2_with fail
        refine (HV.out _ hl7).mono ?_
        rintro e w2 ⟨rfl, rfl⟩
        go_wp2_with fail
        go_ret
        exact ⟨rfl, h1, hg1⟩

theorem rleft_any (q : Nat) (l : List UInt8) (err : Int) (w : World) (h : RR w q l err) :
    Calls Try.prog 26 #[.pointer (some ⟨q, 0, none⟩)] w fun e w' => e = .returned (.int .i64 (l.length : Nat)) ∧ w = w' := by
  have c0 := h.cell 0
  have hsz : (str l).size = l.length := str_size l
  simp at c0
  go_enter Try.func26, Try.ntmps26
  go_wp2_with fail
  go_ret
  exact ⟨rfl, rfl⟩

theorem rerr_any (q : Nat) (l : List UInt8) (err : Int) (w : World) (h : RR w q l err) :
    Calls Try.prog 28 #[.pointer (some ⟨q, 0, none⟩)] w fun e w' => e = .returned (.int .i64 err) ∧ w = w' := by
  have c1 := h.cell 1
  simp at c1
  go_enter Try.func28, Try.ntmps28
  go_wp2_with fail
  go_ret
  exact ⟨rfl, rfl⟩

theorem rrest_all (q : Nat) (l : List UInt8) (err : Int) (w : World) (h : RR w q l err) (hm : l.length ≤ 9223372036854775807) :
    Calls Try.prog 24 #[.pointer (some ⟨q, 0, none⟩)] w fun e w' => e = .returned (.string (str (takeR l err l.length).1)) ∧ RR w' q (takeR l err l.length).2.1 (takeR l err l.length).2.2 ∧ w.grownBy w' (some q) := by
  have c0 := h.cell 0
  have hsz : (str l).size = l.length := str_size l
  simp at c0
  have Hc := Lib.hid (rtake_all q l err l.length w h hm)
  generalize takeR l err l.length = T at *
  go_enter Try.func24, Try.ntmps24
  go_wp2_with fail
  refine Hc.out.mono ?_
  rintro e w1 ⟨rfl, h1, hg1⟩
  go_wp2_with fail
  go_ret
  exact ⟨rfl, h1, hg1⟩

theorem rnew_any (s : ByteArray) (w : World) :
    Calls Try.prog 18 #[.string s] w fun e w' => e = .returned (.pointer (some ⟨w.heap.size, 0, none⟩)) ∧ RR w' w.heap.size s.data.toList 0 ∧ Below w.heap.size w w' := by
  go_enter Try.func18, Try.ntmps18
  go_wp2_with fail
  go_ret
  refine ⟨rfl, ?_, (Below.refl _ _).alloc (Nat.le_refl _) _⟩
  unfold RR
  rw [str_of]
  exact cells_new w _ _
end Go.Proofs.Ytnbnkkohcncbnaa
