/- The examples of the laws of layer 5: awake returns true. -/
import Derived.Test.YtlmjfbgigfmdhaaAwk05
namespace Go.Proofs.Ytlmjfbgigfmdhaa
open Go.ChangeShapes Go.WideShapes Go.ChangeAt Go.RowKit
set_option linter.unusedVariables false

theorem spl_lit2 (w : World) (o : Obj) (l : List Spn) (cs : Array Value) (h : cs.toList = spCells l) : SpL ((w.alloc o).alloc (.cells cs 34)) (some ⟨w.heap.size + 1, 0, none⟩) l := by
  have := spl_lit (w.alloc o) l cs h
  rwa [show (w.alloc o).heap.size = w.heap.size + 1 by simp] at this
theorem ex_a (m : Int) : anyS [⟨1, 3⟩, ⟨5, 7⟩] m = memS 4294967296 [⟨5, 7⟩, ⟨1, 2⟩, ⟨3, 3⟩, ⟨9, 8⟩] m := by
  unfold memS
  rw [Bool.eq_iff_iff]
  simp only [anyS, List.any_cons, List.any_nil, Bool.or_false, inS, Bool.and_eq_true, Bool.or_eq_true, decide_eq_true_eq]
  omega
theorem ex_b (m : Int) : anyS [⟨0, 2⟩, ⟨6, 9⟩] m = (decide (max 0 0 ≤ m) && decide (m ≤ min 9 4294967296) && !memS 4294967296 [⟨3, 5⟩] m) := by
  unfold memS
  rw [Bool.eq_iff_iff]
  simp only [anyS, List.any_cons, List.any_nil, Bool.or_false, inS, Bool.and_eq_true, Bool.or_eq_true, decide_eq_true_eq, Bool.not_eq_true', Bool.and_eq_false_iff, decide_eq_false_iff_not]
  omega
theorem ex_c (m : Int) : anyS [⟨0, 2⟩, ⟨4, 9⟩] m = (memS 4294967296 [⟨0, 9⟩] m && !memS 4294967296 [⟨3, 3⟩] m) := by
  unfold memS
  rw [Bool.eq_iff_iff]
  simp only [anyS, List.any_cons, List.any_nil, Bool.or_false, inS, Bool.and_eq_true, Bool.or_eq_true, decide_eq_true_eq, Bool.not_eq_true', Bool.and_eq_false_iff, decide_eq_false_iff_not]
  omega
theorem ex_n (m : Int) : anyS [⟨0, 2⟩, ⟨4, 9⟩] m = memS 4294967296 [⟨0, 2⟩, ⟨4, 9⟩] m := (okL_mem (by simp [okL]) m).symm

set_option maxHeartbeats 1000000 in
set_option maxRecDepth 20000 in
theorem awake_any (w : World) :
    Calls Try.prog 10 #[] w fun e w' => e = .returned (.bool true) ∧ Below w.heap.size w w' := by
  have H1 := Lib.hid (fun (A : Option Addr) (W : World) (h : SpL W A [⟨5, 7⟩, ⟨1, 2⟩, ⟨3, 3⟩, ⟨9, 8⟩]) => show Calls Try.prog 14 #[.slice A 4 4] W fun e w' => ∃ A' c', e = .returned (.slice A' 2 c') ∧ SpL w' A' [⟨1, 3⟩, ⟨5, 7⟩] ∧ Below W.heap.size W w' from
    (pnormal_any A 4 _ W h (by simp)).mono fun e w' hs => hs.known (by simp [okL]) ex_a)
  have H2 := Lib.hid (fun (A : Option Addr) (W : World) (h : SpL W A [⟨3, 5⟩]) => show Calls Try.prog 28 #[.slice A 1 1, .int .i64 0, .int .i64 9] W fun e w' => ∃ A' c', e = .returned (.slice A' 2 c') ∧ SpL w' A' [⟨0, 2⟩, ⟨6, 9⟩] ∧ Below W.heap.size W w' from
    (pcomp_any A 1 _ 0 9 W h (by simp)).mono fun e w' hs => hs.known (by simp [okL]) ex_b)
  have H3 := Lib.hid (fun (A B : Option Addr) (W : World) (h : SpL W A [⟨0, 9⟩]) (h2 : SpL W B [⟨3, 3⟩]) => show Calls Try.prog 26 #[.slice A 1 1, .slice B 1 1] W fun e w' => ∃ A' c', e = .returned (.slice A' 2 c') ∧ SpL w' A' [⟨0, 2⟩, ⟨4, 9⟩] ∧ Below W.heap.size W w' from
    (pminus_any A B 1 1 _ _ W h h2 (by simp) (by simp)).mono fun e w' hs => hs.known (by simp [okL]) ex_c)
  have HS := Lib.hid (fun (A B : Option Addr) (c d : Nat) (a b : Spn) (W : World) (h : SpL W A [a, b]) (h2 : SpL W B [a, b]) => show Calls Try.prog 13 #[.slice A 2 c, .slice B 2 d] W fun e w' => e = .returned (.bool true) ∧ Below W.heap.size W w' from
    same_any A B c d [a, b] W h h2 (by simp))
  have H4 := Lib.hid (fun (A : Option Addr) (c : Nat) (W : World) (h : SpL W A [⟨0, 2⟩, ⟨4, 9⟩]) => show Calls Try.prog 16 #[.slice A 2 c] W fun e w' => e = .returned (.int .i64 9) ∧ Below W.heap.size W w' from
    (pcount_any A c _ W h (by simp)).mono fun e w' hs => hs.known (K := [⟨0, 2⟩, ⟨4, 9⟩]) (by simp [okL]) ex_n)
  have H5 := Lib.hid (fun (A : Option Addr) (c : Nat) (W : World) (h : SpL W A [⟨0, 2⟩, ⟨4, 9⟩]) => show Calls Try.prog 11 #[.slice A 2 c] W fun e w' => e = .returned (.bool true) ∧ Below W.heap.size W w' from
    pvalid_any A c _ W h (by simp))
  have H6 := Lib.hid (fun (A : Option Addr) (c : Nat) (W : World) (h : SpL W A [⟨0, 2⟩, ⟨4, 9⟩]) => show Calls Try.prog 18 #[.slice A 2 c, .int .i64 4] W fun e w' => e = .returned (.bool true) ∧ Below W.heap.size W w' from
    pcontains_any A c _ 4 W h (by simp))
  have H7 := Lib.hid (fun (A : Option Addr) (c : Nat) (W : World) (h : SpL W A [⟨0, 2⟩, ⟨4, 9⟩]) => show Calls Try.prog 18 #[.slice A 2 c, .int .i64 3] W fun e w' => e = .returned (.bool false) ∧ Below W.heap.size W w' from
    pcontains_any A c _ 3 W h (by simp))
  go_enter Try.func10, Try.ntmps10
  go_wp2_with fail
  refine (H1.out _ _ (spl_lit w _ _ rfl)).mono ?_
  rintro e w1 ⟨A1, c1, rfl, s1, b1⟩
  have S1 := Lib.hid s1
  have B1 := Lib.hid ((below_alloc5 w _).trans (b1.mono (by simp)))
  clear s1 b1
  go_wp2_with fail
  refine (H2.out _ _ (spl_lit w1 _ _ rfl)).mono ?_
  rintro e w2 ⟨A2, c2, rfl, s2, b2⟩
  have S2 := Lib.hid s2
  have hb := (below_alloc5 w1 _).trans (b2.mono (by simp))
  have S12 := Lib.hid (S1.out.kept hb)
  have B2 := Lib.hid (B1.out.trans (hb.mono B1.out.size))
  clear s2 b2 hb S1 B1
  go_wp2_with fail
  refine (H3.out _ _ _ ((spl_lit w2 _ _ rfl).kept (below_alloc5 _ _)) (spl_lit2 w2 _ _ _ rfl)).mono ?_
  rintro e w3 ⟨A3, c3, rfl, s3, b3⟩
  have S3 := Lib.hid s3
  have hb : Below w2.heap.size w2 w3 := ((below_alloc5 w2 _).trans ((below_alloc5 _ _).mono (by simp))).trans (b3.mono (by simp; omega))
  have S13 := Lib.hid (S12.out.kept hb)
  have S23 := Lib.hid (S2.out.kept hb)
  have B3 := Lib.hid (B2.out.trans (hb.mono B2.out.size))
  clear s3 b3 hb S12 S2 B2
  go_wp2_with fail
  refine (HS.out _ _ _ _ _ _ _ (S13.out.kept (below_alloc5 _ _)) (spl_lit w3 _ _ rfl)).mono ?_
  rintro e w4 ⟨rfl, b4⟩
  have hb := (below_alloc5 w3 _).trans (b4.mono (by simp))
  have S24 := Lib.hid (S23.out.kept hb)
  have S34 := Lib.hid (S3.out.kept hb)
  have B4 := Lib.hid (B3.out.trans (hb.mono B3.out.size))
  clear b4 hb S13 S23 S3 B3
  go_wp2_with fail
  refine (HS.out _ _ _ _ _ _ _ (S24.out.kept (below_alloc5 _ _)) (spl_lit w4 _ _ rfl)).mono ?_
  rintro e w5 ⟨rfl, b5⟩
  have hb := (below_alloc5 w4 _).trans (b5.mono (by simp))
  have S35 := Lib.hid (S34.out.kept hb)
  have B5 := Lib.hid (B4.out.trans (hb.mono B4.out.size))
  clear b5 hb S24 S34 B4
  go_wp2_with fail
  refine (H4.out _ _ _ S35.out).mono ?_
  rintro e w6 ⟨rfl, b6⟩
  have S36 := Lib.hid (S35.out.kept b6)
  have B6 := Lib.hid (B5.out.trans (b6.mono B5.out.size))
  clear b6 S35 B5
  go_wp2_with fail
  refine (H5.out _ _ _ S36.out).mono ?_
  rintro e w7 ⟨rfl, b7⟩
  have S37 := Lib.hid (S36.out.kept b7)
  have B7 := Lib.hid (B6.out.trans (b7.mono B6.out.size))
  clear b7 S36 B6
  go_wp2_with fail
  refine (H6.out _ _ _ S37.out).mono ?_
  rintro e w8 ⟨rfl, b8⟩
  have S38 := Lib.hid (S37.out.kept b8)
  have B8 := Lib.hid (B7.out.trans (b8.mono B7.out.size))
  clear b8 S37 B7
  go_wp2_with fail
  refine (H7.out _ _ _ S38.out).mono ?_
  rintro e w9 ⟨rfl, b9⟩
  have B9 := Lib.hid (B8.out.trans (b9.mono B8.out.size))
  clear b9 S38 B8
  go_wp2_with fail
  go_ret
  exact ⟨rfl, B9.out⟩
end Go.Proofs.Ytlmjfbgigfmdhaa
