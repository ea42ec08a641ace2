/- Contracts of the functions, further part 1: VCut. -/
import Derived.Deep.Cut
import Derived.Deep.WholeRow
import Derived.Test.YtafpmlikocchpaaPA21
import Derived.Test.YtafpmlikocchpaaPA22
import Derived.Test.YtafpmlikocchpaaPA6
/- OverlapCuts: the walk, over the bundle P15. -/
namespace Go.Proofs.Ytafpmlikocchpaa
open Go.ChangeShapes Go.WideShapes Go.ChangeAt Go.RowKit
set_option linter.unusedVariables false
set_option maxRecDepth 100000

set_option maxHeartbeats 8000000 in
set_option maxRecDepth 100000 in
theorem walkC15 {T : World → Prop} (H : P15 T) (l : List PcR) (A : Option Addr) (c : Nat) (a : Int) (w : World) (hT : T w) (hr : RowL EPc w A l) (hA : A = none → c = 0) (hm : l.length ≤ maxLen) (hf : ∀ y ∈ l, pcWf y) (ha : (Lit.int .i64 a).wf = true) :
    Calls Try.prog 8 #[.slice A l.length c, .int .i64 a] w fun e w' => e = .returned (.bool true) ∧ Below w.heap.size w w' := by
  obtain ⟨n, hn⟩ : ∃ n, n = l.length := ⟨_, rfl⟩
  rw [← hn]
  have HK := Lib.hid H.keep
  have HL := Lib.hid (fun (W : World) (hW : T W) => awk15 H W hW)
  have B0 := Lib.hid (Below.refl w.heap.size w)
  have K0 := Lib.hid hT
  have Rl0 := Lib.hid hr
  have hF := (fun (W : World) (h : RowL EPc W A l) => show Calls Try.prog 13 #[.slice A n c, .int .i64 40, .int .i64 300] W fun e w' => e = .returned (.bool (fewB l 40 300)) ∧ Below W.heap.size W w' from by
    rw [hn]
    exact (rfew15_any l A c 40 300 40 300 rfl rfl W h hm (by decide) (by decide)).mono fun e w' ⟨h1, h2⟩ => ⟨h1, h2 ▸ Below.refl _ _⟩)
  cases hfw : fewB l 40 300 with
  | false =>
    rw [hfw] at hF
    have HF := Lib.hid hF
    clear hF hfw hr hA hm hf hn hT ha
    go_enter Try.func8, Try.ntmps8
    go_wp2_with fail
    refine (HL.out _ K0.out).mono ?_
    rintro e w1 ⟨rfl, hb⟩
    clear HL
    have Rl1 := Lib.hid (Rl0.out.kept hb)
    have K1 := Lib.hid (HK.out _ _ K0.out hb)
    have B1 := Lib.hid (B0.out.trans (hb.mono B0.out.size))
    clear hb Rl0 K0 B0
    go_wp2_with fail
    refine (HF.out _ Rl1.out).mono ?_
    rintro e w2 ⟨rfl, hb⟩
    clear HF
    have Rl2 := Lib.hid (Rl1.out.kept hb)
    have K2 := Lib.hid (HK.out _ _ K1.out hb)
    have B2 := Lib.hid (B1.out.trans (hb.mono B1.out.size))
    clear hb Rl1 K1 B1
    go_wp2_with fail
    go_ret
    exact ⟨rfl, B2.out⟩
  | true =>
    rw [hfw] at hF
    have HF := Lib.hid hF
    obtain ⟨hl40, hz300⟩ := fewB_true hfw
    clear hF hfw
    have hV := fun (W : World) (hW : T W) (h : RowL EPc W A l) => show Calls Try.prog 18 #[.slice A n c] W fun e w' => e = .returned (.bool (decide (vldL l))) ∧ Below W.heap.size W w' from by rw [hn]; exact H.val l A c W hW h hA (by omega) (few_wf hf (by omega))
    by_cases hv : ¬ vldL l
    · rw [decide_eq_false hv] at hV
      have HV := Lib.hid hV
      clear hV hv hl40 hz300 hr hA hm hf hn hT ha
      go_enter Try.func8, Try.ntmps8
      go_wp2_with fail
      refine (HL.out _ K0.out).mono ?_
      rintro e w1 ⟨rfl, hb⟩
      clear HL
      have Rl1 := Lib.hid (Rl0.out.kept hb)
      have K1 := Lib.hid (HK.out _ _ K0.out hb)
      have B1 := Lib.hid (B0.out.trans (hb.mono B0.out.size))
      clear hb Rl0 K0 B0
      go_wp2_with fail
      refine (HF.out _ Rl1.out).mono ?_
      rintro e w2 ⟨rfl, hb⟩
      clear HF
      have Rl2 := Lib.hid (Rl1.out.kept hb)
      have K2 := Lib.hid (HK.out _ _ K1.out hb)
      have B2 := Lib.hid (B1.out.trans (hb.mono B1.out.size))
      clear hb Rl1 K1 B1
      go_wp2_with fail
      refine (HV.out _ K2.out Rl2.out).mono ?_
      rintro e w3 ⟨rfl, hb⟩
      clear HV
      have Rl3 := Lib.hid (Rl2.out.kept hb)
      have K3 := Lib.hid (HK.out _ _ K2.out hb)
      have B3 := Lib.hid (B2.out.trans (hb.mono B2.out.size))
      clear hb Rl2 K2 B2
      go_wp2_with fail
      go_ret
      exact ⟨rfl, B3.out⟩
    have hv' := Classical.not_not.1 hv
    rw [decide_eq_true hv'] at hV
    have HV := Lib.hid hV
    obtain ⟨S, hS⟩ : ∃ q, q = takL l a := ⟨_, rfl⟩
    obtain ⟨q, hq⟩ : ∃ q, q = str S := ⟨_, rfl⟩
    have hqs : q.size = S.length := by rw [hq, str_size]
    obtain ⟨R, hR⟩ : ∃ R, R = cutL l (a + S.length) := ⟨_, rfl⟩
    obtain ⟨C, hC⟩ : ∃ R, R = cutL l a := ⟨_, rfl⟩
    obtain ⟨m, hmm⟩ : ∃ m, m = R.length := ⟨_, rfl⟩
    obtain ⟨k, hkk⟩ : ∃ m, m = C.length := ⟨_, rfl⟩
    have hRl : R.length ≤ 40 := by rw [hR]; exact Nat.le_trans (cutL_len ..) hl40
    have hCl : C.length ≤ 40 := by rw [hC]; exact Nat.le_trans (cutL_len ..) hl40
    have hRv : vldL R := by rw [hR]; exact cutL_buf hv' _
    have hCv : vldL C := by rw [hC]; exact cutL_buf hv' _
    have hRz : sizeL R ≤ 300 := by rw [hR]; exact Nat.le_trans (cutL_size hv' _) hz300
    have hCz : sizeL C ≤ 300 := by rw [hC]; exact Nat.le_trans (cutL_size hv' _) hz300
    have hSl : S.length ≤ 300 := by rw [hS]; exact Nat.le_trans (takL_size hv' _) hz300
    have hCt : takL C a = S := by rw [hC, hS]; exact tak_cut hv' a
    have hCR : cutL C (a + S.length) = R := by rw [hC, hR]; exact cut_cut l hv' (by omega)
    have hCC : cutL C a = C := by rw [hC]; exact cut_cut l hv' (Int.le_refl _)
    have hCS : sizeL C = S.length + sizeL R := by rw [hC, hR, hS]; exact take_size hv' a
    have hgap : ∀ x r, R = x :: r → a + S.length < x.at_ := fun x r h => by rw [hS]; exact rest_gap hv' a (by rw [← hS, ← hR]; exact h)
    have hpos : S ≠ [] → 0 ≤ a ∧ a < 4294967296 := fun h => takL_at hv' (by rw [← hS]; exact h)
    obtain ⟨sc, hsc⟩ : ∃ s, s = sizeL C := ⟨_, rfl⟩
    obtain ⟨sr, hsr⟩ : ∃ s, s = sizeL R := ⟨_, rfl⟩
    have H1 := Lib.hid (fun (W : World) (hW : T W) (h : RowL EPc W A l) => show Calls Try.prog 21 #[.slice A n c, .int .i64 a] W fun e w' => ∃ A c, e = .returned (.slice A k c) ∧ RowL EPc w' A C ∧ Hid (A = none → c = 0) ∧ Below W.heap.size W w' from by
      rw [hn, hkk, hC]
      exact (H.cut l A c a W hW h hA (by omega) hv' (by omega) ha).mono fun e w' ⟨A, c, h1, h2, h3, h4⟩ => ⟨A, c, h1, h2, Lib.hid h3, h4⟩)
    have H2 := Lib.hid (fun (W : World) (hW : T W) (h : RowL EPc W A l) => show Calls Try.prog 19 #[.slice A n c, .int .i64 a] W fun e w' => ∃ A c, e = .returned (.tuple #[.string q, .slice A m c]) ∧ RowL EPc w' A R ∧ Hid (A = none → c = 0) ∧ Below W.heap.size W w' from by
      rw [hn, hq, hmm, hR, hS]
      exact (H.tak l A c a W hW h hA (by omega) hv' (by omega) ha).mono fun e w' ⟨A, c, h1, h2, h3, h4⟩ => ⟨A, c, h1, h2, Lib.hid h3, h4⟩)
    have H3 := Lib.hid (fun (A1 : Option Addr) (c1 : Nat) (h0 : A1 = none → c1 = 0) (W : World) (hW : T W) (h : RowL EPc W A1 C) => show Calls Try.prog 19 #[.slice A1 k c1, .int .i64 a] W fun e w' => ∃ A c, e = .returned (.tuple #[.string q, .slice A m c]) ∧ RowL EPc w' A R ∧ Below W.heap.size W w' from by
      have := H.tak C A1 c1 a W hW h h0 (by omega) hCv (by omega) ha
      rw [hCt, hCR] at this
      rw [hkk, hq, hmm]
      exact this.mono fun e w' ⟨A, c, h1, h2, _, h4⟩ => ⟨A, c, h1, h2, h4⟩)
    have H4 := Lib.hid (fun (A1 : Option Addr) (c1 : Nat) (h0 : A1 = none → c1 = 0) (W : World) (hW : T W) (h : RowL EPc W A1 C) => show Calls Try.prog 18 #[.slice A1 k c1] W fun e w' => e = .returned (.bool true) ∧ Below W.heap.size W w' from by
      have := H.val C A1 c1 W hW h h0 (by omega) (vld_wf hCv (by omega))
      rw [decide_eq_true hCv] at this
      rw [hkk]
      exact this)
    have H5 := Lib.hid (fun (A1 : Option Addr) (c1 : Nat) (h0 : A1 = none → c1 = 0) (W : World) (hW : T W) (h : RowL EPc W A1 R) => show Calls Try.prog 18 #[.slice A1 m c1] W fun e w' => e = .returned (.bool true) ∧ Below W.heap.size W w' from by
      have := H.val R A1 c1 W hW h h0 (by omega) (vld_wf hRv (by omega))
      rw [decide_eq_true hRv] at this
      rw [hmm]
      exact this)
    have H6 := Lib.hid (fun (A1 : Option Addr) (c1 : Nat) (h0 : A1 = none → c1 = 0) (W : World) (hW : T W) (h : RowL EPc W A1 C) => show Calls Try.prog 23 #[.slice A1 k c1] W fun e w' => e = .returned (.int .i64 (sc : Int)) ∧ Below W.heap.size W w' from by rw [hkk, hsc]; exact H.siz C A1 c1 W hW h h0 (by omega) hCv (by omega))
    have H7 := Lib.hid (fun (A1 : Option Addr) (c1 : Nat) (h0 : A1 = none → c1 = 0) (W : World) (hW : T W) (h : RowL EPc W A1 R) => show Calls Try.prog 23 #[.slice A1 m c1] W fun e w' => e = .returned (.int .i64 (sr : Int)) ∧ Below W.heap.size W w' from by rw [hmm, hsr]; exact H.siz R A1 c1 W hW h h0 (by omega) hRv (by omega))
    have H8 := Lib.hid (fun (A1 : Option Addr) (c1 : Nat) (h0 : A1 = none → c1 = 0) (W : World) (hW : T W) (h : RowL EPc W A1 C) => show Calls Try.prog 21 #[.slice A1 k c1, .int .i64 a] W fun e w' => ∃ A c, e = .returned (.slice A k c) ∧ RowL EPc w' A C ∧ Below W.heap.size W w' from by
      have := H.cut C A1 c1 a W hW h h0 (by omega) hCv (by omega) ha
      rw [hCC] at this
      rw [hkk]
      exact this.mono fun e w' ⟨A, c, h1, h2, _, h4⟩ => ⟨A, c, h1, h2, h4⟩)
    have HSM := Lib.hid (fun (A1 A2 : Option Addr) (c1 c2 : Nat) (W : World) (h1 : RowL EPc W A1 R) (h2 : RowL EPc W A2 R) => show Calls Try.prog 17 #[.slice A1 m c1, .slice A2 m c2] W fun e w' => e = .returned (.bool true) ∧ Below W.heap.size W w' from by rw [hmm]; exact rsame15_any R A1 A2 c1 c2 W h1 h2 (by omega))
    have HSC := Lib.hid (fun (A1 A2 : Option Addr) (c1 c2 : Nat) (W : World) (h1 : RowL EPc W A1 C) (h2 : RowL EPc W A2 C) => show Calls Try.prog 17 #[.slice A1 k c1, .slice A2 k c2] W fun e w' => e = .returned (.bool true) ∧ Below W.heap.size W w' from by rw [hkk]; exact rsame15_any C A1 A2 c1 c2 W h1 h2 (by omega))
    have hqq : (q.toList != q.toList) = false := by simp
    have hsum : (q.size : Int) + (sr : Int) = (sc : Int) := by omega
    have hss : ((sc : Int) != (sc : Int)) = false := by simp
    have HGAP := Lib.hid hgap
    have HPOS := Lib.hid hpos
    have HQS := Lib.hid (And.intro hq hqs)
    have HMM := Lib.hid hmm
    have HRV := Lib.hid hRv
    have hsc3 : sc ≤ 300 := by omega
    have hsr3 : sr ≤ 300 := by omega
    have hq3 : q.size ≤ 300 := by omega
    clear hV hv hv' hl40 hz300 hS hq hqs hR hC hmm hkk hRl hCl hRv hCv hRz hCz hSl hCt hCR hCC hCS hgap hpos hsc hsr hr hA hm hf hn hT
    have WFA := Lib.hid ha
    clear ha
    go_enter Try.func8, Try.ntmps8
    go_wp2_with fail
    refine (HL.out _ K0.out).mono ?_
    rintro e w1 ⟨rfl, hb⟩
    clear HL
    have Rl1 := Lib.hid (Rl0.out.kept hb)
    have K1 := Lib.hid (HK.out _ _ K0.out hb)
    have B1 := Lib.hid (B0.out.trans (hb.mono B0.out.size))
    clear hb Rl0 K0 B0
    go_wp2_with fail
    refine (HF.out _ Rl1.out).mono ?_
    rintro e w2 ⟨rfl, hb⟩
    clear HF
    have Rl2 := Lib.hid (Rl1.out.kept hb)
    have K2 := Lib.hid (HK.out _ _ K1.out hb)
    have B2 := Lib.hid (B1.out.trans (hb.mono B1.out.size))
    clear hb Rl1 K1 B1
    go_wp2_with fail
    refine (HV.out _ K2.out Rl2.out).mono ?_
    rintro e w3 ⟨rfl, hb⟩
    clear HV
    have Rl3 := Lib.hid (Rl2.out.kept hb)
    have K3 := Lib.hid (HK.out _ _ K2.out hb)
    have B3 := Lib.hid (B2.out.trans (hb.mono B2.out.size))
    clear hb Rl2 K2 B2
    go_wp2_with fail
    refine (H1.out _ K3.out Rl3.out).mono ?_
    rintro e w4 ⟨A1, c1, rfl, hr1, N1, hb⟩
    have Ra4n := Lib.hid hr1
    clear H1
    have Rl4 := Lib.hid (Rl3.out.kept hb)
    have K4 := Lib.hid (HK.out _ _ K3.out hb)
    have B4 := Lib.hid (B3.out.trans (hb.mono B3.out.size))
    clear hb Rl3 K3 B3
    have Ra4 := Ra4n
    clear Ra4n hr1
    go_wp2_with fail
    refine (H2.out _ K4.out Rl4.out).mono ?_
    rintro e w5 ⟨A2, c2, rfl, hr2, N2, hb⟩
    have Rb5n := Lib.hid hr2
    clear H2
    have Rl5 := Lib.hid (Rl4.out.kept hb)
    have Ra5 := Lib.hid (Ra4.out.kept hb)
    have K5 := Lib.hid (HK.out _ _ K4.out hb)
    have B5 := Lib.hid (B4.out.trans (hb.mono B4.out.size))
    clear hb Rl4 Ra4 K4 B4
    have Rb5 := Rb5n
    clear Rb5n hr2
    go_wp2_with fail
    refine (H3.out _ _ N1.out _ K5.out Ra5.out).mono ?_
    rintro e w6 ⟨A3, c3, rfl, hr3, hb⟩
    have Rc6n := Lib.hid hr3
    clear H3
    have Rl6 := Lib.hid (Rl5.out.kept hb)
    have Ra6 := Lib.hid (Ra5.out.kept hb)
    have Rb6 := Lib.hid (Rb5.out.kept hb)
    have K6 := Lib.hid (HK.out _ _ K5.out hb)
    have B6 := Lib.hid (B5.out.trans (hb.mono B5.out.size))
    clear hb Rl5 Ra5 Rb5 K5 B5
    have Rc6 := Rc6n
    clear Rc6n hr3
    go_wp2_with fail
    refine (H4.out _ _ N1.out _ K6.out Ra6.out).mono ?_
    rintro e w7 ⟨rfl, hb⟩
    clear H4
    have Rl7 := Lib.hid (Rl6.out.kept hb)
    have Ra7 := Lib.hid (Ra6.out.kept hb)
    have Rb7 := Lib.hid (Rb6.out.kept hb)
    have Rc7 := Lib.hid (Rc6.out.kept hb)
    have K7 := Lib.hid (HK.out _ _ K6.out hb)
    have B7 := Lib.hid (B6.out.trans (hb.mono B6.out.size))
    clear hb Rl6 Ra6 Rb6 Rc6 K6 B6
    go_wp2_with fail
    refine (H5.out _ _ N2.out _ K7.out Rb7.out).mono ?_
    rintro e w8 ⟨rfl, hb⟩
    clear H5
    have Rl8 := Lib.hid (Rl7.out.kept hb)
    have Ra8 := Lib.hid (Ra7.out.kept hb)
    have Rb8 := Lib.hid (Rb7.out.kept hb)
    have Rc8 := Lib.hid (Rc7.out.kept hb)
    have K8 := Lib.hid (HK.out _ _ K7.out hb)
    have B8 := Lib.hid (B7.out.trans (hb.mono B7.out.size))
    clear hb Rl7 Ra7 Rb7 Rc7 K7 B7
    go_wp2_with fail
    refine (HSM.out _ _ _ _ _ Rb8.out Rc8.out).mono ?_
    rintro e w9 ⟨rfl, hb⟩
    clear HSM
    have Rl9 := Lib.hid (Rl8.out.kept hb)
    have Ra9 := Lib.hid (Ra8.out.kept hb)
    have Rb9 := Lib.hid (Rb8.out.kept hb)
    have Rc9 := Lib.hid (Rc8.out.kept hb)
    have K9 := Lib.hid (HK.out _ _ K8.out hb)
    have B9 := Lib.hid (B8.out.trans (hb.mono B8.out.size))
    clear hb Rl8 Ra8 Rb8 Rc8 K8 B8
    go_wp2_with fail
    refine (H6.out _ _ N1.out _ K9.out Ra9.out).mono ?_
    rintro e w10 ⟨rfl, hb⟩
    clear H6
    have Rl10 := Lib.hid (Rl9.out.kept hb)
    have Ra10 := Lib.hid (Ra9.out.kept hb)
    have Rb10 := Lib.hid (Rb9.out.kept hb)
    have Rc10 := Lib.hid (Rc9.out.kept hb)
    have K10 := Lib.hid (HK.out _ _ K9.out hb)
    have B10 := Lib.hid (B9.out.trans (hb.mono B9.out.size))
    clear hb Rl9 Ra9 Rb9 Rc9 K9 B9
    go_wp2_with fail
    refine (H7.out _ _ N2.out _ K10.out Rb10.out).mono ?_
    rintro e w11 ⟨rfl, hb⟩
    clear H7
    have Rl11 := Lib.hid (Rl10.out.kept hb)
    have Ra11 := Lib.hid (Ra10.out.kept hb)
    have Rb11 := Lib.hid (Rb10.out.kept hb)
    have Rc11 := Lib.hid (Rc10.out.kept hb)
    have K11 := Lib.hid (HK.out _ _ K10.out hb)
    have B11 := Lib.hid (B10.out.trans (hb.mono B10.out.size))
    clear hb Rl10 Ra10 Rb10 Rc10 K10 B10
    go_wp2_with fail
    refine (H8.out _ _ N1.out _ K11.out Ra11.out).mono ?_
    rintro e w12 ⟨A4, c4, rfl, hr4, hb⟩
    have Rd12n := Lib.hid hr4
    clear H8
    have Rl12 := Lib.hid (Rl11.out.kept hb)
    have Ra12 := Lib.hid (Ra11.out.kept hb)
    have Rb12 := Lib.hid (Rb11.out.kept hb)
    have Rc12 := Lib.hid (Rc11.out.kept hb)
    have K12 := Lib.hid (HK.out _ _ K11.out hb)
    have B12 := Lib.hid (B11.out.trans (hb.mono B11.out.size))
    clear hb Rl11 Ra11 Rb11 Rc11 K11 B11
    have Rd12 := Rd12n
    clear Rd12n hr4
    go_wp2_with fail
    refine (HSC.out _ _ _ _ _ Rd12.out Ra12.out).mono ?_
    rintro e w13 ⟨rfl, hb⟩
    clear HSC
    have Rl13 := Lib.hid (Rl12.out.kept hb)
    have Ra13 := Lib.hid (Ra12.out.kept hb)
    have Rb13 := Lib.hid (Rb12.out.kept hb)
    have Rc13 := Lib.hid (Rc12.out.kept hb)
    have Rd13 := Lib.hid (Rd12.out.kept hb)
    have K13 := Lib.hid (HK.out _ _ K12.out hb)
    have B13 := Lib.hid (B12.out.trans (hb.mono B12.out.size))
    clear hb Rl12 Ra12 Rb12 Rc12 Rd12 K12 B12
    cases R with
    | nil =>
      obtain rfl : m = 0 := HMM.out
      go_wp2_with fail
      go_ret
      exact ⟨rfl, B13.out⟩
    | cons x r =>
      have hm1 : 0 < m := by rw [HMM.out]; simp
      have hx1 : a + S.length < x.at_ := HGAP.out x r rfl
      obtain ⟨g, ob, rfl, hg⟩ := Rb13.out.shapeA (by simp)
      have c0 := (pc_at Rb13.out (k := 0) (x := x) rfl (Below.refl _ _)).1
      rw [Nat.zero_mul, Nat.add_zero] at c0
      have hmi : (0 : Int) < (m : Int) := by omega
      have dm : ((m : Int) == 0) = false := by rw [beq_eq_false_iff_ne]; omega
      have nm : ¬ (m : Int) = 0 := by omega
      have nm' : ¬ m = 0 := by omega
      have hge : decide (a ≤ x.at_) = true := decide_eq_true (by omega)
      have hgen : a ≤ x.at_ := by omega
      have hxok := vldF_mem HRV.out x (List.mem_cons_self ..)
      have hxl : 0 ≤ x.at_ ∧ x.at_ ≤ 4294967296 := by obtain ⟨-, q1, q2, q3, q4⟩ := hxok; omega
      obtain ⟨xa, hxa⟩ : ∃ z, z = x.at_ := ⟨_, rfl⟩
      rw [← hxa] at c0 hge hgen hxl hx1
      by_cases he : S = []
      · have hem : q.toList.isEmpty = true := by rw [HQS.out.1, he, str_isEmpty15]; rfl
        clear he hx1 hxok hxa hm1
        go_wp2_with fail
        go_ret
        exact ⟨rfl, B13.out⟩
      · have hem : q.toList.isEmpty = false := by rw [HQS.out.1, str_isEmpty15]; cases S with | nil => exact absurd rfl he | cons _ _ => rfl
        have hap := HPOS.out he
        have hqS := HQS.out.2
        obtain ⟨dd, hdd⟩ : ∃ z, z = xa - a := ⟨_, rfl⟩
        have hd1 : xa - a = dd := hdd.symm
        have wdd : IntKind.i64.wrap dd = dd := by rw [IntKind.wrap_i64]; omega
        have hgt : decide ((q.size : Int) < dd) = true := decide_eq_true (by omega)
        have hgtn : (q.size : Int) < dd := by omega
        have hdr : -9223372036854775808 ≤ dd ∧ dd ≤ 9223372036854775807 := by omega
        clear he hx1 hxok hxa hm1 hap hqS hdd
        go_wp2_with fail
        go_ret
        exact ⟨rfl, B13.out⟩
end Go.Proofs.Ytafpmlikocchpaa
