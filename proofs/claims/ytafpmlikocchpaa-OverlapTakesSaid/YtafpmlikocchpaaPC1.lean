/- Contracts of the functions, further part 1: VTak. -/
import Derived.Deep.Cut
import Derived.Deep.WholeRow
import Derived.Test.YtafpmlikocchpaaPA21
import Derived.Test.YtafpmlikocchpaaPA22
import Derived.Test.YtafpmlikocchpaaPA6
/- OverlapTakes: the walk, over the bundle P15. -/
namespace Go.Proofs.Ytafpmlikocchpaa
open Go.ChangeShapes Go.WideShapes Go.ChangeAt Go.RowKit
set_option linter.unusedVariables false
set_option maxRecDepth 100000

set_option maxHeartbeats 8000000 in
set_option maxRecDepth 100000 in
theorem walkT15 {T : World → Prop} (H : P15 T) (l : List PcR) (A : Option Addr) (c : Nat) (a : Int) (w : World) (hT : T w) (hr : RowL EPc w A l) (hA : A = none → c = 0) (hm : l.length ≤ maxLen) (hf : ∀ y ∈ l, pcWf y) (ha : (Lit.int .i64 a).wf = true) :
    Calls Try.prog 5 #[.slice A l.length c, .int .i64 a] w fun e w' => e = .returned (.bool true) ∧ Below w.heap.size w w' := by
  obtain ⟨n, hn⟩ : ∃ n, n = l.length := ⟨_, rfl⟩
  rw [← hn]
  have HK := Lib.hid H.keep
  have HL := Lib.hid (fun (W : World) (hW : T W) => awk15 H W hW)
  have B0 := Lib.hid (Below.refl w.heap.size w)
  have K0 := Lib.hid hT
  have Rl0 := Lib.hid hr
  have hF := (fun (W : World) (h : RowL EPc W A l) => show Calls Try.prog 13 #[.slice A n c, .int .i64 70, .int .i64 400] W fun e w' => e = .returned (.bool (fewB l 70 400)) ∧ Below W.heap.size W w' from by
    rw [hn]
    exact (rfew15_any l A c 70 400 70 400 rfl rfl W h hm (by decide) (by decide)).mono fun e w' ⟨h1, h2⟩ => ⟨h1, h2 ▸ Below.refl _ _⟩)
  cases hfw : fewB l 70 400 with
  | false =>
    rw [hfw] at hF
    have HF := Lib.hid hF
    clear hF hfw hr hA hm hf hn hT ha
    go_enter Try.func5, Try.ntmps5
    go_wp2_with fail
    refine (HF.out _ Rl0.out).mono ?_
    rintro e w1 ⟨rfl, hb⟩
    clear HF
    have Rl1 := Lib.hid (Rl0.out.kept hb)
    have K1 := Lib.hid (HK.out _ _ K0.out hb)
    have B1 := Lib.hid (B0.out.trans (hb.mono B0.out.size))
    clear hb Rl0 K0 B0
    go_wp2_with fail
    refine (HL.out _ K1.out).mono ?_
    rintro e w99 ⟨rfl, hb⟩
    have BZ := Lib.hid (B1.out.trans (hb.mono B1.out.size))
    clear hb
    go_wp2_with fail
    go_ret
    exact ⟨rfl, BZ.out⟩
  | true =>
    rw [hfw] at hF
    have HF := Lib.hid hF
    obtain ⟨hl70, hz400⟩ := fewB_true hfw
    clear hF hfw
    have hV := fun (W : World) (hW : T W) (h : RowL EPc W A l) => show Calls Try.prog 18 #[.slice A n c] W fun e w' => e = .returned (.bool (decide (vldL l))) ∧ Below W.heap.size W w' from by rw [hn]; exact H.val l A c W hW h hA (by omega) (few_wf hf (by omega))
    have hW := fun (W : World) (h : RowL EPc W A l) => show Calls Try.prog 14 #[.slice A n c] W fun e w' => e = .returned (.bool (decide (vldL l))) ∧ Below W.heap.size W w' from by rw [hn]; exact rvalid15_any l A c W h (by omega)
    by_cases hv : ¬ vldL l
    · rw [decide_eq_false hv] at hV hW
      have HV := Lib.hid hV
      have HW := Lib.hid hW
      clear hV hW hv hl70 hz400 hr hA hm hf hn hT ha
      go_enter Try.func5, Try.ntmps5
      go_wp2_with fail
      refine (HF.out _ Rl0.out).mono ?_
      rintro e w1 ⟨rfl, hb⟩
      clear HF
      have Rl1 := Lib.hid (Rl0.out.kept hb)
      have K1 := Lib.hid (HK.out _ _ K0.out hb)
      have B1 := Lib.hid (B0.out.trans (hb.mono B0.out.size))
      clear hb Rl0 K0 B0
      go_wp2_with fail
      refine (HV.out _ K1.out Rl1.out).mono ?_
      rintro e w2 ⟨rfl, hb⟩
      clear HV
      have Rl2 := Lib.hid (Rl1.out.kept hb)
      have K2 := Lib.hid (HK.out _ _ K1.out hb)
      have B2 := Lib.hid (B1.out.trans (hb.mono B1.out.size))
      clear hb Rl1 K1 B1
      go_wp2_with fail
      refine (HW.out _ Rl2.out).mono ?_
      rintro e w3 ⟨rfl, hb⟩
      have Rl3 := Lib.hid (Rl2.out.kept hb)
      have K3 := Lib.hid (HK.out _ _ K2.out hb)
      have B3 := Lib.hid (B2.out.trans (hb.mono B2.out.size))
      clear hb Rl2 K2 B2
      go_wp2_with fail
      refine (HW.out _ Rl3.out).mono ?_
      rintro e w4 ⟨rfl, hb⟩
      clear HW
      have Rl4 := Lib.hid (Rl3.out.kept hb)
      have K4 := Lib.hid (HK.out _ _ K3.out hb)
      have B4 := Lib.hid (B3.out.trans (hb.mono B3.out.size))
      clear hb Rl3 K3 B3
      go_wp2_with fail
      refine (HL.out _ K4.out).mono ?_
      rintro e w99 ⟨rfl, hb⟩
      have BZ := Lib.hid (B4.out.trans (hb.mono B4.out.size))
      clear hb
      go_wp2_with fail
      go_ret
      exact ⟨rfl, BZ.out⟩
    have hv' := Classical.not_not.1 hv
    rw [decide_eq_true hv'] at hV hW
    have HV := Lib.hid hV
    have HW := Lib.hid hW
    obtain ⟨q, hq⟩ : ∃ q, q = str (takL l a) := ⟨_, rfl⟩
    obtain ⟨R, hR⟩ : ∃ R, R = cutL l (a + (takL l a).length) := ⟨_, rfl⟩
    obtain ⟨C, hC⟩ : ∃ R, R = cutL l a := ⟨_, rfl⟩
    obtain ⟨m, hmm⟩ : ∃ m, m = R.length := ⟨_, rfl⟩
    obtain ⟨k, hkk⟩ : ∃ m, m = C.length := ⟨_, rfl⟩
    have hRl : R.length ≤ 70 := by rw [hR]; exact Nat.le_trans (cutL_len ..) hl70
    have hCl : C.length ≤ 70 := by rw [hC]; exact Nat.le_trans (cutL_len ..) hl70
    obtain ⟨sz, hsz⟩ : ∃ s, s = sizeL l := ⟨_, rfl⟩
    have H1 := Lib.hid (fun (W : World) (hW : T W) (h : RowL EPc W A l) => show Calls Try.prog 19 #[.slice A n c, .int .i64 a] W fun e w' => ∃ A c, e = .returned (.tuple #[.string q, .slice A m c]) ∧ RowL EPc w' A R ∧ Below W.heap.size W w' from by
      rw [hn, hq, hmm, hR]
      exact (H.tak l A c a W hW h hA (by omega) hv' (by omega) ha).mono fun e w' ⟨A, c, h1, h2, _, h4⟩ => ⟨A, c, h1, h2, h4⟩)
    have H2 := Lib.hid (fun (W : World) (h : RowL EPc W A l) => show Calls Try.prog 20 #[.slice A n c, .int .i64 a] W fun e w' => ∃ A c, e = .returned (.tuple #[.string q, .slice A m c]) ∧ RowL EPc w' A R ∧ Below W.heap.size W w' from by
      rw [hn, hq, hmm, hR]
      exact (rtake15_any l A c a W h (by omega) hv' (by omega) ha).mono fun e w' ⟨A, c, h1, h2, _, _, h4⟩ => ⟨A, c, h1, h2, h4⟩)
    have H3 := Lib.hid (fun (W : World) (hW : T W) (h : RowL EPc W A l) => show Calls Try.prog 21 #[.slice A n c, .int .i64 a] W fun e w' => ∃ A c, e = .returned (.slice A k c) ∧ RowL EPc w' A C ∧ Below W.heap.size W w' from by
      rw [hn, hkk, hC]
      exact (H.cut l A c a W hW h hA (by omega) hv' (by omega) ha).mono fun e w' ⟨A, c, h1, h2, _, h4⟩ => ⟨A, c, h1, h2, h4⟩)
    have H4 := Lib.hid (fun (W : World) (h : RowL EPc W A l) => show Calls Try.prog 22 #[.slice A n c, .int .i64 a] W fun e w' => ∃ A c, e = .returned (.slice A k c) ∧ RowL EPc w' A C ∧ Below W.heap.size W w' from by
      rw [hn, hkk, hC]
      exact (rcut15_any l A c a W h (by omega) (fun x hx => okP_fit (vldF_mem hv' x hx))).mono fun e w' ⟨A, c, h1, h2, _, _, h4⟩ => ⟨A, c, h1, h2, h4⟩)
    have H5 := Lib.hid (fun (W : World) (hW : T W) (h : RowL EPc W A l) => show Calls Try.prog 23 #[.slice A n c] W fun e w' => e = .returned (.int .i64 (sz : Int)) ∧ Below W.heap.size W w' from by rw [hn, hsz]; exact H.siz l A c W hW h hA (by omega) hv' (by omega))
    have H6 := Lib.hid (fun (W : World) (h : RowL EPc W A l) => show Calls Try.prog 24 #[.slice A n c] W fun e w' => e = .returned (.int .i64 (sz : Int)) ∧ Below W.heap.size W w' from by rw [hn, hsz]; exact (rsize15_any l A c W h (by omega) (by omega)).mono fun e w' ⟨h1, h2⟩ => ⟨h1, h2 ▸ Below.refl _ _⟩)
    have HSM := Lib.hid (fun (A1 A2 : Option Addr) (c1 c2 : Nat) (W : World) (h1 : RowL EPc W A1 R) (h2 : RowL EPc W A2 R) => show Calls Try.prog 17 #[.slice A1 m c1, .slice A2 m c2] W fun e w' => e = .returned (.bool true) ∧ Below W.heap.size W w' from by rw [hmm]; exact rsame15_any R A1 A2 c1 c2 W h1 h2 (by omega))
    have HSC := Lib.hid (fun (A1 A2 : Option Addr) (c1 c2 : Nat) (W : World) (h1 : RowL EPc W A1 C) (h2 : RowL EPc W A2 C) => show Calls Try.prog 17 #[.slice A1 k c1, .slice A2 k c2] W fun e w' => e = .returned (.bool true) ∧ Below W.heap.size W w' from by rw [hkk]; exact rsame15_any C A1 A2 c1 c2 W h1 h2 (by omega))
    have hqq : (q.toList == q.toList) = true := beq_self_eq_true _
    have hss : ((sz : Int) == (sz : Int)) = true := beq_self_eq_true _
    clear hV hW hv hv' hl70 hz400 hq hR hC hmm hkk hRl hCl hsz hr hA hm hf hn hT ha
    go_enter Try.func5, Try.ntmps5
    go_wp2_with fail
    refine (HF.out _ Rl0.out).mono ?_
    rintro e w1 ⟨rfl, hb⟩
    clear HF
    have Rl1 := Lib.hid (Rl0.out.kept hb)
    have K1 := Lib.hid (HK.out _ _ K0.out hb)
    have B1 := Lib.hid (B0.out.trans (hb.mono B0.out.size))
    clear hb Rl0 K0 B0
    go_wp2_with fail
    refine (HV.out _ K1.out Rl1.out).mono ?_
    rintro e w2 ⟨rfl, hb⟩
    clear HV
    have Rl2 := Lib.hid (Rl1.out.kept hb)
    have K2 := Lib.hid (HK.out _ _ K1.out hb)
    have B2 := Lib.hid (B1.out.trans (hb.mono B1.out.size))
    clear hb Rl1 K1 B1
    go_wp2_with fail
    refine (HW.out _ Rl2.out).mono ?_
    rintro e w3 ⟨rfl, hb⟩
    have Rl3 := Lib.hid (Rl2.out.kept hb)
    have K3 := Lib.hid (HK.out _ _ K2.out hb)
    have B3 := Lib.hid (B2.out.trans (hb.mono B2.out.size))
    clear hb Rl2 K2 B2
    go_wp2_with fail
    refine (HW.out _ Rl3.out).mono ?_
    rintro e w4 ⟨rfl, hb⟩
    clear HW
    have Rl4 := Lib.hid (Rl3.out.kept hb)
    have K4 := Lib.hid (HK.out _ _ K3.out hb)
    have B4 := Lib.hid (B3.out.trans (hb.mono B3.out.size))
    clear hb Rl3 K3 B3
    go_wp2_with fail
    refine (H1.out _ K4.out Rl4.out).mono ?_
    rintro e w5 ⟨A1, c1, rfl, hr1, hb⟩
    have Ra5n := Lib.hid hr1
    clear H1
    have Rl5 := Lib.hid (Rl4.out.kept hb)
    have K5 := Lib.hid (HK.out _ _ K4.out hb)
    have B5 := Lib.hid (B4.out.trans (hb.mono B4.out.size))
    clear hb Rl4 K4 B4
    have Ra5 := Ra5n
    clear Ra5n hr1
    go_wp2_with fail
    refine (H2.out _ Rl5.out).mono ?_
    rintro e w6 ⟨A2, c2, rfl, hr2, hb⟩
    have Rb6n := Lib.hid hr2
    clear H2
    have Rl6 := Lib.hid (Rl5.out.kept hb)
    have Ra6 := Lib.hid (Ra5.out.kept hb)
    have K6 := Lib.hid (HK.out _ _ K5.out hb)
    have B6 := Lib.hid (B5.out.trans (hb.mono B5.out.size))
    clear hb Rl5 Ra5 K5 B5
    have Rb6 := Rb6n
    clear Rb6n hr2
    go_wp2_with fail
    refine (HSM.out _ _ _ _ _ Ra6.out Rb6.out).mono ?_
    rintro e w7 ⟨rfl, hb⟩
    clear HSM
    have Rl7 := Lib.hid (Rl6.out.kept hb)
    have Ra7 := Lib.hid (Ra6.out.kept hb)
    have Rb7 := Lib.hid (Rb6.out.kept hb)
    have K7 := Lib.hid (HK.out _ _ K6.out hb)
    have B7 := Lib.hid (B6.out.trans (hb.mono B6.out.size))
    clear hb Rl6 Ra6 Rb6 K6 B6
    go_wp2_with fail
    refine (H3.out _ K7.out Rl7.out).mono ?_
    rintro e w8 ⟨A3, c3, rfl, hr3, hb⟩
    have Rc8n := Lib.hid hr3
    clear H3
    have Rl8 := Lib.hid (Rl7.out.kept hb)
    have Ra8 := Lib.hid (Ra7.out.kept hb)
    have Rb8 := Lib.hid (Rb7.out.kept hb)
    have K8 := Lib.hid (HK.out _ _ K7.out hb)
    have B8 := Lib.hid (B7.out.trans (hb.mono B7.out.size))
    clear hb Rl7 Ra7 Rb7 K7 B7
    have Rc8 := Rc8n
    clear Rc8n hr3
    go_wp2_with fail
    refine (H4.out _ Rl8.out).mono ?_
    rintro e w9 ⟨A4, c4, rfl, hr4, hb⟩
    have Rd9n := Lib.hid hr4
    clear H4
    have Rl9 := Lib.hid (Rl8.out.kept hb)
    have Ra9 := Lib.hid (Ra8.out.kept hb)
    have Rb9 := Lib.hid (Rb8.out.kept hb)
    have Rc9 := Lib.hid (Rc8.out.kept hb)
    have K9 := Lib.hid (HK.out _ _ K8.out hb)
    have B9 := Lib.hid (B8.out.trans (hb.mono B8.out.size))
    clear hb Rl8 Ra8 Rb8 Rc8 K8 B8
    have Rd9 := Rd9n
    clear Rd9n hr4
    go_wp2_with fail
    refine (HSC.out _ _ _ _ _ Rc9.out Rd9.out).mono ?_
    rintro e w10 ⟨rfl, hb⟩
    clear HSC
    have Rl10 := Lib.hid (Rl9.out.kept hb)
    have Ra10 := Lib.hid (Ra9.out.kept hb)
    have Rb10 := Lib.hid (Rb9.out.kept hb)
    have Rc10 := Lib.hid (Rc9.out.kept hb)
    have Rd10 := Lib.hid (Rd9.out.kept hb)
    have K10 := Lib.hid (HK.out _ _ K9.out hb)
    have B10 := Lib.hid (B9.out.trans (hb.mono B9.out.size))
    clear hb Rl9 Ra9 Rb9 Rc9 Rd9 K9 B9
    go_wp2_with fail
    refine (H5.out _ K10.out Rl10.out).mono ?_
    rintro e w11 ⟨rfl, hb⟩
    clear H5
    have Rl11 := Lib.hid (Rl10.out.kept hb)
    have Ra11 := Lib.hid (Ra10.out.kept hb)
    have Rb11 := Lib.hid (Rb10.out.kept hb)
    have Rc11 := Lib.hid (Rc10.out.kept hb)
    have Rd11 := Lib.hid (Rd10.out.kept hb)
    have K11 := Lib.hid (HK.out _ _ K10.out hb)
    have B11 := Lib.hid (B10.out.trans (hb.mono B10.out.size))
    clear hb Rl10 Ra10 Rb10 Rc10 Rd10 K10 B10
    go_wp2_with fail
    refine (H6.out _ Rl11.out).mono ?_
    rintro e w12 ⟨rfl, hb⟩
    clear H6
    have Rl12 := Lib.hid (Rl11.out.kept hb)
    have Ra12 := Lib.hid (Ra11.out.kept hb)
    have Rb12 := Lib.hid (Rb11.out.kept hb)
    have Rc12 := Lib.hid (Rc11.out.kept hb)
    have Rd12 := Lib.hid (Rd11.out.kept hb)
    have K12 := Lib.hid (HK.out _ _ K11.out hb)
    have B12 := Lib.hid (B11.out.trans (hb.mono B11.out.size))
    clear hb Rl11 Ra11 Rb11 Rc11 Rd11 K11 B11
    go_wp2_with fail
    refine (HL.out _ K12.out).mono ?_
    rintro e w99 ⟨rfl, hb⟩
    have BZ := Lib.hid (B12.out.trans (hb.mono B12.out.size))
    clear hb
    go_wp2_with fail
    go_ret
    exact ⟨rfl, BZ.out⟩
end Go.Proofs.Ytafpmlikocchpaa
