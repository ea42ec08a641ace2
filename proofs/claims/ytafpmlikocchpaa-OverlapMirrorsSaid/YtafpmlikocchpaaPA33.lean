/- Contracts of the functions, part 33: OvPIns, Prog15. -/
import Derived.Test.YtafpmlikocchpaaPA17
import Derived.Test.YtafpmlikocchpaaPA19
import Derived.Test.YtafpmlikocchpaaPA27
import Derived.Test.YtafpmlikocchpaaPA29
import Derived.Test.YtafpmlikocchpaaPA30
import Derived.Test.YtafpmlikocchpaaPA31
import Derived.Test.YtafpmlikocchpaaPA32
/- Contract of the program of layer 15: Insert. -/
namespace Go.Proofs.Ytafpmlikocchpaa
open Go.ChangeShapes Go.WideShapes Go.ChangeAt Go.RowKit
set_option linter.unusedVariables false
set_option maxRecDepth 100000

theorem comb_size (pol : Int) {l : List PcR} (hv : vldL l) {a : Int} (h0 : 0 ≤ a) (b : List UInt8) : sizeL (combL pol ⟨a, b, a, a + b.length⟩ a l) ≤ sizeL l + b.length := by
  rw [← cels_len, comb_cels pol hv h0 b]
  have h1 := insC_len pol (cels l) (segC a b) (cels l)
  rw [segC_len3, cels_len] at h1
  show (List.foldl _ (cels l) (segC a b)).length ≤ _
  omega
set_option maxHeartbeats 32000000 in
theorem pins15_any (l : List PcR) (A : Option Addr) (c : Nat) (a pf pt pol : Int) (b : List UInt8) (w : World) (h : RowL EPc w A l) (hl : l.length ≤ 10000) (hv : vldL l) (hz : sizeL l ≤ 100000000) (hb : b.length ≤ 100000000) :
    Calls Try.prog 15 #[.slice A l.length c, .agg #[.int .i64 a, .string (str b), .int .i64 pf, .int .i64 pt], .int .i64 pol] w (InP w (insL l a b pol)) := by
  obtain ⟨R, hR⟩ : ∃ R, R = insL l a b pol := ⟨_, rfl⟩
  rw [← hR]
  unfold insL at hR
  obtain ⟨B, hB⟩ : ∃ B, B = str b := ⟨_, rfl⟩
  have hBs : B.size = b.length := by rw [hB, str_size]
  rw [← hB]
  obtain ⟨W0, hW0⟩ : ∃ W, W = w.alloc (.cells #[.int .i64 a, .string B, .int .i64 pf, .int .i64 pt] 23) := ⟨_, rfl⟩
  obtain ⟨gp, hgp⟩ : ∃ g, g = w.heap.size := ⟨_, rfl⟩
  have HP0 := Lib.hid (show Cells W0 gp 23 #[.int .i64 a, .string B, .int .i64 pf, .int .i64 pt] by rw [hW0, hgp]; exact heap_alloc_new w _)
  have HB0 := Lib.hid (show Below w.heap.size w W0 by rw [hW0]; exact below_alloc6 w _)
  have HW0 := Lib.hid hW0
  have HGP := Lib.hid hgp
  clear hW0 hgp
  obtain ⟨n, hn⟩ : ∃ n, n = l.length := ⟨_, rfl⟩
  have HCLN := Lib.hid (fun (W : World) (hr : RowL EPc W A l) => show Calls Try.prog 27 #[.slice A n c] W (fun en w' => ∃ A8 c8, en = .returned (.slice A8 n c8) ∧ RowL EPc w' A8 l ∧ (A8 = none → c8 = 0) ∧ (∀ b, A8 = some b → W.heap.size ≤ b.block) ∧ Below W.heap.size W w') from by
    rw [hn]
    exact pclone15_any A c l W hr (by omega))
  rw [← hn]
  have HRL := Lib.hid (show RowL EPc W0 A l from h.kept HB0.out)
  by_cases q0 : b = []
  · have hR2 := Lib.hid (show R = (l, 0, 0) by rw [hR, if_pos q0])
    have e0 : B.toList.isEmpty = true := by rw [hB, q0, toList_empty15]; rfl
    have HNN := Lib.hid hn
    clear hR q0 hB hBs hn h hl hv hz hb
    go_enter Try.func15, Try.ntmps15
    go_upto_region 1 with fail
    rw [← HW0.out, ← HGP.out]
    clear HW0 HGP
    have p0 := (Cells.cell HP0.out 0).trans (show _ = some (Value.int .i64 a) from rfl)
    have p1 := (Cells.cell HP0.out 1).trans (show _ = some (Value.string B) from rfl)
    have p2 := (Cells.cell HP0.out 2).trans (show _ = some (Value.int .i64 pf) from rfl)
    have p3 := (Cells.cell HP0.out 3).trans (show _ = some (Value.int .i64 pt) from rfl)
    go_wp2_with fail
    refine (HCLN.out _ HRL.out).mono ?_
    rintro en w8 ⟨A8, c8, rfl, h1, h2, h3, h4⟩
    have HZ8 := Lib.hid (show InP w R (.returned (.tuple #[.slice A8 n c8, .int .i64 0, .int .i64 0])) w8 from by
      rw [hR2.out]
      exact ⟨A8, c8, by rw [← HNN.out]; rfl, h1, h2, HB0.out.trans (h4.mono HB0.out.size)⟩)
    clear h1 h2 h3 h4 hR2 HCLN
    go_wp2_with fail
    go_ret3
    exact HZ8.out
  rw [if_neg q0] at hR
  have e0 : B.toList.isEmpty = false := by
    rw [hB, toList_empty15]
    cases b with
    | nil => exact absurd rfl q0
    | cons x r => rfl
  by_cases q1 : a < 0 ∨ 2147483648 < a ∨ pol < 1 ∨ 5 < pol
  · have hR2 := Lib.hid (show R = ([], 0, 4) by rw [hR, if_pos q1])
    have hcs : decide (a < (0 : Int)) = true ∨ (decide (a < (0 : Int)) = false ∧ decide ((2147483648 : Int) < a) = true) ∨ (decide (a < (0 : Int)) = false ∧ decide ((2147483648 : Int) < a) = false ∧ decide (pol < (1 : Int)) = true) ∨ (decide (a < (0 : Int)) = false ∧ decide ((2147483648 : Int) < a) = false ∧ decide (pol < (1 : Int)) = false ∧ decide ((5 : Int) < pol) = true) := by
      simp only [decide_eq_true_eq, decide_eq_false_iff_not]
      omega
    clear hR q0 q1 hB hBs hn h hl hv hz hb HRL HCLN
    rcases hcs with d1 | ⟨d1, d2⟩ | ⟨d1, d2, d3⟩ | ⟨d1, d2, d3, d4⟩
    · go_enter Try.func15, Try.ntmps15
      go_upto_region 1 with fail
      rw [← HW0.out, ← HGP.out]
      clear HW0 HGP
      have p0 := (Cells.cell HP0.out 0).trans (show _ = some (Value.int .i64 a) from rfl)
      have p1 := (Cells.cell HP0.out 1).trans (show _ = some (Value.string B) from rfl)
      have p2 := (Cells.cell HP0.out 2).trans (show _ = some (Value.int .i64 pf) from rfl)
      have p3 := (Cells.cell HP0.out 3).trans (show _ = some (Value.int .i64 pt) from rfl)
      go_wp2_with fail
      go_ret3
      exact in_err (er := 4) rfl hR2.out HB0.out
    · go_enter Try.func15, Try.ntmps15
      go_upto_region 1 with fail
      rw [← HW0.out, ← HGP.out]
      clear HW0 HGP
      have p0 := (Cells.cell HP0.out 0).trans (show _ = some (Value.int .i64 a) from rfl)
      have p1 := (Cells.cell HP0.out 1).trans (show _ = some (Value.string B) from rfl)
      have p2 := (Cells.cell HP0.out 2).trans (show _ = some (Value.int .i64 pf) from rfl)
      have p3 := (Cells.cell HP0.out 3).trans (show _ = some (Value.int .i64 pt) from rfl)
      go_wp2_with fail
      go_ret3
      exact in_err (er := 4) rfl hR2.out HB0.out
    · go_enter Try.func15, Try.ntmps15
      go_upto_region 1 with fail
      rw [← HW0.out, ← HGP.out]
      clear HW0 HGP
      have p0 := (Cells.cell HP0.out 0).trans (show _ = some (Value.int .i64 a) from rfl)
      have p1 := (Cells.cell HP0.out 1).trans (show _ = some (Value.string B) from rfl)
      have p2 := (Cells.cell HP0.out 2).trans (show _ = some (Value.int .i64 pf) from rfl)
      have p3 := (Cells.cell HP0.out 3).trans (show _ = some (Value.int .i64 pt) from rfl)
      go_wp2_with fail
      go_ret3
      exact in_err (er := 4) rfl hR2.out HB0.out
    · go_enter Try.func15, Try.ntmps15
      go_upto_region 1 with fail
      rw [← HW0.out, ← HGP.out]
      clear HW0 HGP
      have p0 := (Cells.cell HP0.out 0).trans (show _ = some (Value.int .i64 a) from rfl)
      have p1 := (Cells.cell HP0.out 1).trans (show _ = some (Value.string B) from rfl)
      have p2 := (Cells.cell HP0.out 2).trans (show _ = some (Value.int .i64 pf) from rfl)
      have p3 := (Cells.cell HP0.out 3).trans (show _ = some (Value.int .i64 pt) from rfl)
      go_wp2_with fail
      go_ret3
      exact in_err (er := 4) rfl hR2.out HB0.out
  rw [if_neg q1] at hR
  have ha0 : 0 ≤ a := by omega
  have ha1 : a ≤ 2147483648 := by omega
  have d1 : decide (a < (0 : Int)) = false := by simp; omega
  have d2 : decide ((2147483648 : Int) < a) = false := by simp; omega
  have d3 : decide (pol < (1 : Int)) = false := by simp; omega
  have d4 : decide ((5 : Int) < pol) = false := by simp; omega
  have n1 : ¬ a < (0 : Int) := by omega
  have n2 : ¬ (2147483648 : Int) < a := by omega
  have n3 : ¬ pol < (1 : Int) := by omega
  have n4 : ¬ (5 : Int) < pol := by omega
  obtain ⟨e, he⟩ : ∃ e, e = a + (B.size : Int) := ⟨_, rfl⟩
  have he2 : e = a + (b.length : Int) := by rw [he, hBs]
  have we : IntKind.i64.wrap e = e := by rw [IntKind.wrap_i64]; omega
  have HEND := Lib.hid (fun W => pend15 a pf pt e B W he.symm we)
  obtain ⟨th, hth⟩ : ∃ t, t = (cels l).countP (inB a b) := ⟨_, rfl⟩
  obtain ⟨df, hdf⟩ : ∃ t, t = (cels l).countP (otherB a b) := ⟨_, rfl⟩
  have hth2 : thereC (cels l) (segC a b) = th := by rw [hth, there_cnt (cels_srt hv)]
  have hdf2 : differC (cels l) (segC a b) = df := by rw [hdf, differ_cnt (cels_srt hv)]
  have hthb : th ≤ B.size := by rw [← hth2, hBs, ← segC_len3 a b]; exact thereC_le _ _
  obtain ⟨T, hT⟩ : ∃ T, T = pcs (insC pol (cels l) (segC a b)) := ⟨_, rfl⟩
  rw [hth2, hdf2, ← hT] at hR
  have HE17 := Lib.hid (show pol = 5 ∧ 0 < th → (th < B.size ∨ 0 < df) → R = ([], 0, 17) from fun h1 h2 => by
    rw [hR, if_pos h1, if_neg]
    rw [← hBs]
    omega)
  have HSAM := Lib.hid (show pol = 5 ∧ 0 < th → ¬ (th < B.size ∨ 0 < df) → R = (l, 0, 0) from fun h1 h2 => by
    rw [hR, if_pos h1, if_pos]
    rw [← hBs]
    omega)
  have HELS := Lib.hid (show ¬ (pol = 5 ∧ 0 < th) → R = (if 64 < T.length then ([], 0, 11) else (T, df, 0)) from fun h1 => by rw [hR, if_neg h1])
  have HCMP := Lib.hid (fun (W : World) (hr : RowL EPc W A l) => show Calls Try.prog 29 #[.slice A n c, .agg #[.int .i64 a, .string B, .int .i64 a, .int .i64 e]] W fun en w' => en = .returned (.tuple #[.int .i64 (th : Int), .int .i64 (df : Int)]) ∧ Below W.heap.size W w' from by
    rw [hn, hth, hdf]
    exact pcmp15 l A c a e b B W hr (by omega) hv (by omega) hB (by omega) ha0 ha1 he2)
  have HCMB := Lib.hid (fun (W : World) (hr : RowL EPc W A l) => show Calls Try.prog 31 #[.slice A n c, .agg #[.int .i64 a, .string B, .int .i64 a, .int .i64 e], .int .i64 pol] W (CombP W (combL pol ⟨a, b, a, e⟩ a l)) from by
    rw [hn]
    exact pcomb15_any l A c a e pol b B W hr (by omega) hv hB (by omega) ha0 ha1 he2)
  have HJOI := Lib.hid (fun (base : Nat) (W : World) (A8 : Option Addr) (m8 c8 : Nat) (ho : OwnE EPc 23 W base A8 m8 c8 (combL pol ⟨a, b, a, e⟩ a l)) (hbw : base ≤ W.heap.size) => show Calls Try.prog 30 #[.slice A8 m8 c8] W (JoinP base W T) from by
    have h1 := pjoin15_any A8 m8 c8 base _ W ho (by rw [comb_len]; omega) hbw (comb_ok ⟨q0, ha0, by show e ≤ 4294967296; omega, Int.le_refl _, by show a + (b.length : Int) ≤ e; omega⟩ l a (fun x hx => vldF_mem hv x hx)) (by rw [he2]; have := comb_size pol hv ha0 b; omega)
    rw [he2, comb_cels pol hv ha0 b, ← hT] at h1
    exact h1)
  have HNN := Lib.hid hn
  clear hR hB hBs hn h hl hv hz hb q0 q1 he he2 we hth hdf hth2 hdf2 hT ha0 ha1
  go_enter Try.func15, Try.ntmps15
  go_upto_region 1 with fail
  rw [← HW0.out, ← HGP.out]
  clear HW0 HGP
  have p0 := (Cells.cell HP0.out 0).trans (show _ = some (Value.int .i64 a) from rfl)
  have p1 := (Cells.cell HP0.out 1).trans (show _ = some (Value.string B) from rfl)
  have p2 := (Cells.cell HP0.out 2).trans (show _ = some (Value.int .i64 pf) from rfl)
  have p3 := (Cells.cell HP0.out 3).trans (show _ = some (Value.int .i64 pt) from rfl)
  go_upto_region 5 with fail
  clear p0 p1 p2 p3
  refine wp_region_specs_tail 10 [.val (Value.pointer (some ⟨gp, 0, none⟩)), .val (Value.int .i64 a), .val (Value.pointer (some ⟨gp, 1, none⟩)), .val (Value.string B), .val (Value.pointer (some ⟨gp, 0, none⟩)), .val (Value.int .i64 a), .val (Value.agg #[.int .i64 a, .string B, .int .i64 pf, .int .i64 pt]), .val (Value.int .i64 e), .val (Value.agg #[.int .i64 a, .string B, .int .i64 a, .int .i64 e]), .box #[.int .i64 0, .string ⟨#[]⟩, .int .i64 0, .int .i64 0] 23] (by kernel_rfl) (by kernel_rfl) (by kernel_rfl) (by kernel_rfl) (by kernel_rfl) (by kernel_rfl) (by kernel_rfl) (by kernel_rfl) ?_ ?_
  · refine ⟨⟨rfl, ?_⟩, ⟨rfl, ?_⟩, ⟨rfl, ?_⟩, ⟨rfl, ?_⟩, ⟨rfl, ?_⟩, ⟨rfl, ?_⟩, ⟨rfl, ?_⟩, ⟨rfl, ?_⟩, ⟨rfl, ?_⟩, ⟨rfl, ?_⟩, trivial⟩
    · intro ac W hbW hk K hK
      have e4 := kvalT hk 4 (Value.pointer (some ⟨gp, 0, none⟩)) (by kernel_rfl)
      clear hk
      go_simp
      exact ⟨_, rfl, hK _ _ rfl (Below.refl _ _)⟩
    · intro ac W hbW hk K hK
      have e34 := kvalT hk 34 (Value.pointer (some ⟨gp, 0, none⟩)) (by kernel_rfl)
      clear hk
      have y0 := (Cells.cell (Cells.kept HP0.out hbW HP0.out.lt) 0).trans (show _ = some (Value.int .i64 a) from rfl)
      have y1 := (Cells.cell (Cells.kept HP0.out hbW HP0.out.lt) 1).trans (show _ = some (Value.string B) from rfl)
      have y2 := (Cells.cell (Cells.kept HP0.out hbW HP0.out.lt) 2).trans (show _ = some (Value.int .i64 pf) from rfl)
      have y3 := (Cells.cell (Cells.kept HP0.out hbW HP0.out.lt) 3).trans (show _ = some (Value.int .i64 pt) from rfl)
      go_simp
      exact ⟨_, rfl, hK _ _ rfl (Below.refl _ _)⟩
    · intro ac W hbW hk K hK
      have e4 := kvalT hk 4 (Value.pointer (some ⟨gp, 0, none⟩)) (by kernel_rfl)
      clear hk
      go_simp
      exact ⟨_, rfl, hK _ _ rfl (Below.refl _ _)⟩
    · intro ac W hbW hk K hK
      have e36 := kvalT hk 36 (Value.pointer (some ⟨gp, 1, none⟩)) (by kernel_rfl)
      clear hk
      have y0 := (Cells.cell (Cells.kept HP0.out hbW HP0.out.lt) 0).trans (show _ = some (Value.int .i64 a) from rfl)
      have y1 := (Cells.cell (Cells.kept HP0.out hbW HP0.out.lt) 1).trans (show _ = some (Value.string B) from rfl)
      have y2 := (Cells.cell (Cells.kept HP0.out hbW HP0.out.lt) 2).trans (show _ = some (Value.int .i64 pf) from rfl)
      have y3 := (Cells.cell (Cells.kept HP0.out hbW HP0.out.lt) 3).trans (show _ = some (Value.int .i64 pt) from rfl)
      go_simp
      exact ⟨_, rfl, hK _ _ rfl (Below.refl _ _)⟩
    · intro ac W hbW hk K hK
      have e4 := kvalT hk 4 (Value.pointer (some ⟨gp, 0, none⟩)) (by kernel_rfl)
      clear hk
      go_simp
      exact ⟨_, rfl, hK _ _ rfl (Below.refl _ _)⟩
    · intro ac W hbW hk K hK
      have e38 := kvalT hk 38 (Value.pointer (some ⟨gp, 0, none⟩)) (by kernel_rfl)
      clear hk
      have y0 := (Cells.cell (Cells.kept HP0.out hbW HP0.out.lt) 0).trans (show _ = some (Value.int .i64 a) from rfl)
      have y1 := (Cells.cell (Cells.kept HP0.out hbW HP0.out.lt) 1).trans (show _ = some (Value.string B) from rfl)
      have y2 := (Cells.cell (Cells.kept HP0.out hbW HP0.out.lt) 2).trans (show _ = some (Value.int .i64 pf) from rfl)
      have y3 := (Cells.cell (Cells.kept HP0.out hbW HP0.out.lt) 3).trans (show _ = some (Value.int .i64 pt) from rfl)
      go_simp
      exact ⟨_, rfl, hK _ _ rfl (Below.refl _ _)⟩
    · intro ac W hbW hk K hK
      have e4 := kvalT hk 4 (Value.pointer (some ⟨gp, 0, none⟩)) (by kernel_rfl)
      clear hk
      have y0 := (Cells.cell (Cells.kept HP0.out hbW HP0.out.lt) 0).trans (show _ = some (Value.int .i64 a) from rfl)
      have y1 := (Cells.cell (Cells.kept HP0.out hbW HP0.out.lt) 1).trans (show _ = some (Value.string B) from rfl)
      have y2 := (Cells.cell (Cells.kept HP0.out hbW HP0.out.lt) 2).trans (show _ = some (Value.int .i64 pf) from rfl)
      have y3 := (Cells.cell (Cells.kept HP0.out hbW HP0.out.lt) 3).trans (show _ = some (Value.int .i64 pt) from rfl)
      go_simp
      exact ⟨_, rfl, hK _ _ rfl (Below.refl _ _)⟩
    · intro ac W hbW hk K hK
      have e40 := kvalT hk 40 (Value.agg #[.int .i64 a, .string B, .int .i64 pf, .int .i64 pt]) (by kernel_rfl)
      clear hk
      go_simp
      refine (HEND.out W).mono ?_
      rintro e w9 ⟨rfl, hb9⟩
      exact ⟨_, rfl, hK _ _ rfl hb9⟩
    · intro ac W hbW hk K hK
      have e35 := kvalT hk 35 (Value.int .i64 a) (by kernel_rfl)
      have e37 := kvalT hk 37 (Value.string B) (by kernel_rfl)
      have e39 := kvalT hk 39 (Value.int .i64 a) (by kernel_rfl)
      have e41 := kvalT hk 41 (Value.int .i64 e) (by kernel_rfl)
      clear hk
      go_simp
      exact ⟨_, rfl, hK _ _ rfl (Below.refl _ _)⟩
    · intro ac W hbW hk K hK
      clear hk
      go_simp
      exact ⟨_, rfl, hK _ _ ⟨W.heap.size, rfl, hbW.size, heap_alloc_new W _⟩ (below_alloc6 W _)⟩
  · intro W9 hb9
    simp only [List.take_succ_cons, List.take_zero, List.drop_succ_cons, List.drop_zero, endT]
    intro gn hgn hcn
    have HC0 := Lib.hid (show Cells W9 gn 23 #[.int .i64 0, .string ⟨#[]⟩, .int .i64 0, .int .i64 0] from hcn)
    have x0 := (Cells.cell HC0.out 0).trans (show _ = some (Value.int .i64 0) from rfl)
    have zx0 := Cells.frozen HC0.out 0
    have x1 := (Cells.cell HC0.out 1).trans (show _ = some (Value.string ⟨#[]⟩) from rfl)
    have zx1 := Cells.frozen HC0.out 1
    have x2 := (Cells.cell HC0.out 2).trans (show _ = some (Value.int .i64 0) from rfl)
    have zx2 := Cells.frozen HC0.out 2
    have x3 := (Cells.cell HC0.out 3).trans (show _ = some (Value.int .i64 0) from rfl)
    have zx3 := Cells.frozen HC0.out 3
    have hgl := HC0.out.lt
    go_upto_region 6 with fail
    have HN6 := Lib.hid (show Cells ((((W9.setCell ⟨gn, 0, none⟩ (.int .i64 a)).setCell ⟨gn, 1, none⟩ (.string B)).setCell ⟨gn, 2, none⟩ (.int .i64 a)).setCell ⟨gn, 3, none⟩ (.int .i64 e)) gn 23 #[.int .i64 a, .string B, .int .i64 a, .int .i64 e] from Cells.put hcn [.int .i64 a, .string B, .int .i64 a, .int .i64 e] rfl)
    have hb6 : Below W0.heap.size W0 ((((W9.setCell ⟨gn, 0, none⟩ (.int .i64 a)).setCell ⟨gn, 1, none⟩ (.string B)).setCell ⟨gn, 2, none⟩ (.int .i64 a)).setCell ⟨gn, 3, none⟩ (.int .i64 e)) := putB_below hgn [.int .i64 a, .string B, .int .i64 a, .int .i64 e] 0 W9 hb9
    clear hcn hgn hb9 HC0 x0 x1 x2 x3 zx0 zx1 zx2 zx3 hgl
    generalize (((W9.setCell ⟨gn, 0, none⟩ (.int .i64 a)).setCell ⟨gn, 1, none⟩ (.string B)).setCell ⟨gn, 2, none⟩ (.int .i64 a)).setCell ⟨gn, 3, none⟩ (.int .i64 e) = V6 at *
    have HB6 := Lib.hid (HB0.out.trans (hb6.mono HB0.out.size))
    have HRL6 := Lib.hid (HRL.out.kept hb6)
    clear hb6 HP0 HB0 HRL HEND
    have p0 := (Cells.cell HN6.out 0).trans (show _ = some (Value.int .i64 a) from rfl)
    have p1 := (Cells.cell HN6.out 1).trans (show _ = some (Value.string B) from rfl)
    have p2 := (Cells.cell HN6.out 2).trans (show _ = some (Value.int .i64 a) from rfl)
    have p3 := (Cells.cell HN6.out 3).trans (show _ = some (Value.int .i64 e) from rfl)
    go_wp2_with fail
    refine (HCMP.out _ HRL6.out).mono ?_
    rintro en w7 ⟨rfl, hb7⟩
    have HN7 := Lib.hid (Cells.kept HN6.out hb7 HN6.out.lt)
    have HRL7 := Lib.hid (HRL6.out.kept hb7)
    have HB7 := Lib.hid (HB6.out.trans (hb7.mono HB6.out.size))
    clear hb7 p0 p1 p2 p3 HN6 HRL6 HB6 HCMP
    have p0 := (Cells.cell HN7.out 0).trans (show _ = some (Value.int .i64 a) from rfl)
    have p1 := (Cells.cell HN7.out 1).trans (show _ = some (Value.string B) from rfl)
    have p2 := (Cells.cell HN7.out 2).trans (show _ = some (Value.int .i64 a) from rfl)
    have p3 := (Cells.cell HN7.out 3).trans (show _ = some (Value.int .i64 e) from rfl)
    by_cases hdrop : pol = 5 ∧ 0 < th
    · have dp : (pol == 5) = true := by simpa using hdrop.1
      have dt : decide ((0 : Int) < (th : Int)) = true := by simp; omega
      have dt2 : decide (0 < th) = true := by simp; omega
      have dt3 : 0 < th := hdrop.2
      by_cases hbad : th < B.size ∨ 0 < df
      · have hR2 := Lib.hid (HE17.out hdrop hbad)
        rcases Nat.lt_or_ge th B.size with q1 | q1
        · have dl : decide ((th : Int) < (B.size : Int)) = true := by simp; omega
          have dl2 : decide (th < B.size) = true := by simpa using q1
          have nl : (th : Int) < (B.size : Int) := by omega
          clear hdrop hbad
          go_wp2_with fail
          go_ret3
          exact in_err (er := 17) rfl hR2.out HB7.out
        · have dl : decide ((th : Int) < (B.size : Int)) = false := by simp; omega
          have dl2 : decide (th < B.size) = false := by simp; omega
          have nl : ¬ (th : Int) < (B.size : Int) := by omega
          have dd : decide ((0 : Int) < (df : Int)) = true := by simp; omega
          have dd2 : decide (0 < df) = true := by simp; omega
          have dd3 : 0 < df := by omega
          clear hdrop hbad
          go_wp2_with fail
          go_ret3
          exact in_err (er := 17) rfl hR2.out HB7.out
      · have hR2 := Lib.hid (HSAM.out hdrop hbad)
        have dl : decide ((th : Int) < (B.size : Int)) = false := by simp; omega
        have dl2 : decide (th < B.size) = false := by simp; omega
        have nl : ¬ (th : Int) < (B.size : Int) := by omega
        have dd : decide ((0 : Int) < (df : Int)) = false := by simp; omega
        have ndd : ¬ (0 : Int) < (df : Int) := by omega
        have dd2 : decide (0 < df) = false := by simp; omega
        have dd3 : ¬ 0 < df := by omega
        clear hdrop hbad
        go_wp2_with fail
        refine (HCLN.out _ HRL7.out).mono ?_
        rintro en w8 ⟨A8, c8, rfl, h1, h2, h3, h4⟩
        have HZ8 := Lib.hid (show InP w R (.returned (.tuple #[.slice A8 n c8, .int .i64 0, .int .i64 0])) w8 from by
          rw [hR2.out]
          exact ⟨A8, c8, by rw [← HNN.out]; rfl, h1, h2, HB7.out.trans (h4.mono HB7.out.size)⟩)
        clear h1 h2 h3 h4 hR2 HCLN
        go_wp2_with fail
        go_ret3
        exact HZ8.out
    · have hR2 := Lib.hid (HELS.out hdrop)
      have hds : ((pol == 5) = true ∧ decide ((0 : Int) < (th : Int)) = false ∧ ¬ (0 : Int) < (th : Int) ∧ decide (0 < th) = false ∧ ¬ 0 < th) ∨ (pol == 5) = false := by
        by_cases q5 : pol = 5
        · left
          have : ¬ 0 < th := fun h => hdrop ⟨q5, h⟩
          exact ⟨by simpa using q5, by simp; omega, by omega, by simp; omega, this⟩
        · right
          simpa using q5
      clear hdrop
      have HB7S := Lib.hid HB7.out.size
      rcases hds with ⟨dp, dt, nt, dt2, nt2⟩ | dp
      · go_wp2_with fail
        refine (HCMB.out _ HRL7.out).mono ?_
        rintro en w8 ⟨A8, m8, c8, rfl, h1, h2⟩
        have HJ := Lib.hid (HJOI.out _ _ A8 m8 c8 h1 h2.size)
        have HB8 := Lib.hid (HB7.out.trans (h2.mono HB7.out.size))
        have HS8 := Lib.hid h2.size
        clear h1 h2 p0 p1 p2 p3 HN7 HCMB
        go_wp2_with fail
        refine HJ.out.mono ?_
        rintro en w9 ⟨A9, c9, rfl, h1, h2, h3⟩
        have H1 := Lib.hid h1
        have H2 := Lib.hid h2
        have H3 := Lib.hid (show Below w.heap.size w w9 from HB8.out.trans (h3.mono HB7S.out))
        clear h1 h2 h3 HJ
        obtain ⟨m9, hm9⟩ : ∃ m, m = T.length := ⟨_, rfl⟩
        rw [← hm9]
        have HM9 := Lib.hid hm9
        by_cases hfull : 64 < m9
        · have dfu : decide ((64 : Int) < (m9 : Int)) = true := by simp; omega
          have dfu2 : decide (64 < m9) = true := by simpa using hfull
          have hR3 := Lib.hid (show R = ([], 0, 11) by rw [hR2.out, if_pos (by rw [← HM9.out]; exact hfull)])
          clear hm9
          go_wp2_with fail
          go_ret3
          exact in_err (er := 11) rfl hR3.out H3.out
        · have dfu : decide ((64 : Int) < (m9 : Int)) = false := by simp; omega
          have nfu : ¬ (64 : Int) < (m9 : Int) := by omega
          have dfu2 : decide (64 < m9) = false := by simpa using hfull
          have hR3 := Lib.hid (show R = (T, df, 0) by rw [hR2.out, if_neg (by rw [← HM9.out]; exact hfull)])
          clear hm9
          go_wp2_with fail
          go_ret3
          rw [hR3.out]
          exact ⟨A9, c9, by rw [← HM9.out]; rfl, H1.out, H2.out, H3.out⟩
      · go_wp2_with fail
        refine (HCMB.out _ HRL7.out).mono ?_
        rintro en w8 ⟨A8, m8, c8, rfl, h1, h2⟩
        have HJ := Lib.hid (HJOI.out _ _ A8 m8 c8 h1 h2.size)
        have HB8 := Lib.hid (HB7.out.trans (h2.mono HB7.out.size))
        have HS8 := Lib.hid h2.size
        clear h1 h2 p0 p1 p2 p3 HN7 HCMB
        go_wp2_with fail
        refine HJ.out.mono ?_
        rintro en w9 ⟨A9, c9, rfl, h1, h2, h3⟩
        have H1 := Lib.hid h1
        have H2 := Lib.hid h2
        have H3 := Lib.hid (show Below w.heap.size w w9 from HB8.out.trans (h3.mono HB7S.out))
        clear h1 h2 h3 HJ
        obtain ⟨m9, hm9⟩ : ∃ m, m = T.length := ⟨_, rfl⟩
        rw [← hm9]
        have HM9 := Lib.hid hm9
        by_cases hfull : 64 < m9
        · have dfu : decide ((64 : Int) < (m9 : Int)) = true := by simp; omega
          have dfu2 : decide (64 < m9) = true := by simpa using hfull
          have hR3 := Lib.hid (show R = ([], 0, 11) by rw [hR2.out, if_pos (by rw [← HM9.out]; exact hfull)])
          clear hm9
          go_wp2_with fail
          go_ret3
          exact in_err (er := 11) rfl hR3.out H3.out
        · have dfu : decide ((64 : Int) < (m9 : Int)) = false := by simp; omega
          have nfu : ¬ (64 : Int) < (m9 : Int) := by omega
          have dfu2 : decide (64 < m9) = false := by simpa using hfull
          have hR3 := Lib.hid (show R = (T, df, 0) by rw [hR2.out, if_neg (by rw [← HM9.out]; exact hfull)])
          clear hm9
          go_wp2_with fail
          go_ret3
          rw [hR3.out]
          exact ⟨A9, c9, by rw [← HM9.out]; rfl, H1.out, H2.out, H3.out⟩
end Go.Proofs.Ytafpmlikocchpaa

/- The program's functions of layer 15, as the bundle that the laws are walked over. -/
namespace Go.Proofs.Ytafpmlikocchpaa
open Go.ChangeShapes Go.WideShapes Go.ChangeAt Go.RowKit
set_option linter.unusedVariables false
set_option maxRecDepth 100000

theorem prog15 : P15 (fun _ => True) where
  keep := fun w w' h hb => trivial
  val := fun l A c w _ hr hA hl hw => pvalid15_any l A c w hr (by omega) (fun x hx => ⟨(hw x hx).1.1, (hw x hx).1.2.1, (hw x hx).1.2.2.1⟩)
  win := fun pol a1 f1 t1 a2 f2 t2 D1 D2 w _ _ _ _ _ _ _ _ _ _ => pwins15_any pol a1 f1 t1 a2 f2 t2 D1 D2 w
  ins := fun l A c a pf pt pol b w _ hr hA hl hv hz hb _ _ _ _ => pins15_any l A c a pf pt pol b w hr (by omega) hv (by omega) (by omega)
  tak := fun l A c a w _ hr hA hl hv hz ha => ptake15_any l A c a w hr (by omega) hv (by omega) ha
  cut := fun l A c a w _ hr hA hl hv hz ha => (pcut15_any l A c a w hr (by omega) hv ha).mono fun e w' ⟨A', c', h1, h2, h3, _, _, h6⟩ => ⟨A', c', h1, h2, h3, h6⟩
  siz := fun l A c w _ hr hA hl hv hz => psize15_any l A c w hr (by omega) (by omega)
end Go.Proofs.Ytafpmlikocchpaa
