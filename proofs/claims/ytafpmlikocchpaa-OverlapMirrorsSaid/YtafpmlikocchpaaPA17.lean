/- Contracts of the functions, part 17: OvIns. -/
import Derived.Test.YtafpmlikocchpaaPA16
/- Contract of the reference of layer 15: Insert. -/
namespace Go.Proofs.Ytafpmlikocchpaa
open Go.ChangeShapes Go.WideShapes Go.ChangeAt Go.RowKit
set_option linter.unusedVariables false
set_option maxRecDepth 100000

theorem str_isEmpty15 (l : List UInt8) : (str l).toList.isEmpty = l.isEmpty := by
  rw [(ByteArray.toList_eq _).trans (str_toList l)]
theorem setC_at {x : CeR} : ∀ {c : List CeR} {j : Nat} {y : CeR}, idxC c x.at_ = (j : Int) → c[j]? = some y → setC x c = c.take j ++ x :: c.drop (j + 1)
  | [], j, y, _, h => by simp at h
  | z :: r, j, y, h, hy => by
    unfold idxC at h
    unfold setC
    rw [List.findIdx?_cons] at h
    by_cases q : z.at_ = x.at_
    · rw [if_pos q]
      rw [show (z.at_ == x.at_) = true by simpa using q] at h
      simp at h
      obtain rfl : j = 0 := by omega
      rfl
    · rw [if_neg q]
      rw [show (z.at_ == x.at_) = false by simpa using q] at h
      simp only [Bool.false_eq_true, if_false] at h
      cases hq : r.findIdx? (fun y => y.at_ == x.at_) with
      | none => rw [hq] at h; simp at h
      | some i =>
        rw [hq] at h
        simp only [Option.map_some] at h
        obtain rfl : j = i + 1 := by omega
        rw [setC_at (c := r) (j := i) (y := y) (by unfold idxC; rw [hq]) (by simpa using hy)]
        rfl
theorem setC_len (x : CeR) : ∀ c : List CeR, (setC x c).length = c.length
  | [] => rfl
  | z :: r => by
    unfold setC
    split
    · rfl
    · rw [List.length_cons, setC_len x r, List.length_cons]
theorem segC_get {a : Int} {b : List UInt8} {k : Nat} {v : UInt8} (h : b[k]? = some v) : (segC a b)[k]? = some ⟨a + k, v, a, a + b.length⟩ := by
  unfold segC
  rw [celF_get, h]
  rfl
theorem segC_len (a : Int) (b : List UInt8) : (segC a b).length = b.length := celF_len _ _ _ _
/-- Where Insert stands: behind k bytes of the new segment. -/
structure InsI (pol : Int) (C new : List CeR) (a : Int) (k : Nat) (out : List CeR) (th df : Nat) : Prop where
  fold : out = (new.take k).foldl (fun out x => stepC pol C x out) C
  srt : srtF 0 out
  far : ∀ o, a + k ≤ o → fndC out o = fndC C o
  th : th = thereC C (new.take k)
  df : df = differC C (new.take k)
  len : out.length ≤ C.length + k
theorem InsI.start {pol : Int} {C new : List CeR} {a : Int} (h : srtF 0 C) : InsI pol C new a 0 C 0 0 := ⟨rfl, h, fun _ _ => rfl, rfl, rfl, Nat.le_refl _⟩
theorem take_next15 {new : List CeR} {k : Nat} {x : CeR} (hx : new[k]? = some x) : new.take (k + 1) = new.take k ++ [x] := by
  obtain ⟨hk, e⟩ := List.getElem?_eq_some_iff.1 hx
  rw [List.take_succ_eq_append_getElem hk, e]
theorem len_if15 (bb : Bool) (x : CeR) : (if bb = true then [x] else []).length = if bb = true then 1 else 0 := by cases bb <;> rfl
theorem InsI.next {pol : Int} {C new : List CeR} {a : Int} {k : Nat} {out : List CeR} {th df : Nat} {x : CeR} (h : InsI pol C new a k out th df) (hx : new[k]? = some x) (hat : x.at_ = a + k) (ha : 0 ≤ a) :
    InsI pol C new a (k + 1) (stepC pol C x out) (th + if (fndC C x.at_).isSome then 1 else 0) (df + if (match fndC C x.at_ with | none => false | some y => y.c != x.c) = true then 1 else 0) := by
  have hs := h.far x.at_ (by omega)
  obtain ⟨g1, g2⟩ := stepC_srt (pol := pol) h.srt (by omega : (0 : Int) ≤ x.at_) hs
  refine ⟨?_, g1, fun o ho => ?_, ?_, ?_, ?_⟩
  · rw [take_next15 hx, List.foldl_append, ← h.fold]; rfl
  · rw [g2, if_neg (by omega)]; exact h.far o (by omega)
  · unfold thereC
    rw [take_next15 hx, List.filter_append, List.length_append]
    have := h.th
    unfold thereC at this
    rw [← this, List.filter_cons]
    exact congrArg (_ + ·) (len_if15 _ x).symm
  · unfold differC
    rw [take_next15 hx, List.filter_append, List.length_append]
    have := h.df
    unfold differC at this
    rw [← this, List.filter_cons]
    exact congrArg (_ + ·) (len_if15 _ x).symm
  · have hl := h.len
    unfold stepC
    cases fndC C x.at_ with
    | none => simp only; rw [putC_len]; omega
    | some y =>
      simp only
      split
      · rw [setC_len]; omega
      · omega
/-- What Insert leaves. -/
def InP (w : World) (R : List PcR × Nat × Nat) (e : Ending) (w' : World) : Prop :=
  ∃ A c, e = .returned (.tuple #[.slice A R.1.length c, .int .i64 (R.2.1 : Int), .int .i64 (R.2.2 : Int)]) ∧ RowL EPc w' A R.1 ∧ (A = none → c = 0) ∧ Below w.heap.size w w'
theorem in_err {w wz : World} {R : List PcR × Nat × Nat} {er : Nat} {E : Int} (hE : (er : Int) = E) (hr : R = ([], 0, er)) (hb : Below w.heap.size w wz) : InP w R (.returned (.tuple #[.slice none 0 0, .int .i64 0, .int .i64 E])) wz := by
  subst hE hr
  exact ⟨none, 0, rfl, RowL.nil _ _, fun _ => rfl, hb⟩
theorem row_take15 {w : World} {A : Option Addr} {l : List CeR} (h : RowL ECe w A l) (j : Nat) : RowL ECe w A (l.take j) := fun hp => by
  have hl : 0 < l.length := by rw [List.length_take] at hp; omega
  obtain ⟨g, o, e, h1, h2⟩ := h hl
  refine ⟨g, o, e, h1, fun i x hx j' v hv => ?_⟩
  rw [List.getElem?_take] at hx
  split at hx
  · exact h2 i x hx j' v hv
  · cases hx
theorem row_drop15 {w : World} {g o : Nat} {l : List CeR} (h : RowL ECe w (some ⟨g, o, none⟩) l) (j : Nat) : RowL ECe w (some ⟨g, o + j * 4, none⟩) (l.drop j) := fun hp => by
  have hl : 0 < l.length := by rw [List.length_drop] at hp; omega
  obtain ⟨g', o', e, h1, h2⟩ := h hl
  injection e with e
  injection e with e1 e2
  subst e1 e2
  refine ⟨g, o + j * 4, rfl, h1, fun i x hx j' v hv => ?_⟩
  rw [List.getElem?_drop] at hx
  have := h2 (j + i) x hx j' v hv
  rw [show o + (j + i) * ECe.k + j' = o + j * 4 + i * ECe.k + j' from by
    show o + (j + i) * 4 + j' = o + j * 4 + i * 4 + j'
    omega] at this
  exact this
set_option maxHeartbeats 8000000 in
set_option maxRecDepth 100000 in
theorem rins15_any (l : List PcR) (A : Option Addr) (c : Nat) (a pf pt pol : Int) (b : List UInt8) (w : World) (h : RowL EPc w A l) (hA : A = none → c = 0) (hl : l.length ≤ 1000) (hv : vldL l) (hz : sizeL l ≤ 10000) (hb : b.length ≤ 10000) :
    Calls Try.prog 16 #[.slice A l.length c, .agg #[.int .i64 a, .string (str b), .int .i64 pf, .int .i64 pt], .int .i64 pol] w (InP w (insL l a b pol)) := by
  obtain ⟨R, hR⟩ : ∃ R, R = insL l a b pol := ⟨_, rfl⟩
  rw [← hR]
  unfold insL at hR
  obtain ⟨B, hB⟩ : ∃ B, B = str b := ⟨_, rfl⟩
  have hBs : B.size = b.length := by rw [hB, str_size]
  rw [← hB]
  obtain ⟨W0, hW0⟩ : ∃ W, W = w.alloc (.cells #[.int .i64 a, .string B, .int .i64 pf, .int .i64 pt] 23) := ⟨_, rfl⟩
  obtain ⟨gp, hgp⟩ : ∃ g, g = w.heap.size := ⟨_, rfl⟩
  have HP0 := Lib.hid (show Cells W0 gp 23 #[.int .i64 a, .string B, .int .i64 pf, .int .i64 pt] by rw [hW0, hgp]; exact heap_alloc_new w _)
  have HB0 := Lib.hid (show Below w.heap.size w W0 by rw [hW0]; exact below_alloc6 w _)
  have HW0 := Lib.hid hW0
  have HGP := Lib.hid hgp
  clear hW0 hgp
  obtain ⟨n, hn⟩ : ∃ n, n = l.length := ⟨_, rfl⟩
  rw [← hn]
  have HRL := Lib.hid (show RowL EPc W0 A l from h.kept HB0.out)
  by_cases q0 : b = []
  · have hR2 := Lib.hid (show R = (l, 0, 0) by rw [hR, if_pos q0])
    have e0 : B.toList.isEmpty = true := by rw [hB, q0, str_isEmpty15]; rfl
    have HNN := Lib.hid hn
    have HAA := Lib.hid hA
    clear hR q0 hB hBs hn hA h hl hv hz hb
    go_enter Try.func16, Try.ntmps16
    go_upto_region 1 with fail
    rw [← HW0.out, ← HGP.out]
    clear HW0 HGP
    have p0 := (Cells.cell HP0.out 0).trans (show _ = some (Value.int .i64 a) from rfl)
    have p1 := (Cells.cell HP0.out 1).trans (show _ = some (Value.string B) from rfl)
    have p2 := (Cells.cell HP0.out 2).trans (show _ = some (Value.int .i64 pf) from rfl)
    have p3 := (Cells.cell HP0.out 3).trans (show _ = some (Value.int .i64 pt) from rfl)
    go_wp2_with fail
    go_ret3
    rw [hR2.out]
    exact ⟨A, c, by rw [← HNN.out]; rfl, HRL.out, HAA.out, HB0.out⟩
  rw [if_neg q0] at hR
  have e0 : B.toList.isEmpty = false := by
    rw [hB, str_isEmpty15]
    cases b with
    | nil => exact absurd rfl q0
    | cons x r => rfl
  by_cases q1 : a < 0 ∨ 2147483648 < a ∨ pol < 1 ∨ 5 < pol
  · have hR2 := Lib.hid (show R = ([], 0, 4) by rw [hR, if_pos q1])
    have hcs : decide (a < (0 : Int)) = true ∨ (decide (a < (0 : Int)) = false ∧ decide ((2147483648 : Int) < a) = true) ∨ (decide (a < (0 : Int)) = false ∧ decide ((2147483648 : Int) < a) = false ∧ decide (pol < (1 : Int)) = true) ∨ (decide (a < (0 : Int)) = false ∧ decide ((2147483648 : Int) < a) = false ∧ decide (pol < (1 : Int)) = false ∧ decide ((5 : Int) < pol) = true) := by
      simp only [decide_eq_true_eq, decide_eq_false_iff_not]
      omega
    clear hR q0 q1 hB hBs hn hA h hl hv hz hb HRL
    rcases hcs with d1 | ⟨d1, d2⟩ | ⟨d1, d2, d3⟩ | ⟨d1, d2, d3, d4⟩
    · go_enter Try.func16, Try.ntmps16
      go_upto_region 1 with fail
      rw [← HW0.out, ← HGP.out]
      clear HW0 HGP
      have p0 := (Cells.cell HP0.out 0).trans (show _ = some (Value.int .i64 a) from rfl)
      have p1 := (Cells.cell HP0.out 1).trans (show _ = some (Value.string B) from rfl)
      have p2 := (Cells.cell HP0.out 2).trans (show _ = some (Value.int .i64 pf) from rfl)
      have p3 := (Cells.cell HP0.out 3).trans (show _ = some (Value.int .i64 pt) from rfl)
      go_wp2_with fail
      go_ret3
      exact in_err (er := 4) rfl hR2.out HB0.out
    · go_enter Try.func16, Try.ntmps16
      go_upto_region 1 with fail
      rw [← HW0.out, ← HGP.out]
      clear HW0 HGP
      have p0 := (Cells.cell HP0.out 0).trans (show _ = some (Value.int .i64 a) from rfl)
      have p1 := (Cells.cell HP0.out 1).trans (show _ = some (Value.string B) from rfl)
      have p2 := (Cells.cell HP0.out 2).trans (show _ = some (Value.int .i64 pf) from rfl)
      have p3 := (Cells.cell HP0.out 3).trans (show _ = some (Value.int .i64 pt) from rfl)
      go_wp2_with fail
      go_ret3
      exact in_err (er := 4) rfl hR2.out HB0.out
    · go_enter Try.func16, Try.ntmps16
      go_upto_region 1 with fail
      rw [← HW0.out, ← HGP.out]
      clear HW0 HGP
      have p0 := (Cells.cell HP0.out 0).trans (show _ = some (Value.int .i64 a) from rfl)
      have p1 := (Cells.cell HP0.out 1).trans (show _ = some (Value.string B) from rfl)
      have p2 := (Cells.cell HP0.out 2).trans (show _ = some (Value.int .i64 pf) from rfl)
      have p3 := (Cells.cell HP0.out 3).trans (show _ = some (Value.int .i64 pt) from rfl)
      go_wp2_with fail
      go_ret3
      exact in_err (er := 4) rfl hR2.out HB0.out
    · go_enter Try.func16, Try.ntmps16
      go_upto_region 1 with fail
      rw [← HW0.out, ← HGP.out]
      clear HW0 HGP
      have p0 := (Cells.cell HP0.out 0).trans (show _ = some (Value.int .i64 a) from rfl)
      have p1 := (Cells.cell HP0.out 1).trans (show _ = some (Value.string B) from rfl)
      have p2 := (Cells.cell HP0.out 2).trans (show _ = some (Value.int .i64 pf) from rfl)
      have p3 := (Cells.cell HP0.out 3).trans (show _ = some (Value.int .i64 pt) from rfl)
      go_wp2_with fail
      go_ret3
      exact in_err (er := 4) rfl hR2.out HB0.out
  rw [if_neg q1] at hR
  have ha0 : 0 ≤ a := by omega
  have ha1 : a ≤ 2147483648 := by omega
  have d1 : decide (a < (0 : Int)) = false := by simp; omega
  have d2 : decide ((2147483648 : Int) < a) = false := by simp; omega
  have d3 : decide (pol < (1 : Int)) = false := by simp; omega
  have d4 : decide ((5 : Int) < pol) = false := by simp; omega
  have hfit : ∀ x ∈ l, fitP x := fun x hx => okP_fit (vldF_mem hv x hx)
  have hsrt := cels_srt hv
  obtain ⟨C, hC⟩ : ∃ C, C = cels l := ⟨_, rfl⟩
  rw [← hC] at hR hsrt
  have hCl : C.length ≤ 10000 := by rw [hC, cels_len]; exact hz
  have HCL := Lib.hid (show Calls Try.prog 32 #[.slice A n c] W0 (CesP W0 C) from by rw [hn, hC]; exact rcells15_any l A c W0 HRL.out (by omega) hfit (by omega))
  have hok : ∀ y ∈ C, okC y := by rw [hC]; exact cels_ok hv
  obtain ⟨e, he⟩ : ∃ e, e = a + (B.size : Int) := ⟨_, rfl⟩
  have ke : a + (B.size : Int) = e := he.symm
  have we : IntKind.i64.wrap e = e := by rw [IntKind.wrap_i64]; omega
  obtain ⟨new, hnew⟩ : ∃ s, s = segC a b := ⟨_, rfl⟩
  rw [← hnew] at hR
  have HNEW := Lib.hid (fun (k : Nat) (v : UInt8) (hv : b[k]? = some v) => show new[k]? = some (⟨a + k, v, a, e⟩ : CeR) from by rw [hnew, he, hBs]; exact segC_get hv)
  have HNL := Lib.hid (show new.length = B.size by rw [hnew, segC_len, hBs])
  have HII := Lib.hid (InsI.start (pol := pol) (new := new) (a := a) hsrt)
  have HBB := Lib.hid (And.intro hB hBs)
  have HNN := Lib.hid hn
  have HAA := Lib.hid hA
  have HR9 := Lib.hid hR
  have HBQ := Lib.hid (show B.size ≠ 0 by intro q; rw [hBs] at q; exact q0 (List.length_eq_zero_iff.1 q))
  have hB5 : B.size ≤ 10000 := by omega
  obtain ⟨N, hN⟩ : ∃ n, n = C.length := ⟨_, rfl⟩
  have HN := Lib.hid hN
  have hN5 : N ≤ 10000 := by omega
  have HOK := Lib.hid (fun (o : Int) (y : CeR) (hy : fndC C o = some y) => show okC y from hok y (fndC_at hy).2)
  have HFIN := Lib.hid (show srtF 0 (insC pol C new) ∧ ∀ y ∈ insC pol C new, okC y by
    rw [hnew]
    exact ⟨(insC_fnd (pol := pol) hsrt ha0 b).1, insC_ok hsrt hok ha0 b ha0 (by omega)⟩)
  clear hR q0 q1 hB hBs hn hA h hl hv hz hb hfit hsrt hC hCl hok he hnew hN
  go_enter Try.func16, Try.ntmps16
  go_upto_region 1 with fail
  rw [← HW0.out, ← HGP.out]
  clear HW0 HGP
  have p0 := (Cells.cell HP0.out 0).trans (show _ = some (Value.int .i64 a) from rfl)
  have p1 := (Cells.cell HP0.out 1).trans (show _ = some (Value.string B) from rfl)
  have p2 := (Cells.cell HP0.out 2).trans (show _ = some (Value.int .i64 pf) from rfl)
  have p3 := (Cells.cell HP0.out 3).trans (show _ = some (Value.int .i64 pt) from rfl)
  go_wp2_with fail
  refine HCL.out.mono ?_
  rintro e9 w1 ⟨A1, c1, rfl, ho1, hb1⟩
  have HR1 := Lib.hid (And.intro ho1.row (show (A1 = none → c1 = 0) ∧ N ≤ c1 from ⟨ho1.none0, by rw [HN.out]; exact (own_cap ho1.2).1⟩))
  have HP1 := Lib.hid (HP0.out.kept hb1 HP0.out.lt)
  have HB1 := Lib.hid (HB0.out.trans (hb1.mono HB0.out.size))
  have HRL1 := Lib.hid (HRL.out.kept hb1)
  rw [← HN.out]
  clear ho1 hb1 HP0 HB0 HRL HCL p0 p1 p2 p3
  have p0 := (Cells.cell HP1.out 0).trans (show _ = some (Value.int .i64 a) from rfl)
  have p1 := (Cells.cell HP1.out 1).trans (show _ = some (Value.string B) from rfl)
  have p2 := (Cells.cell HP1.out 2).trans (show _ = some (Value.int .i64 pf) from rfl)
  have p3 := (Cells.cell HP1.out 3).trans (show _ = some (Value.int .i64 pt) from rfl)
  go_upto_region 7 with fail
  obtain ⟨W2, hW2⟩ : ∃ W, W = w1.alloc (.cells #[.int .i64 a, .string B, .int .i64 a, .int .i64 e] 23) := ⟨_, rfl⟩
  obtain ⟨gn, hgn⟩ : ∃ g, g = w1.heap.size := ⟨_, rfl⟩
  have hb2 : Below w1.heap.size w1 W2 := by rw [hW2]; exact below_alloc6 w1 _
  have HP2 := Lib.hid (HP1.out.kept hb2 HP1.out.lt)
  have HN2 := Lib.hid (show Cells W2 gn 23 #[.int .i64 a, .string B, .int .i64 a, .int .i64 e] by rw [hW2, hgn]; exact heap_alloc_new w1 _)
  have HB2 := Lib.hid (HB1.out.trans (hb2.mono HB1.out.size))
  have HR2 := Lib.hid (show RowL ECe W2 A1 C from HR1.out.1.kept hb2)
  have HR2n := Lib.hid (show (A1 = none → c1 = 0) ∧ N ≤ c1 from HR1.out.2)
  have HRL2 := Lib.hid (HRL1.out.kept hb2)
  rw [← hW2, ← hgn]
  clear hW2 hgn hb2 HP1 HB1 HR1 HRL1 p0 p1 p2 p3
  go_wp2_with fail
  go_loopw [11, 12, 13, 14] (fun v11 v12 v13 v14 wr => ∃ (k th df m c2 : Nat) (A2 : Option Addr) (out : List CeR), v11 = .int .i64 (th : Int) ∧ v12 = .int .i64 (df : Int) ∧ v13 = .slice A2 m c2 ∧ v14 = .int .i64 (k : Int) ∧ k ≤ B.size ∧ th ≤ k ∧ df ≤ k ∧ m ≤ N + k ∧ Hid (InsI pol C new a k out th df) ∧ Hid (RowL ECe wr A2 out) ∧ Hid (m = out.length ∧ (A2 = none → c2 = 0) ∧ m ≤ c2) ∧ Hid (Cells wr gp 23 #[.int .i64 a, .string B, .int .i64 pf, .int .i64 pt]) ∧ Hid (Cells wr gn 23 #[.int .i64 a, .string B, .int .i64 a, .int .i64 e]) ∧ Hid (RowL ECe wr A1 C) ∧ Hid (RowL EPc wr A l) ∧ Hid (Below w.heap.size w wr)) (fun _ _ _ v14 _ => B.size - (intOf v14).toNat)
  case atStart => exact ⟨0, 0, 0, N, c1, A1, C, rfl, rfl, rfl, rfl, Nat.zero_le _, Nat.zero_le _, Nat.zero_le _, Nat.le_refl _, HII, HR2, Lib.hid ⟨HN.out, HR2n.out.1, HR2n.out.2⟩, HP2, HN2, HR2, HRL2, HB2⟩
  case round =>
    clear HR2 HP2 HN2 HRL2 HB2 HII
    obtain ⟨k, th, df, m, c2, A2, out, rfl, rfl, rfl, rfl, hk, hth, hdf, hm, HI, HO, HO2, HP, HNX, HR, HRL, HB⟩ := hrel
    have hk0 : (0 : Int) ≤ (k : Int) := by omega
    have p0 := (Cells.cell HP.out 0).trans (show _ = some (Value.int .i64 a) from rfl)
    have p1 := (Cells.cell HP.out 1).trans (show _ = some (Value.string B) from rfl)
    have p2 := (Cells.cell HP.out 2).trans (show _ = some (Value.int .i64 pf) from rfl)
    have p3 := (Cells.cell HP.out 3).trans (show _ = some (Value.int .i64 pt) from rfl)
    by_cases hlt : k < B.size
    · have hki : (k : Int) < (B.size : Int) := by omega
      have dlt : decide ((k : Int) < (B.size : Int)) = true := by simp; omega
      obtain ⟨v, hv⟩ : ∃ v, b[k]? = some v := ⟨b[k]'(by have := HBB.out.2; omega), List.getElem?_eq_getElem _⟩
      obtain ⟨xv, hxv⟩ : ∃ x, x = (B[k]'hlt).toNat := ⟨_, rfl⟩
      have hxvv : xv = v.toNat := by
        rw [hxv]
        obtain ⟨hk', e⟩ := List.getElem?_eq_some_iff.1 hv
        rw [← e]
        exact s15_at HBB.out.1 k hlt hk'
      obtain ⟨xa, hxa⟩ : ∃ z, z = a + (k : Int) := ⟨_, rfl⟩
      have kxa : a + (k : Int) = xa := hxa.symm
      have wxa : IntKind.i64.wrap xa = xa := by rw [IntKind.wrap_i64]; omega
      have HIN := Lib.hid (HI.out.next (x := ⟨xa, v, a, e⟩) (by rw [hxa]; exact HNEW.out k v hv) hxa ha0)
      have HFO := Lib.hid (show fndC out xa = fndC C xa from HI.out.far xa (by omega))
      have HX := Lib.hid hxv
      have HXV := Lib.hid hxvv
      have hxa0 : 0 ≤ xa := by omega
      have hxa1 : xa ≤ 4294967296 := by omega
      clear hv hxv hxvv hxa HI
      go_upto_region 12 with fail
      clear p0 p1 p2 p3
      refine wp_region_specs_tail 14 [.val (Value.pointer (some ⟨gp, 0, none⟩)), .val (Value.int .i64 a), .val (Value.int .i64 (k : Int)), .val (Value.int .i64 xa), .val (Value.pointer (some ⟨gp, 1, none⟩)), .val (Value.string B), .val (Value.int .i64 (k : Int)), .val (Value.int .u8 (xv : Int)), .val (Value.pointer (some ⟨gn, 2, none⟩)), .val (Value.int .i64 a), .val (Value.pointer (some ⟨gn, 3, none⟩)), .val (Value.int .i64 e), .val (Value.agg #[.int .i64 xa, .int .u8 (xv : Int), .int .i64 a, .int .i64 e]), .box #[.int .i64 0, .int .u8 0, .int .i64 0, .int .i64 0] 51] (by kernel_rfl) (by kernel_rfl) (by kernel_rfl) (by kernel_rfl) (by kernel_rfl) (by kernel_rfl) (by kernel_rfl) (by kernel_rfl) ?_ ?_
      · refine ⟨⟨rfl, ?_⟩, ⟨rfl, ?_⟩, ⟨rfl, ?_⟩, ⟨rfl, ?_⟩, ⟨rfl, ?_⟩, ⟨rfl, ?_⟩, ⟨rfl, ?_⟩, ⟨rfl, ?_⟩, ⟨rfl, ?_⟩, ⟨rfl, ?_⟩, ⟨rfl, ?_⟩, ⟨rfl, ?_⟩, ⟨rfl, ?_⟩, ⟨rfl, ?_⟩, trivial⟩
        · intro ac W hbW hk K hK
          have e4 := kvalT hk 4 (Value.pointer (some ⟨gp, 0, none⟩)) (by kernel_rfl)
          clear hk
          go_simp
          exact ⟨_, rfl, hK _ _ rfl (Below.refl _ _)⟩
        · intro ac W hbW hk K hK
          have e63 := kvalT hk 63 (Value.pointer (some ⟨gp, 0, none⟩)) (by kernel_rfl)
          clear hk
          have y0 := ((Cells.kept HP.out hbW HP.out.lt).cell 0).trans (show _ = some (Value.int .i64 a) from rfl)
          go_simp
          exact ⟨_, rfl, hK _ _ rfl (Below.refl _ _)⟩
        · intro ac W hbW hk K hK
          have e14 := kvalT hk 14 (Value.int .i64 (k : Int)) (by kernel_rfl)
          clear hk
          go_simp
          exact ⟨_, rfl, hK _ _ rfl (Below.refl _ _)⟩
        · intro ac W hbW hk K hK
          have e64 := kvalT hk 64 (Value.int .i64 a) (by kernel_rfl)
          have e65 := kvalT hk 65 (Value.int .i64 (k : Int)) (by kernel_rfl)
          clear hk
          go_simp
          exact ⟨_, rfl, hK _ _ rfl (Below.refl _ _)⟩
        · intro ac W hbW hk K hK
          have e4 := kvalT hk 4 (Value.pointer (some ⟨gp, 0, none⟩)) (by kernel_rfl)
          clear hk
          go_simp
          exact ⟨_, rfl, hK _ _ rfl (Below.refl _ _)⟩
        · intro ac W hbW hk K hK
          have e67 := kvalT hk 67 (Value.pointer (some ⟨gp, 1, none⟩)) (by kernel_rfl)
          clear hk
          have y1 := ((Cells.kept HP.out hbW HP.out.lt).cell 1).trans (show _ = some (Value.string B) from rfl)
          go_simp
          exact ⟨_, rfl, hK _ _ rfl (Below.refl _ _)⟩
        · intro ac W hbW hk K hK
          have e14 := kvalT hk 14 (Value.int .i64 (k : Int)) (by kernel_rfl)
          clear hk
          go_simp
          exact ⟨_, rfl, hK _ _ rfl (Below.refl _ _)⟩
        · intro ac W hbW hk K hK
          have e68 := kvalT hk 68 (Value.string B) (by kernel_rfl)
          have e69 := kvalT hk 69 (Value.int .i64 (k : Int)) (by kernel_rfl)
          clear hk
          rw [HX.out] at hK
          go_simp
          exact ⟨_, rfl, hK _ _ rfl (Below.refl _ _)⟩
        · intro ac W hbW hk K hK
          have e10 := kvalT hk 10 (Value.pointer (some ⟨gn, 0, none⟩)) (by kernel_rfl)
          clear hk
          go_simp
          exact ⟨_, rfl, hK _ _ rfl (Below.refl _ _)⟩
        · intro ac W hbW hk K hK
          have e71 := kvalT hk 71 (Value.pointer (some ⟨gn, 2, none⟩)) (by kernel_rfl)
          clear hk
          have y2 := ((Cells.kept HNX.out hbW HNX.out.lt).cell 2).trans (show _ = some (Value.int .i64 a) from rfl)
          go_simp
          exact ⟨_, rfl, hK _ _ rfl (Below.refl _ _)⟩
        · intro ac W hbW hk K hK
          have e10 := kvalT hk 10 (Value.pointer (some ⟨gn, 0, none⟩)) (by kernel_rfl)
          clear hk
          go_simp
          exact ⟨_, rfl, hK _ _ rfl (Below.refl _ _)⟩
        · intro ac W hbW hk K hK
          have e73 := kvalT hk 73 (Value.pointer (some ⟨gn, 3, none⟩)) (by kernel_rfl)
          clear hk
          have y3 := ((Cells.kept HNX.out hbW HNX.out.lt).cell 3).trans (show _ = some (Value.int .i64 e) from rfl)
          go_simp
          exact ⟨_, rfl, hK _ _ rfl (Below.refl _ _)⟩
        · intro ac W hbW hk K hK
          have e66 := kvalT hk 66 (Value.int .i64 xa) (by kernel_rfl)
          have e70 := kvalT hk 70 (Value.int .u8 (xv : Int)) (by kernel_rfl)
          have e72 := kvalT hk 72 (Value.int .i64 a) (by kernel_rfl)
          have e74 := kvalT hk 74 (Value.int .i64 e) (by kernel_rfl)
          clear hk
          go_simp
          exact ⟨_, rfl, hK _ _ rfl (Below.refl _ _)⟩
        · intro ac W hbW hk K hK
          clear hk
          go_simp
          exact ⟨_, rfl, hK _ _ ⟨W.heap.size, rfl, hbW.size, heap_alloc_new W _⟩ (below_alloc6 W _)⟩
      · intro W9 hb9
        simp only [List.take_succ_cons, List.take_zero, List.drop_succ_cons, List.drop_zero, endT]
        intro gx hgx hcx
        have HC0 := Lib.hid (show Cells W9 gx 51 #[.int .i64 0, .int .u8 0, .int .i64 0, .int .i64 0] from hcx)
        have x0 := (Cells.cell HC0.out 0).trans (show _ = some (Value.int .i64 0) from rfl)
        have zx0 := Cells.frozen HC0.out 0
        have x1 := (Cells.cell HC0.out 1).trans (show _ = some (Value.int .u8 0) from rfl)
        have zx1 := Cells.frozen HC0.out 1
        have x2 := (Cells.cell HC0.out 2).trans (show _ = some (Value.int .i64 0) from rfl)
        have zx2 := Cells.frozen HC0.out 2
        have x3 := (Cells.cell HC0.out 3).trans (show _ = some (Value.int .i64 0) from rfl)
        have zx3 := Cells.frozen HC0.out 3
        have hgl := HC0.out.lt
        go_upto_region 13 with fail
        have HXC := Lib.hid (show Cells ((((W9.setCell ⟨gx, 0, none⟩ (.int .i64 xa)).setCell ⟨gx, 1, none⟩ (.int .u8 (xv : Int))).setCell ⟨gx, 2, none⟩ (.int .i64 a)).setCell ⟨gx, 3, none⟩ (.int .i64 e)) gx 51 #[.int .i64 xa, .int .u8 (xv : Int), .int .i64 a, .int .i64 e] from HC0.out.put [.int .i64 xa, .int .u8 (xv : Int), .int .i64 a, .int .i64 e] rfl)
        have hbV : Below wr.heap.size wr ((((W9.setCell ⟨gx, 0, none⟩ (.int .i64 xa)).setCell ⟨gx, 1, none⟩ (.int .u8 (xv : Int))).setCell ⟨gx, 2, none⟩ (.int .i64 a)).setCell ⟨gx, 3, none⟩ (.int .i64 e)) := putB_below hgx [.int .i64 xa, .int .u8 (xv : Int), .int .i64 a, .int .i64 e] 0 _ hb9
        clear hcx hgx hb9 HC0 x0 x1 x2 x3 zx0 zx1 zx2 zx3 hgl
        generalize (((W9.setCell ⟨gx, 0, none⟩ (.int .i64 xa)).setCell ⟨gx, 1, none⟩ (.int .u8 (xv : Int))).setCell ⟨gx, 2, none⟩ (.int .i64 a)).setCell ⟨gx, 3, none⟩ (.int .i64 e) = V at *
        have HPz := Lib.hid (Cells.kept HP.out hbV HP.out.lt)
        have HNXz := Lib.hid (Cells.kept HNX.out hbV HNX.out.lt)
        have HRz := Lib.hid (HR.out.kept hbV)
        have HRLz := Lib.hid (HRL.out.kept hbV)
        have HOz := Lib.hid (HO.out.kept hbV)
        have HBz := Lib.hid (HB.out.trans (hbV.mono HB.out.size))
        clear hbV HP HNX HR HRL HO HB
        have HP := HPz
        clear HPz
        have HNX := HNXz
        clear HNXz
        have HR := HRz
        clear HRz
        have HRL := HRLz
        clear HRLz
        have HO := HOz
        clear HOz
        have HB := HBz
        clear HBz
        have hat := fun (W : World) (hb : Below V.heap.size V W) => show Calls Try.prog 33 #[.slice A1 N c1, .int .i64 xa] W fun e w' => e = .returned (.int .i64 (idxC C xa)) ∧ W = w' from by rw [HN.out]; exact rat15_any C A1 c1 xa W (HR.out.kept hb) (by rw [← HN.out]; omega)
        have x0 := (Cells.cell HXC.out 0).trans (show _ = some (Value.int .i64 xa) from rfl)
        cases hy : fndC C xa with
        | none =>
          rw [idx_none hy] at hat
          have HAT := Lib.hid hat
          have HIZ := Lib.hid (show InsI pol C new a (k + 1) (putC ⟨xa, v, a, e⟩ out) th df from by
            have := HIN.out
            unfold stepC at this
            rw [show (CeR.mk xa v a e).at_ = xa from rfl, hy] at this
            exact this)
          have HPU := Lib.hid (show Calls Try.prog 34 #[.slice A2 m c2, .agg #[.int .i64 xa, .int .u8 (xv : Int), .int .i64 a, .int .i64 e]] V (CesP V (putC ⟨xa, v, a, e⟩ out)) from by
            rw [HO2.out.1, HXV.out]
            exact rput15_any out A2 c2 xa v a e V HO.out (by rw [← HO2.out.1]; omega))
          have dm1 : decide ((-1 : Int) < 0) = true := by decide
          clear hat hy HIN HFO
          go_wp2_with fail
          refine (HAT.out _ (Below.refl _ _)).mono ?_
          rintro e9 w5 ⟨rfl, rfl⟩
          clear HAT x0
          have x0 := (Cells.cell HXC.out 0).trans (show _ = some (Value.int .i64 xa) from rfl)
          have x1 := (Cells.cell HXC.out 1).trans (show _ = some (Value.int .u8 (xv : Int)) from rfl)
          have x2 := (Cells.cell HXC.out 2).trans (show _ = some (Value.int .i64 a) from rfl)
          have x3 := (Cells.cell HXC.out 3).trans (show _ = some (Value.int .i64 e) from rfl)
          go_wp2_with fail
          refine HPU.out.mono ?_
          rintro e9 w6 ⟨A6, c6, rfl, ho6, hb6⟩
          have HL6 := Lib.hid (show (putC ⟨xa, v, a, e⟩ out).length = m + 1 by rw [putC_len, HO2.out.1])
          have HO6 := Lib.hid ho6
          rw [HL6.out]
          clear ho6 x0 x1 x2 x3 HO HO2 HPU
          have HPz := Lib.hid (Cells.kept HP.out hb6 HP.out.lt)
          have HNXz := Lib.hid (Cells.kept HNX.out hb6 HNX.out.lt)
          have HRz := Lib.hid (HR.out.kept hb6)
          have HRLz := Lib.hid (HRL.out.kept hb6)
          have HBz := Lib.hid (HB.out.trans (hb6.mono HB.out.size))
          clear hb6 HP HNX HR HRL HB
          have HP := HPz
          clear HPz
          have HNX := HNXz
          clear HNXz
          have HR := HRz
          clear HRz
          have HRL := HRLz
          clear HRLz
          have HB := HBz
          clear HBz
          have HO := Lib.hid HO6.out.row
          have HO2 := Lib.hid (show m + 1 = (putC ⟨xa, v, a, e⟩ out).length ∧ (A6 = none → c6 = 0) ∧ m + 1 ≤ c6 from ⟨HL6.out.symm, HO6.out.none0, by have := (own_cap HO6.out.2).1; rw [HL6.out] at this; exact this⟩)
          clear HO6 HL6 HXC
          go_wp2_with fail
          go_roundw
          case rel => exact ⟨k + 1, th, df, m + 1, c6, A6, putC ⟨xa, v, a, e⟩ out, rfl, rfl, rfl, by go_num, by omega, by omega, by omega, by omega, HIZ, HO, HO2, HP, HNX, HR, HRL, HB⟩
          case measure => simp [intOf]; omega
        | some y =>
          obtain ⟨jj, hj1, hj2, hj3⟩ := idx_some hy
          rw [hj1] at hat
          have HAT := Lib.hid hat
          have HIZ := Lib.hid (show InsI pol C new a (k + 1) (if winsB pol y.fr y.to_ a e = true then setC ⟨xa, v, a, e⟩ out else out) (th + 1) (df + if (y.c != v) = true then 1 else 0) from by
            have := HIN.out
            unfold stepC at this
            rw [show (CeR.mk xa v a e).at_ = xa from rfl, hy] at this
            exact this)
          have HFY := Lib.hid (show fndC out xa = some y by rw [HFO.out, hy])
          obtain ⟨ga, oa, rfl, hga⟩ := HR.out.shapeA (by omega)
          have hjN : jj < N := by rw [HN.out]; exact hj3
          have hjNi : (jj : Int) < (N : Int) := by omega
          have hjj0 : (0 : Int) ≤ (jj : Int) := by omega
          have djj : decide ((jj : Int) < 0) = false := by simp
          have njj : ¬ (jj : Int) < 0 := by omega
          obtain ⟨ya, yc, yf, yt⟩ := y
          dsimp only at HIZ
          have HJ2 := Lib.hid hj2
          obtain ⟨th1, hth1⟩ : ∃ z, z = th + 1 := ⟨_, rfl⟩
          have kth : (th : Int) + 1 = (th1 : Int) := by omega
          obtain ⟨bn, hbn⟩ : ∃ z, z = (yc != v) := ⟨_, rfl⟩
          rw [← hbn, ← hth1] at HIZ
          have hbni : ((yc.toNat : Int) != (xv : Int)) = bn := by
            rw [hbn, HXV.out]
            by_cases q : yc = v
            · subst q; simp
            · have : yc.toNat ≠ v.toNat := fun e => q (UInt8.toNat.inj e)
              rw [show (yc != v) = true by simpa using q, bne_iff_ne]
              omega
          obtain ⟨bw, hbw⟩ : ∃ z, z = winsB pol yf yt a e := ⟨_, rfl⟩
          rw [← hbw] at HIZ
          have HWI := Lib.hid (fun (W : World) => show Calls Try.prog 11 #[.int .i64 pol, .agg #[.int .i64 0, .string ⟨#[]⟩, .int .i64 yf, .int .i64 yt], .agg #[.int .i64 a, .string B, .int .i64 a, .int .i64 e]] W fun e w' => e = .returned (.bool bw) ∧ Below W.heap.size W w' from by rw [hbw]; exact rwins15_any pol 0 yf yt a a e ⟨#[]⟩ B W)
          have hth1l : th1 ≤ k + 1 := by omega
          clear hat hy HIN HFO hj1 hj2 hj3 hbn hbw hga hth1
          go_wp2_with fail
          refine (HAT.out _ (Below.refl _ _)).mono ?_
          rintro e9 w5 ⟨rfl, rfl⟩
          clear HAT x0
          go_upto_region 17 with fail
          cases bn with
          | true =>
            refine wp_region_pick (fun w' => Below V.heap.size V w') (by kernel_rfl) (by kernel_rfl) (Below.refl _ _) ⟨rfl, rfl, rfl, Nat.le_refl _, fun _ _ => rfl⟩ (fun pw hp hq => ?_)
            have y1 : ∀ u, (pw u).cell? ⟨ga, oa + jj * 4 + 1, none⟩ = some (.int .u8 (yc.toNat : Int)) := fun u => (ce_at HR.out HJ2.out (hp u)).2.1
            have y2 : ∀ u, (pw u).cell? ⟨ga, oa + jj * 4 + 2, none⟩ = some (.int .i64 yf) := fun u => (ce_at HR.out HJ2.out (hp u)).2.2.1
            have y3 : ∀ u, (pw u).cell? ⟨ga, oa + jj * 4 + 3, none⟩ = some (.int .i64 yt) := fun u => (ce_at HR.out HJ2.out (hp u)).2.2.2
            have z1 : ∀ u, (pw u).cell? ⟨gx, 1, none⟩ = some (.int .u8 (xv : Int)) := fun u => ((Cells.kept HXC.out (hp u) HXC.out.lt).cell 1).trans (show _ = some (Value.int .u8 (xv : Int)) from rfl)
            have HPK := Lib.hid hp
            have HQK := Lib.hid hq
            clear hp hq
            repeat (go_big_quiet_step (fail))
            refine wpQuiet_nil ?_
            rintro _ ⟨u, rfl⟩
            have hbu := HPK.out u
            generalize pw u = V2 at *
            clear HPK HQK y1 y2 y3 z1
            have HPz := Lib.hid (Cells.kept HP.out hbu HP.out.lt)
            have HNXz := Lib.hid (Cells.kept HNX.out hbu HNX.out.lt)
            have HRz := Lib.hid (HR.out.kept hbu)
            have HRLz := Lib.hid (HRL.out.kept hbu)
            have HOz := Lib.hid (HO.out.kept hbu)
            have HBz := Lib.hid (HB.out.trans (hbu.mono HB.out.size))
            have HXCz := Lib.hid (Cells.kept HXC.out hbu HXC.out.lt)
            clear hbu HP HNX HR HRL HO HB HXC
            have HP := HPz
            clear HPz
            have HNX := HNXz
            clear HNXz
            have HR := HRz
            clear HRz
            have HRL := HRLz
            clear HRLz
            have HO := HOz
            clear HOz
            have HB := HBz
            clear HBz
            have HXC := HXCz
            clear HXCz
            go_upto_region 19 with fail
            cases bw with
            | true =>
              refine wp_region_pick (fun w' => Below V2.heap.size V2 w') (by kernel_rfl) (by kernel_rfl) (Below.refl _ _) ⟨rfl, rfl, rfl, Nat.le_refl _, fun _ _ => rfl⟩ (fun pw hp hq => ?_)
              have y1 : ∀ u, (pw u).cell? ⟨ga, oa + jj * 4 + 1, none⟩ = some (.int .u8 (yc.toNat : Int)) := fun u => (ce_at HR.out HJ2.out (hp u)).2.1
              have y2 : ∀ u, (pw u).cell? ⟨ga, oa + jj * 4 + 2, none⟩ = some (.int .i64 yf) := fun u => (ce_at HR.out HJ2.out (hp u)).2.2.1
              have y3 : ∀ u, (pw u).cell? ⟨ga, oa + jj * 4 + 3, none⟩ = some (.int .i64 yt) := fun u => (ce_at HR.out HJ2.out (hp u)).2.2.2
              have n0 : ∀ u, (pw u).cell? ⟨gn, 0, none⟩ = some (Value.int .i64 a) := fun u => ((Cells.kept HNX.out (hp u) HNX.out.lt).cell 0).trans (show _ = some (Value.int .i64 a) from rfl)
              have n1 : ∀ u, (pw u).cell? ⟨gn, 1, none⟩ = some (Value.string B) := fun u => ((Cells.kept HNX.out (hp u) HNX.out.lt).cell 1).trans (show _ = some (Value.string B) from rfl)
              have n2 : ∀ u, (pw u).cell? ⟨gn, 2, none⟩ = some (Value.int .i64 a) := fun u => ((Cells.kept HNX.out (hp u) HNX.out.lt).cell 2).trans (show _ = some (Value.int .i64 a) from rfl)
              have n3 : ∀ u, (pw u).cell? ⟨gn, 3, none⟩ = some (Value.int .i64 e) := fun u => ((Cells.kept HNX.out (hp u) HNX.out.lt).cell 3).trans (show _ = some (Value.int .i64 e) from rfl)
              have HPK := Lib.hid hp
              have HQK := Lib.hid hq
              clear hp hq
              repeat (go_big_quiet_step (with_reducible exact Calls.pick_of HQK.out (fun W' hb => (HPK.out _).trans (hb.mono (HPK.out _).size)) (HWI.out _)))
              refine wpQuiet_nil ?_
              rintro _ ⟨u, rfl⟩
              have hbu := HPK.out u
              generalize pw u = V3 at *
              clear HPK HQK y1 y2 y3 n0 n1 n2 n3
              have HPz := Lib.hid (Cells.kept HP.out hbu HP.out.lt)
              have HNXz := Lib.hid (Cells.kept HNX.out hbu HNX.out.lt)
              have HRz := Lib.hid (HR.out.kept hbu)
              have HRLz := Lib.hid (HRL.out.kept hbu)
              have HOz := Lib.hid (HO.out.kept hbu)
              have HBz := Lib.hid (HB.out.trans (hbu.mono HB.out.size))
              have HXCz := Lib.hid (Cells.kept HXC.out hbu HXC.out.lt)
              clear hbu HP HNX HR HRL HO HB HXC
              have HP := HPz
              clear HPz
              have HNX := HNXz
              clear HNXz
              have HR := HRz
              clear HRz
              have HRL := HRLz
              clear HRLz
              have HO := HOz
              clear HOz
              have HB := HBz
              clear HBz
              have HXC := HXCz
              clear HXCz
              have HIY := Lib.hid (show InsI pol C new a (k + 1) (setC ⟨xa, v, a, e⟩ out) th1 (df + 1) from HIZ.out)
              clear HIZ
              have x0 := (Cells.cell HXC.out 0).trans (show _ = some (Value.int .i64 xa) from rfl)
              obtain ⟨j, hj1, hj2, hj3⟩ := idx_some HFY.out
              have hjm : j < m := by rw [HO2.out.1]; exact hj3
              have HAO := Lib.hid (show Calls Try.prog 33 #[.slice A2 m c2, .int .i64 xa] V3 fun e w' => e = .returned (.int .i64 (j : Int)) ∧ V3 = w' from by rw [HO2.out.1, ← hj1]; exact rat15_any out A2 c2 xa V3 HO.out (by rw [← HO2.out.1]; omega))
              have HSC := Lib.hid (show setC ⟨xa, v, a, e⟩ out = out.take j ++ ⟨xa, v, a, e⟩ :: out.drop (j + 1) from setC_at (x := ⟨xa, v, a, e⟩) hj1 hj2)
              clear hj1 hj2 hj3 HFY HWI
              obtain ⟨go, oo, rfl, hgo⟩ := HO.out.shapeA (by rw [← HO2.out.1]; omega)
              clear hgo
              obtain ⟨bs, hbs⟩ : ∃ z, z = V3.heap.size := ⟨_, rfl⟩
              have HBS := Lib.hid hbs
              clear hbs
              obtain ⟨j1, hj1⟩ : ∃ z, z = j + 1 := ⟨_, rfl⟩
              have kj1 : (j : Int) + 1 = (j1 : Int) := by omega
              have hjm1 : j1 ≤ m := by omega
              have hjmi : (j : Int) ≤ (m : Int) := by omega
              have hjmi1 : (j1 : Int) ≤ (m : Int) := by omega
              have hj0 : (0 : Int) ≤ (j : Int) := by omega
              have hj10 : (0 : Int) ≤ (j1 : Int) := by omega
              have hmc : m ≤ c2 := HO2.out.2.2
              have hmci : (m : Int) ≤ (c2 : Int) := by omega
              have hjci : (j : Int) ≤ (c2 : Int) := by omega
              have HJ1 := Lib.hid hj1
              clear hj1
              go_wp2_with fail
              refine HAO.out.mono ?_
              rintro e9 w7 ⟨rfl, rfl⟩
              clear x0 HAO
              go_wp2_with (at_builtin; refine wpList_cat (E := ECe) ceTy (by rfl) _ _ (by rfl) bs (.slice none 0 0) 0 [] (out.take j) (by rfl) (World.ownsRow_nil _ _ _ _) (some ⟨go, oo, none⟩) j c2 (by rfl) (by rw [List.length_take, ← HO2.out.1]; omega) (fun e => by cases e) (row_take15 HO.out j) (by omega) (by decide) (by rw [HBS.out]; exact Nat.le_refl _) ?_)
              intro A7 c7 w8 hown hgrow
              have hb8 : Below bs V3 w8 := by rw [HBS.out]; exact (Below.refl _ V3).grown hgrow (Nat.le_refl _) (fun j hj => by cases hj)
              have HC := Lib.hid (show OwnE ECe 51 w8 bs A7 j c7 (out.take j) from ⟨by rw [List.length_take, ← HO2.out.1]; omega, hown⟩)
              have hs8 : bs ≤ w8.heap.size := by rw [HBS.out]; exact hb8.size
              have HX8 := Lib.hid (show Cells w8 gx 51 #[.int .i64 xa, .int .u8 (xv : Int), .int .i64 a, .int .i64 e] from Cells.kept HXC.out hb8 (by rw [HBS.out]; exact HXC.out.lt))
              have H8 := Lib.hid hb8
              clear hown hgrow hb8
              have x0 := (Cells.cell HX8.out 0).trans (show _ = some (Value.int .i64 xa) from rfl)
              have x1 := (Cells.cell HX8.out 1).trans (show _ = some (Value.int .u8 (xv : Int)) from rfl)
              have x2 := (Cells.cell HX8.out 2).trans (show _ = some (Value.int .i64 a) from rfl)
              have x3 := (Cells.cell HX8.out 3).trans (show _ = some (Value.int .i64 e) from rfl)
              go_wp2_with (at_builtin; refine wpList_push (E := ECe) ceTy (by rfl) _ _ (by rfl) bs _ j (out.take j) [⟨xa, v, a, e⟩] (by rfl) (HC.out.al _).2 _ 1 1 #[.int .i64 xa, .int .u8 (xv : Int), .int .i64 a, .int .i64 e] (0, 0) (by rfl) (heap_alloc_new w8 _) (by rw [HXV.out]; rfl) rfl (by omega) (by omega) (by decide) ?hb ?_)
              case hb => first | (simp; omega) | omega | exact Nat.le_trans hs8 (by simp)
              intro g9 c9 w9 hown hgrow hat hlt9
              have HC9 := Lib.hid (HC.out.push (ys := [⟨xa, v, a, e⟩]) rfl hown)
              have H9 := Lib.hid (HC.out.below H8.out hs8 (Nat.le_refl _) hgrow)
              clear hown hgrow hat hlt9 HC H8 HX8 hs8 x0 x1 x2 x3
              have hs9 : bs ≤ w9.heap.size := by have := H9.out.size; have := HBS.out; omega
              have HO9 := Lib.hid (show RowL ECe w9 (some ⟨go, oo, none⟩) out from HO.out.kept (by rw [← HBS.out]; exact H9.out))
              have hcs : (c2 = j1 ∧ m = j1) ∨ c2 ≠ j1 := by omega
              rcases hcs with ⟨hc, hm2⟩ | hc
              · have hdn : out.drop j1 = [] := List.drop_eq_nil_of_le (by rw [← HO2.out.1]; omega)
                have hcj : (c2 == j1) = true := by simpa using hc
                go_wp2_with (at_builtin; refine wpList_cat (E := ECe) ceTy (by rfl) _ _ (by rfl) bs _ (j + 1) (out.take j ++ [⟨xa, v, a, e⟩]) (out.drop j1) (by rfl) HC9.out.2 _ _ _ (by rfl) (by rw [hdn]; rfl) (fun e => by cases e) (by rw [hdn]; exact RowL.nil _ _) (by omega) (by decide) hs9 ?_)
                intro A10 c10 w10 hown hgrow
                have hnm : j + 1 = m := by have := HJ1.out; omega
                have HC10 := Lib.hid (show OwnE ECe 51 w10 bs A10 (j + 1) c10 (setC ⟨xa, v, a, e⟩ out) from ⟨by rw [setC_len, ← HO2.out.1]; exact hnm, by
                  have h8 := HSC.out
                  rw [← HJ1.out] at h8
                  rw [h8, hdn]
                  exact hown⟩)
                have H10 := Lib.hid (show Below V3.heap.size V3 w10 from by have := HC9.out.below0 H9.out hs9 (Nat.le_refl _) hgrow; rwa [HBS.out] at this)
                clear hown hgrow HC9 H9 HO9 hs9 HO HXC
                have hb10 := H10.out
                clear H10
                have HPz := Lib.hid (Cells.kept HP.out hb10 HP.out.lt)
                have HNXz := Lib.hid (Cells.kept HNX.out hb10 HNX.out.lt)
                have HRz := Lib.hid (HR.out.kept hb10)
                have HRLz := Lib.hid (HRL.out.kept hb10)
                have HBz := Lib.hid (HB.out.trans (hb10.mono HB.out.size))
                clear hb10 HP HNX HR HRL HB
                have HP := HPz
                clear HPz
                have HNX := HNXz
                clear HNXz
                have HR := HRz
                clear HRz
                have HRL := HRLz
                clear HRLz
                have HB := HBz
                clear HBz
                have HO := Lib.hid HC10.out.row
                have HO2z := Lib.hid (show j + 1 = (setC ⟨xa, v, a, e⟩ out).length ∧ (A10 = none → c10 = 0) ∧ j + 1 ≤ c10 from ⟨HC10.out.1, HC10.out.none0, (own_cap HC10.out.2).1⟩)
                clear HC10
                go_wp2_with fail
                go_roundw
                case rel => exact ⟨k + 1, th1, df + 1, j + 1, c10, A10, setC ⟨xa, v, a, e⟩ out, rfl, by go_num, rfl, by go_num, by omega, by omega, by omega, by omega, HIY, HO, HO2z, HP, HNX, HR, HRL, HB⟩
                case measure => simp [intOf]; omega
              · have hcj : (c2 == j1) = false := by simpa using hc
                go_wp2_with (at_builtin; refine wpList_cat (E := ECe) ceTy (by rfl) _ _ (by rfl) bs _ (j + 1) (out.take j ++ [⟨xa, v, a, e⟩]) (out.drop j1) (by rfl) HC9.out.2 _ _ _ (by rfl) (by rw [List.length_drop, ← HO2.out.1]) (fun e => by cases e) (row_drop15 HO9.out j1) (by omega) (by decide) hs9 ?_)
                intro A10 c10 w10 hown hgrow
                have hnm : j + 1 + (m - j1) = m := by have := HJ1.out; omega
                have HC10 := Lib.hid (show OwnE ECe 51 w10 bs A10 (j + 1 + (m - j1)) c10 (setC ⟨xa, v, a, e⟩ out) from ⟨by rw [setC_len, ← HO2.out.1]; exact hnm, by
                  have h8 := HSC.out
                  rw [← HJ1.out] at h8
                  rw [h8]
                  exact hown⟩)
                have H10 := Lib.hid (show Below V3.heap.size V3 w10 from by have := HC9.out.below0 H9.out hs9 (Nat.le_refl _) hgrow; rwa [HBS.out] at this)
                clear hown hgrow HC9 H9 HO9 hs9 HO HXC
                have hb10 := H10.out
                clear H10
                have HPz := Lib.hid (Cells.kept HP.out hb10 HP.out.lt)
                have HNXz := Lib.hid (Cells.kept HNX.out hb10 HNX.out.lt)
                have HRz := Lib.hid (HR.out.kept hb10)
                have HRLz := Lib.hid (HRL.out.kept hb10)
                have HBz := Lib.hid (HB.out.trans (hb10.mono HB.out.size))
                clear hb10 HP HNX HR HRL HB
                have HP := HPz
                clear HPz
                have HNX := HNXz
                clear HNXz
                have HR := HRz
                clear HRz
                have HRL := HRLz
                clear HRLz
                have HB := HBz
                clear HBz
                have HO := Lib.hid HC10.out.row
                have HO2z := Lib.hid (show j + 1 + (m - j1) = (setC ⟨xa, v, a, e⟩ out).length ∧ (A10 = none → c10 = 0) ∧ j + 1 + (m - j1) ≤ c10 from ⟨HC10.out.1, HC10.out.none0, (own_cap HC10.out.2).1⟩)
                clear HC10
                go_wp2_with fail
                go_roundw
                case rel => exact ⟨k + 1, th1, df + 1, j + 1 + (m - j1), c10, A10, setC ⟨xa, v, a, e⟩ out, rfl, by go_num, rfl, by go_num, by omega, by omega, by omega, by omega, HIY, HO, HO2z, HP, HNX, HR, HRL, HB⟩
                case measure => simp [intOf]; omega
            | false =>
              refine wp_region_pick (fun w' => Below V2.heap.size V2 w') (by kernel_rfl) (by kernel_rfl) (Below.refl _ _) ⟨rfl, rfl, rfl, Nat.le_refl _, fun _ _ => rfl⟩ (fun pw hp hq => ?_)
              have y1 : ∀ u, (pw u).cell? ⟨ga, oa + jj * 4 + 1, none⟩ = some (.int .u8 (yc.toNat : Int)) := fun u => (ce_at HR.out HJ2.out (hp u)).2.1
              have y2 : ∀ u, (pw u).cell? ⟨ga, oa + jj * 4 + 2, none⟩ = some (.int .i64 yf) := fun u => (ce_at HR.out HJ2.out (hp u)).2.2.1
              have y3 : ∀ u, (pw u).cell? ⟨ga, oa + jj * 4 + 3, none⟩ = some (.int .i64 yt) := fun u => (ce_at HR.out HJ2.out (hp u)).2.2.2
              have n0 : ∀ u, (pw u).cell? ⟨gn, 0, none⟩ = some (Value.int .i64 a) := fun u => ((Cells.kept HNX.out (hp u) HNX.out.lt).cell 0).trans (show _ = some (Value.int .i64 a) from rfl)
              have n1 : ∀ u, (pw u).cell? ⟨gn, 1, none⟩ = some (Value.string B) := fun u => ((Cells.kept HNX.out (hp u) HNX.out.lt).cell 1).trans (show _ = some (Value.string B) from rfl)
              have n2 : ∀ u, (pw u).cell? ⟨gn, 2, none⟩ = some (Value.int .i64 a) := fun u => ((Cells.kept HNX.out (hp u) HNX.out.lt).cell 2).trans (show _ = some (Value.int .i64 a) from rfl)
              have n3 : ∀ u, (pw u).cell? ⟨gn, 3, none⟩ = some (Value.int .i64 e) := fun u => ((Cells.kept HNX.out (hp u) HNX.out.lt).cell 3).trans (show _ = some (Value.int .i64 e) from rfl)
              have HPK := Lib.hid hp
              have HQK := Lib.hid hq
              clear hp hq
              repeat (go_big_quiet_step (with_reducible exact Calls.pick_of HQK.out (fun W' hb => (HPK.out _).trans (hb.mono (HPK.out _).size)) (HWI.out _)))
              refine wpQuiet_nil ?_
              rintro _ ⟨u, rfl⟩
              have hbu := HPK.out u
              generalize pw u = V3 at *
              clear HPK HQK y1 y2 y3 n0 n1 n2 n3
              have HPz := Lib.hid (Cells.kept HP.out hbu HP.out.lt)
              have HNXz := Lib.hid (Cells.kept HNX.out hbu HNX.out.lt)
              have HRz := Lib.hid (HR.out.kept hbu)
              have HRLz := Lib.hid (HRL.out.kept hbu)
              have HOz := Lib.hid (HO.out.kept hbu)
              have HBz := Lib.hid (HB.out.trans (hbu.mono HB.out.size))
              have HXCz := Lib.hid (Cells.kept HXC.out hbu HXC.out.lt)
              clear hbu HP HNX HR HRL HO HB HXC
              have HP := HPz
              clear HPz
              have HNX := HNXz
              clear HNXz
              have HR := HRz
              clear HRz
              have HRL := HRLz
              clear HRLz
              have HO := HOz
              clear HOz
              have HB := HBz
              clear HBz
              have HXC := HXCz
              clear HXCz
              have HIY := Lib.hid (show InsI pol C new a (k + 1) out th1 (df + 1) from HIZ.out)
              clear HIZ HXC HFY HWI
              go_wp2_with fail
              go_roundw
              case rel => exact ⟨k + 1, th1, df + 1, m, c2, A2, out, rfl, by go_num, rfl, by go_num, by omega, by omega, by omega, by omega, HIY, HO, HO2, HP, HNX, HR, HRL, HB⟩
              case measure => simp [intOf]; omega
          | false =>
            refine wp_region_pick (fun w' => Below V.heap.size V w') (by kernel_rfl) (by kernel_rfl) (Below.refl _ _) ⟨rfl, rfl, rfl, Nat.le_refl _, fun _ _ => rfl⟩ (fun pw hp hq => ?_)
            have y1 : ∀ u, (pw u).cell? ⟨ga, oa + jj * 4 + 1, none⟩ = some (.int .u8 (yc.toNat : Int)) := fun u => (ce_at HR.out HJ2.out (hp u)).2.1
            have y2 : ∀ u, (pw u).cell? ⟨ga, oa + jj * 4 + 2, none⟩ = some (.int .i64 yf) := fun u => (ce_at HR.out HJ2.out (hp u)).2.2.1
            have y3 : ∀ u, (pw u).cell? ⟨ga, oa + jj * 4 + 3, none⟩ = some (.int .i64 yt) := fun u => (ce_at HR.out HJ2.out (hp u)).2.2.2
            have z1 : ∀ u, (pw u).cell? ⟨gx, 1, none⟩ = some (.int .u8 (xv : Int)) := fun u => ((Cells.kept HXC.out (hp u) HXC.out.lt).cell 1).trans (show _ = some (Value.int .u8 (xv : Int)) from rfl)
            have HPK := Lib.hid hp
            have HQK := Lib.hid hq
            clear hp hq
            repeat (go_big_quiet_step (fail))
            refine wpQuiet_nil ?_
            rintro _ ⟨u, rfl⟩
            have hbu := HPK.out u
            generalize pw u = V2 at *
            clear HPK HQK y1 y2 y3 z1
            have HPz := Lib.hid (Cells.kept HP.out hbu HP.out.lt)
            have HNXz := Lib.hid (Cells.kept HNX.out hbu HNX.out.lt)
            have HRz := Lib.hid (HR.out.kept hbu)
            have HRLz := Lib.hid (HRL.out.kept hbu)
            have HOz := Lib.hid (HO.out.kept hbu)
            have HBz := Lib.hid (HB.out.trans (hbu.mono HB.out.size))
            have HXCz := Lib.hid (Cells.kept HXC.out hbu HXC.out.lt)
            clear hbu HP HNX HR HRL HO HB HXC
            have HP := HPz
            clear HPz
            have HNX := HNXz
            clear HNXz
            have HR := HRz
            clear HRz
            have HRL := HRLz
            clear HRLz
            have HO := HOz
            clear HOz
            have HB := HBz
            clear HBz
            have HXC := HXCz
            clear HXCz
            go_upto_region 19 with fail
            cases bw with
            | true =>
              refine wp_region_pick (fun w' => Below V2.heap.size V2 w') (by kernel_rfl) (by kernel_rfl) (Below.refl _ _) ⟨rfl, rfl, rfl, Nat.le_refl _, fun _ _ => rfl⟩ (fun pw hp hq => ?_)
              have y1 : ∀ u, (pw u).cell? ⟨ga, oa + jj * 4 + 1, none⟩ = some (.int .u8 (yc.toNat : Int)) := fun u => (ce_at HR.out HJ2.out (hp u)).2.1
              have y2 : ∀ u, (pw u).cell? ⟨ga, oa + jj * 4 + 2, none⟩ = some (.int .i64 yf) := fun u => (ce_at HR.out HJ2.out (hp u)).2.2.1
              have y3 : ∀ u, (pw u).cell? ⟨ga, oa + jj * 4 + 3, none⟩ = some (.int .i64 yt) := fun u => (ce_at HR.out HJ2.out (hp u)).2.2.2
              have n0 : ∀ u, (pw u).cell? ⟨gn, 0, none⟩ = some (Value.int .i64 a) := fun u => ((Cells.kept HNX.out (hp u) HNX.out.lt).cell 0).trans (show _ = some (Value.int .i64 a) from rfl)
              have n1 : ∀ u, (pw u).cell? ⟨gn, 1, none⟩ = some (Value.string B) := fun u => ((Cells.kept HNX.out (hp u) HNX.out.lt).cell 1).trans (show _ = some (Value.string B) from rfl)
              have n2 : ∀ u, (pw u).cell? ⟨gn, 2, none⟩ = some (Value.int .i64 a) := fun u => ((Cells.kept HNX.out (hp u) HNX.out.lt).cell 2).trans (show _ = some (Value.int .i64 a) from rfl)
              have n3 : ∀ u, (pw u).cell? ⟨gn, 3, none⟩ = some (Value.int .i64 e) := fun u => ((Cells.kept HNX.out (hp u) HNX.out.lt).cell 3).trans (show _ = some (Value.int .i64 e) from rfl)
              have HPK := Lib.hid hp
              have HQK := Lib.hid hq
              clear hp hq
              repeat (go_big_quiet_step (with_reducible exact Calls.pick_of HQK.out (fun W' hb => (HPK.out _).trans (hb.mono (HPK.out _).size)) (HWI.out _)))
              refine wpQuiet_nil ?_
              rintro _ ⟨u, rfl⟩
              have hbu := HPK.out u
              generalize pw u = V3 at *
              clear HPK HQK y1 y2 y3 n0 n1 n2 n3
              have HPz := Lib.hid (Cells.kept HP.out hbu HP.out.lt)
              have HNXz := Lib.hid (Cells.kept HNX.out hbu HNX.out.lt)
              have HRz := Lib.hid (HR.out.kept hbu)
              have HRLz := Lib.hid (HRL.out.kept hbu)
              have HOz := Lib.hid (HO.out.kept hbu)
              have HBz := Lib.hid (HB.out.trans (hbu.mono HB.out.size))
              have HXCz := Lib.hid (Cells.kept HXC.out hbu HXC.out.lt)
              clear hbu HP HNX HR HRL HO HB HXC
              have HP := HPz
              clear HPz
              have HNX := HNXz
              clear HNXz
              have HR := HRz
              clear HRz
              have HRL := HRLz
              clear HRLz
              have HO := HOz
              clear HOz
              have HB := HBz
              clear HBz
              have HXC := HXCz
              clear HXCz
              have HIY := Lib.hid (show InsI pol C new a (k + 1) (setC ⟨xa, v, a, e⟩ out) th1 df from HIZ.out)
              clear HIZ
              have x0 := (Cells.cell HXC.out 0).trans (show _ = some (Value.int .i64 xa) from rfl)
              obtain ⟨j, hj1, hj2, hj3⟩ := idx_some HFY.out
              have hjm : j < m := by rw [HO2.out.1]; exact hj3
              have HAO := Lib.hid (show Calls Try.prog 33 #[.slice A2 m c2, .int .i64 xa] V3 fun e w' => e = .returned (.int .i64 (j : Int)) ∧ V3 = w' from by rw [HO2.out.1, ← hj1]; exact rat15_any out A2 c2 xa V3 HO.out (by rw [← HO2.out.1]; omega))
              have HSC := Lib.hid (show setC ⟨xa, v, a, e⟩ out = out.take j ++ ⟨xa, v, a, e⟩ :: out.drop (j + 1) from setC_at (x := ⟨xa, v, a, e⟩) hj1 hj2)
              clear hj1 hj2 hj3 HFY HWI
              obtain ⟨go, oo, rfl, hgo⟩ := HO.out.shapeA (by rw [← HO2.out.1]; omega)
              clear hgo
              obtain ⟨bs, hbs⟩ : ∃ z, z = V3.heap.size := ⟨_, rfl⟩
              have HBS := Lib.hid hbs
              clear hbs
              obtain ⟨j1, hj1⟩ : ∃ z, z = j + 1 := ⟨_, rfl⟩
              have kj1 : (j : Int) + 1 = (j1 : Int) := by omega
              have hjm1 : j1 ≤ m := by omega
              have hjmi : (j : Int) ≤ (m : Int) := by omega
              have hjmi1 : (j1 : Int) ≤ (m : Int) := by omega
              have hj0 : (0 : Int) ≤ (j : Int) := by omega
              have hj10 : (0 : Int) ≤ (j1 : Int) := by omega
              have hmc : m ≤ c2 := HO2.out.2.2
              have hmci : (m : Int) ≤ (c2 : Int) := by omega
              have hjci : (j : Int) ≤ (c2 : Int) := by omega
              have HJ1 := Lib.hid hj1
              clear hj1
              go_wp2_with fail
              refine HAO.out.mono ?_
              rintro e9 w7 ⟨rfl, rfl⟩
              clear x0 HAO
              go_wp2_with (at_builtin; refine wpList_cat (E := ECe) ceTy (by rfl) _ _ (by rfl) bs (.slice none 0 0) 0 [] (out.take j) (by rfl) (World.ownsRow_nil _ _ _ _) (some ⟨go, oo, none⟩) j c2 (by rfl) (by rw [List.length_take, ← HO2.out.1]; omega) (fun e => by cases e) (row_take15 HO.out j) (by omega) (by decide) (by rw [HBS.out]; exact Nat.le_refl _) ?_)
              intro A7 c7 w8 hown hgrow
              have hb8 : Below bs V3 w8 := by rw [HBS.out]; exact (Below.refl _ V3).grown hgrow (Nat.le_refl _) (fun j hj => by cases hj)
              have HC := Lib.hid (show OwnE ECe 51 w8 bs A7 j c7 (out.take j) from ⟨by rw [List.length_take, ← HO2.out.1]; omega, hown⟩)
              have hs8 : bs ≤ w8.heap.size := by rw [HBS.out]; exact hb8.size
              have HX8 := Lib.hid (show Cells w8 gx 51 #[.int .i64 xa, .int .u8 (xv : Int), .int .i64 a, .int .i64 e] from Cells.kept HXC.out hb8 (by rw [HBS.out]; exact HXC.out.lt))
              have H8 := Lib.hid hb8
              clear hown hgrow hb8
              have x0 := (Cells.cell HX8.out 0).trans (show _ = some (Value.int .i64 xa) from rfl)
              have x1 := (Cells.cell HX8.out 1).trans (show _ = some (Value.int .u8 (xv : Int)) from rfl)
              have x2 := (Cells.cell HX8.out 2).trans (show _ = some (Value.int .i64 a) from rfl)
              have x3 := (Cells.cell HX8.out 3).trans (show _ = some (Value.int .i64 e) from rfl)
              go_wp2_with (at_builtin; refine wpList_push (E := ECe) ceTy (by rfl) _ _ (by rfl) bs _ j (out.take j) [⟨xa, v, a, e⟩] (by rfl) (HC.out.al _).2 _ 1 1 #[.int .i64 xa, .int .u8 (xv : Int), .int .i64 a, .int .i64 e] (0, 0) (by rfl) (heap_alloc_new w8 _) (by rw [HXV.out]; rfl) rfl (by omega) (by omega) (by decide) ?hb ?_)
              case hb => first | (simp; omega) | omega | exact Nat.le_trans hs8 (by simp)
              intro g9 c9 w9 hown hgrow hat hlt9
              have HC9 := Lib.hid (HC.out.push (ys := [⟨xa, v, a, e⟩]) rfl hown)
              have H9 := Lib.hid (HC.out.below H8.out hs8 (Nat.le_refl _) hgrow)
              clear hown hgrow hat hlt9 HC H8 HX8 hs8 x0 x1 x2 x3
              have hs9 : bs ≤ w9.heap.size := by have := H9.out.size; have := HBS.out; omega
              have HO9 := Lib.hid (show RowL ECe w9 (some ⟨go, oo, none⟩) out from HO.out.kept (by rw [← HBS.out]; exact H9.out))
              have hcs : (c2 = j1 ∧ m = j1) ∨ c2 ≠ j1 := by omega
              rcases hcs with ⟨hc, hm2⟩ | hc
              · have hdn : out.drop j1 = [] := List.drop_eq_nil_of_le (by rw [← HO2.out.1]; omega)
                have hcj : (c2 == j1) = true := by simpa using hc
                go_wp2_with (at_builtin; refine wpList_cat (E := ECe) ceTy (by rfl) _ _ (by rfl) bs _ (j + 1) (out.take j ++ [⟨xa, v, a, e⟩]) (out.drop j1) (by rfl) HC9.out.2 _ _ _ (by rfl) (by rw [hdn]; rfl) (fun e => by cases e) (by rw [hdn]; exact RowL.nil _ _) (by omega) (by decide) hs9 ?_)
                intro A10 c10 w10 hown hgrow
                have hnm : j + 1 = m := by have := HJ1.out; omega
                have HC10 := Lib.hid (show OwnE ECe 51 w10 bs A10 (j + 1) c10 (setC ⟨xa, v, a, e⟩ out) from ⟨by rw [setC_len, ← HO2.out.1]; exact hnm, by
                  have h8 := HSC.out
                  rw [← HJ1.out] at h8
                  rw [h8, hdn]
                  exact hown⟩)
                have H10 := Lib.hid (show Below V3.heap.size V3 w10 from by have := HC9.out.below0 H9.out hs9 (Nat.le_refl _) hgrow; rwa [HBS.out] at this)
                clear hown hgrow HC9 H9 HO9 hs9 HO HXC
                have hb10 := H10.out
                clear H10
                have HPz := Lib.hid (Cells.kept HP.out hb10 HP.out.lt)
                have HNXz := Lib.hid (Cells.kept HNX.out hb10 HNX.out.lt)
                have HRz := Lib.hid (HR.out.kept hb10)
                have HRLz := Lib.hid (HRL.out.kept hb10)
                have HBz := Lib.hid (HB.out.trans (hb10.mono HB.out.size))
                clear hb10 HP HNX HR HRL HB
                have HP := HPz
                clear HPz
                have HNX := HNXz
                clear HNXz
                have HR := HRz
                clear HRz
                have HRL := HRLz
                clear HRLz
                have HB := HBz
                clear HBz
                have HO := Lib.hid HC10.out.row
                have HO2z := Lib.hid (show j + 1 = (setC ⟨xa, v, a, e⟩ out).length ∧ (A10 = none → c10 = 0) ∧ j + 1 ≤ c10 from ⟨HC10.out.1, HC10.out.none0, (own_cap HC10.out.2).1⟩)
                clear HC10
                go_wp2_with fail
                go_roundw
                case rel => exact ⟨k + 1, th1, df, j + 1, c10, A10, setC ⟨xa, v, a, e⟩ out, rfl, by go_num, rfl, by go_num, by omega, by omega, by omega, by omega, HIY, HO, HO2z, HP, HNX, HR, HRL, HB⟩
                case measure => simp [intOf]; omega
              · have hcj : (c2 == j1) = false := by simpa using hc
                go_wp2_with (at_builtin; refine wpList_cat (E := ECe) ceTy (by rfl) _ _ (by rfl) bs _ (j + 1) (out.take j ++ [⟨xa, v, a, e⟩]) (out.drop j1) (by rfl) HC9.out.2 _ _ _ (by rfl) (by rw [List.length_drop, ← HO2.out.1]) (fun e => by cases e) (row_drop15 HO9.out j1) (by omega) (by decide) hs9 ?_)
                intro A10 c10 w10 hown hgrow
                have hnm : j + 1 + (m - j1) = m := by have := HJ1.out; omega
                have HC10 := Lib.hid (show OwnE ECe 51 w10 bs A10 (j + 1 + (m - j1)) c10 (setC ⟨xa, v, a, e⟩ out) from ⟨by rw [setC_len, ← HO2.out.1]; exact hnm, by
                  have h8 := HSC.out
                  rw [← HJ1.out] at h8
                  rw [h8]
                  exact hown⟩)
                have H10 := Lib.hid (show Below V3.heap.size V3 w10 from by have := HC9.out.below0 H9.out hs9 (Nat.le_refl _) hgrow; rwa [HBS.out] at this)
                clear hown hgrow HC9 H9 HO9 hs9 HO HXC
                have hb10 := H10.out
                clear H10
                have HPz := Lib.hid (Cells.kept HP.out hb10 HP.out.lt)
                have HNXz := Lib.hid (Cells.kept HNX.out hb10 HNX.out.lt)
                have HRz := Lib.hid (HR.out.kept hb10)
                have HRLz := Lib.hid (HRL.out.kept hb10)
                have HBz := Lib.hid (HB.out.trans (hb10.mono HB.out.size))
                clear hb10 HP HNX HR HRL HB
                have HP := HPz
                clear HPz
                have HNX := HNXz
                clear HNXz
                have HR := HRz
                clear HRz
                have HRL := HRLz
                clear HRLz
                have HB := HBz
                clear HBz
                have HO := Lib.hid HC10.out.row
                have HO2z := Lib.hid (show j + 1 + (m - j1) = (setC ⟨xa, v, a, e⟩ out).length ∧ (A10 = none → c10 = 0) ∧ j + 1 + (m - j1) ≤ c10 from ⟨HC10.out.1, HC10.out.none0, (own_cap HC10.out.2).1⟩)
                clear HC10
                go_wp2_with fail
                go_roundw
                case rel => exact ⟨k + 1, th1, df, j + 1 + (m - j1), c10, A10, setC ⟨xa, v, a, e⟩ out, rfl, by go_num, rfl, by go_num, by omega, by omega, by omega, by omega, HIY, HO, HO2z, HP, HNX, HR, HRL, HB⟩
                case measure => simp [intOf]; omega
            | false =>
              refine wp_region_pick (fun w' => Below V2.heap.size V2 w') (by kernel_rfl) (by kernel_rfl) (Below.refl _ _) ⟨rfl, rfl, rfl, Nat.le_refl _, fun _ _ => rfl⟩ (fun pw hp hq => ?_)
              have y1 : ∀ u, (pw u).cell? ⟨ga, oa + jj * 4 + 1, none⟩ = some (.int .u8 (yc.toNat : Int)) := fun u => (ce_at HR.out HJ2.out (hp u)).2.1
              have y2 : ∀ u, (pw u).cell? ⟨ga, oa + jj * 4 + 2, none⟩ = some (.int .i64 yf) := fun u => (ce_at HR.out HJ2.out (hp u)).2.2.1
              have y3 : ∀ u, (pw u).cell? ⟨ga, oa + jj * 4 + 3, none⟩ = some (.int .i64 yt) := fun u => (ce_at HR.out HJ2.out (hp u)).2.2.2
              have n0 : ∀ u, (pw u).cell? ⟨gn, 0, none⟩ = some (Value.int .i64 a) := fun u => ((Cells.kept HNX.out (hp u) HNX.out.lt).cell 0).trans (show _ = some (Value.int .i64 a) from rfl)
              have n1 : ∀ u, (pw u).cell? ⟨gn, 1, none⟩ = some (Value.string B) := fun u => ((Cells.kept HNX.out (hp u) HNX.out.lt).cell 1).trans (show _ = some (Value.string B) from rfl)
              have n2 : ∀ u, (pw u).cell? ⟨gn, 2, none⟩ = some (Value.int .i64 a) := fun u => ((Cells.kept HNX.out (hp u) HNX.out.lt).cell 2).trans (show _ = some (Value.int .i64 a) from rfl)
              have n3 : ∀ u, (pw u).cell? ⟨gn, 3, none⟩ = some (Value.int .i64 e) := fun u => ((Cells.kept HNX.out (hp u) HNX.out.lt).cell 3).trans (show _ = some (Value.int .i64 e) from rfl)
              have HPK := Lib.hid hp
              have HQK := Lib.hid hq
              clear hp hq
              repeat (go_big_quiet_step (with_reducible exact Calls.pick_of HQK.out (fun W' hb => (HPK.out _).trans (hb.mono (HPK.out _).size)) (HWI.out _)))
              refine wpQuiet_nil ?_
              rintro _ ⟨u, rfl⟩
              have hbu := HPK.out u
              generalize pw u = V3 at *
              clear HPK HQK y1 y2 y3 n0 n1 n2 n3
              have HPz := Lib.hid (Cells.kept HP.out hbu HP.out.lt)
              have HNXz := Lib.hid (Cells.kept HNX.out hbu HNX.out.lt)
              have HRz := Lib.hid (HR.out.kept hbu)
              have HRLz := Lib.hid (HRL.out.kept hbu)
              have HOz := Lib.hid (HO.out.kept hbu)
              have HBz := Lib.hid (HB.out.trans (hbu.mono HB.out.size))
              have HXCz := Lib.hid (Cells.kept HXC.out hbu HXC.out.lt)
              clear hbu HP HNX HR HRL HO HB HXC
              have HP := HPz
              clear HPz
              have HNX := HNXz
              clear HNXz
              have HR := HRz
              clear HRz
              have HRL := HRLz
              clear HRLz
              have HO := HOz
              clear HOz
              have HB := HBz
              clear HBz
              have HXC := HXCz
              clear HXCz
              have HIY := Lib.hid (show InsI pol C new a (k + 1) out th1 df from HIZ.out)
              clear HIZ HXC HFY HWI
              go_wp2_with fail
              go_roundw
              case rel => exact ⟨k + 1, th1, df, m, c2, A2, out, rfl, by go_num, rfl, by go_num, by omega, by omega, by omega, by omega, HIY, HO, HO2, HP, HNX, HR, HRL, HB⟩
              case measure => simp [intOf]; omega
    · obtain rfl : k = B.size := by omega
      have dlt : decide ((B.size : Int) < (B.size : Int)) = false := by simp
      have nlt : ¬ (B.size : Int) < (B.size : Int) := by omega
      have hnt : new.take B.size = new := List.take_of_length_le (by rw [HNL.out]; exact Nat.le_refl _)
      have hfo : out = insC pol C new := by have := HI.out.fold; rw [hnt] at this; exact this
      have hth2 : th = thereC C new := by have := HI.out.th; rwa [hnt] at this
      have hdf2 : df = differC C new := by have := HI.out.df; rwa [hnt] at this
      have hR := HR9.out
      rw [← hth2, ← hdf2, ← hfo, ← HBB.out.2] at hR
      have hok : ∀ x ∈ out, -1152921504606846976 ≤ x.at_ ∧ x.at_ ≤ 1152921504606846976 := fun x hx => by
        obtain ⟨k1, k2, k3, k4⟩ := HFIN.out.2 x (by rw [← hfo]; exact hx)
        omega
      clear hnt hfo hth2 hdf2 HI
      by_cases q5 : pol = 5 ∧ 0 < th
      · rw [if_pos q5] at hR
        have e5 : (pol == 5) = true := by simpa using q5.1
        have dth : decide ((0 : Int) < (th : Int)) = true := by simp; omega
        have dthn : decide (0 < th) = true := by simp; omega
        have nth : 0 < th := q5.2
        by_cases q6 : th = B.size ∧ df = 0
        · have hR2 := Lib.hid (show R = (l, 0, 0) by rw [hR, if_pos q6])
          have e6 : ((th : Int) == (B.size : Int)) = true := by simp; omega
          have e7 : ((df : Int) == 0) = true := by simp; omega
          clear hR q5 q6 hok
          go_wp2_with fail
          go_ret3
          rw [hR2.out]
          exact ⟨A, c, by rw [← HNN.out]; rfl, HRL.out, HAA.out, HB.out⟩
        · have hR2 := Lib.hid (show R = ([], 0, 17) by rw [hR, if_neg q6])
          have hcs : ((th : Int) == (B.size : Int)) = false ∨ (((th : Int) == (B.size : Int)) = true ∧ ((df : Int) == 0) = false) := by
            by_cases q7 : th = B.size
            · exact .inr ⟨by simp; omega, by simp; omega⟩
            · exact .inl (by simp; omega)
          clear hR q5 q6 hok
          rcases hcs with e6 | ⟨e6, e7⟩
          · go_wp2_with fail
            go_ret3
            exact in_err (er := 17) rfl hR2.out HB.out
          · go_wp2_with fail
            go_ret3
            exact in_err (er := 17) rfl hR2.out HB.out
      · rw [if_neg q5] at hR
        have hcs : (pol == 5) = false ∨ ((pol == 5) = true ∧ decide ((0 : Int) < (th : Int)) = false ∧ decide (0 < th) = false ∧ ¬ 0 < th) := by
          by_cases q7 : pol = 5
          · exact .inr ⟨by simpa using q7, by simp; omega, by simp; omega, by omega⟩
          · exact .inl (by simpa using q7)
        have HPC := Lib.hid (show Calls Try.prog 35 #[.slice A2 m c2] wr (PcsP wr (pcs out)) from by rw [HO2.out.1]; exact rpcs15_any out A2 c2 wr HO.out (by rw [← HO2.out.1]; omega) hok)
        obtain ⟨z, hz⟩ : ∃ z, z = (pcs out).length := ⟨_, rfl⟩
        have HZ := Lib.hid hz
        have HRZ := Lib.hid hR
        clear hR q5 hok hz
        rcases hcs with e5 | ⟨e5, dth, dthn, nth⟩
        · by_cases q8 : 64 < z
          · have d8 : decide ((64 : Int) < (z : Int)) = true := by simp; omega
            have n8 : (64 : Int) < (z : Int) := by omega
            have hR2 := Lib.hid (show R = ([], 0, 11) by rw [HRZ.out, if_pos (by rw [← HZ.out]; exact q8)])
            go_wp2_with fail
            refine HPC.out.mono ?_
            rintro e9 w9 ⟨A9, c9, rfl, hr9, hn9, hb9, hB9⟩
            rw [← HZ.out]
            have HZ9 := Lib.hid (HB.out.trans (hB9.mono HB.out.size))
            clear hr9 hn9 hb9 hB9 q8
            go_wp2_with fail
            go_ret3
            exact in_err (er := 11) rfl hR2.out HZ9.out
          · have d8 : decide ((64 : Int) < (z : Int)) = false := by simp; omega
            have n8 : ¬ (64 : Int) < (z : Int) := by omega
            have hR2 := Lib.hid (show R = (pcs out, df, 0) by rw [HRZ.out, if_neg (by rw [← HZ.out]; exact q8)])
            go_wp2_with fail
            refine HPC.out.mono ?_
            rintro e9 w9 ⟨A9, c9, rfl, hr9, hn9, hb9, hB9⟩
            rw [← HZ.out]
            have HZ9 := Lib.hid (HB.out.trans (hB9.mono HB.out.size))
            have HR9z := Lib.hid (And.intro hr9 hn9)
            clear hr9 hn9 hb9 hB9 q8
            go_wp2_with fail
            go_ret3
            rw [hR2.out]
            exact ⟨A9, c9, by rw [← HZ.out]; rfl, HR9z.out.1, HR9z.out.2, HZ9.out⟩
        · by_cases q8 : 64 < z
          · have d8 : decide ((64 : Int) < (z : Int)) = true := by simp; omega
            have n8 : (64 : Int) < (z : Int) := by omega
            have hR2 := Lib.hid (show R = ([], 0, 11) by rw [HRZ.out, if_pos (by rw [← HZ.out]; exact q8)])
            go_wp2_with fail
            refine HPC.out.mono ?_
            rintro e9 w9 ⟨A9, c9, rfl, hr9, hn9, hb9, hB9⟩
            rw [← HZ.out]
            have HZ9 := Lib.hid (HB.out.trans (hB9.mono HB.out.size))
            clear hr9 hn9 hb9 hB9 q8
            go_wp2_with fail
            go_ret3
            exact in_err (er := 11) rfl hR2.out HZ9.out
          · have d8 : decide ((64 : Int) < (z : Int)) = false := by simp; omega
            have n8 : ¬ (64 : Int) < (z : Int) := by omega
            have hR2 := Lib.hid (show R = (pcs out, df, 0) by rw [HRZ.out, if_neg (by rw [← HZ.out]; exact q8)])
            go_wp2_with fail
            refine HPC.out.mono ?_
            rintro e9 w9 ⟨A9, c9, rfl, hr9, hn9, hb9, hB9⟩
            rw [← HZ.out]
            have HZ9 := Lib.hid (HB.out.trans (hB9.mono HB.out.size))
            have HR9z := Lib.hid (And.intro hr9 hn9)
            clear hr9 hn9 hb9 hB9 q8
            go_wp2_with fail
            go_ret3
            rw [hR2.out]
            exact ⟨A9, c9, by rw [← HZ.out]; rfl, HR9z.out.1, HR9z.out.2, HZ9.out⟩
end Go.Proofs.Ytafpmlikocchpaa
