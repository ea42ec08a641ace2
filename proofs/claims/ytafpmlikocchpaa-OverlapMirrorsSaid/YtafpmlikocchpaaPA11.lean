/- Contracts of the functions, part 11: EthREnc, OvMem, In15. -/
import Derived.Deep.QuietTactic
import Derived.Deep.Cut
import Derived.SizedLaws
import Derived.Test.YtafpmlikocchpaaPA3
import Derived.Test.YtafpmlikocchpaaPA7
import Derived.Test.YtafpmlikocchpaaPA9
import Derived.Test.YtafpmlikocchpaaPA10
/- Contract of the reference of layer 10: Encode. -/
namespace Go.Proofs.Ytafpmlikocchpaa
open Go.ChangeShapes Go.WideShapes Go.ChangeAt Go.RowKit
set_option linter.unusedVariables false

theorem add_ok10 {P Q : ByteArray} {a b : Nat} (h1 : P.size ≤ a) (h2 : Q.size ≤ b) (h : a + b ≤ 1000000000) : (9223372036854775807 < P.size + Q.size) = False := by
  simp only [eq_iff_iff, iff_false]; omega
theorem app_le10 {P Q : ByteArray} {a b : Nat} (h1 : P.size ≤ a) (h2 : Q.size ≤ b) : (P ++ Q).size ≤ a + b := by
  rw [ByteArray.size_append]; omega
theorem bad_of {x : EthR} (h : badE x) : encE x = ([], 4) := by unfold encE; rw [if_pos h]
theorem box_cell {w0 w : World} {g : Nat} {t : TypeId} {cs : Array Value} (h : Cells w0 g t cs) (hb : Below w0.heap.size w0 w) (i : Nat) (v : Value) (hv : cs[i]? = some v) : w.cell? ⟨g, i, none⟩ = some v :=
  ((Cells.cell (Cells.kept h hb (Cells.lt h)) i).trans hv)
end Go.Proofs.Ytafpmlikocchpaa

/- Pieces and cells in memory; the reference's Wins, Size, at, Few, Same. -/
namespace Go.Proofs.Ytafpmlikocchpaa
open Go.ChangeShapes Go.WideShapes Go.ChangeAt Go.RowKit
set_option linter.unusedVariables false
set_option maxRecDepth 100000

def EPc : Enc PcR := ⟨4, by decide, fun x => [.int .i64 x.at_, .string (str x.dat), .int .i64 x.fr, .int .i64 x.to_], fun _ => rfl, fun x v hv => by
  simp only [List.mem_cons, List.not_mem_nil, or_false] at hv
  rcases hv with rfl | rfl | rfl | rfl <;> rfl⟩
theorem info_pc : (Try.prog.info? 23).map (fun i => (i.zero, i.size, i.bytes)) = some (some (.agg #[.int .i64 0, .string ⟨#[]⟩, .int .i64 0, .int .i64 0]), 4, 40) := by kernel_rfl
theorem pcTy : ElemTy 26 23 4 40 :=
  ⟨Try.underlying26, by
    obtain ⟨i, h1, h2, h3, h4⟩ := info_parts info_pc
    exact ⟨i, _, h1, h2, h3, h4, rfl⟩⟩
def ECe : Enc CeR := ⟨4, by decide, fun x => [.int .i64 x.at_, .int .u8 (x.c.toNat : Int), .int .i64 x.fr, .int .i64 x.to_], fun _ => rfl, fun x v hv => by
  simp only [List.mem_cons, List.not_mem_nil, or_false] at hv
  rcases hv with rfl | rfl | rfl | rfl <;> rfl⟩
theorem info_ce : (Try.prog.info? 51).map (fun i => (i.zero, i.size, i.bytes)) = some (some (.agg #[.int .i64 0, .int .u8 0, .int .i64 0, .int .i64 0]), 4, 32) := by kernel_rfl
theorem ceTy : ElemTy 48 51 4 32 :=
  ⟨Try.underlying48, by
    obtain ⟨i, h1, h2, h3, h4⟩ := info_parts info_ce
    exact ⟨i, _, h1, h2, h3, h4, rfl⟩⟩
theorem pc_at {w0 w : World} {g ob : Nat} {l : List PcR} {k : Nat} {x : PcR} (h : RowL EPc w0 (some ⟨g, ob, none⟩) l) (hx : l[k]? = some x) (hb : Below w0.heap.size w0 w) : w.cell? ⟨g, ob + k * 4, none⟩ = some (.int .i64 x.at_) ∧ w.cell? ⟨g, ob + k * 4 + 1, none⟩ = some (.string (str x.dat)) ∧ w.cell? ⟨g, ob + k * 4 + 2, none⟩ = some (.int .i64 x.fr) ∧ w.cell? ⟨g, ob + k * 4 + 3, none⟩ = some (.int .i64 x.to_) :=
  ⟨h.at_ hx hb 0 _ rfl, h.at_ hx hb 1 _ rfl, h.at_ hx hb 2 _ rfl, h.at_ hx hb 3 _ rfl⟩
theorem ce_at {w0 w : World} {g ob : Nat} {l : List CeR} {k : Nat} {x : CeR} (h : RowL ECe w0 (some ⟨g, ob, none⟩) l) (hx : l[k]? = some x) (hb : Below w0.heap.size w0 w) : w.cell? ⟨g, ob + k * 4, none⟩ = some (.int .i64 x.at_) ∧ w.cell? ⟨g, ob + k * 4 + 1, none⟩ = some (.int .u8 (x.c.toNat : Int)) ∧ w.cell? ⟨g, ob + k * 4 + 2, none⟩ = some (.int .i64 x.fr) ∧ w.cell? ⟨g, ob + k * 4 + 3, none⟩ = some (.int .i64 x.to_) :=
  ⟨h.at_ hx hb 0 _ rfl, h.at_ hx hb 1 _ rfl, h.at_ hx hb 2 _ rfl, h.at_ hx hb 3 _ rfl⟩
theorem twoO_below (w : World) (a b : Obj) : Below w.heap.size w ((w.alloc a).alloc b) := ((Below.refl _ w).alloc (Nat.le_refl _) a).alloc (by simp) b
theorem twoO_new (w : World) (a b : Obj) : ((w.alloc a).alloc b).heap[w.heap.size + 1]? = some b := by
  have := heap_alloc_new (w.alloc a) b
  rwa [show (w.alloc a).heap.size = w.heap.size + 1 by simp] at this
set_option maxHeartbeats 8000000 in
set_option maxRecDepth 100000 in
theorem rwins15_any (pol a1 f1 t1 a2 f2 t2 : Int) (D1 D2 : ByteArray) (w : World) :
    Calls Try.prog 11 #[.int .i64 pol, .agg #[.int .i64 a1, .string D1, .int .i64 f1, .int .i64 t1], .agg #[.int .i64 a2, .string D2, .int .i64 f2, .int .i64 t2]] w fun e w' => e = .returned (.bool (winsB pol f1 t1 f2 t2)) ∧ Below w.heap.size w w' := by
  obtain ⟨Q, hQ⟩ : ∃ Q, Q = winsB pol f1 t1 f2 t2 := ⟨_, rfl⟩
  rw [← hQ]
  unfold winsB at hQ
  obtain ⟨W1, hW1⟩ : ∃ W, W = (w.alloc (.cells #[.int .i64 a1, .string D1, .int .i64 f1, .int .i64 t1] 23)).alloc (.cells #[.int .i64 a2, .string D2, .int .i64 f2, .int .i64 t2] 23) := ⟨_, rfl⟩
  obtain ⟨g, hg⟩ : ∃ g, g = w.heap.size := ⟨_, rfl⟩
  obtain ⟨g2, hg2⟩ : ∃ g, g = w.heap.size + 1 := ⟨_, rfl⟩
  have HX := Lib.hid (show Cells W1 g 23 #[.int .i64 a1, .string D1, .int .i64 f1, .int .i64 t1] by rw [hW1, hg]; exact (Cells.kept (heap_alloc_new w _) (below_alloc6 _ _) (by simp)))
  have HY := Lib.hid (show Cells W1 g2 23 #[.int .i64 a2, .string D2, .int .i64 f2, .int .i64 t2] by rw [hW1, hg2]; exact twoO_new w _ _)
  have HB := Lib.hid (show Below w.heap.size w W1 by rw [hW1]; exact twoO_below w _ _)
  have x2 := (Cells.cell HX.out 2).trans (show _ = some (Value.int .i64 f1) from rfl)
  have x3 := (Cells.cell HX.out 3).trans (show _ = some (Value.int .i64 t1) from rfl)
  have y2 := (Cells.cell HY.out 2).trans (show _ = some (Value.int .i64 f2) from rfl)
  have y3 := (Cells.cell HY.out 3).trans (show _ = some (Value.int .i64 t2) from rfl)
  have HW := Lib.hid hW1
  have HG := Lib.hid hg
  have HG2 := Lib.hid hg2
  clear hW1 hg hg2
  cases e2 : (pol == 2) with
  | true =>
    rw [e2, Bool.true_or, Bool.true_or] at hQ
    have HQ := Lib.hid hQ
    clear hQ
    go_enter Try.func11, Try.ntmps11
    go_upto_region 1 with fail
    rw [← HW.out, ← HG2.out, ← HG.out]
    clear HW HG HG2
    go_wp2_with fail
    go_ret
    exact ⟨by rw [HQ.out]; rfl, HB.out⟩
  | false =>
    rw [e2, Bool.false_or] at hQ
    cases e3 : (pol == 3) with
    | true =>
      have e4 : (pol == 4) = false := by
        have h3 : pol = 3 := by simpa using e3
        rw [h3]; rfl
      rw [e3, e4, Bool.true_and, Bool.false_and, Bool.or_false] at hQ
      have HQ := Lib.hid hQ
      clear hQ
      cases d1 : decide (f2 < f1) with
      | true =>
        have n1 : f2 < f1 := of_decide_eq_true d1
        go_enter Try.func11, Try.ntmps11
        go_upto_region 1 with fail
        rw [← HW.out, ← HG2.out, ← HG.out]
        clear HW HG HG2
        go_wp2_with fail
        go_ret
        exact ⟨by rw [HQ.out, d1]; rfl, HB.out⟩
      | false =>
        have n1 : ¬ f2 < f1 := of_decide_eq_false d1
        go_enter Try.func11, Try.ntmps11
        go_upto_region 1 with fail
        rw [← HW.out, ← HG2.out, ← HG.out]
        clear HW HG HG2
        go_wp2_with fail
        go_ret
        exact ⟨by rw [HQ.out, d1]; rfl, HB.out⟩
    | false =>
      rw [e3, Bool.false_and, Bool.false_or] at hQ
      cases e4 : (pol == 4) with
      | false =>
        rw [e4, Bool.false_and] at hQ
        have HQ := Lib.hid hQ
        clear hQ
        go_enter Try.func11, Try.ntmps11
        go_upto_region 1 with fail
        rw [← HW.out, ← HG2.out, ← HG.out]
        clear HW HG HG2
        go_wp2_with fail
        go_ret
        exact ⟨by rw [HQ.out]; rfl, HB.out⟩
      | true =>
        rw [e4, Bool.true_and] at hQ
        have HQ := Lib.hid hQ
        clear hQ
        have hcs : (decide (f2 < f1) = true) ∨ (decide (f2 < f1) = false ∧ (f2 == f1) = false) ∨ (decide (f2 < f1) = false ∧ (f2 == f1) = true ∧ decide (t1 < t2) = true) ∨ (decide (f2 < f1) = false ∧ (f2 == f1) = true ∧ decide (t1 < t2) = false) := by
          cases decide (f2 < f1) <;> cases (f2 == f1) <;> cases decide (t1 < t2) <;> simp
        rcases hcs with d1 | ⟨d1, d2⟩ | ⟨d1, d2, d3⟩ | ⟨d1, d2, d3⟩
        · go_enter Try.func11, Try.ntmps11
          go_upto_region 1 with fail
          rw [← HW.out, ← HG2.out, ← HG.out]
          clear HW HG HG2
          go_wp2_with fail
          go_ret
          exact ⟨by rw [HQ.out, d1]; rfl, HB.out⟩
        · go_enter Try.func11, Try.ntmps11
          go_upto_region 1 with fail
          rw [← HW.out, ← HG2.out, ← HG.out]
          clear HW HG HG2
          go_wp2_with fail
          go_ret
          exact ⟨by rw [HQ.out, d1, d2]; rfl, HB.out⟩
        · go_enter Try.func11, Try.ntmps11
          go_upto_region 1 with fail
          rw [← HW.out, ← HG2.out, ← HG.out]
          clear HW HG HG2
          go_wp2_with fail
          go_ret
          exact ⟨by rw [HQ.out, d1, d2, d3]; rfl, HB.out⟩
        · go_enter Try.func11, Try.ntmps11
          go_upto_region 1 with fail
          rw [← HW.out, ← HG2.out, ← HG.out]
          clear HW HG HG2
          go_wp2_with fail
          go_ret
          exact ⟨by rw [HQ.out, d1, d2, d3]; rfl, HB.out⟩
end Go.Proofs.Ytafpmlikocchpaa

/- A piece, a list of pieces, as the laws of layer 15 take them. -/
namespace Go.Proofs.Ytafpmlikocchpaa
open Go.ChangeShapes Go.WideShapes Go.ChangeAt Go.RowKit
set_option linter.unusedVariables false
set_option maxRecDepth 100000

theorem cellsPc15 : Try.prog.cellsOf 23 = 4 := by kernel_rfl
theorem cellsI15 : Try.prog.cellsOf 3 = 1 := by kernel_rfl
theorem cellsS15 : Try.prog.cellsOf 9 = 1 := by kernel_rfl
theorem arr4_15 {cs : Array Value} (h : cs.size = 4) : ∃ c0 c1 c2 c3, cs = #[c0, c1, c2, c3] := by
  obtain ⟨l⟩ := cs
  match l, h with
  | [c0, c1, c2, c3], _ => exact ⟨c0, c1, c2, c3, rfl⟩
instance : Inhabited PcR := ⟨⟨0, [], 0, 0⟩⟩
variable {H : Type} {enc : TypeId × Value → H}
/-- The cells of a piece. -/
def pcC (x : PcR) : Array Value := #[.int .i64 x.at_, .string (str x.dat), .int .i64 x.fr, .int .i64 x.to_]
/-- What a piece that comes in is known to be. -/
def pcWf (x : PcR) : Prop := (Lit.int .i64 x.at_).wf = true ∧ (Lit.int .i64 x.fr).wf = true ∧ (Lit.int .i64 x.to_).wf = true ∧ x.dat.length ≤ 281474976710656
theorem open_pc15 {w : World} {base : Nat} {sp : Nat → Bool} {held : Bool} (fuel : Nat) (cs : List Value) (x : DataW H × List MemPlace) (hl : cs.length = 4) (h : DataW.trod enc Try.prog w base sp held fuel 23 cs = some x) (hz : ∀ k ∈ x.1.weights Try.prog 23, k ≤ reachBytes) : ∃ y : PcR, pcWf y ∧ cs = EPc.c y := by
  have hs := Try.underlying23
  obtain ⟨xs, k', _, hxy, _, hxl, hfs⟩ := DataW.trod_struct hs h
  match cs, hl, xs, hxl with
  | [v0, v1, v2, v3], _, [y0, y1, y2, y3], _ =>
    have g0 := hfs 0 _ rfl
    have g1 := hfs 1 _ rfl
    have g2 := hfs 2 _ rfl
    have g3 := hfs 3 _ rfl
    simp [cellsI15, cellsS15] at g0 g1 g2 g3
    obtain ⟨a0, e0, _, w0⟩ := DataW.trod_int Try.underlying3 g0
    obtain ⟨q, e1, hy1, _⟩ := DataW.trod_string Try.underlying9 g1
    obtain ⟨a2, e2, _, w2⟩ := DataW.trod_int Try.underlying3 g2
    obtain ⟨a3, e3, _, w3⟩ := DataW.trod_int Try.underlying3 g3
    have hq : q.data.toList.length ≤ reachBytes := hz _ (by
      rw [show x.1 = .agg [y0.1, y1.1, y2.1, y3.1] from congrArg Prod.fst hxy]
      simp only [DataW.weights, hs]
      refine DataW.weights_mem_each (j := 1) (t := 9) (d := y1.1) rfl rfl _ ?_
      rw [hy1]
      exact weights_str _)
    simp at e0 e1 e2 e3
    subst e0 e1 e2 e3
    refine ⟨⟨a0, q.data.toList, a2, a3⟩, ⟨w0, w2, w3, Nat.le_trans hq (by decide)⟩, ?_⟩
    show _ = [_, _, _, _]
    simp only [str_of]
theorem in_pc15 {r : Reach} {w : World} {base b0 : Nat} {spare : Nat → Bool} {held : Bool} {v : Value} {d : DataW H} {p : List MemPlace} (hv : Value.okWide Try.prog w r b0 23 v) (h : DataW.Trod enc Try.prog w base spare held 23 v d p) (hz : ∀ k ∈ d.weights Try.prog 23, k ≤ reachBytes) :
    ∃ x : PcR, pcWf x ∧ v = .agg (pcC x) := by
  have hs := Try.underlying23
  obtain ⟨cs, rfl, hsz⟩ := okWide_struct hs hv
  obtain ⟨c0, c1, c2, c3, rfl⟩ := arr4_15 (hsz.trans cellsPc15)
  obtain ⟨fuel, hf⟩ := h
  obtain ⟨y, hy, hc⟩ := open_pc15 fuel [c0, c1, c2, c3] _ rfl (by simpa [Value.cells] using hf) hz
  refine ⟨y, hy, ?_⟩
  have hc' : [c0, c1, c2, c3] = [.int .i64 y.at_, .string (str y.dat), .int .i64 y.fr, .int .i64 y.to_] := hc
  injection hc' with e0 hc'
  injection hc' with e1 hc'
  injection hc' with e2 hc'
  injection hc' with e3 hc'
  subst e0 e1 e2 e3
  rfl
theorem in_pcs15 {r : Reach} {w : World} {base b0 : Nat} {spare : Nat → Bool} {held : Bool} {v : Value} {d : DataW H} {p : List MemPlace} (hv : Value.okWide Try.prog w r b0 26 v) (h : DataW.Trod enc Try.prog w base spare held 26 v d p) (hz : ∀ k ∈ d.weights Try.prog 26, k ≤ reachBytes) :
    ∃ (l : List PcR) (A : Option Addr) (c : Nat), v = .slice A l.length c ∧ RowL EPc w A l ∧ (A = none → c = 0) ∧ l.length ≤ maxLen ∧ ∀ y ∈ l, pcWf y := by
  obtain ⟨a, len, cap, rfl⟩ := okWide_slice Try.underlying26 hv
  obtain ⟨fuel, hf⟩ := h
  obtain ⟨A, c, l, hcs, hr, hn, hl, hw⟩ := in_rowS (E := EPc) (P := pcWf) Try.underlying26 cellsPc15 (fun fuel cs x hl h hz => open_pc15 fuel cs x hl h hz) hf hz
  simp [Value.cells] at hcs
  obtain ⟨rfl, rfl, rfl⟩ := hcs
  exact ⟨l, _, _, rfl, hr, hn, hl, hw⟩
end Go.Proofs.Ytafpmlikocchpaa
