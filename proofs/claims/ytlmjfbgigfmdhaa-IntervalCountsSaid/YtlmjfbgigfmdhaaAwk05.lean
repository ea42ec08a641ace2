/- The laws' own functions of layer 5: same (at equal lists), large, awake; lists of spans that come in. -/
import Derived.Test.YtlmjfbgigfmdhaaIntComb2
import Derived.Deep.SlicePairs
import Derived.Laws.StructEq
namespace Go.Proofs.Ytlmjfbgigfmdhaa
open Go.ChangeShapes Go.WideShapes Go.ChangeAt Go.RowKit
set_option linter.unusedVariables false

theorem span_guard : Try.prog.eqGuardType Try.prog.depth 34 = false := by kernel_rfl
theorem span_neq (k k' a a' : Int) (W : World) :
    (binOp .neq 34 (.agg #[.int .i64 k, .int .i64 a]) (.agg #[.int .i64 k', .int .i64 a'])).run Try.prog W = .ok (.bool (!(k == k' && a == a'))) W := by
  have u3 := Try.underlying3
  have a3 := Try.isAgg3
  have z3 := Try.sizeOf3
  have hS : Try.prog.underlying 34 = some (.struct (Try.prog.fieldsOf 34)) := by kernel_rfl
  have hp : Try.prog.stoodInHeld 34 = false := by kernel_rfl
  rw [run_neq_struct, show (10000 : Nat) = 9999 + 1 from rfl, run_equalIn_agg W 9999 34 _ _ hS hp]
  simp only [Program.fieldsOf, Try.underlying34]
  go_simp
  cases h1 : (k == k') <;> cases h3 : (a == a') <;> simp_all
set_option maxRecDepth 20000 in
theorem same_any (A1 A2 : Option Addr) (c1 c2 : Nat) (l : List Spn) (w : World) (h1 : SpL w A1 l) (h2 : SpL w A2 l) (hl : l.length ≤ 1000000) :
    Calls Try.prog 13 #[.slice A1 l.length c1, .slice A2 l.length c2] w fun e w' => e = .returned (.bool true) ∧ Below w.heap.size w w' := by
  have hm := span_guard
  obtain ⟨n, hn⟩ : ∃ n, n = l.length := ⟨_, rfl⟩
  rw [← hn]
  have HN := Lib.hid hn
  have H1 := Lib.hid h1
  have H2 := Lib.hid h2
  have hn6 : n ≤ 1000000 := by omega
  clear h1 h2 hl hn
  go_enter Try.func13, Try.ntmps13
  go_wp2_with fail
  go_loopw [13] (fun i wr => ∃ k : Nat, k ≤ n ∧ i = .int .i64 k ∧ Hid (SpL wr A1 l) ∧ Hid (SpL wr A2 l) ∧ Below w.heap.size w wr) (fun i _ => n - (intOf i).toNat)
  case atStart => exact ⟨0, Nat.zero_le _, rfl, H1, H2, Below.refl _ _⟩
  case round =>
    clear H1 H2
    obtain ⟨k, hk, rfl, T1, T2, hB⟩ := hrel
    by_cases hlt : k < n
    · have hkl : k < l.length := by rw [← HN.out]; exact hlt
      obtain ⟨s, hget⟩ : ∃ s, l[k]? = some s := ⟨l[k], List.getElem?_eq_getElem hkl⟩
      obtain ⟨g1, o1, rfl, hg1, hc1⟩ := T1.out (by omega)
      obtain ⟨g2, o2, rfl, hg2, hc2⟩ := T2.out (by omega)
      obtain ⟨a0, a1⟩ := hc1 k s hget
      obtain ⟨b0, b1⟩ := hc2 k s hget
      obtain ⟨p, r⟩ := s
      simp only at a0 a1 b0 b1
      have q1 := fun W => span_neq p p r r W
      have hki : (k : Int) < (n : Int) := by omega
      have hki0 : (0 : Int) ≤ (k : Int) := by omega
      clear hget hkl hc1 hc2
      go_wp2_with fail
      go_quiet (fail)
      have hB2 := Lib.hid (below_drewN5 hB nq)
      have T12 := Lib.hid (T1.out.drewN nq)
      have T22 := Lib.hid (T2.out.drewN nq)
      clear hB T1 T2 a0 a1 b0 b1 q1
      generalize wr.drewN nq = w2 at *
      go_wp2_with fail
      go_roundw
      case rel => exact ⟨k + 1, by omega, by go_num, T12, T22, hB2.out⟩
      case measure => simp [intOf]; omega
    · obtain rfl : k = n := by omega
      have hd : decide ((k : Int) < (k : Int)) = false := by simp
      go_wp2_with fail
      go_ret
      exact ⟨rfl, hB⟩
theorem large_any (A : Option Addr) (n cap : Nat) (w : World) :
    Calls Try.prog 9 #[.slice A n cap] w fun e w' => e = .returned (.bool (decide ((60 : Int) < (n : Int)))) ∧ w' = w := by
  go_enter Try.func9, Try.ntmps9
  go_wp2_with fail
  go_ret
  exact ⟨by simp, rfl⟩
/-- A set that is known: it is the result. -/
theorem SetP.known {w : World} {f : Int → Bool} {b : Nat} {e : Ending} {w' : World} (h : SetP w f b e w') {K : List Spn} (hK : okL 4294967296 0 K) (hf : ∀ m, anyS K m = f m) : ∃ A cap, e = .returned (.slice A K.length cap) ∧ SpL w' A K ∧ Below w.heap.size w w' := by
  obtain ⟨L, A, cap, h1, h2, h3, h4, h5, h6⟩ := h
  obtain rfl : L = K := okL_uniq L K 0 0 h1 hK (fun m => (h2 m).trans (hf m).symm)
  exact ⟨A, cap, h4, spl_of_own h5, h6⟩
theorem CntP.known {w : World} {f : Int → Bool} {b : Nat} {e : Ending} {w' : World} (h : CntP w f b e w') {K : List Spn} (hK : okL 4294967296 0 K) (hf : ∀ m, anyS K m = f m) : e = .returned (.int .i64 (cntL K)) ∧ Below w.heap.size w w' := by
  obtain ⟨L, h1, h2, h3, h4, h5⟩ := h
  obtain rfl : L = K := okL_uniq L K 0 0 h1 hK (fun m => (h2 m).trans (hf m).symm)
  exact ⟨h4, h5⟩
theorem SubP.known {w : World} {f : Int → Bool} {e : Ending} {w' : World} (h : SubP w f e w') {K : List Spn} (hK : okL 4294967296 0 K) (hf : ∀ m, anyS K m = f m) : e = .returned (.bool (decide (K.length = 0))) ∧ Below w.heap.size w w' := by
  obtain ⟨L, h1, h2, h4, h5⟩ := h
  obtain rfl : L = K := okL_uniq L K 0 0 h1 hK (fun m => (h2 m).trans (hf m).symm)
  exact ⟨h4, h5⟩
theorem spl_lit (w : World) (l : List Spn) (cs : Array Value) (h : cs.toList = spCells l) : SpL (w.alloc (.cells cs 34)) (some ⟨w.heap.size, 0, none⟩) l := fun _ =>
  ⟨w.heap.size, 0, rfl, alloc_lt5 w _, fun i s hs => by
    have hc := cells_new w 34 cs
    have hg := spCells_get l i s hs
    rw [← h] at hg
    rw [Nat.zero_add]
    exact ⟨(Cells.cell hc (i * 2)).trans (by simpa using hg.1), (Cells.cell hc (i * 2 + 1)).trans (by simpa using hg.2)⟩⟩
theorem cellsSpan : Try.prog.cellsOf 34 = 2 := by kernel_rfl
theorem cellsInt5 : Try.prog.cellsOf 3 = 1 := by kernel_rfl
theorem add_flat5 (b off i : Nat) : (⟨b, off, none⟩ : Addr).add i = ⟨b, off + i, none⟩ := addr_add b off i
theorem in_spans {H : Type} {enc : TypeId × Value → H} {W : World} {base : Nat} {sp : Nat → Bool} {held : Bool} {A : Option Addr} {len cap : Nat} {d : DataW H} {p : List MemPlace}
    (h : DataW.Trod enc Try.prog W base sp held 22 (.slice A len cap) d p) : ∃ l : List Spn, SpL W A l ∧ l.length = len ∧ (A = none → cap = 0) ∧ len ≤ maxLen := by
  obtain ⟨fuel, hf⟩ := h
  rcases Go.Deep.open_slice_pairs Try.underlying22 Try.underlying34 cellsSpan rfl rfl cellsInt5 cellsInt5 hf with ⟨hcs, _⟩ | ⟨a, l, c, m, n, V0, V1, D0, D1, P0, P1, hcs, _, hl, hm, hmm, _, hcell⟩
  · simp [Value.cells] at hcs
    obtain ⟨rfl, rfl, rfl⟩ := hcs
    exact ⟨[], fun h => absurd h (by simp), rfl, fun _ => rfl, by simp [maxLen]⟩
  · simp [Value.cells] at hcs
    obtain ⟨rfl, rfl, rfl⟩ := hcs
    have hlm : len ≤ m := by rw [hmm]; split <;> omega
    refine ⟨(List.range len).map fun i => ⟨intOf (V0 i), intOf (V1 i)⟩, fun hp => ?_, by simp, fun e => by simp at e, by omega⟩
    simp only [List.length_map, List.length_range] at hp
    obtain ⟨b, off, spot⟩ := a
    have h0 := (hcell 0 (by omega)).1
    have hspot : spot = none := by simpa [Addr.add] using World.cell?_spot h0
    subst hspot
    have hlt := World.block_lt_of_cell? W _ h0
    refine ⟨b, off, rfl, by simpa [Addr.add] using hlt, fun i s hs => ?_⟩
    rw [List.getElem?_map] at hs
    by_cases hi : i < len
    · rw [List.getElem?_range hi] at hs
      simp only [Option.map_some, Option.some.injEq] at hs
      subst hs
      obtain ⟨h1, h2, h3, h4⟩ := hcell i (by omega)
      obtain ⟨a0, e0, _, _⟩ := DataW.trod_int Try.underlying3 h3
      obtain ⟨a1, e1, _, _⟩ := DataW.trod_int Try.underlying3 h4
      simp at e0 e1
      rw [add_flat5] at h1 h2
      exact ⟨by rw [h1]; simp [e0, intOf], by rw [Nat.add_assoc, h2]; simp [e1, intOf]⟩
    · rw [List.getElem?_eq_none (by simpa using hi)] at hs
      simp at hs
end Go.Proofs.Ytlmjfbgigfmdhaa
