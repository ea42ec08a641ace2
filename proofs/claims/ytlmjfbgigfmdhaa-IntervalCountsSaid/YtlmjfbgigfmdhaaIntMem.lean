/- Lists of spans in memory; contracts of the reference of layer 5: cut, Contains. -/
import Derived.Test.YtlmjfbgigfmdhaaIntMath
import Derived.Test.YtlmjfbgigfmdhaaReader
import Derived.Deep.QuietTactic
import Derived.Deep.AppendLies
import Derived.OwnWalk
namespace Go.Proofs.Ytlmjfbgigfmdhaa
open Go.ChangeShapes Go.WideShapes Go.ChangeAt Go.RowKit
set_option linter.unusedVariables false

/-- A slice that reads as the spans l. -/
def SpL (w : World) (A : Option Addr) (l : List Spn) : Prop :=
  0 < l.length → ∃ g o, A = some ⟨g, o, none⟩ ∧ g < w.heap.size ∧ ∀ i s, l[i]? = some s → w.cell? ⟨g, o + i * 2, none⟩ = some (.int .i64 s.lo) ∧ w.cell? ⟨g, o + i * 2 + 1, none⟩ = some (.int .i64 s.hi)
theorem SpL.kept {w w' : World} {A : Option Addr} {l : List Spn} (h : SpL w A l) (hb : Below w.heap.size w w') : SpL w' A l := fun hp => by
  obtain ⟨g, o, e, hg, hc⟩ := h hp
  have hB := hb.block g hg
  refine ⟨g, o, e, Nat.lt_of_lt_of_le hg hb.size, fun i s hs => ?_⟩
  rw [World.cell?_of_block (w := w) (w' := w') (a := ⟨g, o + i * 2, none⟩) hB, World.cell?_of_block (w := w) (w' := w') (a := ⟨g, o + i * 2 + 1, none⟩) hB]
  exact hc i s hs
theorem SpL.drewN {w : World} {A : Option Addr} {l : List Spn} (h : SpL w A l) (q : Nat) : SpL (w.drewN q) A l := h
/-- Spans as cells. -/
def spC (s : Spn) : List Value := [.int .i64 s.lo, .int .i64 s.hi]
def spCells (l : List Spn) : List Value := l.flatMap spC
theorem spCells_length (l : List Spn) : (spCells l).length = l.length * 2 := by
  unfold spCells
  induction l with
  | nil => rfl
  | cons t r ih => rw [List.flatMap_cons, List.length_append, ih]; simp [spC]; omega
theorem spCells_snoc (l : List Spn) (s : Spn) : spCells (l ++ [s]) = spCells l ++ spC s := by simp [spCells]
theorem spCells_get : ∀ (l : List Spn) (i : Nat) (s : Spn), l[i]? = some s → (spCells l)[i * 2]? = some (.int .i64 s.lo) ∧ (spCells l)[i * 2 + 1]? = some (.int .i64 s.hi)
  | [], i, s, h => by simp at h
  | x :: r, 0, s, h => by
    simp at h
    subst h
    exact ⟨rfl, rfl⟩
  | x :: r, i + 1, s, h => by
    have ih := spCells_get r i s (by simpa using h)
    have e : spCells (x :: r) = spC x ++ spCells r := rfl
    rw [e, show (i + 1) * 2 + 1 = (i * 2 + 1) + 2 by omega, show (i + 1) * 2 = i * 2 + 2 by omega]
    exact ih
theorem spl_of_own {w : World} {base : Nat} {A : Option Addr} {cap : Nat} {l : List Spn} (h : w.ownsRow base 34 2 (.slice A l.length cap) l.length (spCells l)) : SpL w A l := fun hp => by
  rcases h.2 with ⟨_, hn⟩ | ⟨g, c, cur, hv, hg, hh, hn, _, hs, ht⟩
  · omega
  · cases hv
    have key : ∀ j u, (spCells l)[j]? = some u → w.cell? ⟨g, j, none⟩ = some u := fun j u hu => by
      rw [← ht] at hu
      have hj : j < l.length * 2 := by
        by_cases hc : j < l.length * 2
        · exact hc
        · rw [List.getElem?_eq_none (by rw [List.length_take]; omega)] at hu
          cases hu
      rw [List.getElem?_take_of_lt hj] at hu
      simp only [World.cell?, hh]
      simpa using hu
    refine ⟨g, 0, rfl, (Array.getElem?_eq_some_iff.1 hh).1, fun i s hs => ?_⟩
    have e := spCells_get l i s hs
    rw [Nat.zero_add]
    exact ⟨key _ _ e.1, key _ _ e.2⟩
theorem info_span : (Try.prog.info? 34).map (fun i => (i.zero, i.size, i.bytes)) = some (some (.agg #[.int .i64 0, .int .i64 0]), 2, 16) := by kernel_rfl
theorem span_info : (Try.prog.info? 34).map (·.size) = some 2 := by kernel_rfl
/-- A span in a box. -/
def SB2 (w : World) (g : Nat) (lo hi : Int) : Prop := Cells w g 34 #[.int .i64 lo, .int .i64 hi]
theorem sb2_new (w : World) (lo hi : Int) : SB2 (w.alloc (.cells #[.int .i64 lo, .int .i64 hi] 34)) w.heap.size lo hi := heap_alloc_new w _
theorem SB2.kept {w w' : World} {g B : Nat} {lo hi : Int} (h : SB2 w g lo hi) (hb : Below B w w') (hg : g < B) : SB2 w' g lo hi := (hb.block _ hg).trans h
theorem SB2.lt {w : World} {g : Nat} {lo hi : Int} (h : SB2 w g lo hi) : g < w.heap.size := Cells.lt h
theorem SB2.c0 {w : World} {g : Nat} {lo hi : Int} (h : SB2 w g lo hi) : w.cell? ⟨g, 0, none⟩ = some (.int .i64 lo) := (Cells.cell h 0).trans rfl
theorem SB2.c1 {w : World} {g : Nat} {lo hi : Int} (h : SB2 w g lo hi) : w.cell? ⟨g, 1, none⟩ = some (.int .i64 hi) := (Cells.cell h 1).trans rfl
theorem SB2.f {w : World} {g : Nat} {lo hi : Int} (h : SB2 w g lo hi) (i : Nat) : w.frozen? ⟨g, i, none⟩ = false := Cells.frozen h i
theorem res_span2 {fn : Func} {p u : Tmp} (h : fn.results = #[.cell p 34, .tmp u]) (tmps : Array Value) (w : World) {g : Nat} {lo hi : Int} (hp : tmps.getD p undef = .pointer (some ⟨g, 0, none⟩)) (ht : SB2 w g lo hi) :
    (results fn tmps).run Try.prog w = .ok (.tuple #[.agg #[.int .i64 lo, .int .i64 hi], tmps.getD u undef]) w := by
  have hp' : tmps[p]?.getD undef = .pointer (some ⟨g, 0, none⟩) := by simpa using hp
  simp [results, h, hp', asAddr, run_loadVar_row w g 34 34 _ (0, 0) _ ht Try.underlying34 rfl span_info]
theorem below_alloc5 (w : World) (o : Obj) : Below w.heap.size w (w.alloc o) := (Below.refl _ w).alloc (Nat.le_refl _) _
theorem alloc_lt5 (w : World) (o : Obj) : w.heap.size < (w.alloc o).heap.size := (Array.getElem?_eq_some_iff.1 (heap_alloc_new w o)).1

set_option maxRecDepth 20000 in
theorem rcontains_any (A : Option Addr) (cap : Nat) (l : List Spn) (m : Int) (w : World) (h : SpL w A l) (hl : l.length ≤ 1000000) :
    Calls Try.prog 19 #[.slice A l.length cap, .int .i64 m] w fun e w' => e = .returned (.bool (memS 4294967296 l m)) ∧ w = w' := by
  obtain ⟨n, hn⟩ : ∃ n, n = l.length := ⟨_, rfl⟩
  have hn6 : n ≤ 1000000 := by omega
  rw [← hn]
  clear hl
  unfold memS
  by_cases h0 : m < 0
  · have : decide (0 ≤ m) = false := by simp; omega
    rw [this]
    clear this h hn hn6
    go_enter Try.func19, Try.ntmps19
    go_wp2_with fail
    go_ret
    exact ⟨rfl, rfl⟩
  have d0 : decide (m < 0) = false := by simp; omega
  by_cases h1 : 4294967296 < m
  · have : decide (m ≤ 4294967296) = false := by simp; omega
    rw [this]
    clear this h hn hn6
    go_enter Try.func19, Try.ntmps19
    go_wp2_with fail
    go_ret
    exact ⟨by simp, rfl⟩
  have d1 : decide (4294967296 < m) = false := by simp; omega
  rw [show decide (0 ≤ m) = true by simp; omega, show decide (m ≤ 4294967296) = true by simp; omega, Bool.true_and, Bool.true_and]
  obtain ⟨B, hB⟩ : ∃ B, B = anyS l m := ⟨_, rfl⟩
  rw [← hB]
  have HB := Lib.hid hB
  have H := Lib.hid h
  have HN := Lib.hid hn
  clear h hB hn h0 h1
  go_enter Try.func19, Try.ntmps19
  go_wp2_with fail
  go_loop [5] (fun i => ∃ k : Nat, k ≤ n ∧ i = .int .i64 k ∧ Hid (anyS (l.take k) m = false)) (fun i => n - (intOf i).toNat)
  case atStart => exact ⟨0, by omega, rfl, rfl⟩
  case round =>
    obtain ⟨k, hk, rfl, HK⟩ := hrel
    by_cases hlt : k < n
    · have hkl : k < l.length := by rw [← HN.out]; exact hlt
      obtain ⟨g, o, rfl, hg, hc⟩ := H.out (by omega)
      have hget : l[k]? = some l[k] := List.getElem?_eq_getElem hkl
      obtain ⟨c0, c1⟩ := hc k _ hget
      have htk : l.take (k + 1) = l.take k ++ [l[k]] := List.take_succ_eq_append_getElem hkl
      have hany : anyS (l.take (k + 1)) m = inS l[k] m := by
        rw [htk, anyS_append, HK.out, Bool.false_or]; simp [anyS]
      have hall : anyS l m = (anyS (l.take (k + 1)) m || anyS (l.drop (k + 1)) m) := by rw [← anyS_append, List.take_append_drop]
      have hin : inS l[k] m = (decide (l[k].lo ≤ m) && decide (m ≤ l[k].hi)) := rfl
      rw [hany] at hall
      generalize l[k].lo = lo at *
      generalize l[k].hi = hi at *
      generalize inS l[k] m = b at *
      have hki : (k : Int) < (n : Int) := by omega
      have hki0 : (0 : Int) ≤ (k : Int) := by omega
      clear hc hget htk hkl
      by_cases ha : lo ≤ m
      · by_cases hb : m ≤ hi
        · obtain rfl : B = true := by rw [HB.out, hall, hin]; simp [ha, hb]
          clear hall hin hany
          go_wp2_with fail
          go_ret
          exact ⟨rfl, rfl⟩
        · have HN2 := Lib.hid (show anyS (l.take (k + 1)) m = false by rw [hany, hin]; simp; omega)
          have d3 : decide (m ≤ hi) = false := by simp; omega
          clear hall hin hany
          go_wp2_with fail
          go_round
          case rel => exact ⟨k + 1, by omega, by go_num, HN2.out⟩
          case measure => simp [intOf]; omega
      · have HN2 := Lib.hid (show anyS (l.take (k + 1)) m = false by rw [hany, hin]; simp; omega)
        have d3 : decide (lo ≤ m) = false := by simp; omega
        clear hall hin hany
        go_wp2_with fail
        go_round
        case rel => exact ⟨k + 1, by omega, by go_num, HN2.out⟩
        case measure => simp [intOf]; omega
    · have hkn : k = l.length := by have := HN.out; omega
      obtain rfl : B = false := by
        have := HK.out
        rw [hkn, List.take_length] at this
        exact HB.out.trans this
      obtain rfl : k = n := by omega
      clear hkn
      have hd : decide ((k : Int) < (k : Int)) = false := by simp
      go_wp2_with fail
      go_ret
      exact ⟨rfl, rfl⟩

set_option maxRecDepth 20000 in
theorem rcut_any (a b lo hi : Int) (w : World) :
    Calls Try.prog 35 #[.agg #[.int .i64 a, .int .i64 b], .int .i64 lo, .int .i64 hi] w fun e w' => e = .returned (.tuple #[.agg #[.int .i64 (max a lo), .int .i64 (min b hi)], .bool (decide (max a lo ≤ min b hi))]) ∧ Below w.heap.size w w' := by
  obtain ⟨p, hp⟩ : ∃ p, p = max a lo := ⟨_, rfl⟩
  obtain ⟨q, hq⟩ : ∃ q, q = min b hi := ⟨_, rfl⟩
  rw [← hp, ← hq]
  go_enter Try.func35, Try.ntmps35
  go_wp2_with fail
  rw [← hp, ← hq]
  clear hp hq
  go_region
  go_wp2_with fail
  have h0 := heap_alloc_new w (.cells #[.int .i64 a, .int .i64 b] 34)
  have hb0 := below_alloc5 w (.cells #[.int .i64 a, .int .i64 b] 34)
  have hs : (w.alloc (.cells #[.int .i64 a, .int .i64 b] 34)).heap.size = w.heap.size + 1 := by simp
  generalize w.alloc (.cells #[.int .i64 a, .int .i64 b] 34) = w1 at *
  have h1 := sb2_new w1 p q
  have hb1 := hb0.alloc (by omega) (.cells #[.int .i64 p, .int .i64 q] 34)
  have hc1 := below_alloc5 (w1.alloc (.cells #[.int .i64 p, .int .i64 q] 34)) (.cells #[.int .i64 p, .int .i64 q] 34)
  have hl1 := h1.lt
  rw [hs] at h1 hl1
  have h2 := h1.kept hc1 hl1
  have hb2 := hb1.alloc (by omega) (.cells #[.int .i64 p, .int .i64 q] 34)
  generalize (w1.alloc (.cells #[.int .i64 p, .int .i64 q] 34)).alloc (.cells #[.int .i64 p, .int .i64 q] 34) = w2 at *
  have h3 : SB2 w2.drew (w.heap.size + 1) p q := h2
  exact bodyPost_ret (res_span2 rfl _ _ rfl h3) rfl ⟨rfl, hb2.drew⟩
end Go.Proofs.Ytlmjfbgigfmdhaa
