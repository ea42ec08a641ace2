/- The lists of tokens that the laws of layer 4 take: what they hold; the law's own test of their sizes. -/
import Derived.Test.YtcakdgfkepdpkaaAwk04
import Derived.Deep.Slices
import Derived.Deep.SlicePairs
namespace Go.Proofs.Ytcakdgfkepdpkaa
open Go.ChangeShapes Go.WideShapes Go.ChangeAt Go.RowKit
set_option linter.unusedVariables false

/-- The slice (A, n) holds tokens of kind K i, text T i, offset P i. -/
def InToks (w : World) (A : Option Addr) (n : Nat) (K : Nat → Int) (T : Nat → ByteArray) (P : Nat → Int) : Prop :=
  0 < n → ∃ g o, A = some ⟨g, o, none⟩ ∧ g < w.heap.size ∧ ∀ i, i < n → w.cell? ⟨g, o + i * 3, none⟩ = some (.int .i64 (K i)) ∧ w.cell? ⟨g, o + i * 3 + 1, none⟩ = some (.string (T i)) ∧ w.cell? ⟨g, o + i * 3 + 2, none⟩ = some (.int .i64 (P i)) ∧ (T i).size ≤ maxLen
theorem InToks.kept {w w' : World} {A : Option Addr} {n : Nat} {K : Nat → Int} {T : Nat → ByteArray} {P : Nat → Int} (h : InToks w A n K T P) (hb : Below w.heap.size w w') : InToks w' A n K T P := fun hp => by
  obtain ⟨g, o, e, hg, hc⟩ := h hp
  refine ⟨g, o, e, Nat.lt_of_lt_of_le hg hb.size, fun i hi => ?_⟩
  have hB := hb.block g hg
  rw [World.cell?_of_block (w := w) (w' := w') (a := ⟨g, o + i * 3, none⟩) hB, World.cell?_of_block (w := w) (w' := w') (a := ⟨g, o + i * 3 + 1, none⟩) hB, World.cell?_of_block (w := w) (w' := w') (a := ⟨g, o + i * 3 + 2, none⟩) hB]
  exact hc i hi

theorem choose_nat {α : Type} [Inhabited α] {p : Nat → α → Prop} {m : Nat} (h : ∀ i, i < m → ∃ x, p i x) : ∃ f : Nat → α, ∀ i, i < m → p i (f i) := by
  classical
  exact ⟨fun i => if hi : i < m then (h i hi).choose else default, fun i hi => by simp only [dif_pos hi]; exact (h i hi).choose_spec⟩
theorem cellsTok : Try.prog.cellsOf 36 = 3 := by kernel_rfl
theorem cInt4 : Try.prog.cellsOf 3 = 1 := by kernel_rfl
theorem cStr4 : Try.prog.cellsOf 9 = 1 := by kernel_rfl

theorem in_toks {H : Type} {enc : TypeId × Value → H} {W : World} {base : Nat} {sp : Nat → Bool} {held : Bool} {A : Option Addr} {n cap : Nat} {d : DataW H} {p : List MemPlace}
    (h : DataW.Trod enc Try.prog W base sp held 23 (.slice A n cap) d p) : ∃ K T P, InToks W A n K T P ∧ n ≤ maxLen := by
  obtain ⟨fuel, hf⟩ := h
  rcases Go.Deep.open_slice Try.underlying23 hf with ⟨hcs, _⟩ | ⟨a, l, c, m, k, D, Pl, hcs, _, hl, hm, hmm, _, hx⟩
  · simp [Value.cells] at hcs
    obtain ⟨rfl, rfl, rfl⟩ := hcs
    exact ⟨fun _ => 0, fun _ => ⟨#[]⟩, fun _ => 0, fun h => absurd h (by omega), by simp [maxLen]⟩
  · simp [Value.cells] at hcs
    obtain ⟨rfl, rfl, rfl⟩ := hcs
    have hlm : n ≤ m := by rw [hmm]; split <;> omega
    have each : ∀ i, i < n → ∃ q : Int × ByteArray × Int, W.cell? (a.add (i * 3)) = some (.int .i64 q.1) ∧ W.cell? (a.add (i * 3 + 1)) = some (.string q.2.1) ∧ W.cell? (a.add (i * 3 + 2)) = some (.int .i64 q.2.2) ∧ q.2.1.size ≤ maxLen := by
      intro i hi
      obtain ⟨cs', h1, h2⟩ := hx i (by omega)
      rw [cellsTok] at h1
      obtain ⟨_, hlen, hcell⟩ := World.cells?_some h1
      obtain ⟨xs, k', _, hxy, _, hxl, hfs⟩ := DataW.trod_struct Try.underlying36 h2
      match cs', hlen, xs, hxl with
      | [v0, v1, v2], _, [y0, y1, y2], _ =>
        have g0 := hfs 0 _ rfl
        have g1 := hfs 1 _ rfl
        have g2 := hfs 2 _ rfl
        simp [cInt4, cStr4] at g0 g1 g2
        obtain ⟨a0, e0, _, _⟩ := DataW.trod_int Try.underlying3 g0
        obtain ⟨s1, e1, _, hs1⟩ := DataW.trod_string Try.underlying9 g1
        obtain ⟨a2, e2, _, _⟩ := DataW.trod_int Try.underlying3 g2
        simp at e0 e1 e2
        have c0 := hcell 0 (by omega)
        have c1 := hcell 1 (by omega)
        have c2 := hcell 2 (by omega)
        have hadd : ∀ x y, (a.add x).add y = a.add (x + y) := fun x y => by
          unfold Addr.add
          by_cases hx : x = 0 <;> by_cases hy : y = 0 <;> simp [hx, hy] <;> omega
        rw [hadd] at c0 c1 c2
        exact ⟨(a0, s1, a2), by rw [← e0]; simpa using c0, by rw [← e1]; simpa using c1, by rw [← e2]; simpa using c2, hs1⟩
    obtain ⟨q, hq⟩ := choose_nat each
    refine ⟨fun i => (q i).1, fun i => (q i).2.1, fun i => (q i).2.2, fun hp => ?_, by omega⟩
    obtain ⟨b, off, spot⟩ := a
    have h0 := (hq 0 (by omega)).1
    have hspot : spot = none := by simpa [Addr.add] using World.cell?_spot h0
    subst hspot
    have hlt := World.block_lt_of_cell? W _ h0
    refine ⟨b, off, rfl, by simpa [Addr.add] using hlt, fun i hi => ?_⟩
    obtain ⟨h1, h2, h3, h4⟩ := hq i hi
    rw [add_flat] at h1 h2 h3
    exact ⟨h1, by rw [Nat.add_assoc]; exact h2, by rw [Nat.add_assoc]; exact h3, h4⟩

/-- What 'long' answers: if no, there are at most 40 tokens of at most 300 bytes. -/
def LongT (T : Nat → ByteArray) (n : Nat) (w : World) (e : Ending) (w' : World) : Prop := ∃ b : Bool, e = .returned (.bool b) ∧ w = w' ∧ (b = false → n ≤ 40 ∧ ∀ i, i < n → (T i).size ≤ 300)
theorem longt_any (A : Option Addr) (n cap : Nat) (K : Nat → Int) (T : Nat → ByteArray) (P : Nat → Int) (w : World) (h : InToks w A n K T P) (hn : n ≤ maxLen) :
    Calls Try.prog 14 #[.slice A n cap] w (LongT T n w) := by
  unfold maxLen at hn
  have H := Lib.hid h
  clear h
  by_cases h40 : 40 < n
  · go_enter Try.func14, Try.ntmps14
    go_wp2_with fail
    go_ret
    exact ⟨true, rfl, rfl, by simp⟩
  have hd : decide (40 < (n : Int)) = false := by simp; omega
  go_enter Try.func14, Try.ntmps14
  go_wp2_with fail
  go_loop [3] (fun i => ∃ k : Nat, k ≤ n ∧ i = .int .i64 k ∧ Hid (∀ i, i < k → (T i).size ≤ 300)) (fun i => n - (intOf i).toNat)
  case atStart => exact ⟨0, by omega, rfl, fun i hi => absurd hi (by omega)⟩
  case round =>
    obtain ⟨k, hk, rfl, HT⟩ := hrel
    by_cases hlt : k < n
    · obtain ⟨g, o, rfl, hg, hc⟩ := H.out (by omega)
      obtain ⟨_, c1, _, hsz⟩ := hc k hlt
      unfold maxLen at hsz
      have hki : (k : Int) < (n : Int) := by omega
      have hki0 : (0 : Int) ≤ (k : Int) := by omega
      have hnx := HT.out
      by_cases h300 : 300 < (T k).size
      · generalize T k = x at *
        clear hc hnx
        go_wp2_with fail
        go_ret
        exact ⟨true, rfl, rfl, by simp⟩
      · have HN := Lib.hid (show ∀ i, i < k + 1 → (T i).size ≤ 300 from fun i hi => by
          by_cases e : i = k
          · subst e; omega
          · exact hnx i (by omega))
        generalize T k = x at *
        have hd3 : decide (300 < (x.size : Int)) = false := by simp; omega
        clear hc hnx
        go_wp2_with fail
        go_round
        case rel => exact ⟨k + 1, by omega, by go_num, HN.out⟩
        case measure => simp [intOf]; omega
    · obtain rfl : k = n := by omega
      have hdk : decide ((k : Int) < (k : Int)) = false := by simp
      go_wp2_with fail
      go_ret
      exact ⟨false, rfl, rfl, fun _ => ⟨by omega, HT.out⟩⟩
end Go.Proofs.Ytcakdgfkepdpkaa
