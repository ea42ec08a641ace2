/- The program's sort of spans by their beginnings (slices.SortFunc by the library's contract). -/
import Derived.Test.YtlmjfbgigfmdhaaIntPVal
import Derived.Test.YtlmjfbgigfmdhaaIntRComb
import Derived.Shelf.SlSortCmp.WholeK
import Derived.Shelf.SlicesG.Cmp
import Derived.Laws.OwnMore
namespace Go.Proofs.Ytlmjfbgigfmdhaa
open Go.ChangeShapes Go.WideShapes Go.ChangeAt Go.RowKit Go.Sort Go.Lib
set_option linter.unusedVariables false

theorem ltLo5 (x y : Spn) : ltOf (fun x y : Spn => Lib.compareInt x.lo y.lo) x y = decide (x.lo < y.lo) := by
  unfold ltOf Lib.compareInt
  by_cases h1 : x.lo < y.lo
  · simp [h1]
  · by_cases h2 : y.lo < x.lo <;> simp [h1, h2]
theorem swoLo5 : SWO (ltOf fun x y : Spn => Lib.compareInt x.lo y.lo) where
  irrefl x := by rw [ltLo5]; simp
  trans x y z h1 h2 := by rw [ltLo5] at *; simp at *; omega
  ntrans x y z h1 h2 := by rw [ltLo5] at *; simp at *; omega
theorem pcmp_any (x y : Spn) (W : World) : Calls Try.prog 33 #[.agg #[.int .i64 x.lo, .int .i64 x.hi], .agg #[.int .i64 y.lo, .int .i64 y.hi]] W fun e w' => e = .returned (.int .i64 (Lib.compareInt x.lo y.lo)) ∧ ∃ q os', w' = grow (W.drewN q) os' := by
  have hcon := fun W' => AnyG.cmp_Compare_int layCc x.lo y.lo W'
  change ∀ W', Calls Try.prog 34 _ _ _ at hcon
  generalize Lib.compareInt x.lo y.lo = r at hcon ⊢
  go_enter Try.func33, Try.ntmps33
  go_wp2_with (go_at_call 34; refine (hcon _).mono ?_; rintro e w' ⟨rfl, rfl⟩)
  go_ret
  exact ⟨rfl, 0, _, by rw [alloc_eq_grow, alloc_eq_grow, grow_grow]; rfl⟩
theorem cmpLays5 (blk off size : Nat) (w : World) : CmpLays Try.prog 33 #[] spC 2 (fun x y : Spn => Lib.compareInt x.lo y.lo) blk off size w :=
  fun _ _ _ _ x y => pcmp_any x y _
/-- A list of spans in the order of their beginnings. -/
def sortedS (l : List Spn) : Prop := ∀ (i j : Nat) (s t : Spn), i ≤ j → l[i]? = some s → l[j]? = some t → s.lo ≤ t.lo
theorem spCells_two (l : List Spn) (j : Nat) (h : j < l.length * 2) : (spCells l)[j]? = some ((spC l[j / 2]!)[j % 2]!) := by
  have hi : j / 2 < l.length := by omega
  have hg := spCells_get l (j / 2) l[j / 2]! (getb hi)
  rcases Nat.mod_two_eq_zero_or_one j with h2 | h2
  · rw [h2]
    have := hg.1
    rw [show j / 2 * 2 = j by omega] at this
    exact this
  · rw [h2]
    have := hg.2
    rw [show j / 2 * 2 + 1 = j by omega] at this
    exact this
theorem holds5 {w : World} {base g cap : Nat} {D : List Spn} (h : w.ownsRow base 34 2 (.slice (some ⟨g, 0, none⟩) D.length cap) D.length (spCells D)) : HoldsK spC 2 w g 0 D.toArray := fun j hj => by
  rw [size_flatK, List.size_toArray] at hj
  rw [Nat.zero_add]
  refine ⟨?_, h.frozenAt j⟩
  rw [h.cellAt j hj, get_flatK _ _ _ _ (by simpa using hj), spCells_two D j hj]
  simp
theorem below_sort5 {base g n : Nat} {w : World} {d : Array Spn} {os : Array Obj} (hg : base ≤ g) (hg2 : g < w.heap.size) : RowKit.Below base w (sortWorldK spC 2 w g 0 n d os) := by
  refine ⟨rfl, rfl, rfl, ?_, fun k hk => ?_⟩
  · simp [sortWorldK, putRowK, putRow, mapBlock, Sort.ahead]
  · unfold sortWorldK
    have hs : (putRowK spC 2 (Sort.ahead w n) g 0 d).heap.size = w.heap.size := by simp [putRowK, putRow, mapBlock, Sort.ahead]
    have ho : (putRowK spC 2 (Sort.ahead w n) g 0 d).heap[k]? = w.heap[k]? := by
      simp [putRowK, putRow, mapBlock, Sort.ahead, Array.getElem?_modify, show g ≠ k by omega]
    rw [heap_grow_old _ _ (by rw [hs]; omega), ho]

theorem psort_any (g cap base : Nat) (D : List Spn) (w : World) (hown : w.ownsRow base 34 2 (.slice (some ⟨g, 0, none⟩) D.length cap) D.length (spCells D)) (hl : D.length ≤ 1000000) :
    Calls Try.prog 32 #[.slice (some ⟨g, 0, none⟩) D.length cap, .func (.func 33) #[] #[]] w fun e w' => e = .returned (.tuple #[]) ∧ ∃ D' : List Spn, D'.Perm D ∧ sortedS D' ∧ SpL w' (some ⟨g, 0, none⟩) D' ∧ RowKit.Below base w w' := by
  have eg : ∀ args w, (callFunc 33 args).run Try.prog w = .ok (.enter 33 args) w := enters_of Try.func33 (by kernel_rfl) rfl
  have hlt := hown.lt g rfl
  have hH := holds5 hown
  have hcon := AnyQ.slices_SortFunc laySf 2 Try.isAgg34 Try.sizeOf34 spC (fun _ => rfl) (fun x v hv => by simp [spC] at hv; rcases hv with rfl | rfl <;> rfl) (fun x y => Lib.compareInt x.lo y.lo) swoLo5 33 #[] g 0 cap D.toArray w eg (cmpLays5 g 0 _ w) hH hlt.2 (by rw [List.size_toArray]; omega)
  rw [List.size_toArray] at hcon
  refine hcon.mono ?_
  rintro e w' ⟨rfl, d', n, os, hp, hs, rfl⟩
  have hsz : d'.size = D.length := by rw [hp.1, List.size_toArray]
  refine ⟨rfl, d'.toList, ?_, ?_, ?_, below_sort5 hlt.1 hlt.2⟩
  · have h3 := hp.2.2
    have e1 : d'.extract 0 D.length = d' := by rw [← hsz]; simp
    have e2 : D.toArray.extract 0 D.length = D.toArray := by simp
    rw [e1, e2] at h3
    exact h3
  · intro i j s t hij hi hj
    have hi1 := (Array.getElem?_eq_some_iff.1 (by simpa using hi))
    have hj1 := (Array.getElem?_eq_some_iff.1 (by simpa using hj))
    obtain ⟨hil, hie⟩ := hi1
    obtain ⟨hjl, hje⟩ := hj1
    by_cases e : i = j
    · subst e
      rw [hie] at hje
      subst hje
      exact Int.le_refl _
    · have h4 := hs i j (Nat.zero_le _) (by omega) (by omega)
      rw [ltLo5, getElem!_pos d' i hil, getElem!_pos d' j hjl, hie, hje] at h4
      simpa using h4
  · intro _
    have hK := holdsK_sortWorldK_c spC 2 w g 0 D.toArray d' n os hH hlt.2 hp.1
    refine ⟨g, 0, rfl, ?_, fun i s hi => ?_⟩
    · simp [sortWorldK, putRowK, putRow, mapBlock, Sort.ahead]
      have := hlt.2
      omega
    · obtain ⟨hil, hie⟩ := Array.getElem?_eq_some_iff.1 (show d'[i]? = some s by simpa using hi)
      have h1 := (hK.cell (i := i) (c := 0) hil (by omega)).1
      have h2 := (hK.cell (i := i) (c := 1) hil (by omega)).1
      rw [getElem!_pos d' i hil, hie] at h1 h2
      exact ⟨h1, h2⟩
set_option maxRecDepth 20000 in
theorem pins_nil (A : Option Addr) (cap : Nat) (fv : Value) (w : World) :
    Calls Try.prog 49 #[.slice A 0 cap, .int .i64 0, .int .i64 0, fv] w fun e w' => e = .returned (.tuple #[]) ∧ w' = w := by
  go_enter Try.func49, Try.ntmps49
  go_wp2_with fail
  refine wp_loop_rounds 1 ?_
  rw [rounds_succ]
  go_wp2_with fail
  go_end0
  exact ⟨rfl, rfl⟩
set_option maxRecDepth 20000 in
theorem ppdq_nil (A : Option Addr) (cap : Nat) (lim : Int) (fv : Value) (w : World) :
    Calls Try.prog 43 #[.slice A 0 cap, .int .i64 0, .int .i64 0, .int .i64 lim, fv] w fun e w' => e = .returned (.tuple #[]) ∧ w' = w := by
  have H := Lib.hid (pins_nil A cap fv)
  go_enter Try.func43, Try.ntmps43
  go_wp2_with fail
  refine wp_loop_rounds 1 ?_
  rw [rounds_succ]
  go_wp2_with (go_at_call 49; refine (H.out _).mono ?_; rintro e w' ⟨rfl, rfl⟩)
  (try simp only [Exit.inBlock, Exit.then]); refine bodyPost_ret (results_none rfl _ _ _) rfl ?_
  exact ⟨rfl, rfl⟩
set_option maxRecDepth 20000 in
theorem psort_nil (A : Option Addr) (cap : Nat) (fv : Value) (w : World) :
    Calls Try.prog 32 #[.slice A 0 cap, fv] w fun e w' => e = .returned (.tuple #[]) ∧ w' = w := by
  have H := Lib.hid (fun lim W => ppdq_nil A cap lim fv W)
  have hl : ∀ W, Calls Try.prog 44 #[.int .u64 0] W fun e w' => e = .returned (.int .i64 (Lib.bitLen 0 : Nat)) ∧ w' = W := fun W => by
    have h := Any.bits_Len (SlLaysF0.n15.bits (P := Try.prog) (ρ := laySf_ren) { laySf with }) 0 W (by omega) (by omega)
    exact h
  have HL := Lib.hid hl
  clear hl
  generalize (Lib.bitLen 0) = bl at *
  go_enter Try.func32, Try.ntmps32
  go_wp2_with (first | (go_at_call 44; refine (HL.out _).mono ?_; rintro e w' ⟨rfl, rfl⟩) | (go_at_call 43; refine (H.out _ _).mono ?_; rintro e w' ⟨rfl, rfl⟩))
  go_end0
  exact ⟨rfl, rfl⟩
end Go.Proofs.Ytlmjfbgigfmdhaa
