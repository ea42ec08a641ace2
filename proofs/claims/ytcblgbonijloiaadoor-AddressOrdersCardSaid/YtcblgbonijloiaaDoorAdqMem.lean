/- What the walks of layer 6 ask of memory (the library's variables); Split, and lists of strings. -/
import Derived.Test.YtcblgbonijloiaaDoorAdqVal
import Derived.Test.YtcblgbonijloiaaDoorAdrLib
import Derived.Test.YtcblgbonijloiaaDoorStrLay
namespace Go.Proofs.YtcblgbonijloiaaDoor
open Go.ChangeShapes Go.WideShapes Go.ChangeAt Go.RowKit
set_option linter.unusedVariables false

theorem lt_of_cell {w : World} {g i : Nat} {v : Value} (h : w.cell? ⟨g, i, none⟩ = some v) : g < w.heap.size := by
  apply Decidable.byContradiction
  intro hn
  have : w.heap[g]? = none := Array.getElem?_eq_none (by omega)
  simp [World.cell?, this] at h
/-- What the walks ask of memory. -/
structure TW (w : World) : Prop where
  mx : ∃ m, w.cell? ⟨0, 0, none⟩ = some (.int .i64 m)
  p10 : Lib.TabIs Tryd.prog w "internal/strconv.uint64pow10" .u64 Lib.pow10Tab
  db : w.cell? ⟨5, 15, none⟩ = some (.int .u8 4)
theorem gPow10 : Tryd.prog.globalNamed "internal/strconv.uint64pow10" = some 1 := by kernel_rfl
theorem TW.kept {w w' : World} (h : TW w) (hb : Below w.heap.size w w') : TW w' := by
  obtain ⟨⟨m, h1⟩, h2, h3⟩ := h
  refine ⟨⟨m, ?_⟩, ?_, ?_⟩
  · rw [World.cell?_of_block (w := w) (w' := w') (a := ⟨0, 0, none⟩) (hb.block _ (lt_of_cell h1))]
    exact h1
  · unfold Lib.TabIs World.var? at h2 ⊢
    rw [gPow10] at h2 ⊢
    simp only [Option.bind_some] at h2 ⊢
    have hlt : 1 < w.heap.size := by
      apply Decidable.byContradiction
      intro hn
      have : w.heap[1]? = none := Array.getElem?_eq_none (by omega)
      rw [this] at h2
      cases h2
    rw [hb.block _ hlt]
    exact h2
  · rw [World.cell?_of_block (w := w) (w' := w') (a := ⟨5, 15, none⟩) (hb.block _ (lt_of_cell h3))]
    exact h3
/-- The same behind a part of the call. -/
theorem TW.on {B : Nat} {w w' : World} (h : TW w) (hb : Below B w w') (hB : w.heap.size ≤ B) : TW w' := h.kept (hb.mono hB)
theorem byte_str (c : UInt8) : (⟨#[c]⟩ : ByteArray).data.toList = [c] := rfl
theorem split_at6 (s : ByteArray) (c : UInt8) (i : Nat) (p : By) (h : (splitL c s.data.toList)[i]? = some p) : (((Lib.splitB ⟨#[c]⟩ 0 (Lib.countB s ⟨#[c]⟩) s).map Value.string).toArray)[i]? = some (.string (str p)) := by
  rw [← split_bytes, List.getElem?_map] at h
  rw [List.getElem?_toArray, List.getElem?_map]
  cases hq : (Lib.splitB ⟨#[c]⟩ 0 (Lib.countB s ⟨#[c]⟩) s)[i]? with
  | none => rw [hq] at h; cases h
  | some q =>
    rw [hq] at h
    have e : q.data.toList = p := Option.some.inj h
    rw [← e, str_of]
    rfl
/-- Split, as the walks use it. -/
theorem psplit6 (s : ByteArray) (c : UInt8) (w : World) (hs : s.size ≤ 1000) (ht : TW w) :
    Calls Tryd.prog 66 #[.string s, .string ⟨#[c]⟩] w fun e w' => e = .returned (.slice (some ⟨w.heap.size, 0, none⟩) (splitL c s.data.toList).length (splitL c s.data.toList).length) ∧ w.heap.size < w'.heap.size ∧ (∀ (i : Nat) (p : By), (splitL c s.data.toList)[i]? = some p → w'.cell? ⟨w.heap.size, i, none⟩ = some (.string (str p))) ∧ Below w.heap.size w w' := by
  obtain ⟨m, hm⟩ := ht.mx
  refine (lib_strings_Split s ⟨#[c]⟩ m w (by omega) hm (Nat.le_refl 1)).mono ?_
  rintro e w' ⟨rfl, rfl⟩
  have hl : (splitL c s.data.toList).length = Lib.countB s ⟨#[c]⟩ + 1 := by
    rw [← split_bytes, List.length_map, split_length]
  refine ⟨by rw [hl], alloc_lt6 w _, fun i p h => ?_, below_alloc6 w _⟩
  rw [World.cell?_alloc_at _ _ _ _ rfl]
  exact split_at6 s c i p h
end Go.Proofs.YtcblgbonijloiaaDoor
