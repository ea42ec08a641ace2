/- Contracts of the functions, part 2: Mem2, Ref, Ref2. -/
import Derived.Laws.BitsAllLaws
import Derived.Laws.BitsLemmas
import Derived.WalkSpells
import Derived.Deep.RegionWith
import Derived.OwnWalk
import Derived.Test.YtafpmlikocchpaaPA1
/- Contracts: number, part, Put, PutLittle, Get, GetLittle of the program. -/
namespace Go.Proofs.Ytafpmlikocchpaa
open Go.ChangeShapes Go.WideShapes Go.ChangeAt Go.RowKit

/-- 'a<<8 | b': the wrap is none where a is small. -/
theorem or_byte (a b : Nat) (ha : a < 281474976710656) (hb : b < 256) : bits .or .i64 ((a : Int) * 256) (b : Int) = (a : Int) * 256 + b := by
  have nn : ∀ x : Nat, x < 2 ^ 63 → (BitVec.ofInt 64 (x : Int)).toNat = x := fun x hx => by
    rw [BitVec.ofInt_natCast, BitVec.toNat_ofNat]
    exact Nat.mod_eq_of_lt (by omega)
  have e : a * 256 ||| b = a * 256 + b := by
    have h := Nat.shiftLeft_add_eq_or_of_lt (i := 8) (b := b) (by omega) a
    rw [Nat.shiftLeft_eq, show 2 ^ 8 = 256 from rfl] at h
    omega
  rw [show ((a : Int) * 256) = ((a * 256 : Nat) : Int) by omega]
  show IntKind.i64.wrap ((BitVec.ofInt 64 ((a * 256 : Nat) : Int) ||| BitVec.ofInt 64 (b : Int)).toNat : Int) = _
  rw [BitVec.toNat_or, nn _ (by omega), nn _ (by omega), e, IntKind.wrap_i64]
  omega

theorem bs_nil (w : World) (base : Nat) : BS w base (.slice none 0 0) [] := ⟨none, 0, rfl, Nat.le_refl _, by simp⟩

theorem str_eq {l : List UInt8} {s : ByteArray} (h : s.data.toList = l) : s = str l := by rw [← h, str_of]

/-- 'string(b)'. -/
theorem bs_string {w : World} {base : Nat} {A : Option Addr} {cap : Nat} {l : List UInt8} (h : BS w base (.slice A l.length cap) l) :
    (convert 57 9 (.slice A l.length cap)).run Try.prog w = .ok (.string (str l)) w := by
  obtain ⟨A', cap', hv, hc, hb⟩ := h
  cases hv
  by_cases h0 : l.length = 0
  · have hnil : l = [] := List.eq_nil_of_length_eq_zero h0
    subst hnil
    rw [run_convert_bytes_string w 57 9 5 A _ cap Try.underlying57 Try.underlying5 Try.underlying9]
    cases A with
    | none => rfl
    | some a => simp [Conv.bytesToString, loadCells, loadCellsFrom, str]; rfl
  · obtain ⟨g, o, rfl, _, _, hcell⟩ := hb (by omega)
    refine run_convert_bytes_back w 57 9 5 ⟨g, o, none⟩ cap l Try.underlying57 Try.underlying5 Try.underlying9 (fun j hj => ?_)
    have := (hcell j hj).1
    unfold Addr.add
    split
    · subst_vars; simpa using this
    · exact this

/-- k bytes from a place on. -/
def sub (s : ByteArray) (a k : Nat) : List UInt8 := (s.data.toList.drop a).take k
theorem sub_length {s : ByteArray} {a k : Nat} (h : a + k ≤ s.size) : (sub s a k).length = k := by
  unfold sub
  rw [List.length_take, List.length_drop]
  have : s.data.toList.length = s.size := by simp
  omega

/-- '[]byte(s)'. -/
theorem bs_new (w : World) (s : ByteArray) (cap : Nat) (hcap : s.size ≤ cap) :
    BS (w.alloc (.cells (bytesRow s cap) 5 ((bytesRow s cap).size, (bytesRow s cap).size + 1))) w.heap.size (.slice (some ⟨w.heap.size, 0, none⟩) s.size cap) s.data.toList := by
  have hl : s.data.toList.length = s.size := by simp
  refine ⟨some ⟨w.heap.size, 0, none⟩, cap, by rw [hl], by rw [hl]; exact hcap, fun _ => ⟨w.heap.size, 0, rfl, Nat.le_refl _, by simp, fun j hj => ?_⟩⟩
  have hj' : j < s.data.size := by rw [hl] at hj; exact hj
  rw [Nat.zero_add]
  refine ⟨?_, ?_⟩
  · rw [World.cell?_alloc_mark, bytesRow_at s cap j hj']
    simp
  · rw [World.frozen?_alloc_mark]
    have : (bytesRow s cap).size = s.data.size + (cap - s.size) := by simp [bytesRow]
    simp
    intro
    omega

end Go.Proofs.Ytafpmlikocchpaa

/- Contracts of the reference: Put, Reverse, PutLittle, Get, GetLittle. -/
namespace Go.Proofs.Ytafpmlikocchpaa
open Go.ChangeShapes Go.WideShapes Go.ChangeAt Go.RowKit

/-- What lies below the heap's end reads on behind a step that keeps it. -/
theorem kept_cells {a b : World} (h : Below a.heap.size a b) (g o : Nat) (hg : g < a.heap.size) : b.cell? ⟨g, o, none⟩ = a.cell? ⟨g, o, none⟩ := h.cell (p := ⟨g, o, none⟩) hg

/-- 'string([]byte{b})'. -/
theorem one_string (W : World) (g : Nat) (b : Int) (h0 : 0 ≤ b) (h1 : b < 256) (hc : W.cell? ⟨g, 0, none⟩ = some (.int .u8 b)) :
    (convert 57 9 (.slice (some ⟨g, 0, none⟩) 1 1)).run Try.prog W = .ok (.string (str [UInt8.ofNat b.toNat])) W := by
  refine run_convert_bytes_back W 57 9 5 ⟨g, 0, none⟩ 1 [UInt8.ofNat b.toNat] Try.underlying57 Try.underlying5 Try.underlying9 (fun j hj => ?_)
  obtain rfl : j = 0 := by simpa using hj
  show W.cell? ⟨g, 0, none⟩ = _
  rw [hc]
  simp
  omega

end Go.Proofs.Ytafpmlikocchpaa

/- Contracts of the reference: Reverse, PutLittle, Get, GetLittle. -/
namespace Go.Proofs.Ytafpmlikocchpaa
open Go.ChangeShapes Go.WideShapes Go.ChangeAt Go.RowKit
set_option linter.unusedVariables false

/-- Bytes as cells. -/
def cellsOf (l : List UInt8) : List Value := l.map fun b => .int .u8 (b.toNat : Int)

theorem bs_of_own {w : World} {base : Nat} {A : Option Addr} {cap : Nat} {l : List UInt8} (h : w.ownsRow base 5 1 (.slice A l.length cap) l.length (cellsOf l)) : BS w base (.slice A l.length cap) l := by
  refine ⟨A, cap, rfl, ?_, fun hpos => ?_⟩
  · rcases h.2 with ⟨hv, hn⟩ | ⟨g, c, cur, hv, _, _, hn, _⟩
    · omega
    · cases hv; exact hn
  · rcases h.2 with ⟨hv, hn⟩ | ⟨g, c, cur, hv, hg, hh, hn, _⟩
    · omega
    · cases hv
      have hlt : g < w.heap.size := (h.lt g rfl).2
      refine ⟨g, 0, rfl, hg, hlt, fun j hj => ?_⟩
      rw [Nat.zero_add]
      refine ⟨?_, h.frozenAt j⟩
      rw [h.cellAt j (by omega)]
      simp [cellsOf, hj]

theorem cellsOf_snoc (l : List UInt8) (b : UInt8) : cellsOf l ++ [.int .u8 (b.toNat : Int)] = cellsOf (l ++ [b]) := by simp [cellsOf]
theorem cellsOf_length (l : List UInt8) : (cellsOf l).length = l.length := by simp [cellsOf]

theorem back_take (l : List UInt8) (q : Nat) (h : q < l.length) : (l.drop (q + 1)).reverse ++ [l[q]] = (l.drop q).reverse := by
  rw [List.drop_eq_getElem_cons h, List.reverse_cons]

theorem ext_size (s : ByteArray) (a k : Nat) : (s.extract a (a + k)).size ≤ k := by
  rw [ByteArray.size_extract]; omega

end Go.Proofs.Ytafpmlikocchpaa
