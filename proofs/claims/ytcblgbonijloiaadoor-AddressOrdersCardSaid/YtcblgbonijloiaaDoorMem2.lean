/- Contracts: number, part, Put, PutLittle, Get, GetLittle of the program. -/
import Derived.Test.YtcblgbonijloiaaDoorMem
import Derived.Laws.BitsAllLaws
import Derived.Laws.BitsLemmas
import Derived.WalkSpells
namespace Go.Proofs.YtcblgbonijloiaaDoor
open Go.ChangeShapes Go.WideShapes Go.ChangeAt Go.RowKit

/-- 'a<<8 | b': the wrap is none where a is small. -/
theorem or_byte (a b : Nat) (ha : a < 281474976710656) (hb : b < 256) : bits .or .i64 ((a : Int) * 256) (b : Int) = (a : Int) * 256 + b := by
  have nn : ∀ x : Nat, x < 2 ^ 63 → (BitVec.ofInt 64 (x : Int)).toNat = x := fun x hx => by
    rw [BitVec.ofInt_natCast, BitVec.toNat_ofNat]
    exact Nat.mod_eq_of_lt (by omega)
  have e : a * 256 ||| b = a * 256 + b := by
    have h := Nat.shiftLeft_add_eq_or_of_lt (i := 8) (b := b) (by omega) a
    rw [Nat.shiftLeft_eq, show 2 ^ 8 = 256 from rfl] at h
    omega
  rw [show ((a : Int) * 256) = ((a * 256 : Nat) : Int) by omega]
  show IntKind.i64.wrap ((BitVec.ofInt 64 ((a * 256 : Nat) : Int) ||| BitVec.ofInt 64 (b : Int)).toNat : Int) = _
  rw [BitVec.toNat_or, nn _ (by omega), nn _ (by omega), e, IntKind.wrap_i64]
  omega

theorem bs_nil (w : World) (base : Nat) : BS w base (.slice none 0 0) [] := ⟨none, 0, rfl, Nat.le_refl _, by simp⟩

theorem str_eq {l : List UInt8} {s : ByteArray} (h : s.data.toList = l) : s = str l := by rw [← h, str_of]

/-- 'string(b)'. -/
theorem bs_string {w : World} {base : Nat} {A : Option Addr} {cap : Nat} {l : List UInt8} (h : BS w base (.slice A l.length cap) l) :
    (convert 71 9 (.slice A l.length cap)).run Tryd.prog w = .ok (.string (str l)) w := by
  obtain ⟨A', cap', hv, hc, hb⟩ := h
  cases hv
  by_cases h0 : l.length = 0
  · have hnil : l = [] := List.eq_nil_of_length_eq_zero h0
    subst hnil
    rw [run_convert_bytes_string w 71 9 5 A _ cap Tryd.underlying71 Tryd.underlying5 Tryd.underlying9]
    cases A with
    | none => rfl
    | some a => simp [Conv.bytesToString, loadCells, loadCellsFrom, str]; rfl
  · obtain ⟨g, o, rfl, _, _, hcell⟩ := hb (by omega)
    refine run_convert_bytes_back w 71 9 5 ⟨g, o, none⟩ cap l Tryd.underlying71 Tryd.underlying5 Tryd.underlying9 (fun j hj => ?_)
    have := (hcell j hj).1
    unfold Addr.add
    split
    · subst_vars; simpa using this
    · exact this

/-- k bytes from a place on. -/
def sub (s : ByteArray) (a k : Nat) : List UInt8 := (s.data.toList.drop a).take k
theorem sub_length {s : ByteArray} {a k : Nat} (h : a + k ≤ s.size) : (sub s a k).length = k := by
  unfold sub
  rw [List.length_take, List.length_drop]
  have : s.data.toList.length = s.size := by simp
  omega

/-- '[]byte(s)'. -/
theorem bs_new (w : World) (s : ByteArray) (cap : Nat) (hcap : s.size ≤ cap) :
    BS (w.alloc (.cells (bytesRow s cap) 5 ((bytesRow s cap).size, (bytesRow s cap).size + 1))) w.heap.size (.slice (some ⟨w.heap.size, 0, none⟩) s.size cap) s.data.toList := by
  have hl : s.data.toList.length = s.size := by simp
  refine ⟨some ⟨w.heap.size, 0, none⟩, cap, by rw [hl], by rw [hl]; exact hcap, fun _ => ⟨w.heap.size, 0, rfl, Nat.le_refl _, by simp, fun j hj => ?_⟩⟩
  have hj' : j < s.data.size := by rw [hl] at hj; exact hj
  rw [Nat.zero_add]
  refine ⟨?_, ?_⟩
  · rw [World.cell?_alloc_mark, bytesRow_at s cap j hj']
    simp
  · rw [World.frozen?_alloc_mark]
    have : (bytesRow s cap).size = s.data.size + (cap - s.size) := by simp [bytesRow]
    simp
    intro
    omega

end Go.Proofs.YtcblgbonijloiaaDoor
