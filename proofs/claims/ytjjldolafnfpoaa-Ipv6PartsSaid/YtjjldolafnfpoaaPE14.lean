/- Contracts of the functions, part 14: AdrGrps, AdrNext, AdrBit. -/
import Derived.Test.YtjjldolafnfpoaaPE6
import Derived.Test.YtjjldolafnfpoaaPE9
import Derived.Test.YtjjldolafnfpoaaPE13
/- Contract of the reference of layer 6: groups. -/
namespace Go.Proofs.Ytjjldolafnfpoaa
open Go.ChangeShapes Go.WideShapes Go.ChangeAt Go.RowKit
set_option linter.unusedVariables false

/-- A list of strings in memory. -/
def StL (w : World) (A : Option Addr) (L : List By) : Prop :=
  0 < L.length → ∃ g, A = some ⟨g, 0, none⟩ ∧ g < w.heap.size ∧ ∀ (i : Nat) (p : By), L[i]? = some p → w.cell? ⟨g, i, none⟩ = some (.string (str p))
theorem StL.kept {w w' : World} {A : Option Addr} {L : List By} (h : StL w A L) (hb : Below w.heap.size w w') : StL w' A L := fun hp => by
  obtain ⟨g, e, hg, hc⟩ := h hp
  have hB := hb.block g hg
  refine ⟨g, e, Nat.lt_of_lt_of_le hg hb.size, fun i p hi => ?_⟩
  rw [World.cell?_of_block (w := w) (w' := w') (a := ⟨g, i, none⟩) hB]
  exact hc i p hi
theorem own_stl {w : World} {base : Nat} {A : Option Addr} {cap : Nat} {L : List By} (h : w.ownsRow base 9 1 (.slice A L.length cap) L.length (strC L)) : StL w A L := fun hp => by
  obtain ⟨g, c, hform, _, _⟩ := World.ownsRow.form h hp
  cases hform
  refine ⟨g, rfl, (h.lt g rfl).2, fun i p hi => ?_⟩
  obtain ⟨hil, hie⟩ := List.getElem?_eq_some_iff.1 hi
  rw [h.cellAt i (by rw [Nat.mul_one]; exact hil)]
  unfold strC
  rw [List.getElem?_map, hi]; rfl
theorem splitGo_len (c : UInt8) : ∀ (s cur : By), ∀ p ∈ splitGo c cur s, p.length ≤ cur.length + s.length
  | [], cur, p, h => by rw [splitGo, List.mem_singleton] at h; subst h; simp
  | x :: r, cur, p, h => by
    rw [splitGo] at h
    split at h
    · rcases List.mem_cons.1 h with rfl | h
      · omega
      · have := splitGo_len c r [] p h; simp at this ⊢; omega
    · have := splitGo_len c r _ p h; simp at this ⊢; omega
theorem split_len {c : UInt8} {s p : By} (h : p ∈ splitL c s) : p.length ≤ s.length := by
  have := splitGo_len c s [] p h; simpa using this
theorem splitGo_count (c : UInt8) : ∀ (s cur : By), 0 < (splitGo c cur s).length ∧ (splitGo c cur s).length ≤ s.length + 1
  | [], cur => by rw [splitGo]; simp
  | x :: r, cur => by
    rw [splitGo]
    split
    · have := splitGo_count c r []; simp; omega
    · have := splitGo_count c r (cur ++ [x]); simp; omega
theorem split_count (c : UInt8) (s : By) : 0 < (splitL c s).length ∧ (splitL c s).length ≤ s.length + 1 := splitGo_count c s []
theorem own_mono6 {w : World} {base base' : Nat} {e : TypeId} {size : Nat} {v : Value} {n : Nat} {xs : List Value} (h : w.ownsRow base e size v n xs) (hb : base' ≤ base) : w.ownsRow base' e size v n xs := by
  refine ⟨h.1, ?_⟩
  rcases h.2 with hn | ⟨g, cap, cur, hv, hg, rest⟩
  · exact .inl hn
  · exact .inr ⟨g, cap, cur, hv, Nat.le_trans hb hg, rest⟩
def natC (l : List Nat) : List Value := l.map fun n : Nat => Value.int .i64 (n : Int)
theorem natC_snoc (l : List Nat) (n : Nat) : natC (l ++ [n]) = natC l ++ [.int .i64 n] := by simp [natC]
theorem info_int6 : (Try.prog.info? 3).map (fun i => (i.zero, i.size, i.bytes)) = some (some (.int .i64 0), 1, 8) := by kernel_rfl
/-- What the reference's groups leaves. -/
def GrpsP (w : World) (R : Option (List Nat)) (e : Ending) (w' : World) : Prop := match R with
  | none => e = .returned (.tuple #[.slice none 0 0, .bool false])
  | some l => ∃ A cap, e = .returned (.tuple #[.slice A l.length cap, .bool true]) ∧ w'.ownsRow w.heap.size 3 1 (.slice A l.length cap) l.length (natC l)
theorem grpAll_step {p : By} {r : List By} {n : Nat} (h : grpI p = (n : Int)) (out : List Nat) : (grpAll (p :: r)).map (out ++ ·) = (grpAll r).map ((out ++ [n]) ++ ·) := by
  unfold grpI at h
  rw [grpAll]
  cases hg : grpS p with
  | none =>
    rw [hg] at h
    have : (-1 : Int) = (n : Int) := h
    omega
  | some m =>
    rw [hg] at h
    have h' : (m : Int) = (n : Int) := h
    have hm : m = n := by omega
    subst hm
    cases grpAll r <;> simp
theorem grpAll_stop {p : By} {r : List By} (h : grpI p < 0) : grpAll (p :: r) = none := by
  unfold grpI at h
  rw [grpAll]
  cases hg : grpS p with
  | none => rfl
  | some m =>
    rw [hg] at h
    have h' : (m : Int) < 0 := h
    omega
theorem str_isEmpty6 (l : List UInt8) : (str l).toList.isEmpty = l.isEmpty := by
  rw [(ByteArray.toList_eq _).trans (str_toList l)]
theorem isEmpty6 (s : ByteArray) : s.toList.isEmpty = s.data.toList.isEmpty := by
  have := str_isEmpty6 s.data.toList
  rwa [str_of] at this
end Go.Proofs.Ytjjldolafnfpoaa

/- Contracts of the reference of layer 6: Next, Previous. -/
namespace Go.Proofs.Ytjjldolafnfpoaa
open Go.ChangeShapes Go.WideShapes Go.ChangeAt Go.RowKit
set_option linter.unusedVariables false

/-- An address, or none, as a result with its flag. -/
def aRes : Option (Bool × Nat × Nat) → Value
  | some (v6, hi, lo) => .tuple #[.agg #[.bool v6, .int .u64 hi, .int .u64 lo], .bool true]
  | none => .tuple #[.agg #[.bool false, .int .u64 0, .int .u64 0], .bool false]
def nxtA (v6 : Bool) (hi lo : Nat) : Option (Bool × Nat × Nat) :=
  if lo + 1 < 18446744073709551616 then (if v6 = false ∧ lo + 1 = 4294967296 then none else some (v6, hi, lo + 1))
  else if v6 then (if hi + 1 < 18446744073709551616 then some (v6, hi + 1, 0) else none) else some (v6, hi, 0)
def prvA (v6 : Bool) (hi lo : Nat) : Option (Bool × Nat × Nat) :=
  if lo = 0 then (if hi = 0 then none else some (v6, hi - 1, 18446744073709551615)) else some (v6, hi, lo - 1)
theorem zero_addr (w : World) : AB (w.alloc (.cells #[.bool false, .int .u64 0, .int .u64 0] 25)) w.heap.size false 0 0 := ab_new w false 0 0
theorem ab2 (w : World) (o : Obj) (v6 : Bool) (hi lo : Nat) : AB ((w.alloc o).alloc (.cells #[.bool v6, .int .u64 hi, .int .u64 lo] 25)) (w.heap.size + 1) v6 hi lo := by
  have := ab_new (w.alloc o) v6 hi lo
  rwa [show (w.alloc o).heap.size = w.heap.size + 1 by simp] at this
theorem below2 (w : World) (a b : Obj) : Below w.heap.size w ((w.alloc a).alloc b) := (below_alloc6 w a).trans ((below_alloc6 _ b).mono (by simp))
theorem wrap_u64_up {n : Nat} (h : n + 1 = 18446744073709551616) : IntKind.u64.wrap ((n : Int) + 1) = 0 := by
  simp [IntKind.wrap, IntKind.bits, IntKind.signed]; omega
theorem wrap_u64_in {n : Int} (h0 : 0 ≤ n) (h : n < 18446744073709551616) : IntKind.u64.wrap n = n := by
  simp [IntKind.wrap, IntKind.bits, IntKind.signed]; omega
end Go.Proofs.Ytjjldolafnfpoaa

/- Contracts of the reference of layer 6: Bit, with. -/
namespace Go.Proofs.Ytjjldolafnfpoaa
open Go.ChangeShapes Go.WideShapes Go.ChangeAt Go.RowKit
set_option linter.unusedVariables false

theorem and1_u64 (n k : Nat) (h : n < 18446744073709551616) : (bits .and .u64 ((n : Int) / 2 ^ k) 1 == 1) = decide (n / 2 ^ k % 2 = 1) := by
  have e : ((n : Int) / 2 ^ k) = ((n / 2 ^ k : Nat) : Int) := by rw [Int.natCast_ediv]; simp
  have hl : n / 2 ^ k < 18446744073709551616 := Nat.lt_of_le_of_lt (Nat.div_le_self _ _) h
  rw [e, show (1 : Int) = ((1 : Nat) : Int) from rfl, u64_and_nat _ 1 hl (by decide), Nat.and_one_is_mod, Bool.eq_iff_iff]
  simp
  omega
/-- A bit of an address. -/
def bitA (v6 : Bool) (hi lo i : Nat) : Bool :=
  if v6 then (if i < 64 then decide (hi / 2 ^ (63 - i) % 2 = 1) else decide (lo / 2 ^ (127 - i) % 2 = 1)) else decide (lo / 2 ^ (31 - i) % 2 = 1)
end Go.Proofs.Ytjjldolafnfpoaa
