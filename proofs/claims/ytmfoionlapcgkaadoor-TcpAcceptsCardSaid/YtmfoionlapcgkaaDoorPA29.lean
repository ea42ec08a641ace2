/- Contracts of the functions, part 29: AdrGrps, AdrP4, AdrFrom. -/
import Derived.Test.YtmfoionlapcgkaaDoorPA8
import Derived.Test.YtmfoionlapcgkaaDoorPA14
import Derived.Test.YtmfoionlapcgkaaDoorPA28
/- Contract of the reference of layer 6: groups. -/
namespace Go.Proofs.YtmfoionlapcgkaaDoor
open Go.ChangeShapes Go.WideShapes Go.ChangeAt Go.RowKit
set_option linter.unusedVariables false

/-- A list of strings in memory. -/
def StL (w : World) (A : Option Addr) (L : List By) : Prop :=
  0 < L.length → ∃ g, A = some ⟨g, 0, none⟩ ∧ g < w.heap.size ∧ ∀ (i : Nat) (p : By), L[i]? = some p → w.cell? ⟨g, i, none⟩ = some (.string (str p))
theorem StL.kept {w w' : World} {A : Option Addr} {L : List By} (h : StL w A L) (hb : Below w.heap.size w w') : StL w' A L := fun hp => by
  obtain ⟨g, e, hg, hc⟩ := h hp
  have hB := hb.block g hg
  refine ⟨g, e, Nat.lt_of_lt_of_le hg hb.size, fun i p hi => ?_⟩
  rw [World.cell?_of_block (w := w) (w' := w') (a := ⟨g, i, none⟩) hB]
  exact hc i p hi
theorem own_stl {w : World} {base : Nat} {A : Option Addr} {cap : Nat} {L : List By} (h : w.ownsRow base 9 1 (.slice A L.length cap) L.length (strC L)) : StL w A L := fun hp => by
  obtain ⟨g, c, hform, _, _⟩ := World.ownsRow.form h hp
  cases hform
  refine ⟨g, rfl, (h.lt g rfl).2, fun i p hi => ?_⟩
  obtain ⟨hil, hie⟩ := List.getElem?_eq_some_iff.1 hi
  rw [h.cellAt i (by rw [Nat.mul_one]; exact hil)]
  unfold strC
  rw [List.getElem?_map, hi]; rfl
theorem splitGo_len (c : UInt8) : ∀ (s cur : By), ∀ p ∈ splitGo c cur s, p.length ≤ cur.length + s.length
  | [], cur, p, h => by rw [splitGo, List.mem_singleton] at h; subst h; simp
  | x :: r, cur, p, h => by
    rw [splitGo] at h
    split at h
    · rcases List.mem_cons.1 h with rfl | h
      · omega
      · have := splitGo_len c r [] p h; simp at this ⊢; omega
    · have := splitGo_len c r _ p h; simp at this ⊢; omega
theorem split_len {c : UInt8} {s p : By} (h : p ∈ splitL c s) : p.length ≤ s.length := by
  have := splitGo_len c s [] p h; simpa using this
theorem splitGo_count (c : UInt8) : ∀ (s cur : By), 0 < (splitGo c cur s).length ∧ (splitGo c cur s).length ≤ s.length + 1
  | [], cur => by rw [splitGo]; simp
  | x :: r, cur => by
    rw [splitGo]
    split
    · have := splitGo_count c r []; simp; omega
    · have := splitGo_count c r (cur ++ [x]); simp; omega
theorem split_count (c : UInt8) (s : By) : 0 < (splitL c s).length ∧ (splitL c s).length ≤ s.length + 1 := splitGo_count c s []
theorem own_mono6 {w : World} {base base' : Nat} {e : TypeId} {size : Nat} {v : Value} {n : Nat} {xs : List Value} (h : w.ownsRow base e size v n xs) (hb : base' ≤ base) : w.ownsRow base' e size v n xs := by
  refine ⟨h.1, ?_⟩
  rcases h.2 with hn | ⟨g, cap, cur, hv, hg, rest⟩
  · exact .inl hn
  · exact .inr ⟨g, cap, cur, hv, Nat.le_trans hb hg, rest⟩
def natC (l : List Nat) : List Value := l.map fun n : Nat => Value.int .i64 (n : Int)
theorem natC_snoc (l : List Nat) (n : Nat) : natC (l ++ [n]) = natC l ++ [.int .i64 n] := by simp [natC]
theorem info_int6 : (Tryd.prog.info? 3).map (fun i => (i.zero, i.size, i.bytes)) = some (some (.int .i64 0), 1, 8) := by kernel_rfl
/-- What the reference's groups leaves. -/
def GrpsP (w : World) (R : Option (List Nat)) (e : Ending) (w' : World) : Prop := match R with
  | none => e = .returned (.tuple #[.slice none 0 0, .bool false])
  | some l => ∃ A cap, e = .returned (.tuple #[.slice A l.length cap, .bool true]) ∧ w'.ownsRow w.heap.size 3 1 (.slice A l.length cap) l.length (natC l)
theorem grpAll_step {p : By} {r : List By} {n : Nat} (h : grpI p = (n : Int)) (out : List Nat) : (grpAll (p :: r)).map (out ++ ·) = (grpAll r).map ((out ++ [n]) ++ ·) := by
  unfold grpI at h
  rw [grpAll]
  cases hg : grpS p with
  | none =>
    rw [hg] at h
    have : (-1 : Int) = (n : Int) := h
    omega
  | some m =>
    rw [hg] at h
    have h' : (m : Int) = (n : Int) := h
    have hm : m = n := by omega
    subst hm
    cases grpAll r <;> simp
theorem grpAll_stop {p : By} {r : List By} (h : grpI p < 0) : grpAll (p :: r) = none := by
  unfold grpI at h
  rw [grpAll]
  cases hg : grpS p with
  | none => rfl
  | some m =>
    rw [hg] at h
    have h' : (m : Int) < 0 := h
    omega
theorem str_isEmpty6 (l : List UInt8) : (str l).toList.isEmpty = l.isEmpty := by
  rw [(ByteArray.toList_eq _).trans (str_toList l)]
theorem isEmpty6 (s : ByteArray) : s.toList.isEmpty = s.data.toList.isEmpty := by
  have := str_isEmpty6 s.data.toList
  rwa [str_of] at this
end Go.Proofs.YtmfoionlapcgkaaDoor

/- Contract of the reference of layer 6: parse4. -/
namespace Go.Proofs.YtmfoionlapcgkaaDoor
open Go.ChangeShapes Go.WideShapes Go.ChangeAt Go.RowKit
set_option linter.unusedVariables false

/-- 'a<<8 | b' of a uint64. -/
theorem or_u64 (a b : Nat) (h1 : a * 256 < 18446744073709551616) (h2 : b < 256) : bits .or .u64 ((a : Int) * 256) (b : Int) = ((a * 256 + b : Nat) : Int) := by
  have nn : ∀ x : Nat, x < 2 ^ 64 → (BitVec.ofInt 64 (x : Int)).toNat = x := fun x hx => by
    rw [BitVec.ofInt_natCast, BitVec.toNat_ofNat]
    exact Nat.mod_eq_of_lt (by omega)
  have e : a * 256 ||| b = a * 256 + b := by
    have h := Nat.shiftLeft_add_eq_or_of_lt (i := 8) (b := b) (by omega) a
    rw [Nat.shiftLeft_eq, show 2 ^ 8 = 256 from rfl] at h
    omega
  rw [show ((a : Int) * 256) = ((a * 256 : Nat) : Int) by omega]
  show IntKind.u64.wrap ((BitVec.ofInt 64 ((a * 256 : Nat) : Int) ||| BitVec.ofInt 64 (b : Int)).toNat : Int) = _
  rw [BitVec.toNat_or, nn _ (by omega), nn _ (by omega), e]
  exact wrap_u64_in (by omega) (by omega)
theorem decGo_le (most : Nat) : ∀ (s : By) (n m : Nat), n ≤ most + 1 → decGo most n s = some m → m ≤ most + 1
  | [], n, m, hn, h => by rw [decGo] at h; cases h; exact hn
  | c :: r, n, m, hn, h => by
    rw [decGo] at h
    split at h
    · exact decGo_le most r _ m (by omega) h
    · exact absurd h (by simp)
theorem decS_le {most : Nat} {s : By} {n : Nat} (h : decS most s = (n : Int)) : n ≤ most := by
  unfold decS at h
  split at h
  · omega
  · split at h
    · omega
    · split at h <;> omega
/-- The address of four bytes, the first of which make n. -/
def dfrom (n : Nat) (l : List Nat) : Nat := l.foldl (fun n d => n * 256 + d) n
theorem decAll_step {p : By} {r : List By} {n : Nat} (h : decS 255 p = (n : Int)) (lo : Nat) : (decAll (p :: r)).map (dfrom lo) = (decAll r).map (dfrom (lo * 256 + n)) := by
  rw [decAll, h]
  show ((decAll r).map (n :: ·)).map (dfrom lo) = _
  cases decAll r <;> simp [dfrom]
theorem decAll_stop {p : By} {r : List By} (h : decS 255 p < 0) : decAll (p :: r) = none := by
  rw [decAll]
  split
  · rename_i n hn; rw [hn] at h; exact absurd h (by simp)
  · rfl
theorem pow256_le {k : Nat} (h : k < 4) : 256 ^ k ≤ 16777216 := by
  calc 256 ^ k ≤ 256 ^ 3 := Nat.pow_le_pow_right (by omega) (by omega)
    _ = 16777216 := rfl
def P4 : Option Nat → Value
  | none => .tuple #[.agg #[.bool false, .int .u64 0, .int .u64 0], .bool false]
  | some n => .tuple #[.agg #[.bool false, .int .u64 0, .int .u64 n], .bool true]
end Go.Proofs.YtmfoionlapcgkaaDoor

/- Contract of the reference of layer 6: FromBytes. -/
namespace Go.Proofs.YtmfoionlapcgkaaDoor
open Go.ChangeShapes Go.WideShapes Go.ChangeAt Go.RowKit
set_option linter.unusedVariables false

/-- The address under way behind k bytes. -/
def FBy (v6 : Bool) (L : By) (k hi lo : Nat) : Prop :=
  if v6 then hi = num (L.take (min k 8)) ∧ lo = num ((L.take k).drop 8) else hi = 0 ∧ lo = num (L.take k)
theorem fb_zero (v6 : Bool) (L : By) : FBy v6 L 0 0 0 := by cases v6 <;> simp [FBy, num_nil]
theorem fb_hi {L : By} {k hi lo : Nat} (h : FBy true L k hi lo) (hk : k < 8) (hl : k < L.length) : hi < 72057594037927936 ∧ FBy true L (k + 1) (hi * 256 + L[k].toNat) lo := by
  obtain ⟨h1, h2⟩ := h
  rw [Nat.min_eq_left (by omega)] at h1
  refine ⟨by rw [h1]; exact num_le7 (by rw [List.length_take]; omega), ?_, ?_⟩
  · rw [Nat.min_eq_left (by omega), List.take_succ_eq_append_getElem hl, num_snoc, h1]
  · rw [h2, List.drop_of_length_le (by rw [List.length_take]; omega), List.drop_of_length_le (by rw [List.length_take]; omega)]
theorem fb_lo6 {L : By} {k hi lo : Nat} (h : FBy true L k hi lo) (hk : 8 ≤ k) (hl : k < L.length) (hL : L.length = 16) : lo < 72057594037927936 ∧ FBy true L (k + 1) hi (lo * 256 + L[k].toNat) := by
  obtain ⟨h1, h2⟩ := h
  rw [Nat.min_eq_right hk] at h1
  refine ⟨by rw [h2]; exact num_le7 (by rw [List.length_drop, List.length_take]; omega), ?_, ?_⟩
  · rw [Nat.min_eq_right (by omega), h1]
  · rw [List.take_succ_eq_append_getElem hl, List.drop_append_of_le_length (by rw [List.length_take]; omega), num_snoc, h2]
theorem fb_lo4 {L : By} {k hi lo : Nat} (h : FBy false L k hi lo) (hl : k < L.length) (hL : L.length = 4) : lo < 72057594037927936 ∧ FBy false L (k + 1) hi (lo * 256 + L[k].toNat) := by
  obtain ⟨h1, h2⟩ := h
  refine ⟨by rw [h2]; exact num_le7 (by rw [List.length_take]; omega), h1, ?_⟩
  rw [List.take_succ_eq_append_getElem hl, num_snoc, h2]
/-- One round: which half takes the byte. -/
theorem fb_step {v6 : Bool} {L : By} {k hi lo : Nat} (h : FBy v6 L k hi lo) (hl : k < L.length) (hL : L.length = if v6 then 16 else 4) :
    ((v6 && decide ((k : Int) < 8)) = true ∧ hi < 72057594037927936 ∧ FBy v6 L (k + 1) (hi * 256 + L[k].toNat) lo) ∨ ((v6 && decide ((k : Int) < 8)) = false ∧ lo < 72057594037927936 ∧ FBy v6 L (k + 1) hi (lo * 256 + L[k].toNat)) := by
  cases v6 with
  | false => exact .inr ⟨rfl, fb_lo4 h hl hL⟩
  | true =>
    by_cases h8 : k < 8
    · exact .inl ⟨by simp; omega, fb_hi h h8 hl⟩
    · exact .inr ⟨by simp; omega, fb_lo6 h (by omega) hl hL⟩
end Go.Proofs.YtmfoionlapcgkaaDoor
