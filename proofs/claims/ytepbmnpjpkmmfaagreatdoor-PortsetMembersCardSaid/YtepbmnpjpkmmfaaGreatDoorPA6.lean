/- Contracts of the functions, part 6: AdrGrp, AdrGrps, AdrP4, AdrFrom, AdqStr, AdqDig, AdqVal, AdrLib, StrLay, AdqMem. -/
import Derived.Lib.Split
import Derived.Lib.SplitLaws
import Derived.Lib.CutLaws
import Derived.Lib.IndexMore
import Derived.Lib.Join
import Derived.Lib.Repeat
import Derived.Lib.ItoaNum
import Derived.Shelf.Strings.OnBuilder
import Derived.Shelf.LaysM
import Derived.Shelf.Strconv.Itoa3
import Derived.Shelf.Strings.Search3
import Derived.Shelf.Strings.Cut
import Derived.Shelf.Strings.Split
import Derived.Shelf.Strings.Repeat
import Derived.Test.YtepbmnpjpkmmfaaGreatDoorProg
import Derived.Test.YtepbmnpjpkmmfaaGreatDoorPA3
import Derived.Test.YtepbmnpjpkmmfaaGreatDoorPA5
/- Contracts of the reference of layer 6: group. -/
namespace Go.Proofs.YtepbmnpjpkmmfaaGreatDoor
open Go.ChangeShapes Go.WideShapes Go.ChangeAt Go.RowKit
set_option linter.unusedVariables false

/-- What the reference's group answers. -/
def grpI (s : By) : Int := match grpS s with
  | none => -1
  | some n => n
theorem pow16_le {k : Nat} (h : k < 4) : 16 ^ k ≤ 4096 := by
  calc 16 ^ k ≤ 16 ^ 3 := Nat.pow_le_pow_right (by omega) (by omega)
    _ = 4096 := rfl
end Go.Proofs.YtepbmnpjpkmmfaaGreatDoor

/- Contract of the reference of layer 6: groups. -/
namespace Go.Proofs.YtepbmnpjpkmmfaaGreatDoor
open Go.ChangeShapes Go.WideShapes Go.ChangeAt Go.RowKit
set_option linter.unusedVariables false

/-- A list of strings in memory. -/
def StL (w : World) (A : Option Addr) (L : List By) : Prop :=
  0 < L.length → ∃ g, A = some ⟨g, 0, none⟩ ∧ g < w.heap.size ∧ ∀ (i : Nat) (p : By), L[i]? = some p → w.cell? ⟨g, i, none⟩ = some (.string (str p))
theorem StL.kept {w w' : World} {A : Option Addr} {L : List By} (h : StL w A L) (hb : Below w.heap.size w w') : StL w' A L := fun hp => by
  obtain ⟨g, e, hg, hc⟩ := h hp
  have hB := hb.block g hg
  refine ⟨g, e, Nat.lt_of_lt_of_le hg hb.size, fun i p hi => ?_⟩
  rw [World.cell?_of_block (w := w) (w' := w') (a := ⟨g, i, none⟩) hB]
  exact hc i p hi
theorem own_stl {w : World} {base : Nat} {A : Option Addr} {cap : Nat} {L : List By} (h : w.ownsRow base 9 1 (.slice A L.length cap) L.length (strC L)) : StL w A L := fun hp => by
  obtain ⟨g, c, hform, _, _⟩ := World.ownsRow.form h hp
  cases hform
  refine ⟨g, rfl, (h.lt g rfl).2, fun i p hi => ?_⟩
  obtain ⟨hil, hie⟩ := List.getElem?_eq_some_iff.1 hi
  rw [h.cellAt i (by rw [Nat.mul_one]; exact hil)]
  unfold strC
  rw [List.getElem?_map, hi]; rfl
theorem splitGo_len (c : UInt8) : ∀ (s cur : By), ∀ p ∈ splitGo c cur s, p.length ≤ cur.length + s.length
  | [], cur, p, h => by rw [splitGo, List.mem_singleton] at h; subst h; simp
  | x :: r, cur, p, h => by
    rw [splitGo] at h
    split at h
    · rcases List.mem_cons.1 h with rfl | h
      · omega
      · have := splitGo_len c r [] p h; simp at this ⊢; omega
    · have := splitGo_len c r _ p h; simp at this ⊢; omega
theorem split_len {c : UInt8} {s p : By} (h : p ∈ splitL c s) : p.length ≤ s.length := by
  have := splitGo_len c s [] p h; simpa using this
theorem splitGo_count (c : UInt8) : ∀ (s cur : By), 0 < (splitGo c cur s).length ∧ (splitGo c cur s).length ≤ s.length + 1
  | [], cur => by rw [splitGo]; simp
  | x :: r, cur => by
    rw [splitGo]
    split
    · have := splitGo_count c r []; simp; omega
    · have := splitGo_count c r (cur ++ [x]); simp; omega
theorem split_count (c : UInt8) (s : By) : 0 < (splitL c s).length ∧ (splitL c s).length ≤ s.length + 1 := splitGo_count c s []
theorem own_mono6 {w : World} {base base' : Nat} {e : TypeId} {size : Nat} {v : Value} {n : Nat} {xs : List Value} (h : w.ownsRow base e size v n xs) (hb : base' ≤ base) : w.ownsRow base' e size v n xs := by
  refine ⟨h.1, ?_⟩
  rcases h.2 with hn | ⟨g, cap, cur, hv, hg, rest⟩
  · exact .inl hn
  · exact .inr ⟨g, cap, cur, hv, Nat.le_trans hb hg, rest⟩
def natC (l : List Nat) : List Value := l.map fun n : Nat => Value.int .i64 (n : Int)
theorem natC_snoc (l : List Nat) (n : Nat) : natC (l ++ [n]) = natC l ++ [.int .i64 n] := by simp [natC]
theorem info_int6 : (Tryz.prog.info? 3).map (fun i => (i.zero, i.size, i.bytes)) = some (some (.int .i64 0), 1, 8) := by kernel_rfl
/-- What the reference's groups leaves. -/
def GrpsP (w : World) (R : Option (List Nat)) (e : Ending) (w' : World) : Prop := match R with
  | none => e = .returned (.tuple #[.slice none 0 0, .bool false])
  | some l => ∃ A cap, e = .returned (.tuple #[.slice A l.length cap, .bool true]) ∧ w'.ownsRow w.heap.size 3 1 (.slice A l.length cap) l.length (natC l)
theorem grpAll_step {p : By} {r : List By} {n : Nat} (h : grpI p = (n : Int)) (out : List Nat) : (grpAll (p :: r)).map (out ++ ·) = (grpAll r).map ((out ++ [n]) ++ ·) := by
  unfold grpI at h
  rw [grpAll]
  cases hg : grpS p with
  | none =>
    rw [hg] at h
    have : (-1 : Int) = (n : Int) := h
    omega
  | some m =>
    rw [hg] at h
    have h' : (m : Int) = (n : Int) := h
    have hm : m = n := by omega
    subst hm
    cases grpAll r <;> simp
theorem grpAll_stop {p : By} {r : List By} (h : grpI p < 0) : grpAll (p :: r) = none := by
  unfold grpI at h
  rw [grpAll]
  cases hg : grpS p with
  | none => rfl
  | some m =>
    rw [hg] at h
    have h' : (m : Int) < 0 := h
    omega
theorem str_isEmpty6 (l : List UInt8) : (str l).toList.isEmpty = l.isEmpty := by
  rw [(ByteArray.toList_eq _).trans (str_toList l)]
theorem isEmpty6 (s : ByteArray) : s.toList.isEmpty = s.data.toList.isEmpty := by
  have := str_isEmpty6 s.data.toList
  rwa [str_of] at this
end Go.Proofs.YtepbmnpjpkmmfaaGreatDoor

/- Contract of the reference of layer 6: parse4. -/
namespace Go.Proofs.YtepbmnpjpkmmfaaGreatDoor
open Go.ChangeShapes Go.WideShapes Go.ChangeAt Go.RowKit
set_option linter.unusedVariables false

/-- 'a<<8 | b' of a uint64. -/
theorem or_u64 (a b : Nat) (h1 : a * 256 < 18446744073709551616) (h2 : b < 256) : bits .or .u64 ((a : Int) * 256) (b : Int) = ((a * 256 + b : Nat) : Int) := by
  have nn : ∀ x : Nat, x < 2 ^ 64 → (BitVec.ofInt 64 (x : Int)).toNat = x := fun x hx => by
    rw [BitVec.ofInt_natCast, BitVec.toNat_ofNat]
    exact Nat.mod_eq_of_lt (by omega)
  have e : a * 256 ||| b = a * 256 + b := by
    have h := Nat.shiftLeft_add_eq_or_of_lt (i := 8) (b := b) (by omega) a
    rw [Nat.shiftLeft_eq, show 2 ^ 8 = 256 from rfl] at h
    omega
  rw [show ((a : Int) * 256) = ((a * 256 : Nat) : Int) by omega]
  show IntKind.u64.wrap ((BitVec.ofInt 64 ((a * 256 : Nat) : Int) ||| BitVec.ofInt 64 (b : Int)).toNat : Int) = _
  rw [BitVec.toNat_or, nn _ (by omega), nn _ (by omega), e]
  exact wrap_u64_in (by omega) (by omega)
theorem decGo_le (most : Nat) : ∀ (s : By) (n m : Nat), n ≤ most + 1 → decGo most n s = some m → m ≤ most + 1
  | [], n, m, hn, h => by rw [decGo] at h; cases h; exact hn
  | c :: r, n, m, hn, h => by
    rw [decGo] at h
    split at h
    · exact decGo_le most r _ m (by omega) h
    · exact absurd h (by simp)
theorem decS_le {most : Nat} {s : By} {n : Nat} (h : decS most s = (n : Int)) : n ≤ most := by
  unfold decS at h
  split at h
  · omega
  · split at h
    · omega
    · split at h <;> omega
/-- The address of four bytes, the first of which make n. -/
def dfrom (n : Nat) (l : List Nat) : Nat := l.foldl (fun n d => n * 256 + d) n
theorem decAll_step {p : By} {r : List By} {n : Nat} (h : decS 255 p = (n : Int)) (lo : Nat) : (decAll (p :: r)).map (dfrom lo) = (decAll r).map (dfrom (lo * 256 + n)) := by
  rw [decAll, h]
  show ((decAll r).map (n :: ·)).map (dfrom lo) = _
  cases decAll r <;> simp [dfrom]
theorem decAll_stop {p : By} {r : List By} (h : decS 255 p < 0) : decAll (p :: r) = none := by
  rw [decAll]
  split
  · rename_i n hn; rw [hn] at h; exact absurd h (by simp)
  · rfl
theorem pow256_le {k : Nat} (h : k < 4) : 256 ^ k ≤ 16777216 := by
  calc 256 ^ k ≤ 256 ^ 3 := Nat.pow_le_pow_right (by omega) (by omega)
    _ = 16777216 := rfl
def P4 : Option Nat → Value
  | none => .tuple #[.agg #[.bool false, .int .u64 0, .int .u64 0], .bool false]
  | some n => .tuple #[.agg #[.bool false, .int .u64 0, .int .u64 n], .bool true]
end Go.Proofs.YtepbmnpjpkmmfaaGreatDoor

/- Contract of the reference of layer 6: FromBytes. -/
namespace Go.Proofs.YtepbmnpjpkmmfaaGreatDoor
open Go.ChangeShapes Go.WideShapes Go.ChangeAt Go.RowKit
set_option linter.unusedVariables false

/-- The address under way behind k bytes. -/
def FBy (v6 : Bool) (L : By) (k hi lo : Nat) : Prop :=
  if v6 then hi = num (L.take (min k 8)) ∧ lo = num ((L.take k).drop 8) else hi = 0 ∧ lo = num (L.take k)
theorem fb_zero (v6 : Bool) (L : By) : FBy v6 L 0 0 0 := by cases v6 <;> simp [FBy, num_nil]
theorem fb_hi {L : By} {k hi lo : Nat} (h : FBy true L k hi lo) (hk : k < 8) (hl : k < L.length) : hi < 72057594037927936 ∧ FBy true L (k + 1) (hi * 256 + L[k].toNat) lo := by
  obtain ⟨h1, h2⟩ := h
  rw [Nat.min_eq_left (by omega)] at h1
  refine ⟨by rw [h1]; exact num_le7 (by rw [List.length_take]; omega), ?_, ?_⟩
  · rw [Nat.min_eq_left (by omega), List.take_succ_eq_append_getElem hl, num_snoc, h1]
  · rw [h2, List.drop_of_length_le (by rw [List.length_take]; omega), List.drop_of_length_le (by rw [List.length_take]; omega)]
theorem fb_lo6 {L : By} {k hi lo : Nat} (h : FBy true L k hi lo) (hk : 8 ≤ k) (hl : k < L.length) (hL : L.length = 16) : lo < 72057594037927936 ∧ FBy true L (k + 1) hi (lo * 256 + L[k].toNat) := by
  obtain ⟨h1, h2⟩ := h
  rw [Nat.min_eq_right hk] at h1
  refine ⟨by rw [h2]; exact num_le7 (by rw [List.length_drop, List.length_take]; omega), ?_, ?_⟩
  · rw [Nat.min_eq_right (by omega), h1]
  · rw [List.take_succ_eq_append_getElem hl, List.drop_append_of_le_length (by rw [List.length_take]; omega), num_snoc, h2]
theorem fb_lo4 {L : By} {k hi lo : Nat} (h : FBy false L k hi lo) (hl : k < L.length) (hL : L.length = 4) : lo < 72057594037927936 ∧ FBy false L (k + 1) hi (lo * 256 + L[k].toNat) := by
  obtain ⟨h1, h2⟩ := h
  refine ⟨by rw [h2]; exact num_le7 (by rw [List.length_take]; omega), h1, ?_⟩
  rw [List.take_succ_eq_append_getElem hl, num_snoc, h2]
/-- One round: which half takes the byte. -/
theorem fb_step {v6 : Bool} {L : By} {k hi lo : Nat} (h : FBy v6 L k hi lo) (hl : k < L.length) (hL : L.length = if v6 then 16 else 4) :
    ((v6 && decide ((k : Int) < 8)) = true ∧ hi < 72057594037927936 ∧ FBy v6 L (k + 1) (hi * 256 + L[k].toNat) lo) ∨ ((v6 && decide ((k : Int) < 8)) = false ∧ lo < 72057594037927936 ∧ FBy v6 L (k + 1) hi (lo * 256 + L[k].toNat)) := by
  cases v6 with
  | false => exact .inr ⟨rfl, fb_lo4 h hl hL⟩
  | true =>
    by_cases h8 : k < 8
    · exact .inl ⟨by simp; omega, fb_hi h h8 hl⟩
    · exact .inr ⟨by simp; omega, fb_lo6 h (by omega) hl hL⟩
end Go.Proofs.YtepbmnpjpkmmfaaGreatDoor

/- Contracts of the program's layer 6: eightBytes, numberOf, Bytes, FromBytes. -/
namespace Go.Proofs.YtepbmnpjpkmmfaaGreatDoor
open Go.ChangeShapes Go.WideShapes Go.ChangeAt Go.RowKit
set_option linter.unusedVariables false

/-- The bytes of an address. -/
def adrB (v6 : Bool) (hi lo : Nat) : By := if v6 then (leL 8 hi).reverse ++ (leL 8 lo).reverse else (leL 4 lo).reverse
theorem adrB_length (v6 : Bool) (hi lo : Nat) : (adrB v6 hi lo).length = if v6 then 16 else 4 := by
  unfold adrB; split <;> simp [leL_length]
theorem leL_add : ∀ (a b n : Nat), leL (a + b) n = leL a n ++ leL b (n / 256 ^ a) := by
  intro a b n
  apply List.ext_getElem
  · simp [leL_length]
  · intro i h1 h2
    rw [leL_get]
    by_cases hi : i < a
    · rw [List.getElem_append_left (by rw [leL_length]; exact hi), leL_get]
    · rw [List.getElem_append_right (by rw [leL_length]; omega), leL_get, leL_length, Nat.div_div_eq_div_mul, ← Nat.pow_add, show a + (i - a) = i by omega]
theorem adrB_tail (lo : Nat) : (str (leL 8 lo).reverse).extract 4 (str (leL 8 lo).reverse).size = str (leL 4 lo).reverse := by
  apply ByteArray.ext
  apply Array.ext'
  rw [Lib.extract_data, str_size, List.length_reverse, leL_length, str_toList, str_toList, show (8 : Nat) = 4 + 4 from rfl, leL_add, List.reverse_append]
  rw [List.drop_append_of_le_length (by simp [leL_length]), List.drop_eq_nil_of_le (by simp [leL_length]), List.nil_append, List.take_of_length_le (by simp [leL_length])]
theorem ret_str6 {a b : ByteArray} (h : a = b) : Ending.returned (.string a) = .returned (.string b) := by rw [h]
/-- What FromBytes answers. -/
def fbRes (l : By) : Value :=
  if l.length = 4 then .tuple #[.agg #[.bool false, .int .u64 0, .int .u64 (num l : Nat)], .int .i64 0]
  else if l.length = 16 then .tuple #[.agg #[.bool true, .int .u64 (num (l.take 8) : Nat), .int .u64 (num (l.drop 8) : Nat)], .int .i64 0]
  else .tuple #[.agg #[.bool false, .int .u64 0, .int .u64 0], .int .i64 2]
theorem extract_toList6 (s : ByteArray) (a b : Nat) : (s.extract a b).data.toList = (s.data.toList.drop a).take (b - a) := Lib.extract_data s a b
end Go.Proofs.YtepbmnpjpkmmfaaGreatDoor

/- The digits of numbers and groups: plain mathematics; contracts of the program's digit, value, decimal. -/
namespace Go.Proofs.YtepbmnpjpkmmfaaGreatDoor
open Go.ChangeShapes Go.WideShapes Go.ChangeAt Go.RowKit
set_option linter.unusedVariables false

/-- A digit's value; 16 for any other byte. -/
def dgN (x : Nat) : Nat := if 48 ≤ x ∧ x ≤ 57 then x - 48 else if 97 ≤ x ∧ x ≤ 102 then x - 87 else if 65 ≤ x ∧ x ≤ 70 then x - 55 else 16
theorem dgN_le (x : Nat) : dgN x ≤ 16 := by unfold dgN; split <;> (try split) <;> (try split) <;> omega
theorem dgN_hex (c : UInt8) : hexV c = if dgN c.toNat < 16 then some (dgN c.toNat) else none := by
  unfold hexV dgN
  by_cases a : 48 ≤ c.toNat ∧ c.toNat ≤ 57
  · rw [if_pos a, if_pos a, if_pos (by omega)]
  · rw [if_neg a, if_neg a]
    by_cases b : 97 ≤ c.toNat ∧ c.toNat ≤ 102
    · rw [if_pos b, if_pos b, if_pos (by omega)]
    · rw [if_neg b, if_neg b]
      by_cases d : 65 ≤ c.toNat ∧ c.toNat ≤ 70
      · rw [if_pos d, if_pos d, if_pos (by omega)]
      · rw [if_neg d, if_neg d, if_neg (by omega)]
end Go.Proofs.YtepbmnpjpkmmfaaGreatDoor

/- Numbers of digits: plain mathematics; contracts of the program's value, decimal. -/
namespace Go.Proofs.YtepbmnpjpkmmfaaGreatDoor
open Go.ChangeShapes Go.WideShapes Go.ChangeAt Go.RowKit
set_option linter.unusedVariables false

/-- The number that digits form to a base, 65536 if it is greater. -/
def valGo (b : Nat) : Nat → By → Option Nat
  | n, [] => some n
  | n, c :: r => if dgN c.toNat < b then valGo b (min (n * b + dgN c.toNat) 65536) r else none
def valS (b : Nat) (s : By) : Option Nat := if s = [] then none else valGo b 0 s
def decV (s : By) : Option Nat := if 1 < s.length ∧ s.head? = some 48 then none else valS 10 s
def vRes : Option Nat → Value
  | some n => .tuple #[.int .i64 n, .bool true]
  | none => .tuple #[.int .i64 0, .bool false]
theorem valGo_le (b : Nat) : ∀ (s : By) (n m : Nat), n ≤ 65536 → valGo b n s = some m → m ≤ 65536
  | [], n, m, h, e => by
    rw [valGo] at e
    obtain rfl := Option.some.inj e
    exact h
  | c :: r, n, m, h, e => by
    rw [valGo] at e
    split at e
    · exact valGo_le b r _ m (by omega) e
    · cases e
theorem decV_le {s : By} {n : Nat} (h : decV s = some n) : n ≤ 65536 := by
  unfold decV at h
  split at h
  · cases h
  · unfold valS at h
    split at h
    · cases h
    · exact valGo_le 10 s 0 n (by omega) h
theorem dgN_dec (x : Nat) : dgN x < 10 ↔ 48 ≤ x ∧ x ≤ 57 := by unfold dgN; split <;> (try split) <;> (try split) <;> omega
theorem dgN_dec_val {x : Nat} (h : 48 ≤ x ∧ x ≤ 57) : dgN x = x - 48 := by unfold dgN; rw [if_pos h]
theorem sat_both (most : Nat) : ∀ (s : By) (x : Nat), (∃ X, decGo most (min x (most + 1)) s = some (min X (most + 1)) ∧ valGo 10 (min x 65536) s = some (min X 65536)) ∨ (decGo most (min x (most + 1)) s = none ∧ valGo 10 (min x 65536) s = none)
  | [], x => .inl ⟨x, rfl, rfl⟩
  | c :: r, x => by
    rw [decGo, valGo]
    by_cases h : 48 ≤ c.toNat ∧ c.toNat ≤ 57
    · rw [if_pos h, if_pos ((dgN_dec _).2 h), dgN_dec_val h]
      have e1 : min (10 * min x (most + 1) + (c.toNat - 48)) (most + 1) = min (10 * x + (c.toNat - 48)) (most + 1) := by omega
      have e2 : min (min x 65536 * 10 + (c.toNat - 48)) 65536 = min (10 * x + (c.toNat - 48)) 65536 := by omega
      rw [e1, e2]
      exact sat_both most r _
    · rw [if_neg h, if_neg (fun k => h ((dgN_dec _).1 k))]
      exact .inr ⟨rfl, rfl⟩
/-- The two ways to read a decimal number. -/
theorem decS_decV {most : Nat} (hm : most < 65536) (s : By) : decS most s = match decV s with | none => -1 | some n => if most < n then -2 else (n : Int) := by
  unfold decS decV
  by_cases h1 : 1 < s.length ∧ s.head? = some 48
  · rw [if_pos (.inr h1), if_pos h1]
  · rw [if_neg h1]
    unfold valS
    by_cases h0 : s = []
    · rw [if_pos h0, if_pos (.inl (by rw [h0]; rfl))]
    · rw [if_neg h0, if_neg (by
        rintro (e | e)
        · exact h0 (List.length_eq_zero_iff.1 e)
        · exact h1 e)]
      have hs := sat_both most s 0
      rw [Nat.zero_min, Nat.zero_min] at hs
      rcases hs with ⟨X, e1, e2⟩ | ⟨e1, e2⟩
      · rw [e1, e2]
        show (if most < min X (most + 1) then (-2 : Int) else ((min X (most + 1) : Nat) : Int)) = if most < min X 65536 then (-2 : Int) else ((min X 65536 : Nat) : Int)
        by_cases hX : most < X
        · rw [if_pos (by omega), if_pos (by omega)]
        · rw [if_neg (by omega), if_neg (by omega), Nat.min_eq_left (by omega), Nat.min_eq_left (by omega)]
      · rw [e1, e2]
theorem valGo_hex : ∀ (s : By) (n j : Nat), n < 16 ^ j → s.length + j ≤ 4 → valGo 16 n s = hexGo n s
  | [], n, j, _, _ => rfl
  | c :: r, n, j, h, hl => by
    rw [valGo, hexGo, dgN_hex]
    by_cases hd : dgN c.toNat < 16
    · rw [if_pos hd, if_pos hd]
      have h1 : 16 * n + dgN c.toNat < 16 ^ (j + 1) := by rw [Nat.pow_succ]; omega
      have h2 : 16 ^ (j + 1) ≤ 16 ^ 4 := Nat.pow_le_pow_right (by omega) (by simp at hl; omega)
      have h4 : (16 : Nat) ^ 4 = 65536 := by decide
      rw [show min (n * 16 + dgN c.toNat) 65536 = 16 * n + dgN c.toNat by omega]
      exact valGo_hex r _ (j + 1) h1 (by simp at hl; omega)
    · rw [if_neg hd, if_neg hd]
theorem grpS_val (s : By) : grpS s = if 4 < s.length then none else valS 16 s := by
  unfold grpS
  by_cases h4 : 4 < s.length
  · rw [if_pos h4, if_pos (.inr h4)]
  · rw [if_neg h4]
    unfold valS
    by_cases h0 : s = []
    · rw [if_pos h0, if_pos (.inl (by rw [h0]; decide))]
    · rw [if_neg h0, if_neg (by have : s.length ≠ 0 := fun e => h0 (List.length_eq_zero_iff.1 e); omega), valGo_hex s 0 0 (by decide) (by omega)]
end Go.Proofs.YtepbmnpjpkmmfaaGreatDoor

/- From the library's words (Split, Cut, Join, Repeat, Itoa) to the plain mathematics of addresses: no Go in sight. -/
namespace Go.Proofs.YtepbmnpjpkmmfaaGreatDoor
set_option linter.unusedVariables false

theorem neg1 (i : Nat) : ((i : Int) == -1) = false := by
  rw [beq_eq_false_iff_ne]; omega
theorem neg2 (i : Nat) : ((i : Int) + 1 == -1) = false := by
  rw [beq_eq_false_iff_ne]; omega
theorem digits_num : ∀ (n : Nat), Lib.decDigits n = numL n := by
  intro n
  induction n using Nat.strongRecOn with
  | _ n ih =>
    rw [Lib.decDigits, numL]
    by_cases h : n < 10
    · rw [dif_pos h, if_pos (by omega)]; rfl
    · rw [dif_neg h, if_neg (by omega), ih (n / 10) (by omega)]; rfl
theorem itoa_num (n : Nat) : Lib.itoa (n : Int) = numL n := by
  unfold Lib.itoa
  rw [if_neg (by omega), Int.toNat_natCast, digits_num]
theorem join_joinC (c : UInt8) : ∀ l : List By, Lib.join l [c] = joinC c l
  | [] => rfl
  | [p] => by rw [Lib.join_one]; rfl
  | p :: q :: r => by
    rw [joinC, ← join_joinC c (q :: r)]
    simp [Lib.join, List.intercalate, List.intersperse]
theorem repeat_zero (k : Nat) : Lib.repeatL [0] k = List.replicate k 0 := by
  have := Lib.repeatL_replicate 0 1 k
  rw [Nat.mul_one] at this
  exact this
/-! ### Split -/
def addH (p : By) : List By → List By
  | [] => []
  | a :: r => (p ++ a) :: r
theorem splitGo_cur (c : UInt8) : ∀ (s cur : By), splitGo c cur s = addH cur (splitGo c [] s)
  | [], cur => by simp [splitGo, addH]
  | x :: r, cur => by
    rw [splitGo, splitGo]
    split
    · simp [addH]
    · rw [splitGo_cur c r (cur ++ [x]), splitGo_cur c r ([] ++ [x])]
      cases splitGo c [] r with
      | nil => rfl
      | cons a q => simp [addH]
theorem index_one_cons (x c : UInt8) (r : By) : Lib.index (x :: r) [c] = if x = c then 0 else if Lib.index r [c] == -1 then -1 else Lib.index r [c] + 1 := by
  rw [Lib.index]
  by_cases h : x = c
  · subst h; simp
  · rw [if_neg h, if_neg (by simp; exact fun e => h e.symm)]
theorem splitK_ne {x c : UInt8} (h : x ≠ c) (k : Nat) (r : By) : Lib.splitK [c] 0 k (x :: r) = addH [x] (Lib.splitK [c] 0 k r) := by
  cases k with
  | zero => rfl
  | succ k =>
    rw [Lib.splitK, Lib.splitK, index_one_cons, if_neg h]
    by_cases h1 : Lib.index r [c] = -1
    · rw [h1]; rfl
    · have hg := Lib.index_ge r [c]
      obtain ⟨i, hi⟩ := Int.eq_ofNat_of_zero_le (a := Lib.index r [c]) (by omega)
      rw [hi]
      have e1 := neg1 i
      have e2 := neg2 i
      have e3 : ((i : Int) + 1).toNat = i + 1 := by omega
      simp only [e1, e2, e3, Bool.false_eq_true, if_false, Int.toNat_natCast]
      rfl
theorem split_lib (c : UInt8) : ∀ s : By, Lib.splitK [c] 0 (Lib.count s [c]) s = splitL c s
  | [] => by
    rw [Lib.count_one]
    rfl
  | x :: r => by
    have ih := split_lib c r
    unfold splitL at ih ⊢
    rw [splitGo]
    by_cases h : x = c
    · subst h
      rw [if_pos rfl, Lib.count_cons_eq, Nat.add_comm, Lib.splitK, index_one_cons, if_pos rfl, ← ih]
      rfl
    · rw [if_neg h, Lib.count_cons_ne x c r h, splitK_ne h, ih, splitGo_cur c r ([] ++ [x])]
      rfl
/-- The pieces that Split makes, as lists of bytes. -/
theorem split_bytes (c : UInt8) (s : ByteArray) : (Lib.splitB ⟨#[c]⟩ 0 (Lib.countB s ⟨#[c]⟩) s).map (·.data.toList) = splitL c s.data.toList := by
  rw [Lib.splitB_data, ← split_lib]
theorem split_length (c : UInt8) (s : ByteArray) : (Lib.splitB ⟨#[c]⟩ 0 (Lib.countB s ⟨#[c]⟩) s).length = Lib.countB s ⟨#[c]⟩ + 1 :=
  Lib.splitB_all ⟨#[c]⟩ (Nat.le_refl 1) 0 _ s rfl
/-! ### Cut -/
theorem cut_one (c : UInt8) : ∀ s : By, Lib.cut s [c] = match cutAt c s with | (a, some b) => (a, b, true) | (a, none) => (a, [], false)
  | [] => rfl
  | x :: r => by
    have ih := cut_one c r
    unfold Lib.cut at ih ⊢
    rw [index_one_cons, cutAt]
    by_cases h : x = c
    · rw [if_pos h, if_pos h]; rfl
    · rw [if_neg h, if_neg h]
      by_cases h1 : Lib.index r [c] = -1
      · rw [h1] at ih ⊢
        rw [if_neg (by decide)] at ih
        cases hq : cutAt c r with
        | mk a o =>
          rw [hq] at ih
          cases o with
          | none =>
            have e := congrArg Prod.fst ih
            simp only at e
            subst e; rfl
          | some b => have := congrArg (fun p => p.2.2) ih; simp at this
      · have hg := Lib.index_ge r [c]
        obtain ⟨i, hi⟩ := Int.eq_ofNat_of_zero_le (a := Lib.index r [c]) (by omega)
        rw [hi] at ih ⊢
        have e1 := neg1 i
        have e3 : ((i : Int) + 1).toNat = i + 1 := by omega
        rw [if_pos (by omega)] at ih
        simp only [e1, Bool.false_eq_true, if_false, Int.toNat_natCast] at ih ⊢
        rw [if_pos (by omega), e3]
        cases hq : cutAt c r with
        | mk a o =>
          rw [hq] at ih
          cases o with
          | none => have := congrArg (fun p => p.2.2) ih; simp at this
          | some b =>
            have ea := congrArg Prod.fst ih
            have eb := congrArg (fun p => p.2.1) ih
            simp only at ea eb
            subst ea eb
            simp [List.take_succ_cons]
theorem index_two_nil (x : UInt8) : Lib.index [x] [58, 58] = -1 := by
  rw [Lib.index, if_neg (by simp)]
  rfl
theorem index_two_cons (x y : UInt8) (r : By) : Lib.index (x :: y :: r) [58, 58] = if x = 58 ∧ y = 58 then 0 else if Lib.index (y :: r) [58, 58] == -1 then -1 else Lib.index (y :: r) [58, 58] + 1 := by
  rw [Lib.index]
  by_cases h : x = 58 ∧ y = 58
  · obtain ⟨rfl, rfl⟩ := h
    rw [if_pos (by simp), if_pos ⟨rfl, rfl⟩]
  · rw [if_neg h, if_neg (by simp; exact fun e1 e2 => h ⟨e1.symm, e2.symm⟩)]
theorem cut_two : ∀ s : By, Lib.cut s [58, 58] = match cutGap s with | some (a, b) => (a, b, true) | none => (s, [], false)
  | [] => rfl
  | [x] => by
    unfold Lib.cut
    rw [index_two_nil]
    rfl
  | x :: y :: r => by
    have ih := cut_two (y :: r)
    unfold Lib.cut at ih ⊢
    have h2 := index_two_cons x y r
    rw [cutGap]
    by_cases h : x = 58 ∧ y = 58
    · rw [if_pos h] at h2 ⊢
      rw [h2]; rfl
    · rw [if_neg h] at h2 ⊢
      rw [h2]
      clear h2
      generalize hz : Lib.index (y :: r) [58, 58] = z at *
      have hg := Lib.index_ge (y :: r) [58, 58]
      rw [hz] at hg
      by_cases h1 : z = -1
      · subst h1
        rw [if_neg (by decide)] at ih
        cases hq : cutGap (y :: r) with
        | none => rfl
        | some p =>
          rw [hq] at ih
          have := congrArg (fun p => p.2.2) ih; simp at this
      · obtain ⟨i, rfl⟩ := Int.eq_ofNat_of_zero_le (a := z) (by omega)
        have e1 := neg1 i
        have e3 : ((i : Int) + 1).toNat = i + 1 := by omega
        rw [if_pos (by omega)] at ih
        simp only [e1, Bool.false_eq_true, if_false, Int.toNat_natCast] at ih ⊢
        rw [if_pos (by omega), e3]
        cases hq : cutGap (y :: r) with
        | none => rw [hq] at ih; have := congrArg (fun p => p.2.2) ih; simp at this
        | some p =>
          obtain ⟨a, b⟩ := p
          rw [hq] at ih
          have ea := congrArg Prod.fst ih
          have eb := congrArg (fun p => p.2.1) ih
          simp only at ea eb
          subst ea eb
          simp only [Option.map_some, List.take_succ_cons, List.length_cons, List.length_nil]
          rw [show i + 1 + (0 + 1 + 1) = (i + (0 + 1 + 1)) + 1 by omega, List.drop_succ_cons]
theorem has_one (c : UInt8) : ∀ s : By, decide (0 ≤ Lib.indexByte s c) = decide (c ∈ s)
  | [] => by simp [Lib.indexByte]
  | x :: r => by
    have ih := has_one c r
    rw [Lib.indexByte]
    by_cases h : x = c
    · subst h; simp
    · rw [if_neg (by simpa using h)]
      have hm : decide (c ∈ x :: r) = decide (c ∈ r) := by
        rw [decide_eq_decide, List.mem_cons]
        constructor
        · rintro (e | e)
          · exact absurd e.symm h
          · exact e
        · exact Or.inr
      rw [hm, ← ih]
      have hg := Lib.indexByte_ge r c
      by_cases h1 : Lib.indexByte r c = -1
      · rw [h1]; rfl
      · rw [if_neg (by simpa using h1), decide_eq_decide]
        omega
end Go.Proofs.YtepbmnpjpkmmfaaGreatDoor

/- Contracts of strings and strconv laid at this seat, in plain words: Contains (one byte), Cut, Split, Repeat, Join, Itoa. -/
namespace Go.Proofs.YtepbmnpjpkmmfaaGreatDoor
open Go.Shelf Go.RowKit Go.Sort Go.Lib
def lays156_ren : Go.Shelf.Ren := ⟨fun | 156 => 34 | 165 => 53 | 166 => 54 | 169 => 55 | 240 => 71 | 241 => 72 | 276 => 86 | 277 => 87 | n => n, fun | 31 => 38 | 9 => 9 | 3 => 3 | 4 => 4 | 0 => 0 | 20 => 20 | 72 => 65 | 76 => 69 | 70 => 62 | 37 => 63 | 75 => 68 | 127 => 84 | 164 => 96 | 5 => 5 | 80 => 71 | n => n, fun | n => n⟩
theorem lays156 : Go.Proofs.Lays.n156 Tryz.prog lays156_ren := {
  mixed := by kernel_rfl
  f156 := Tryz.func34.trans (congrArg some (by kernel_rfl))
  f165 := Tryz.func53.trans (congrArg some (by kernel_rfl))
  f166 := Tryz.func54.trans (congrArg some (by kernel_rfl))
  f169 := Tryz.func55.trans (congrArg some (by kernel_rfl))
  f240 := Tryz.func71.trans (congrArg some (by kernel_rfl))
  f241 := Tryz.func72.trans (congrArg some (by kernel_rfl))
  f276 := Tryz.func86.trans (congrArg some (by kernel_rfl))
  f277 := Tryz.func87.trans (congrArg some (by kernel_rfl))
  t0 := Tryz.underlying0
  a0 := Tryz.isAgg0
  z0 := Tryz.sizeOf0
  v0 := Tryz.zeroValue0
  t3 := Tryz.underlying3
  a3 := Tryz.isAgg3
  z3 := Tryz.sizeOf3
  v3 := Tryz.zeroValue3
  t4 := Tryz.underlying4
  a4 := Tryz.isAgg4
  z4 := Tryz.sizeOf4
  v4 := Tryz.zeroValue4
  t9 := Tryz.underlying9
  a9 := Tryz.isAgg9
  z9 := Tryz.sizeOf9
  v9 := Tryz.zeroValue9
  t20 := Tryz.underlying20
  a20 := Tryz.isAgg20
  z20 := Tryz.sizeOf20
  v20 := Tryz.zeroValue20
  t31 := Tryz.underlying38
  a31 := Tryz.isAgg38
  z31 := Tryz.sizeOf38
  v31 := Tryz.zeroValue38
  t37 := Tryz.underlying63
  a37 := Tryz.isAgg63
  z37 := Tryz.sizeOf63
  v37 := Tryz.zeroValue63
  t70 := Tryz.underlying62
  a70 := Tryz.isAgg62
  z70 := Tryz.sizeOf62
  v70 := Tryz.zeroValue62
  t72 := Tryz.underlying65
  a72 := Tryz.isAgg65
  z72 := Tryz.sizeOf65
  v72 := Tryz.zeroValue65
  t75 := Tryz.underlying68
  a75 := Tryz.isAgg68
  z75 := Tryz.sizeOf68
  v75 := Tryz.zeroValue68
  t76 := Tryz.underlying69
  a76 := Tryz.isAgg69
  z76 := Tryz.sizeOf69
  v76 := Tryz.zeroValue69
  t127 := Tryz.underlying84
  a127 := Tryz.isAgg84
  z127 := Tryz.sizeOf84
  v127 := Tryz.zeroValue84
  t164 := Tryz.underlying96
  a164 := Tryz.isAgg96
  z164 := Tryz.sizeOf96
  v164 := Tryz.zeroValue96 }
theorem Builder_Extra_156 : Builder.Extra Tryz.prog lays156_ren := {
  sizeBuilder := by kernel_rfl
  liesBuilder := by kernel_rfl
  t5 := Tryz.underlying5
  a5 := Tryz.isAgg5
  z5 := Tryz.sizeOf5
  v5 := Tryz.zeroValue5
  infoByte := by kernel_rfl
  cellsByte := by kernel_rfl
  sizeByte := by kernel_rfl
  neB5 := by decide }
theorem lib_strings_Join_none (a : Option Addr) (c : Nat) (sep : ByteArray) (w : World) :
    Calls Tryz.prog 34 #[.slice a 0 c, .string sep] w fun e w' => e = .returned (.string ⟨#[]⟩) ∧ w' = w := Any.strings_Join_none lays156 Builder_Extra_156 a c sep w
theorem lib_strings_Join (bk o c : Nat) (xs : List ByteArray) (sep : ByteArray) (w : World) (hcells : ∀ (j : Nat) x, xs[j]? = some x → w.cell? ⟨bk, o + j, none⟩ = some (.string x)) (hbk : bk < w.heap.size) (hN : xs.length ≤ 140737488355328) (hcap : xs.length ≤ c) (hlen : (Lib.join (xs.map (·.data.toList)) sep.data.toList).length ≤ 140737488355328) :
    Calls Tryz.prog 34 #[.slice (some ⟨bk, o, none⟩) xs.length c, .string sep] w fun e w' => e = .returned (.string ⟨(Lib.join (xs.map (·.data.toList)) sep.data.toList).toArray⟩) ∧ Below w.heap.size w w' := Any.strings_Join lays156 Builder_Extra_156 bk o c xs sep w hcells hbk hN hcap hlen
def laysM171_ren : Go.Shelf.Ren := ⟨fun | 171 => 52 | 243 => 70 | 246 => 85 | 283 => 103 | 284 => 104 | 285 => 105 | 286 => 106 | 129 => 102 | 317 => 121 | 318 => 122 | 319 => 123 | 320 => 124 | 337 => 129 | 338 => 130 | n => n, fun | 3 => 3 | 9 => 9 | 2 => 2 | 4 => 4 | 171 => 115 | 0 => 0 | 53 => 114 | 37 => 63 | 5 => 5 | 173 => 117 | 212 => 136 | 51 => 102 | 20 => 20 | 213 => 137 | 46 => 90 | 232 => 144 | 233 => 145 | n => n, fun | 17 => 3 | 18 => 4 | 19 => 5 | n => n⟩
theorem laysM171 : Go.Proofs.LaysM.n171 Tryz.prog laysM171_ren := {
  mixed := by kernel_rfl
  f129 := Tryz.func102.trans (congrArg some (by kernel_rfl))
  f171 := Tryz.func52.trans (congrArg some (by kernel_rfl))
  f243 := Tryz.func70.trans (congrArg some (by kernel_rfl))
  f246 := Tryz.func85.trans (congrArg some (by kernel_rfl))
  f283 := Tryz.func103.trans (congrArg some (by kernel_rfl))
  f284 := Tryz.func104.trans (congrArg some (by kernel_rfl))
  f285 := Tryz.func105.trans (congrArg some (by kernel_rfl))
  f286 := Tryz.func106.trans (congrArg some (by kernel_rfl))
  f317 := Tryz.func121.trans (congrArg some (by kernel_rfl))
  f318 := Tryz.func122.trans (congrArg some (by kernel_rfl))
  f319 := Tryz.func123.trans (congrArg some (by kernel_rfl))
  f320 := Tryz.func124.trans (congrArg some (by kernel_rfl))
  f337 := Tryz.func129.trans (congrArg some (by kernel_rfl))
  f338 := Tryz.func130.trans (congrArg some (by kernel_rfl))
  t0 := Tryz.underlying0
  a0 := Tryz.isAgg0
  z0 := Tryz.sizeOf0
  v0 := Tryz.zeroValue0
  t2 := Tryz.underlying2
  a2 := Tryz.isAgg2
  z2 := Tryz.sizeOf2
  v2 := Tryz.zeroValue2
  t3 := Tryz.underlying3
  a3 := Tryz.isAgg3
  z3 := Tryz.sizeOf3
  v3 := Tryz.zeroValue3
  t4 := Tryz.underlying4
  a4 := Tryz.isAgg4
  z4 := Tryz.sizeOf4
  v4 := Tryz.zeroValue4
  t5 := Tryz.underlying5
  a5 := Tryz.isAgg5
  z5 := Tryz.sizeOf5
  v5 := Tryz.zeroValue5
  t9 := Tryz.underlying9
  a9 := Tryz.isAgg9
  z9 := Tryz.sizeOf9
  v9 := Tryz.zeroValue9
  t20 := Tryz.underlying20
  a20 := Tryz.isAgg20
  z20 := Tryz.sizeOf20
  v20 := Tryz.zeroValue20
  t37 := Tryz.underlying63
  a37 := Tryz.isAgg63
  z37 := Tryz.sizeOf63
  v37 := Tryz.zeroValue63
  t46 := Tryz.underlying90
  a46 := Tryz.isAgg90
  z46 := Tryz.sizeOf90
  v46 := Tryz.zeroValue90
  t51 := Tryz.underlying102
  a51 := Tryz.isAgg102
  z51 := Tryz.sizeOf102
  v51 := Tryz.zeroValue102
  t53 := Tryz.underlying114
  a53 := Tryz.isAgg114
  z53 := Tryz.sizeOf114
  v53 := Tryz.zeroValue114
  t171 := Tryz.underlying115
  a171 := Tryz.isAgg115
  z171 := Tryz.sizeOf115
  v171 := Tryz.zeroValue115
  t173 := Tryz.underlying117
  a173 := Tryz.isAgg117
  z173 := Tryz.sizeOf117
  v173 := Tryz.zeroValue117
  t212 := Tryz.underlying136
  a212 := Tryz.isAgg136
  z212 := Tryz.sizeOf136
  v212 := Tryz.zeroValue136
  t213 := Tryz.underlying137
  a213 := Tryz.isAgg137
  z213 := Tryz.sizeOf137
  t232 := Tryz.underlying144
  a232 := Tryz.isAgg144
  z232 := Tryz.sizeOf144
  v232 := Tryz.zeroValue144
  t233 := Tryz.underlying145
  a233 := Tryz.isAgg145
  z233 := Tryz.sizeOf145
  v233 := Tryz.zeroValue145
  g17 := by kernel_rfl
  g18 := by kernel_rfl
  g19 := by kernel_rfl
  i0 := by kernel_rfl
  i2 := by kernel_rfl
  i3 := by kernel_rfl
  i4 := by kernel_rfl
  i5 := by kernel_rfl
  i9 := by kernel_rfl
  i20 := by kernel_rfl
  i37 := by kernel_rfl
  i46 := by kernel_rfl
  i51 := by kernel_rfl
  i53 := by kernel_rfl
  i171 := by kernel_rfl
  i173 := by kernel_rfl
  i212 := by kernel_rfl
  i232 := by kernel_rfl
  i233 := by kernel_rfl
  m17 := by kernel_rfl
  m18 := by kernel_rfl
  m19 := by kernel_rfl }
theorem lib_strconv_Itoa (n : Int) (h0 : -9223372036854775808 ≤ n) (h1 : n ≤ 9223372036854775807) (w : World) (htab : Lib.TabIs Tryz.prog w "internal/strconv.uint64pow10" .u64 Lib.pow10Tab) :
    Calls Tryz.prog 52 #[.int .i64 n] w fun e w' => e = .returned (.string ⟨(Lib.itoa n).toArray⟩) ∧ ∃ k os, w' = grow (w.drewN k) os := Any.strconv_Itoa laysM171 n h0 h1 w htab
def lays145_ren : Go.Shelf.Ren := ⟨fun | 145 => 48 | 220 => 64 | 219 => 61 | 217 => 77 | 225 => 78 | 224 => 79 | 267 => 80 | 266 => 90 | 314 => 91 | n => n, fun | 9 => 9 | 4 => 4 | 59 => 57 | 3 => 3 | 5 => 5 | 46 => 90 | 146 => 103 | 51 => 102 | n => n, fun | 1 => 0 | n => n⟩
theorem lays145 : Go.Proofs.Lays.n145 Tryz.prog lays145_ren := {
  mixed := by kernel_rfl
  f145 := Tryz.func48.trans (congrArg some (by kernel_rfl))
  f217 := Tryz.func77.trans (congrArg some (by kernel_rfl))
  f219 := Tryz.func61.trans (congrArg some (by kernel_rfl))
  f220 := Tryz.func64.trans (congrArg some (by kernel_rfl))
  f224 := Tryz.func79.trans (congrArg some (by kernel_rfl))
  f225 := Tryz.func78.trans (congrArg some (by kernel_rfl))
  f266 := Tryz.func90.trans (congrArg some (by kernel_rfl))
  f267 := Tryz.func80.trans (congrArg some (by kernel_rfl))
  f314 := Tryz.func91.trans (congrArg some (by kernel_rfl))
  t3 := Tryz.underlying3
  a3 := Tryz.isAgg3
  z3 := Tryz.sizeOf3
  v3 := Tryz.zeroValue3
  t4 := Tryz.underlying4
  a4 := Tryz.isAgg4
  z4 := Tryz.sizeOf4
  v4 := Tryz.zeroValue4
  t5 := Tryz.underlying5
  a5 := Tryz.isAgg5
  z5 := Tryz.sizeOf5
  v5 := Tryz.zeroValue5
  t9 := Tryz.underlying9
  a9 := Tryz.isAgg9
  z9 := Tryz.sizeOf9
  v9 := Tryz.zeroValue9
  t46 := Tryz.underlying90
  a46 := Tryz.isAgg90
  z46 := Tryz.sizeOf90
  v46 := Tryz.zeroValue90
  t51 := Tryz.underlying102
  a51 := Tryz.isAgg102
  z51 := Tryz.sizeOf102
  v51 := Tryz.zeroValue102
  t59 := Tryz.underlying57
  a59 := Tryz.isAgg57
  z59 := Tryz.sizeOf57
  v59 := Tryz.zeroValue57
  t146 := Tryz.underlying103
  a146 := Tryz.isAgg103
  z146 := Tryz.sizeOf103
  v146 := Tryz.zeroValue103
  g1 := by kernel_rfl }
theorem lib_strings_Cut (s sep : ByteArray) (m : Int) (w : World) (hs : s.size < 4294967281) (hm : w.cell? ⟨0, 0, none⟩ = some (.int .i64 m)) :
    Calls Tryz.prog 48 #[.string s, .string sep] w fun e w' => e = .returned (.tuple #[.string ⟨(Lib.cut s.data.toList sep.data.toList).1.toArray⟩, .string ⟨(Lib.cut s.data.toList sep.data.toList).2.1.toArray⟩, .bool (Lib.cut s.data.toList sep.data.toList).2.2]) ∧ ∃ n, w' = w.drewN n := Any.strings_Cut lays145 s sep m w hs hm
def lays146_ren : Go.Shelf.Ren := ⟨fun | 146 => 25 | 221 => 46 | 268 => 62 | 138 => 24 | 143 => 45 | 195 => 43 | 197 => 81 | 218 => 44 | 219 => 61 | 260 => 92 | 217 => 77 | 225 => 78 | 224 => 79 | 267 => 80 | 266 => 90 | 314 => 91 | n => n, fun | 9 => 9 | 31 => 38 | 3 => 3 | 4 => 4 | 0 => 0 | 105 => 91 | 21 => 21 | 5 => 5 | 46 => 90 | 119 => 125 | 139 => 128 | 138 => 127 | 146 => 103 | 51 => 102 | n => n, fun | 1 => 0 | 3 => 1 | 4 => 2 | n => n⟩
theorem lays146 : Go.Proofs.Lays.n146 Tryz.prog lays146_ren := {
  mixed := by kernel_rfl
  f138 := Tryz.func24.trans (congrArg some (by kernel_rfl))
  f143 := Tryz.func45.trans (congrArg some (by kernel_rfl))
  f146 := Tryz.func25.trans (congrArg some (by kernel_rfl))
  f195 := Tryz.func43.trans (congrArg some (by kernel_rfl))
  f197 := Tryz.func81.trans (congrArg some (by kernel_rfl))
  f217 := Tryz.func77.trans (congrArg some (by kernel_rfl))
  f218 := Tryz.func44.trans (congrArg some (by kernel_rfl))
  f219 := Tryz.func61.trans (congrArg some (by kernel_rfl))
  f221 := Tryz.func46.trans (congrArg some (by kernel_rfl))
  f224 := Tryz.func79.trans (congrArg some (by kernel_rfl))
  f225 := Tryz.func78.trans (congrArg some (by kernel_rfl))
  f260 := Tryz.func92.trans (congrArg some (by kernel_rfl))
  f266 := Tryz.func90.trans (congrArg some (by kernel_rfl))
  f267 := Tryz.func80.trans (congrArg some (by kernel_rfl))
  f268 := Tryz.func62.trans (congrArg some (by kernel_rfl))
  f314 := Tryz.func91.trans (congrArg some (by kernel_rfl))
  t0 := Tryz.underlying0
  a0 := Tryz.isAgg0
  z0 := Tryz.sizeOf0
  v0 := Tryz.zeroValue0
  t3 := Tryz.underlying3
  a3 := Tryz.isAgg3
  z3 := Tryz.sizeOf3
  v3 := Tryz.zeroValue3
  t4 := Tryz.underlying4
  a4 := Tryz.isAgg4
  z4 := Tryz.sizeOf4
  v4 := Tryz.zeroValue4
  t5 := Tryz.underlying5
  a5 := Tryz.isAgg5
  z5 := Tryz.sizeOf5
  v5 := Tryz.zeroValue5
  t9 := Tryz.underlying9
  a9 := Tryz.isAgg9
  z9 := Tryz.sizeOf9
  v9 := Tryz.zeroValue9
  t21 := Tryz.underlying21
  a21 := Tryz.isAgg21
  z21 := Tryz.sizeOf21
  v21 := Tryz.zeroValue21
  t31 := Tryz.underlying38
  a31 := Tryz.isAgg38
  z31 := Tryz.sizeOf38
  v31 := Tryz.zeroValue38
  t46 := Tryz.underlying90
  a46 := Tryz.isAgg90
  z46 := Tryz.sizeOf90
  v46 := Tryz.zeroValue90
  t51 := Tryz.underlying102
  a51 := Tryz.isAgg102
  z51 := Tryz.sizeOf102
  v51 := Tryz.zeroValue102
  t105 := Tryz.underlying91
  a105 := Tryz.isAgg91
  z105 := Tryz.sizeOf91
  v105 := Tryz.zeroValue91
  t119 := Tryz.underlying125
  a119 := Tryz.isAgg125
  z119 := Tryz.sizeOf125
  t138 := Tryz.underlying127
  a138 := Tryz.isAgg127
  z138 := Tryz.sizeOf127
  v138 := Tryz.zeroValue127
  t139 := Tryz.underlying128
  a139 := Tryz.isAgg128
  z139 := Tryz.sizeOf128
  v139 := Tryz.zeroValue128
  t146 := Tryz.underlying103
  a146 := Tryz.isAgg103
  z146 := Tryz.sizeOf103
  v146 := Tryz.zeroValue103
  g1 := by kernel_rfl
  g3 := by kernel_rfl
  g4 := by kernel_rfl }
theorem lib_strings_Split (s sep : ByteArray) (m : Int) (w : World) (hs : s.size < 4294967281) (hm : w.cell? ⟨0, 0, none⟩ = some (.int .i64 m)) (h1 : 1 ≤ sep.size) :
    Calls Tryz.prog 25 #[.string s, .string sep] w fun e w' =>
      e = .returned (.slice (some ⟨w.heap.size, 0, none⟩) (Lib.countB s sep + 1) (Lib.countB s sep + 1)) ∧ w' = w.alloc (.cells ((Lib.splitB sep 0 (Lib.countB s sep) s).map Value.string).toArray 9) := Any.strings_Split lays146 (by kernel_rfl) s sep m w hs hm h1
end Go.Proofs.YtepbmnpjpkmmfaaGreatDoor

/- What the walks of layer 6 ask of memory (the library's variables); Split, and lists of strings. -/
namespace Go.Proofs.YtepbmnpjpkmmfaaGreatDoor
open Go.ChangeShapes Go.WideShapes Go.ChangeAt Go.RowKit
set_option linter.unusedVariables false

theorem lt_of_cell {w : World} {g i : Nat} {v : Value} (h : w.cell? ⟨g, i, none⟩ = some v) : g < w.heap.size := by
  apply Decidable.byContradiction
  intro hn
  have : w.heap[g]? = none := Array.getElem?_eq_none (by omega)
  simp [World.cell?, this] at h
/-- What the walks ask of memory. -/
structure TW (w : World) : Prop where
  mx : ∃ m, w.cell? ⟨0, 0, none⟩ = some (.int .i64 m)
  p10 : Lib.TabIs Tryz.prog w "internal/strconv.uint64pow10" .u64 Lib.pow10Tab
  db : w.cell? ⟨5, 15, none⟩ = some (.int .u8 4)
theorem gPow10 : Tryz.prog.globalNamed "internal/strconv.uint64pow10" = some 3 := by kernel_rfl
theorem TW.kept {w w' : World} (h : TW w) (hb : Below w.heap.size w w') : TW w' := by
  obtain ⟨⟨m, h1⟩, h2, h3⟩ := h
  refine ⟨⟨m, ?_⟩, ?_, ?_⟩
  · rw [World.cell?_of_block (w := w) (w' := w') (a := ⟨0, 0, none⟩) (hb.block _ (lt_of_cell h1))]
    exact h1
  · unfold Lib.TabIs World.var? at h2 ⊢
    rw [gPow10] at h2 ⊢
    simp only [Option.bind_some] at h2 ⊢
    have hlt : 3 < w.heap.size := by
      apply Decidable.byContradiction
      intro hn
      have : w.heap[3]? = none := Array.getElem?_eq_none (by omega)
      rw [this] at h2
      cases h2
    rw [hb.block _ hlt]
    exact h2
  · rw [World.cell?_of_block (w := w) (w' := w') (a := ⟨5, 15, none⟩) (hb.block _ (lt_of_cell h3))]
    exact h3
/-- The same behind a part of the call. -/
theorem TW.on {B : Nat} {w w' : World} (h : TW w) (hb : Below B w w') (hB : w.heap.size ≤ B) : TW w' := h.kept (hb.mono hB)
theorem byte_str (c : UInt8) : (⟨#[c]⟩ : ByteArray).data.toList = [c] := rfl
theorem split_at6 (s : ByteArray) (c : UInt8) (i : Nat) (p : By) (h : (splitL c s.data.toList)[i]? = some p) : (((Lib.splitB ⟨#[c]⟩ 0 (Lib.countB s ⟨#[c]⟩) s).map Value.string).toArray)[i]? = some (.string (str p)) := by
  rw [← split_bytes, List.getElem?_map] at h
  rw [List.getElem?_toArray, List.getElem?_map]
  cases hq : (Lib.splitB ⟨#[c]⟩ 0 (Lib.countB s ⟨#[c]⟩) s)[i]? with
  | none => rw [hq] at h; cases h
  | some q =>
    rw [hq] at h
    have e : q.data.toList = p := Option.some.inj h
    rw [← e, str_of]
    rfl
/-- Split, as the walks use it. -/
theorem psplit6 (s : ByteArray) (c : UInt8) (w : World) (hs : s.size ≤ 1000) (ht : TW w) :
    Calls Tryz.prog 25 #[.string s, .string ⟨#[c]⟩] w fun e w' => e = .returned (.slice (some ⟨w.heap.size, 0, none⟩) (splitL c s.data.toList).length (splitL c s.data.toList).length) ∧ w.heap.size < w'.heap.size ∧ (∀ (i : Nat) (p : By), (splitL c s.data.toList)[i]? = some p → w'.cell? ⟨w.heap.size, i, none⟩ = some (.string (str p))) ∧ Below w.heap.size w w' := by
  obtain ⟨m, hm⟩ := ht.mx
  refine (lib_strings_Split s ⟨#[c]⟩ m w (by omega) hm (Nat.le_refl 1)).mono ?_
  rintro e w' ⟨rfl, rfl⟩
  have hl : (splitL c s.data.toList).length = Lib.countB s ⟨#[c]⟩ + 1 := by
    rw [← split_bytes, List.length_map, split_length]
  refine ⟨by rw [hl], alloc_lt6 w _, fun i p h => ?_, below_alloc6 w _⟩
  rw [World.cell?_alloc_at _ _ _ _ rfl]
  exact split_at6 s c i p h
end Go.Proofs.YtepbmnpjpkmmfaaGreatDoor
