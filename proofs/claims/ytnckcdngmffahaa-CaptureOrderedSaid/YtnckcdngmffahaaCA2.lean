/- Contracts of the functions, part 2: AdrDec, AdrSplit, Ref2, CapRNum, Reader, Elems, AdrObj, Pick, CapRd, CapChk. -/
import Derived.Deep.AppendLies
import Derived.Deep.RegionHeld3
import Derived.Laws.OwnMore
import Derived.Deep.QuietTactic
import Derived.OwnWalk
import Derived.Laws.AppendOwnNone
import Derived.Maps.AppendAt
import Derived.Laws.StructEq
import Derived.BigQuiet
import Derived.Test.YtnckcdngmffahaaCA1
/- Contract of the reference of layer 6: Decimal. -/
namespace Go.Proofs.Ytnckcdngmffahaa
open Go.ChangeShapes Go.WideShapes Go.ChangeAt Go.RowKit
set_option linter.unusedVariables false

theorem drop_at6 (s : ByteArray) (k : Nat) (h : k < s.size) : s.data.toList.drop k = s[k] :: s.data.toList.drop (k + 1) := by
  rw [List.drop_eq_getElem_cons (by simpa using h)]; rfl
end Go.Proofs.Ytnckcdngmffahaa

/- Contract of the reference of layer 6: Split (a list of strings in memory). -/
namespace Go.Proofs.Ytnckcdngmffahaa
open Go.ChangeShapes Go.WideShapes Go.ChangeAt Go.RowKit
set_option linter.unusedVariables false

theorem extract_str6 (s : ByteArray) (a b : Nat) : s.extract a b = str ((s.data.toList.drop a).take (b - a)) := by
  apply ByteArray.ext
  apply Array.ext'
  rw [Lib.extract_data]
  simp [str]
theorem toList_length6 (s : ByteArray) : s.data.toList.length = s.size := by show s.data.toList.length = s.data.size; simp only [Array.length_toList]
def strC (L : List By) : List Value := L.map fun p => .string (str p)
theorem strC_snoc (L : List By) (p : By) : strC (L ++ [p]) = strC L ++ [.string (str p)] := by simp [strC]
theorem info_str6 : (Try.prog.info? 9).map (fun i => (i.zero, i.size, i.bytes)) = some (some (.string ⟨#[]⟩), 1, 16) := by kernel_rfl
/-- What is still to come at index k, the piece under way having begun at f. -/
def restS (c : UInt8) (s : By) (f k : Nat) : List By := if k ≤ s.length then splitGo c ((s.drop f).take (k - f)) (s.drop k) else []
theorem restS_zero (c : UInt8) (s : By) : restS c s 0 0 = splitL c s := by
  rw [restS, if_pos (Nat.zero_le _)]; rfl
theorem restS_end (c : UInt8) (s : By) (f k : Nat) (h : k = s.length) (k1 : Nat) (hk1 : k1 = k + 1) : restS c s f k = [(s.drop f).take (k - f)] ++ restS c s k1 k1 := by
  have hd : s.drop k = [] := List.drop_of_length_le (by omega)
  rw [restS, if_pos (by omega), hd, splitGo, restS, if_neg (by omega)]; rfl
theorem restS_at (c : UInt8) (s : By) (f k : Nat) (h : k < s.length) (hc : s[k] = c) (k1 : Nat) (hk1 : k1 = k + 1) : restS c s f k = [(s.drop f).take (k - f)] ++ restS c s k1 k1 := by
  rw [restS, if_pos (by omega), List.drop_eq_getElem_cons h, splitGo, if_pos hc, restS, if_pos (by omega), Nat.sub_self, List.take_zero, hk1]; rfl
theorem restS_on (c : UInt8) (s : By) (f k : Nat) (h : k < s.length) (hf : f ≤ k) (hc : s[k] ≠ c) (k1 : Nat) (hk1 : k1 = k + 1) : restS c s f k = restS c s f k1 := by
  rw [restS, if_pos (by omega), List.drop_eq_getElem_cons h, splitGo, if_neg hc, restS, if_pos (by omega), hk1]
  congr 1
  rw [show k + 1 - f = (k - f) + 1 by omega, List.take_succ_eq_append_getElem (by rw [List.length_drop]; omega), List.getElem_drop]
  congr 3; omega
theorem restS_over (c : UInt8) (s : By) (f k : Nat) (h : ¬ k ≤ s.length) : restS c s f k = [] := by rw [restS, if_neg h]
end Go.Proofs.Ytnckcdngmffahaa

/- Contracts of the reference: Reverse, PutLittle, Get, GetLittle. -/
namespace Go.Proofs.Ytnckcdngmffahaa
open Go.ChangeShapes Go.WideShapes Go.ChangeAt Go.RowKit
set_option linter.unusedVariables false

/-- Bytes as cells. -/
def cellsOf (l : List UInt8) : List Value := l.map fun b => .int .u8 (b.toNat : Int)

theorem bs_of_own {w : World} {base : Nat} {A : Option Addr} {cap : Nat} {l : List UInt8} (h : w.ownsRow base 5 1 (.slice A l.length cap) l.length (cellsOf l)) : BS w base (.slice A l.length cap) l := by
  refine ⟨A, cap, rfl, ?_, fun hpos => ?_⟩
  · rcases h.2 with ⟨hv, hn⟩ | ⟨g, c, cur, hv, _, _, hn, _⟩
    · omega
    · cases hv; exact hn
  · rcases h.2 with ⟨hv, hn⟩ | ⟨g, c, cur, hv, hg, hh, hn, _⟩
    · omega
    · cases hv
      have hlt : g < w.heap.size := (h.lt g rfl).2
      refine ⟨g, 0, rfl, hg, hlt, fun j hj => ?_⟩
      rw [Nat.zero_add]
      refine ⟨?_, h.frozenAt j⟩
      rw [h.cellAt j (by omega)]
      simp [cellsOf, hj]

theorem cellsOf_snoc (l : List UInt8) (b : UInt8) : cellsOf l ++ [.int .u8 (b.toNat : Int)] = cellsOf (l ++ [b]) := by simp [cellsOf]
theorem cellsOf_length (l : List UInt8) : (cellsOf l).length = l.length := by simp [cellsOf]

theorem back_take (l : List UInt8) (q : Nat) (h : q < l.length) : (l.drop (q + 1)).reverse ++ [l[q]] = (l.drop q).reverse := by
  rw [List.drop_eq_getElem_cons h, List.reverse_cons]

theorem ext_size (s : ByteArray) (a k : Nat) : (s.extract a (a + k)).size ≤ k := by
  rw [ByteArray.size_extract]; omega

end Go.Proofs.Ytnckcdngmffahaa

/- Contracts of the reference of layer 9: number, put. -/
namespace Go.Proofs.Ytnckcdngmffahaa
open Go.ChangeShapes Go.WideShapes Go.ChangeAt Go.RowKit
set_option linter.unusedVariables false

set_option maxRecDepth 20000 in
theorem or_i64 (a b : Nat) (h1 : a * 256 + b < 9223372036854775808) (h2 : b < 256) : bits .or .i64 ((a : Int) * 256) (b : Int) = ((a * 256 + b : Nat) : Int) := by
  have nn : ∀ x : Nat, x < 18446744073709551616 → (BitVec.ofInt 64 (x : Int)).toNat = x := fun x hx => by
    rw [BitVec.ofInt_natCast, BitVec.toNat_ofNat]
    exact Nat.mod_eq_of_lt (by omega)
  have e : a * 256 ||| b = a * 256 + b := by
    have h := Nat.shiftLeft_add_eq_or_of_lt (i := 8) (b := b) (by omega) a
    rw [Nat.shiftLeft_eq, show 2 ^ 8 = 256 from rfl] at h
    omega
  rw [show ((a : Int) * 256) = ((a * 256 : Nat) : Int) by omega]
  show IntKind.i64.wrap ((BitVec.ofInt 64 ((a * 256 : Nat) : Int) ||| BitVec.ofInt 64 (b : Int)).toNat : Int) = _
  have ha : a * 256 < 18446744073709551616 := by omega
  have hb : b < 18446744073709551616 := by omega
  rw [BitVec.toNat_or, nn (a * 256) ha, nn b hb, e, IntKind.wrap_i64]
  omega
/-- The bytes that make a number, first the greatest. -/
def bigC (big : Bool) (S : List UInt8) (p n : Nat) : List UInt8 := if big then (S.drop p).take n else ((S.drop p).take n).reverse
theorem bigC_num (big : Bool) (S : List UInt8) (p n : Nat) : numC big S p n = num (bigC big S p n) := rfl
theorem bigC_len {big : Bool} {S : List UInt8} {p n : Nat} (h : p + n ≤ S.length) : (bigC big S p n).length = n := by
  unfold bigC
  split
  · rw [List.length_take, List.length_drop]; omega
  · rw [List.length_reverse, List.length_take, List.length_drop]; omega
theorem bigC_get {big : Bool} {S : List UInt8} {p n i : Nat} (h : p + n ≤ S.length) (hi : i < n) (hk : (if big then p + i else p + n - 1 - i) < S.length) : (bigC big S p n)[i]? = some (S[if big then p + i else p + n - 1 - i]) := by
  unfold bigC
  cases big with
  | true =>
    simp only [if_true, List.getElem?_take_of_lt hi, List.getElem?_drop]
    exact List.getElem?_eq_getElem _
  | false =>
    simp only [Bool.false_eq_true, if_false]
    have hl : ((S.drop p).take n).length = n := by rw [List.length_take, List.length_drop]; omega
    rw [List.getElem?_reverse (by rw [hl]; exact hi), hl, List.getElem?_take_of_lt (by omega), List.getElem?_drop]
    rw [show p + (n - 1 - i) = p + n - 1 - i by omega]
    exact List.getElem?_eq_getElem _
theorem num_take {l : List UInt8} {i : Nat} {c : UInt8} (h : l[i]? = some c) : num (l.take (i + 1)) = num (l.take i) * 256 + c.toNat := by
  obtain ⟨hi, e⟩ := List.getElem?_eq_some_iff.1 h
  rw [List.take_succ_eq_append_getElem hi, e, num_snoc]
set_option maxHeartbeats 1000000 in
set_option maxRecDepth 20000 in
theorem rnum9_any (s : ByteArray) (p n : Nat) (big : Bool) (w : World) (h : p + n ≤ s.size) (hn : n ≤ 7) (hs : s.size ≤ 1000000000) :
    Calls Try.prog 41 #[.string s, .int .i64 (p : Int), .int .i64 (n : Int), .bool big] w fun e w' => e = .returned (.int .i64 (numC big s.data.toList p n : Nat)) ∧ w = w' := by
  obtain ⟨L, hL⟩ : ∃ L, L = bigC big s.data.toList p n := ⟨_, rfl⟩
  rw [bigC_num, ← hL]
  have hlen := toList_length6 s
  have hLl : L.length = n := by rw [hL]; exact bigC_len (by rw [hlen]; exact h)
  have HG := Lib.hid (fun (i : Nat) (hi : i < n) (hk : (if big then p + i else p + n - 1 - i) < s.size) => show L[i]? = some (s[if big then p + i else p + n - 1 - i]'hk) from by rw [hL]; exact bigC_get (by rw [hlen]; exact h) hi (by rw [hlen]; exact hk))
  have HN := Lib.hid hLl
  have h7 : n ≤ 7 := hn
  clear hL hLl hlen
  go_enter Try.func41, Try.ntmps41
  go_wp2_with fail
  go_loopw [9, 10] (fun v5 v6 wr => ∃ i m : Nat, v5 = .int .i64 m ∧ v6 = .int .i64 i ∧ i ≤ n ∧ Hid (m = num (L.take i)) ∧ w = wr) (fun _ v6 _ => n - (intOf v6).toNat)
  case atStart => exact ⟨0, 0, rfl, rfl, Nat.zero_le _, Lib.hid rfl, rfl⟩
  case round =>
    obtain ⟨i, m, rfl, rfl, hi, HM, rfl⟩ := hrel
    obtain ⟨i1, hi1⟩ : ∃ i1, i1 = i + 1 := ⟨_, rfl⟩
    have i1i : (i : Int) + 1 = (i1 : Int) := by omega
    have HI1 := Lib.hid hi1
    by_cases hlt : i < n
    · have dlt : decide ((i : Int) < (n : Int)) = true := by simp; omega
      have hki : (i : Int) < (n : Int) := by omega
      have i1n : i1 ≤ n := by omega
      have hm6 : m < 281474976710656 := by rw [HM.out]; exact num_lt6 (by rw [List.length_take]; omega)
      cases big with
      | true =>
        have hk : p + i < s.size := by omega
        have hg := HG.out i hlt (by simpa using hk)
        simp only [if_true] at hg
        obtain ⟨k, hkk⟩ : ∃ k, k = p + i := ⟨_, rfl⟩
        have kki : (p : Int) + (i : Int) = (k : Int) := by omega
        have h0 : (0 : Int) ≤ (p : Int) + (n : Int) - 1 - (i : Int) := by omega
        have hks : k < s.size := by omega
        have hksi : (k : Int) < (s.size : Int) := by omega
        have hg2 : L[i]? = some (s[k]'hks) := by rw [hg]; simp only [hkk]
        have hnm := num_take hg2
        rw [← HM.out, ← hi1] at hnm
        have hx8 := u8_lt s[k]
        obtain ⟨x, hx⟩ : ∃ x, x = s[k].toNat := ⟨_, rfl⟩
        rw [← hx] at hnm hx8
        have hor := or_i64 m x (by omega) hx8
        obtain ⟨m1, hm1⟩ : ∃ m1, m1 = m * 256 + x := ⟨_, rfl⟩
        rw [← hm1] at hnm hor
        have HM2 := Lib.hid (show m1 = num (L.take i1) from hnm.symm)
        have hx' : ((s[k].toNat : Nat) : Int) = (x : Int) := by rw [hx]
        clear hg hg2 hnm hm1 hkk hi1 hk HG hx
        go_wp2_with fail
        go_roundw
        case rel => exact ⟨i1, m1, rfl, rfl, i1n, HM2, by trivial⟩
        case measure => have := HI1.out; simp [intOf]; omega
      | false =>
        have hk : p + n - 1 - i < s.size := by omega
        have hg := HG.out i hlt (by simpa using hk)
        simp only [Bool.false_eq_true, if_false] at hg
        obtain ⟨k, hkk⟩ : ∃ k, k = p + n - 1 - i := ⟨_, rfl⟩
        have kki : (p : Int) + (n : Int) - 1 - (i : Int) = (k : Int) := by omega
        have hks : k < s.size := by omega
        have hksi : (k : Int) < (s.size : Int) := by omega
        have hg2 : L[i]? = some (s[k]'hks) := by rw [hg]; simp only [hkk]
        have hnm := num_take hg2
        rw [← HM.out, ← hi1] at hnm
        have hx8 := u8_lt s[k]
        obtain ⟨x, hx⟩ : ∃ x, x = s[k].toNat := ⟨_, rfl⟩
        rw [← hx] at hnm hx8
        have hor := or_i64 m x (by omega) hx8
        obtain ⟨m1, hm1⟩ : ∃ m1, m1 = m * 256 + x := ⟨_, rfl⟩
        rw [← hm1] at hnm hor
        have HM2 := Lib.hid (show m1 = num (L.take i1) from hnm.symm)
        have hx' : ((s[k].toNat : Nat) : Int) = (x : Int) := by rw [hx]
        clear hg hg2 hnm hm1 hkk hi1 hk HG hx
        go_wp2_with fail
        go_roundw
        case rel => exact ⟨i1, m1, rfl, rfl, i1n, HM2, by trivial⟩
        case measure => have := HI1.out; simp [intOf]; omega
    · have dlt : decide ((i : Int) < (n : Int)) = false := by simp; omega
      have nlt : ¬ (i : Int) < (n : Int) := by omega
      have HE := Lib.hid (show m = num L by rw [HM.out, List.take_of_length_le (by have := HN.out; omega)])
      clear hi1 HM HG
      go_wp2_with fail
      go_ret
      exact ⟨by rw [HE.out]; rfl, rfl⟩
/-- The bytes of a number, as cells. -/
theorem cells_snoc9 (M : List UInt8) (c : UInt8) (X : Nat) (h : X = c.toNat) : cellsOf M ++ [.int .u8 (X : Int)] = cellsOf (M ++ [c]) := by rw [h]; simp [cellsOf]
set_option maxHeartbeats 1000000 in
set_option maxRecDepth 20000 in
theorem rput9_any (n size : Nat) (w : World) (hn : n < 9223372036854775808) (hsz : size ≤ 7) :
    Calls Try.prog 28 #[.int .i64 (n : Int), .int .i64 (size : Int)] w fun e w' => e = .returned (.string (str (leL size n))) ∧ Below w.heap.size w w' := by
  obtain ⟨i0, hinf, hz0, hz1, hz2⟩ := info_parts info5
  have HB0 := Lib.hid (Below.refl w.heap.size w)
  have HO0 := Lib.hid (show w.ownsRow w.heap.size 5 1 (.slice none 0 0) 0 (cellsOf []) from World.ownsRow_nil w w.heap.size 5 1)
  have hs7 : size ≤ 7 := hsz
  go_enter Try.func28, Try.ntmps28
  go_wp2_with fail
  go_loopw [5, 6] (fun v5 v6 wr => ∃ i cap : Nat, ∃ A : Option Addr, v5 = .slice A i cap ∧ v6 = .int .i64 i ∧ i ≤ size ∧ Hid (Below w.heap.size w wr) ∧ Hid (wr.ownsRow w.heap.size 5 1 (.slice A i cap) i (cellsOf (leL i n)))) (fun _ v6 _ => size - (intOf v6).toNat)
  case atStart => exact ⟨0, 0, none, rfl, rfl, Nat.zero_le _, HB0, HO0⟩
  case round =>
    clear HB0 HO0
    obtain ⟨i, cap, A, rfl, rfl, hi, HB, HO⟩ := hrel
    obtain ⟨i1, hi1⟩ : ∃ i1, i1 = i + 1 := ⟨_, rfl⟩
    have i1i : (i : Int) + 1 = (i1 : Int) := by omega
    by_cases hlt : i < size
    · have dlt : decide ((i : Int) < (size : Int)) = true := by simp; omega
      have hki : (i : Int) < (size : Int) := by omega
      obtain ⟨s, hs⟩ : ∃ s, s = 8 * i := ⟨_, rfl⟩
      have hsi : (8 : Int) * (i : Int) = (s : Int) := by omega
      have hs64 : s < 64 := by omega
      obtain ⟨q, hq⟩ : ∃ q, q = n / 2 ^ s := ⟨_, rfl⟩
      have hqi : (n : Int) / 2 ^ s = (q : Int) := by rw [hq, Int.natCast_ediv]; simp
      have hq63 : q < 9223372036854775808 := Nat.lt_of_le_of_lt (by rw [hq]; exact Nat.div_le_self _ _) hn
      have hqd : q = n / 256 ^ i := by rw [hq, hs, Nat.pow_mul]
      obtain ⟨X, hX⟩ : ∃ X : Nat, X = (UInt8.ofNat (n / 256 ^ i % 256)).toNat := ⟨_, rfl⟩
      have hXi : (q : Int) % 256 = (X : Int) := by rw [hX, UInt8.toNat_ofNat', hqd]; simp
      have HSN := Lib.hid (show cellsOf (leL i n) ++ [.int .u8 (X : Int)] = cellsOf (leL i1 n) by rw [hi1, leL_snoc]; exact cells_snoc9 _ _ _ hX)
      have hsz2 := HB.out.size
      have HB2 := Lib.hid (HB.out.alloc hsz2 (.cells #[.int .u8 (X : Int)] 5))
      have HI1 := Lib.hid hi1
      have i1s : i1 ≤ size := by omega
      clear hq hs hqd hX hi1
      go_wp2_with (at_builtin; refine wpList_append_lies _ rfl _ _ 52 rfl w.heap.size 5 i0 (.int .u8 0) 1 1 Try.underlying52 hinf hz0 hz1 hz2 rfl (by omega) _ i (cellsOf (leL i n)) rfl (HO.out.alloc _) ⟨wr.heap.size, 0, none⟩ 1 1 [.int .u8 (X : Int)] rfl rfl ?c1 ?c2 (by omega) ?c3 ?c4 ?c5 _ rfl ?_)
      case c1 => exact World.news_of_block (cs := #[.int .u8 (X : Int)]) (t := 5) (fr := (0, 0)) (heap_alloc_new wr _)
      case c2 => simp [Value.oneCell']
      case c3 => unfold maxLen; omega
      case c4 => omega
      case c5 => simp; omega
      intro g2 cap2 w3 hown3 hgrow hat hlt2
      have hB3 := HB2.out.grown hgrow (by simp; omega) (fun j hj => (HO.out.lt j hj).1)
      rw [HSN.out] at hown3
      have HB3 := Lib.hid hB3
      have HO3 := Lib.hid (show w3.ownsRow w.heap.size 5 1 (.slice (some ⟨g2, 0, none⟩) i1 cap2) i1 (cellsOf (leL i1 n)) by rw [HI1.out] at hown3 ⊢; exact hown3)
      clear hB3 hown3 hgrow hat hlt2 HB HO HB2
      go_wp2_with fail
      go_roundw
      case rel => exact ⟨i1, cap2, some ⟨g2, 0, none⟩, by rw [HI1.out], by go_num, i1s, HB3, HO3⟩
      case measure => have := HI1.out; simp [intOf]; omega
    · have dlt : decide ((i : Int) < (size : Int)) = false := by simp; omega
      have nlt : ¬ (i : Int) < (size : Int) := by omega
      obtain rfl : i = size := by omega
      have hl := leL_length i n
      have hbs := bs_of_own (l := leL i n) (by rw [hl]; exact HO.out)
      have hcv := bs_string hbs
      rw [hl] at hcv
      clear hbs hl HO hi1
      go_wp2_with fail
      go_ret
      exact ⟨rfl, HB.out⟩
end Go.Proofs.Ytnckcdngmffahaa

/- Contracts of the program's reader: next, Int, Take, Rest, Left, Err, NewReader. -/
namespace Go.Proofs.Ytnckcdngmffahaa
open Go.ChangeShapes Go.WideShapes Go.ChangeAt Go.RowKit
set_option linter.unusedVariables false

/-- Block g is just these cells. -/
def Cells (w : World) (g : Nat) (t : TypeId) (cs : Array Value) : Prop := w.heap[g]? = some (.cells cs t (0, 0))
theorem Cells.lt {w : World} {g : Nat} {t : TypeId} {cs : Array Value} (h : Cells w g t cs) : g < w.heap.size := (Array.getElem?_eq_some_iff.1 h).1
theorem Cells.cell {w : World} {g : Nat} {t : TypeId} {cs : Array Value} (h : Cells w g t cs) (i : Nat) : w.cell? ⟨g, i, none⟩ = cs[i]? := by
  have h' : w.heap[g]? = some (.cells cs t (0, 0)) := h
  simp [World.cell?, h']
theorem Cells.frozen {w : World} {g : Nat} {t : TypeId} {cs : Array Value} (h : Cells w g t cs) (i : Nat) : w.frozen? ⟨g, i, none⟩ = false := by
  have h' : w.heap[g]? = some (.cells cs t (0, 0)) := h
  simp [World.frozen?, h']
theorem Cells.set {w : World} {g : Nat} {t : TypeId} {cs : Array Value} (h : Cells w g t cs) (i : Nat) (u : Value) : Cells (w.setCell ⟨g, i, none⟩ u) g t (cs.setIfInBounds i u) := by
  have h' : w.heap[g]? = some (.cells cs t (0, 0)) := h
  show (w.setCell ⟨g, i, none⟩ u).heap[g]? = _
  simp [World.setCell, Array.getElem?_modify, h']
theorem Cells.only {w w' : World} {g : Nat} {t : TypeId} {cs : Array Value} {row : Option Nat} (h : Cells w g t cs) (hg : w.grownBy w' row) (hne : some g ≠ row) : Cells w' g t cs :=
  (hg.block g h.lt hne).trans h
theorem only_set (w : World) (g i : Nat) (u : Value) : w.grownBy (w.setCell ⟨g, i, none⟩ u) (some g) :=
  ⟨rfl, rfl, rfl, by simp [World.setCell], fun k _ hne => Below.heap_setCell w ⟨g, i, none⟩ u k (by intro e; exact hne (by rw [e]))⟩
theorem only_trans {a b c : World} {row : Option Nat} (h : a.grownBy b row) (k : b.grownBy c row) : a.grownBy c row :=
  ⟨k.os.trans h.os, k.tape.trans h.tape, k.output.trans h.output, Nat.le_trans h.size k.size, fun i hi hne => (k.block i (Nat.lt_of_lt_of_le hi h.size) hne).trans (h.block i hi hne)⟩
theorem only_refl (w : World) (row : Option Nat) : w.grownBy w row := ⟨rfl, rfl, rfl, Nat.le_refl _, fun _ _ _ => rfl⟩
theorem only_below {w w' : World} (h : Below w.heap.size w w') (row : Option Nat) : w.grownBy w' row := ⟨h.os, h.tape, h.output, h.size, fun k hk _ => h.block k hk⟩

/-- The bytes that a reader has left lie outside its own block. -/
def Left (w : World) (p : Nat) (A : Option Addr) (l : List UInt8) (cap : Nat) : Prop :=
  l.length ≤ cap ∧ (0 < l.length → ∃ g o, A = some ⟨g, o, none⟩ ∧ g ≠ p ∧ g < w.heap.size ∧
    ∀ j (hj : j < l.length), w.cell? ⟨g, o + j, none⟩ = some (.int .u8 (l[j].toNat : Int)) ∧ w.frozen? ⟨g, o + j, none⟩ = false)

theorem Left.only {w w' : World} {p : Nat} {A : Option Addr} {l : List UInt8} {cap : Nat} (h : Left w p A l cap) (hg : w.grownBy w' (some p)) : Left w' p A l cap := by
  refine ⟨h.1, fun hp => ?_⟩
  obtain ⟨g, o, e, hne, hlt, hc⟩ := h.2 hp
  have hb : w'.heap[g]? = w.heap[g]? := hg.block g hlt (by intro e; injection e with e; exact hne e)
  refine ⟨g, o, e, hne, Nat.lt_of_lt_of_le hlt hg.size, fun j hj => ?_⟩
  rw [World.cell?_of_block (w := w) (w' := w') (a := ⟨g, o + j, none⟩) hb, World.frozen?_of_block (w := w) (w' := w') (a := ⟨g, o + j, none⟩) hb]
  exact hc j hj
theorem Left.bs {w : World} {p : Nat} {A : Option Addr} {l : List UInt8} {cap : Nat} (h : Left w p A l cap) : BS w 0 (.slice A l.length cap) l :=
  ⟨A, cap, rfl, h.1, fun hp => by
    obtain ⟨g, o, e, _, hlt, hc⟩ := h.2 hp
    exact ⟨g, o, e, Nat.zero_le _, hlt, hc⟩⟩

theorem add_flat (g o n : Nat) : (⟨g, o, none⟩ : Addr).add n = ⟨g, o + n, none⟩ := by
  unfold Addr.add
  split
  · subst_vars; rfl
  · rfl
theorem Left.drop {w : World} {p : Nat} {A : Option Addr} {l : List UInt8} {cap : Nat} (h : Left w p A l cap) (n : Nat) (hn : n ≤ l.length) : Left w p (A.map (fun x => x.add n)) (l.drop n) (cap - n) := by
  refine ⟨by rw [List.length_drop]; have := h.1; omega, fun hp => ?_⟩
  rw [List.length_drop] at hp
  obtain ⟨g, o, rfl, hne, hlt, hc⟩ := h.2 (by omega)
  refine ⟨g, o + n, by rw [Option.map_some, add_flat], hne, hlt, fun j hj => ?_⟩
  rw [List.length_drop] at hj
  have := hc (n + j) (by omega)
  rw [List.getElem_drop, Nat.add_assoc]
  exact this
theorem Left.take {w : World} {p : Nat} {A : Option Addr} {l : List UInt8} {cap : Nat} (h : Left w p A l cap) (n : Nat) (hn : n ≤ l.length) : BS w 0 (.slice A n n) (l.take n) := by
  have hlen : (l.take n).length = n := by rw [List.length_take]; omega
  refine ⟨A, n, by rw [hlen], by rw [hlen]; exact Nat.le_refl _, fun hp => ?_⟩
  rw [hlen] at hp
  obtain ⟨g, o, rfl, _, hlt, hc⟩ := h.2 (by omega)
  refine ⟨g, o, rfl, Nat.zero_le _, hlt, fun j hj => ?_⟩
  rw [hlen] at hj
  have := hc j (by omega)
  rw [List.getElem_take]
  exact this

/-- How a reader answers a call of Int. -/
def intOk (l : List UInt8) (n : Int) : Prop := 1 ≤ n ∧ n ≤ 7 ∧ n ≤ l.length

/-- A step that writes block p alone keeps what lies below a number up to p. -/
theorem below_only {B : Nat} {a w w' : World} {p : Nat} (h : Below B a w) (hg : w.grownBy w' (some p)) (hp : B ≤ p) (hB : B ≤ w.heap.size) : Below B a w' :=
  h.grown hg hB (fun k hk => by injection hk with hk; omega)

theorem cells_new (w : World) (t : TypeId) (cs : Array Value) : Cells (w.alloc (.cells cs t)) w.heap.size t cs := heap_alloc_new w _

end Go.Proofs.Ytnckcdngmffahaa

/- Slices of elements of any fixed number of cells: how they read, how they are appended to; for any element. -/
namespace Go.Proofs.Ytnckcdngmffahaa
open Go.ChangeShapes Go.WideShapes Go.ChangeAt Go.RowKit
set_option linter.unusedVariables false

/-- How an element lies: its cells. -/
structure Enc (α : Type) where
  k : Nat
  pos : 0 < k
  c : α → List Value
  len : ∀ x, (c x).length = k
  one : ∀ x, ∀ v ∈ c x, v.oneCell' = true
variable {α : Type}
def Enc.cells (E : Enc α) (l : List α) : List Value := l.flatMap E.c
theorem Enc.cells_nil (E : Enc α) : E.cells [] = [] := rfl
theorem Enc.cells_cons (E : Enc α) (x : α) (l : List α) : E.cells (x :: l) = E.c x ++ E.cells l := rfl
theorem Enc.cells_append (E : Enc α) (a b : List α) : E.cells (a ++ b) = E.cells a ++ E.cells b := by simp [Enc.cells]
theorem Enc.cells_one (E : Enc α) (x : α) : E.cells [x] = E.c x := by simp [Enc.cells]
theorem Enc.cells_snoc (E : Enc α) (l : List α) (x : α) : E.cells (l ++ [x]) = E.cells l ++ E.c x := by rw [E.cells_append, E.cells_one]
theorem Enc.cells_length (E : Enc α) (l : List α) : (E.cells l).length = l.length * E.k := by
  induction l with
  | nil => simp [Enc.cells]
  | cons x r ih => rw [E.cells_cons, List.length_append, ih, E.len, List.length_cons, Nat.add_mul, Nat.one_mul, Nat.add_comm]
theorem Enc.cells_get (E : Enc α) : ∀ (l : List α) (i : Nat) (x : α) (j : Nat), l[i]? = some x → j < E.k → (E.cells l)[i * E.k + j]? = (E.c x)[j]?
  | [], i, x, j, h, _ => by simp at h
  | y :: r, 0, x, j, h, hj => by
    simp only [List.getElem?_cons_zero, Option.some.injEq] at h
    subst h
    rw [E.cells_cons, Nat.zero_mul, Nat.zero_add, List.getElem?_append_left (by rw [E.len]; exact hj)]
  | y :: r, i + 1, x, j, h, hj => by
    rw [E.cells_cons, List.getElem?_append_right (by rw [E.len, Nat.add_mul]; omega), E.len, show (i + 1) * E.k + j - E.k = i * E.k + j by rw [Nat.add_mul]; omega]
    exact E.cells_get r i x j (by simpa using h) hj
theorem Enc.cells_one' (E : Enc α) (l : List α) : ∀ u ∈ E.cells l, u.oneCell' = true := by
  intro u hu
  unfold Enc.cells at hu
  obtain ⟨s, _, hs⟩ := List.mem_flatMap.1 hu
  exact E.one s u hs
theorem Enc.cells_take (E : Enc α) : ∀ (l : List α) (n : Nat), (E.cells l).take (n * E.k) = E.cells (l.take n)
  | [], n => by simp [Enc.cells]
  | x :: r, 0 => by simp [Enc.cells]
  | x :: r, n + 1 => by
    rw [E.cells_cons, List.take_succ_cons, E.cells_cons, ← E.cells_take r n, List.take_append, E.len, show (n + 1) * E.k - E.k = n * E.k by rw [Nat.add_mul]; omega, List.take_of_length_le (by rw [E.len, Nat.add_mul]; omega)]
theorem Enc.cells_at (E : Enc α) : ∀ (l : List α) (j : Nat) (u : Value), (E.cells l)[j]? = some u → ∃ i x t, l[i]? = some x ∧ t < E.k ∧ j = i * E.k + t ∧ (E.c x)[t]? = some u
  | [], j, u, h => by simp [Enc.cells] at h
  | y :: r, j, u, h => by
    rw [E.cells_cons] at h
    by_cases hj : j < E.k
    · rw [List.getElem?_append_left (by rw [E.len]; exact hj)] at h
      exact ⟨0, y, j, rfl, hj, by omega, h⟩
    · rw [List.getElem?_append_right (by rw [E.len]; omega), E.len] at h
      obtain ⟨i, x, t, h1, h2, h3, h4⟩ := E.cells_at r (j - E.k) u h
      exact ⟨i + 1, x, t, by simpa using h1, h2, by rw [Nat.add_mul]; omega, h4⟩
/-- A slice that reads as the elements l. -/
def RowL (E : Enc α) (w : World) (A : Option Addr) (l : List α) : Prop :=
  0 < l.length → ∃ g o, A = some ⟨g, o, none⟩ ∧ g < w.heap.size ∧ ∀ i x, l[i]? = some x → ∀ j v, (E.c x)[j]? = some v → w.cell? ⟨g, o + i * E.k + j, none⟩ = some v
variable {E : Enc α}
theorem RowL.nil (w : World) (A : Option Addr) : RowL E w A [] := fun h => absurd h (by simp)
theorem RowL.kept {w w' : World} {A : Option Addr} {l : List α} (h : RowL E w A l) (hb : Below w.heap.size w w') : RowL E w' A l := fun hp => by
  obtain ⟨g, o, e, hg, hc⟩ := h hp
  refine ⟨g, o, e, Nat.lt_of_lt_of_le hg hb.size, fun i x hx j v hv => ?_⟩
  rw [World.cell?_of_block (w := w) (w' := w') (a := ⟨g, o + i * E.k + j, none⟩) (hb.block g hg)]
  exact hc i x hx j v hv
theorem RowL.drewN {w : World} {A : Option Addr} {l : List α} (h : RowL E w A l) (q : Nat) : RowL E (w.drewN q) A l := h
theorem RowL.only {w w' : World} {A : Option Addr} {l : List α} {b : Option Nat} (h : RowL E w A l) (hg : w.grownBy w' b) (hne : ∀ a, A = some a → some a.block ≠ b) : RowL E w' A l := fun hp => by
  obtain ⟨g, o, e, hg1, hc⟩ := h hp
  refine ⟨g, o, e, Nat.lt_of_lt_of_le hg1 hg.size, fun i x hx j v hv => ?_⟩
  rw [World.cell?_of_block (w := w) (w' := w') (a := ⟨g, o + i * E.k + j, none⟩) (hg.block g hg1 (hne _ e))]
  exact hc i x hx j v hv
theorem RowL.tail {w : World} {g o : Nat} {x : α} {r : List α} (h : RowL E w (some ⟨g, o, none⟩) (x :: r)) : RowL E w (some ⟨g, o + E.k, none⟩) r := fun hp => by
  obtain ⟨g', o', e, hg, hc⟩ := h (by simp)
  obtain ⟨rfl, rfl⟩ : g = g' ∧ o = o' := by simp only [Option.some.injEq, Addr.mk.injEq] at e; exact ⟨e.1, e.2.1⟩
  refine ⟨g, o + E.k, rfl, hg, fun i t ht j v hv => ?_⟩
  have := hc (i + 1) t (by simpa using ht) j v hv
  rwa [show o + (i + 1) * E.k + j = o + E.k + i * E.k + j by rw [Nat.add_mul]; omega] at this
/-- One element's cells, in every later world. -/
theorem RowL.at_ {w w' : World} {g o : Nat} {l : List α} {i : Nat} {x : α} (h : RowL E w (some ⟨g, o, none⟩) l) (hx : l[i]? = some x) (hb : Below w.heap.size w w') : ∀ j v, (E.c x)[j]? = some v → w'.cell? ⟨g, o + i * E.k + j, none⟩ = some v := by
  obtain ⟨g', o', e, hg, hc⟩ := (h.kept hb) (Nat.lt_of_le_of_lt (Nat.zero_le _) (List.getElem?_eq_some_iff.1 hx).1)
  obtain ⟨rfl, rfl⟩ : g = g' ∧ o = o' := by simp only [Option.some.injEq, Addr.mk.injEq] at e; exact ⟨e.1, e.2.1⟩
  exact hc i x hx
theorem addr_add7 (g o j : Nat) : (⟨g, o, none⟩ : Addr).add j = ⟨g, o + j, none⟩ := by
  unfold Addr.add
  split
  · simp_all
  · rfl
theorem RowL.news {w : World} {ad : Addr} {l : List α} (h : RowL E w (some ad) l) : ∀ j u, (E.cells l)[j]? = some u → w.cell? (ad.add j) = some u := fun j u hu => by
  obtain ⟨i, x, t, hx, ht, rfl, hv⟩ := E.cells_at l j u hu
  obtain ⟨g, o, e, hg, hc⟩ := h (Nat.lt_of_le_of_lt (Nat.zero_le _) (List.getElem?_eq_some_iff.1 hx).1)
  obtain rfl := Option.some.inj e
  rw [addr_add7, ← Nat.add_assoc]
  exact hc i x hx t u hv
/-- A slice that the call owns reads so. -/
theorem rowl_of_own {w : World} {base : Nat} {e : TypeId} {A : Option Addr} {n cap : Nat} {l : List α} (h : w.ownsRow base e E.k (.slice A n cap) n (E.cells l)) (hn : n = l.length) : RowL E w A l := fun hp => by
  subst hn
  rcases h.2 with ⟨_, h0⟩ | ⟨g, c, cur, hv, hg, hh, hnc, hcm, hs, ht⟩
  · omega
  · simp only [Value.slice.injEq, true_and] at hv
    obtain ⟨rfl, rfl⟩ := hv
    refine ⟨g, 0, rfl, (Array.getElem?_eq_some_iff.1 hh).1, fun i x hx j v hv => ?_⟩
    have hj : j < E.k := by
      have := (List.getElem?_eq_some_iff.1 hv).1
      rwa [E.len] at this
    have hi := (List.getElem?_eq_some_iff.1 hx).1
    have hlt : i * E.k + j < l.length * E.k := by
      have : (i + 1) * E.k ≤ l.length * E.k := Nat.mul_le_mul_right _ hi
      rw [Nat.add_mul] at this
      omega
    rw [Nat.zero_add, h.cellAt _ hlt, E.cells_get l i x j hx hj]
    exact hv
theorem own_blocks {w w' : World} {base : Nat} {e : TypeId} {size : Nat} {v : Value} {n : Nat} {xs : List Value} (h : w.ownsRow base e size v n xs) (hb : ∀ b, base ≤ b → b < w.heap.size → w'.heap[b]? = w.heap[b]?) : w'.ownsRow base e size v n xs := by
  refine ⟨h.1, ?_⟩
  rcases h.2 with hn | ⟨g, cap, cur, hv, hg, hh, rest⟩
  · exact .inl hn
  · exact .inr ⟨g, cap, cur, hv, hg, (hb g hg (Array.getElem?_eq_some_iff.1 hh).1).trans hh, rest⟩
theorem own_kept {w w' : World} {base B : Nat} {e : TypeId} {size : Nat} {v : Value} {n : Nat} {xs : List Value} (h : w.ownsRow base e size v n xs) (hb : Below B w w') (hB : w.heap.size ≤ B) : w'.ownsRow base e size v n xs :=
  own_blocks h fun b _ hl => hb.block b (Nat.lt_of_lt_of_le hl hB)
/-- What another row's growing leaves. -/
theorem own_only {w w' : World} {base : Nat} {e : TypeId} {size : Nat} {v : Value} {n : Nat} {xs : List Value} {b : Option Nat} (h : w.ownsRow base e size v n xs) (hg : w.grownBy w' b) (hne : ∀ c, v.ownBlock = some c → some c ≠ b) : w'.ownsRow base e size v n xs := by
  refine ⟨h.1, ?_⟩
  rcases h.2 with hn | ⟨g, cap, cur, hv, hb, hh, rest⟩
  · exact .inl hn
  · exact .inr ⟨g, cap, cur, hv, hb, (hg.block g (Array.getElem?_eq_some_iff.1 hh).1 (hne g (by rw [hv]; rfl))).trans hh, rest⟩
theorem own_mono {w : World} {base base' : Nat} {e : TypeId} {size : Nat} {v : Value} {n : Nat} {xs : List Value} (h : w.ownsRow base e size v n xs) (hb : base' ≤ base) : w.ownsRow base' e size v n xs := by
  refine ⟨h.1, ?_⟩
  rcases h.2 with hn | ⟨g, cap, cur, hv, hg, rest⟩
  · exact .inl hn
  · exact .inr ⟨g, cap, cur, hv, Nat.le_trans hb hg, rest⟩
theorem own_shape {w : World} {base : Nat} {e : TypeId} {size : Nat} {v : Value} {n : Nat} {xs : List Value} (h : w.ownsRow base e size v n xs) : ∃ A c, v = .slice A n c := by
  rcases h.2 with ⟨h1, h2⟩ | ⟨g, c, cur, h1, _⟩
  · subst h2; exact ⟨_, _, h1⟩
  · exact ⟨_, _, h1⟩
theorem own_cap {w : World} {base : Nat} {e : TypeId} {size : Nat} {A : Option Addr} {n c : Nat} {xs : List Value} (h : w.ownsRow base e size (.slice A n c) n xs) : n ≤ c ∧ c ≤ maxLen := by
  rcases h.2 with ⟨h1, h2⟩ | ⟨g, c', cur, h1, _, _, h2, h3, _⟩
  · simp only [Value.slice.injEq] at h1
    obtain ⟨_, h3, h4⟩ := h1
    subst h3 h4
    exact ⟨Nat.le_refl _, Nat.zero_le _⟩
  · simp only [Value.slice.injEq, true_and] at h1
    obtain ⟨_, rfl⟩ := h1
    exact ⟨h2, h3⟩
theorem own_none {w : World} {base : Nat} {e : TypeId} {size : Nat} {n c : Nat} {xs : List Value} (h : w.ownsRow base e size (.slice none n c) n xs) : n = 0 ∧ c = 0 := by
  rcases h.2 with ⟨h1, h2⟩ | ⟨g, c', cur, h1, _⟩
  · simp only [Value.slice.injEq, true_and] at h1
    exact ⟨h2, h1.2⟩
  · simp at h1
theorem own_start {w : World} {base : Nat} {e : TypeId} {size : Nat} {g o : Nat} {pt : Option Nat} {n c : Nat} {xs : List Value} (h : w.ownsRow base e size (.slice (some ⟨g, o, none⟩) n c) n xs) : o = 0 ∧ base ≤ g ∧ g < w.heap.size := by
  rcases h.2 with ⟨h1, h2⟩ | ⟨g', c', cur, h1, hb, hh, _⟩
  · simp at h1
  · simp only [Value.slice.injEq, Option.some.injEq, Addr.mk.injEq, and_true, true_and] at h1
    obtain ⟨⟨rfl, rfl⟩, _⟩ := h1
    exact ⟨rfl, hb, (Array.getElem?_eq_some_iff.1 hh).1⟩
/-- The last elements cut off: still owned. -/
theorem own_cut {w : World} {base : Nat} {e : TypeId} {A : Option Addr} {n m c : Nat} {l : List α} (h : w.ownsRow base e E.k (.slice A n c) n (E.cells l)) (hn : n = l.length) (hm : m ≤ n) : w.ownsRow base e E.k (.slice A m c) m (E.cells (l.take m)) := by
  subst hn
  refine ⟨by rw [E.cells_length, List.length_take, Nat.min_eq_left hm], ?_⟩
  rcases h.2 with ⟨h1, h2⟩ | ⟨g, c', cur, h1, hb, hh, hnc, hcm, hs, ht⟩
  · simp only [Value.slice.injEq] at h1
    obtain ⟨rfl, _, rfl⟩ := h1
    obtain rfl : m = 0 := by omega
    exact .inl ⟨rfl, rfl⟩
  · simp only [Value.slice.injEq, true_and] at h1
    obtain ⟨rfl, rfl⟩ := h1
    refine .inr ⟨g, c, cur, rfl, hb, hh, by omega, hcm, hs, ?_⟩
    rw [← E.cells_take, ← ht, List.take_take, Nat.min_eq_left (Nat.mul_le_mul_right _ hm)]
/-- An empty slice literal. -/
theorem own_empty (E : Enc α) (w : World) (e : TypeId) {base : Nat} (h : base ≤ w.heap.size) : (w.alloc (.cells #[] e)).ownsRow base e E.k (.slice (some ⟨w.heap.size, 0, none⟩) 0 0) 0 (E.cells []) :=
  ⟨by simp [Enc.cells], .inr ⟨w.heap.size, 0, #[], rfl, h, heap_alloc_new w _, Nat.le_refl _, Nat.zero_le _, by simp, by simp [Enc.cells]⟩⟩
/-- A block of whole elements, as a literal or the arguments of a call lay it. -/
theorem rowl_block {w : World} {B : Nat} {cs : Array Value} {t : TypeId} {fr : Nat × Nat} {l : List α} (h : w.heap[B]? = some (.cells cs t fr)) (hc : cs.toList = E.cells l) : RowL E w (some ⟨B, 0, none⟩) l := fun hp =>
  ⟨B, 0, rfl, (Array.getElem?_eq_some_iff.1 h).1, fun i x hx j v hv => by
    have hj : j < E.k := by
      have := (List.getElem?_eq_some_iff.1 hv).1
      rwa [E.len] at this
    rw [Nat.zero_add, cell_of_row w B _ cs t fr h]
    have := E.cells_get l i x j hx hj
    rw [← hc] at this
    rw [← hv, ← this]
    simp⟩
theorem heap2 (w : World) (a b : Obj) : ((w.alloc a).alloc b).heap[w.heap.size + 1]? = some b := by
  have := heap_alloc_new (w.alloc a) b
  rwa [show (w.alloc a).heap.size = w.heap.size + 1 by simp] at this
/-- What the program says of the types of a slice and its elements. -/
structure ElemTy (t e : TypeId) (k bytes : Nat) : Prop where
  und : Try.prog.underlying t = some (.slice e)
  info : ∃ i z, Try.prog.info? e = some i ∧ i.zero = some z ∧ i.size = k ∧ i.bytes = bytes ∧ z.cells.size = k
/-- append(out, x, ..): elements that lie in a block of their own, onto a slice that the call owns. -/
theorem wpList_push {t e : TypeId} {bytes : Nat} {w : World} {ops : Array Oper} {rest : List Oper} {o : Oper} {a : Act} {Q : Exit → Act → World → Prop} (T : ElemTy t e E.k bytes) (hgd : o.guard = none) (s x : Operand)
    (ho : o.op = .call { callee := .builtin .append, args := #[s, x], argTypes := #[t, t] })
    (base : Nat) (v : Value) (n : Nat) (l ys : List α) (hs : a.eval s = v) (hown : w.ownsRow base e E.k v n (E.cells l))
    (B m c : Nat) (cs : Array Value) (fr : Nat × Nat) (hx : a.eval x = .slice (some ⟨B, 0, none⟩) m c) (hB : w.heap[B]? = some (.cells cs e fr)) (hcs : cs.toList = E.cells ys) (hm : m = ys.length) (hm0 : 0 < m) (hn : n + m ≤ 1000000) (hby : bytes ≤ 1000) (hbase : base ≤ w.heap.size)
    (h : ∀ g cap w', w'.ownsRow base e E.k (.slice (some ⟨g, 0, none⟩) (n + m) cap) (n + m) (E.cells (l ++ ys)) → w.grownBy w' v.ownBlock → (v.ownBlock = some g ∨ g = w.heap.size) → g < w'.heap.size → wpList Try.prog ops Q rest (a.put o.dst (.slice (some ⟨g, 0, none⟩) (n + m) cap)) w') : wpList Try.prog ops Q (o :: rest) a w := by
  obtain ⟨i, z, h1, h2, h3, h4, h5⟩ := T.info
  refine wpList_append_lies w hgd s x t ho base e i z E.k bytes T.und h1 h2 h3 h4 h5 E.pos v n (E.cells l) hs hown ⟨B, 0, none⟩ m c (E.cells ys) hx (by rw [E.cells_length, hm]) (fun j u hu => World.news_of_block hB j u (by rw [hcs]; exact hu)) (E.cells_one' ys) hm0 (by unfold maxLen; omega) ?_ hbase _ rfl ?_
  · have : (n + m) * bytes ≤ 1000000 * 1000 := Nat.mul_le_mul hn hby
    omega
  · intro g cap w' a1 a2 a3 a4
    rw [← E.cells_append] at a1
    exact h g cap w' a1 a2 a3 a4
/-- append(out, l...) of a slice that reads as a list. -/
theorem wpList_cat {t e : TypeId} {bytes : Nat} {w : World} {ops : Array Oper} {rest : List Oper} {o : Oper} {a : Act} {Q : Exit → Act → World → Prop} (T : ElemTy t e E.k bytes) (hgd : o.guard = none) (s x : Operand)
    (ho : o.op = .call { callee := .builtin .append, args := #[s, x], argTypes := #[t, t] })
    (base : Nat) (v : Value) (n : Nat) (xs l : List α) (hs : a.eval s = v) (hown : w.ownsRow base e E.k v n (E.cells xs))
    (A : Option Addr) (m c : Nat) (hx : a.eval x = .slice A m c) (hm : m = l.length) (hA : A = none → c = 0) (hl : RowL E w A l) (hn : n + m ≤ 1000000) (hby : bytes ≤ 1000) (hbase : base ≤ w.heap.size)
    (h : ∀ A' c' w', w'.ownsRow base e E.k (.slice A' (n + m) c') (n + m) (E.cells (xs ++ l)) → w.grownBy w' v.ownBlock → wpList Try.prog ops Q rest (a.put o.dst (.slice A' (n + m) c')) w') : wpList Try.prog ops Q (o :: rest) a w := by
  obtain ⟨i, z, h1, h2, h3, h4, h5⟩ := T.info
  cases A with
  | none =>
    have hl0 : l = [] := by
      cases l with
      | nil => rfl
      | cons y r =>
        obtain ⟨g, o, e, _⟩ := hl (by simp)
        cases e
    subst hl0
    obtain rfl := hA rfl
    have hm0 : m = 0 := by simpa using hm
    subst hm0
    obtain ⟨A', c', rfl⟩ := own_shape hown
    refine wpList_append_own_none hgd s x t ho base e i E.k T.und h1 _ n (E.cells xs) hs hown hx ?_
    refine h A' c' w ?_ ⟨rfl, rfl, rfl, Nat.le_refl _, fun _ _ _ => rfl⟩
    simpa using hown
  | some ad =>
    refine wpList_append_own_at w hgd s x t ho base e i z E.k bytes T.und h1 h2 h3 h4 h5 E.pos v n (E.cells xs) hs hown ad m c (E.cells l) hx (by rw [E.cells_length, hm]) hl.news (E.cells_one' l) (by unfold maxLen; omega) ?_ hbase ?_
    · have : (n + m) * bytes ≤ 1000000 * 1000 := Nat.mul_le_mul hn hby
      omega
    · intro v' w' hown' hgr _ _
      obtain ⟨A', c', rfl⟩ := own_shape hown'
      rw [← E.cells_append] at hown'
      exact h A' c' w' hown' hgr
end Go.Proofs.Ytnckcdngmffahaa

/- Addresses in memory; contracts of the reference of layer 6: Valid, Width, Compare, Next, Previous. -/
namespace Go.Proofs.Ytnckcdngmffahaa
open Go.ChangeShapes Go.WideShapes Go.ChangeAt Go.RowKit
set_option linter.unusedVariables false

theorem below_alloc6 (w : World) (o : Obj) : Below w.heap.size w (w.alloc o) := (Below.refl _ w).alloc (Nat.le_refl _) _
theorem alloc_lt6 (w : World) (o : Obj) : w.heap.size < (w.alloc o).heap.size := (Array.getElem?_eq_some_iff.1 (heap_alloc_new w o)).1
theorem below_drewN6 {w w' : World} {B : Nat} (h : Below B w w') (q : Nat) : Below B w (w'.drewN q) := ⟨h.os, h.tape, h.output, h.size, h.block⟩
/-- Is a struct an address? -/
def vldA (v6 : Bool) (hi lo : Nat) : Bool := v6 || (hi == 0 && decide (lo < 4294967296))
/-- The order of addresses, by the tests of the reference: p, q: the upper halves ascend, are equal; r, s: the lower ones. -/
def cmpB (b1 b2 p q r s : Bool) : Int :=
  if (b1 == b2 && (q && s)) = true then 0
  else if (!b1 && b2 || (b1 == b2 && (p || (q && r)))) = true then -1 else 1
def cmpA (b1 : Bool) (h1 l1 : Nat) (b2 : Bool) (h2 l2 : Nat) : Int := cmpB b1 b2 (decide ((h1 : Int) < (h2 : Int))) ((h1 : Int) == (h2 : Int)) (decide ((l1 : Int) < (l2 : Int))) ((l1 : Int) == (l2 : Int))
end Go.Proofs.Ytnckcdngmffahaa

/- A region that draws its order, whose calls make memory and whose guards may be false: one walk of the lexical order, over any class of worlds (Deep/Quiet's law), the class written as the worlds 'p u' of a function p. -/
namespace Go.Proofs.Ytnckcdngmffahaa
open Go.ChangeShapes Go.WideShapes Go.ChangeAt Go.RowKit
set_option linter.unusedVariables false

theorem wp_region_pick {P : Program} {id : Nat} {Q : Exit → Act → World → Prop} {a : Act} {w : World} {l : List Oper} (S : World → Prop) (hm : P.follows .mixedOrders = true) (hB : Region.lexB .any l.toArray = true) (hS : S w) (hD : S { w with drawn := w.drawn + 1 })
    (h : ∀ p : World → World, (∀ u, S (p u)) → (∀ W, S W → ∃ u, W = p u) → wpQuiet P l.toArray (fun w' => ∃ u, w' = p u) (fun a' => ∀ w', (∃ u, w' = p u) → Q .normal a' w') l a) : (Code.region id l.toArray true).wp P Q a w := by
  classical
  have h1 : ∀ u, S ((fun u => if S u then u else w) u) := fun u => by
    show S (if S u then u else w)
    split
    · assumption
    · exact hS
  have h2 : ∀ W, S W → ∃ u, W = (fun u => if S u then u else w) u := fun W hW => ⟨W, by show W = if S W then W else w; rw [if_pos hW]⟩
  exact wp_region_quiet (C := fun w' => ∃ u, w' = (fun u => if S u then u else w) u) hm hB (h2 _ hD) (by simpa using h _ h1 h2)
/-- A callee's contract, met in a world of the class. -/
theorem Calls.pick_of {P : Program} {f : FuncId} {args : Array Value} {S : World → Prop} {p : World → World} {u : World} {v : Value} (hq : ∀ W, S W → ∃ u, W = p u) (hs : ∀ W', Below (p u).heap.size (p u) W' → S W')
    (h : Calls P f args (p u) fun e w' => e = .returned v ∧ Below (p u).heap.size (p u) w') : Calls P f args (p u) fun e w'' => e = .returned v ∧ ∃ u', w'' = p u' :=
  h.mono fun _ _ ⟨he, hb⟩ => ⟨he, hq _ (hs _ hb)⟩
end Go.Proofs.Ytnckcdngmffahaa

/- The reference's reader in memory (layer 9); contracts: head, check. -/
namespace Go.Proofs.Ytnckcdngmffahaa
open Go.ChangeShapes Go.WideShapes Go.ChangeAt Go.RowKit
set_option linter.unusedVariables false

/-- A record as an element: three cells. -/
def ERec : Enc CRec := ⟨3, by decide, fun x => [.int .i64 x.tm, .int .i64 x.sz, .string (str x.dat)], fun _ => rfl, fun x v hv => by
  simp only [List.mem_cons, List.not_mem_nil, or_false] at hv
  rcases hv with rfl | rfl | rfl <;> rfl⟩
theorem info_rec : (Try.prog.info? 33).map (fun i => (i.zero, i.size, i.bytes)) = some (some (.agg #[.int .i64 0, .int .i64 0, .string ⟨#[]⟩]), 3, 32) := by kernel_rfl
theorem rcTy : ElemTy 23 33 3 32 :=
  ⟨Try.underlying23, by
    obtain ⟨i, h1, h2, h3, h4⟩ := info_parts info_rec
    exact ⟨i, _, h1, h2, h3, h4, rfl⟩⟩
/-- The reference's reader in block g: its fields. -/
def RD (w : World) (g : Nat) (T : ByteArray) (pos : Nat) (beg big : Bool) (cnt last : Nat) (en : Bool) : Prop :=
  Cells w g 41 #[.string T, .int .i64 (pos : Int), .bool beg, .bool big, .int .i64 (cnt : Int), .int .i64 (last : Int), .bool en]
section
variable {w w' : World} {g pos cnt last : Nat} {T : ByteArray} {beg big en : Bool}
theorem RD.lt (h : RD w g T pos beg big cnt last en) : g < w.heap.size := Cells.lt h
theorem RD.c0 (h : RD w g T pos beg big cnt last en) : w.cell? ⟨g, 0, none⟩ = some (.string T) := (Cells.cell h 0).trans rfl
theorem RD.c1 (h : RD w g T pos beg big cnt last en) : w.cell? ⟨g, 1, none⟩ = some (.int .i64 (pos : Int)) := (Cells.cell h 1).trans rfl
theorem RD.c2 (h : RD w g T pos beg big cnt last en) : w.cell? ⟨g, 2, none⟩ = some (.bool beg) := (Cells.cell h 2).trans rfl
theorem RD.c3 (h : RD w g T pos beg big cnt last en) : w.cell? ⟨g, 3, none⟩ = some (.bool big) := (Cells.cell h 3).trans rfl
theorem RD.c4 (h : RD w g T pos beg big cnt last en) : w.cell? ⟨g, 4, none⟩ = some (.int .i64 (cnt : Int)) := (Cells.cell h 4).trans rfl
theorem RD.c5 (h : RD w g T pos beg big cnt last en) : w.cell? ⟨g, 5, none⟩ = some (.int .i64 (last : Int)) := (Cells.cell h 5).trans rfl
theorem RD.c6 (h : RD w g T pos beg big cnt last en) : w.cell? ⟨g, 6, none⟩ = some (.bool en) := (Cells.cell h 6).trans rfl
theorem RD.f (h : RD w g T pos beg big cnt last en) (i : Nat) : w.frozen? ⟨g, i, none⟩ = false := Cells.frozen h i
theorem RD.kept (h : RD w g T pos beg big cnt last en) (hb : Below w.heap.size w w') : RD w' g T pos beg big cnt last en := (hb.block _ h.lt).trans h
theorem RD.al (h : RD w g T pos beg big cnt last en) (o : Obj) : RD (w.alloc o) g T pos beg big cnt last en := h.kept (below_alloc6 w o)
theorem RD.only (h : RD w g T pos beg big cnt last en) {row : Option Nat} (hg : w.grownBy w' row) (hne : some g ≠ row) : RD w' g T pos beg big cnt last en := Cells.only h hg hne
theorem RD.setS (h : RD w g T pos beg big cnt last en) (U : ByteArray) : RD (w.setCell ⟨g, 0, none⟩ (.string U)) g U pos beg big cnt last en := Cells.set h 0 _
theorem RD.setPos (h : RD w g T pos beg big cnt last en) (p : Nat) : RD (w.setCell ⟨g, 1, none⟩ (.int .i64 (p : Int))) g T p beg big cnt last en := Cells.set h 1 _
theorem RD.setBeg (h : RD w g T pos beg big cnt last en) (b : Bool) : RD (w.setCell ⟨g, 2, none⟩ (.bool b)) g T pos b big cnt last en := Cells.set h 2 _
theorem RD.setBig (h : RD w g T pos beg big cnt last en) (b : Bool) : RD (w.setCell ⟨g, 3, none⟩ (.bool b)) g T pos beg b cnt last en := Cells.set h 3 _
theorem RD.setCnt (h : RD w g T pos beg big cnt last en) (c : Nat) : RD (w.setCell ⟨g, 4, none⟩ (.int .i64 (c : Int))) g T pos beg big c last en := Cells.set h 4 _
theorem RD.setLast (h : RD w g T pos beg big cnt last en) (l : Nat) : RD (w.setCell ⟨g, 5, none⟩ (.int .i64 (l : Int))) g T pos beg big cnt l en := Cells.set h 5 _
theorem RD.setEnd (h : RD w g T pos beg big cnt last en) (b : Bool) : RD (w.setCell ⟨g, 6, none⟩ (.bool b)) g T pos beg big cnt last b := Cells.set h 6 _
end
/-- Only block g (and what is new) has been written. -/
theorem grown_below {w w' : World} (h : Below w.heap.size w w') (g : Nat) : w.grownBy w' (some g) := ⟨h.os, h.tape, h.output, h.size, fun k hk _ => h.block k hk⟩
theorem grown_set {w w' : World} {g : Nat} (h : w.grownBy w' (some g)) (i : Nat) (v : Value) : w.grownBy (w'.setCell ⟨g, i, none⟩ v) (some g) :=
  ⟨h.os, h.tape, h.output, by simpa using h.size, fun k hk hne => (Below.heap_setCell w' ⟨g, i, none⟩ v k (fun e => hne (by rw [e]))).trans (h.block k hk hne)⟩
theorem grown_step {w w1 w2 : World} {g : Nat} (h : w.grownBy w1 (some g)) (hb : Below w1.heap.size w1 w2) : w.grownBy w2 (some g) := h.trans (grown_below hb g)
/-- number, with a literal place. -/
theorem rnum9_at (S : List UInt8) (p n : Nat) (P : Int) (hP : (p : Int) = P) (N : Int) (hN : (n : Int) = N) (big : Bool) (w : World) (h : p + n ≤ S.length) (hn : n ≤ 7) (hs : S.length ≤ 1000000) :
    Calls Try.prog 41 #[.string (str S), .int .i64 P, .int .i64 N, .bool big] w fun e w' => e = .returned (.int .i64 (numC big S p n : Nat)) ∧ Below w.heap.size w w' := by
  subst hP hN
  have h1 := rnum9_any (str S) p n big w (by rw [str_size]; exact h) hn (by rw [str_size]; omega)
  rw [str_toList] at h1
  refine h1.mono ?_
  rintro e w' ⟨rfl, rfl⟩
  exact ⟨rfl, Below.refl _ _⟩
/-- What head leaves. -/
def HeadP (w : World) (g : Nat) (T : ByteArray) (cnt last : Nat) (en : Bool) : Option CSt → Ending → World → Prop
  | none, e, w' => e = .returned (.int .i64 2) ∧ (∃ b, RD w' g T 0 false b cnt last en) ∧ w.grownBy w' (some g)
  | some q, e, w' => e = .returned (.int .i64 0) ∧ RD w' g T q.pos true q.big cnt last en ∧ w.grownBy w' (some g)
set_option maxHeartbeats 4000000 in
set_option maxRecDepth 20000 in
theorem rhead9_any (g : Nat) (S : List UInt8) (big0 : Bool) (cnt last : Nat) (en : Bool) (w : World) (h : RD w g (str S) 0 false big0 cnt last en) (h24 : 24 ≤ S.length) (hs : S.length ≤ 1000000) :
    Calls Try.prog 36 #[.pointer (some ⟨g, 0, none⟩)] w (HeadP w g (str S) cnt last en (headC S)) := by
  have HM := Lib.hid (fun W => rnum9_at S 0 4 0 rfl 4 rfl true W (by omega) (by decide) hs)
  have HR := Lib.hid h
  have HA := Lib.hid (fun b W => rnum9_at S 4 2 4 rfl 2 rfl b W (by omega) (by decide) hs)
  have HB := Lib.hid (fun b W => rnum9_at S 6 2 6 rfl 2 rfl b W (by omega) (by decide) hs)
  have HC := Lib.hid (fun b W => rnum9_at S 20 4 20 rfl 4 rfl b W (by omega) (by decide) hs)
  obtain ⟨R, hR⟩ : ∃ R, R = headC S := ⟨_, rfl⟩
  rw [← hR]
  unfold headC magC at hR
  have c0 := h.c0
  have c3 := h.c3
  have f3 := h.f 3
  have hgl := h.lt
  clear h h24 hs
  by_cases hm1 : numC true S 0 4 = 2712847316
  · rw [if_pos hm1] at hR
    have tm : (((numC true S 0 4 : Nat) : Int) == 2712847316) = true := by rw [hm1]; rfl
    clear hm1
    generalize numC true S 0 4 = m at *
    change R = if hdOk S true = true then some ⟨24, true, 0, 0⟩ else none at hR
    unfold hdOk at hR
    have HA2 := Lib.hid (HA.out true)
    have HB2 := Lib.hid (HB.out true)
    have HC2 := Lib.hid (HC.out true)
    generalize numC true S 4 2 = v2 at *
    generalize numC true S 6 2 = v4 at *
    generalize numC true S 20 4 = v1 at *
    generalize str S = T at *
    have HRR := Lib.hid hR
    clear HA HB HC hR
    go_enter Try.func36, Try.ntmps36
    go_wp2_with fail
    refine (HM.out _).mono ?_
    rintro e w1 ⟨rfl, hb⟩
    have HR1 := Lib.hid (HR.out.kept hb)
    have HG1 := Lib.hid (grown_below hb g)
    clear c0 c3 f3 hgl
    have f3 := HR1.out.f 3
    have c3 := HR1.out.c3
    have hgl := HR1.out.lt
    clear HR hb HM
    go_wp2_with fail
    obtain ⟨W2, hW2⟩ : ∃ W, W = w1.setCell ⟨g, 3, none⟩ (.bool true) := ⟨_, rfl⟩
    have HR2 := Lib.hid (show RD W2 g T 0 false true cnt last en by rw [hW2]; exact HR1.out.setBig true)
    have HG2 := Lib.hid (show w.grownBy W2 (some g) by rw [hW2]; exact grown_set HG1.out 3 _)
    rw [← hW2]
    clear hW2 HR1 HG1 c3 f3 hgl
    have HCS : ((v2 : Int) != 2) = true ∧ v2 ≠ 2 ∨ ((v2 : Int) != 2) = false ∧ v2 = 2 ∧ (((v4 : Int) != 4) = true ∧ v4 ≠ 4 ∨ ((v4 : Int) != 4) = false ∧ v4 = 4 ∧ (((v1 : Int) != 1) = true ∧ v1 ≠ 1 ∨ ((v1 : Int) != 1) = false ∧ v1 = 1)) := by
      by_cases a : v2 = 2
      · right
        refine ⟨by simp [a], a, ?_⟩
        by_cases b : v4 = 4
        · right
          refine ⟨by simp [b], b, ?_⟩
          by_cases c : v1 = 1
          · right; exact ⟨by simp [c], c⟩
          · left; exact ⟨by rw [bne_iff_ne]; omega, c⟩
        · left; exact ⟨by rw [bne_iff_ne]; omega, b⟩
      · left; exact ⟨by rw [bne_iff_ne]; omega, a⟩
    rcases HCS with ⟨t2, n2⟩ | ⟨t2, n2, ⟨t4, n4⟩ | ⟨t4, n4, ⟨t1, n1⟩ | ⟨t1, n1⟩⟩⟩
    · have hR2 := Lib.hid (show R = none by rw [HRR.out, if_neg]; simp [n2])
      clear HRR n2
      refine wp_region_pick (fun w' => Below W2.heap.size W2 w') (by kernel_rfl) (by kernel_rfl) (Below.refl _ _) ⟨rfl, rfl, rfl, Nat.le_refl _, fun _ _ => rfl⟩ (fun p hp hq => ?_)
      have pp0 : ∀ u, (p u).cell? ⟨g, 0, none⟩ = some (.string T) := fun u => (HR2.out.kept (hp u)).c0
      have pp3 : ∀ u, (p u).cell? ⟨g, 3, none⟩ = some (.bool true) := fun u => (HR2.out.kept (hp u)).c3
      have HP := Lib.hid hp
      have HQ := Lib.hid hq
      clear hp hq
      repeat (go_big_quiet_step ((first | with_reducible exact Calls.pick_of HQ.out (fun W' hb => (HP.out _).trans (hb.mono (HP.out _).size)) (HA2.out _) | with_reducible exact Calls.pick_of HQ.out (fun W' hb => (HP.out _).trans (hb.mono (HP.out _).size)) (HB2.out _) | with_reducible exact Calls.pick_of HQ.out (fun W' hb => (HP.out _).trans (hb.mono (HP.out _).size)) (HC2.out _))))
      refine wpQuiet_nil ?_
      rintro _ ⟨u, rfl⟩
      have HR3 := Lib.hid (HR2.out.kept (HP.out u))
      have HG3 := Lib.hid (grown_step HG2.out (HP.out u))
      generalize p u = w3 at *
      clear HP HQ pp0 pp3 HR2 HG2
      go_wp2_with fail
      go_ret
      rw [hR2.out]
      exact ⟨rfl, ⟨true, HR3.out⟩, HG3.out⟩
    · have hR2 := Lib.hid (show R = none by rw [HRR.out, if_neg]; simp [n2, n4])
      clear HRR n2 n4
      refine wp_region_pick (fun w' => Below W2.heap.size W2 w') (by kernel_rfl) (by kernel_rfl) (Below.refl _ _) ⟨rfl, rfl, rfl, Nat.le_refl _, fun _ _ => rfl⟩ (fun p hp hq => ?_)
      have pp0 : ∀ u, (p u).cell? ⟨g, 0, none⟩ = some (.string T) := fun u => (HR2.out.kept (hp u)).c0
      have pp3 : ∀ u, (p u).cell? ⟨g, 3, none⟩ = some (.bool true) := fun u => (HR2.out.kept (hp u)).c3
      have HP := Lib.hid hp
      have HQ := Lib.hid hq
      clear hp hq
      repeat (go_big_quiet_step ((first | with_reducible exact Calls.pick_of HQ.out (fun W' hb => (HP.out _).trans (hb.mono (HP.out _).size)) (HA2.out _) | with_reducible exact Calls.pick_of HQ.out (fun W' hb => (HP.out _).trans (hb.mono (HP.out _).size)) (HB2.out _) | with_reducible exact Calls.pick_of HQ.out (fun W' hb => (HP.out _).trans (hb.mono (HP.out _).size)) (HC2.out _))))
      refine wpQuiet_nil ?_
      rintro _ ⟨u, rfl⟩
      have HR3 := Lib.hid (HR2.out.kept (HP.out u))
      have HG3 := Lib.hid (grown_step HG2.out (HP.out u))
      generalize p u = w3 at *
      clear HP HQ pp0 pp3 HR2 HG2
      go_wp2_with fail
      go_ret
      rw [hR2.out]
      exact ⟨rfl, ⟨true, HR3.out⟩, HG3.out⟩
    · have hR2 := Lib.hid (show R = none by rw [HRR.out, if_neg]; simp [n2, n4, n1])
      clear HRR n2 n4 n1
      refine wp_region_pick (fun w' => Below W2.heap.size W2 w') (by kernel_rfl) (by kernel_rfl) (Below.refl _ _) ⟨rfl, rfl, rfl, Nat.le_refl _, fun _ _ => rfl⟩ (fun p hp hq => ?_)
      have pp0 : ∀ u, (p u).cell? ⟨g, 0, none⟩ = some (.string T) := fun u => (HR2.out.kept (hp u)).c0
      have pp3 : ∀ u, (p u).cell? ⟨g, 3, none⟩ = some (.bool true) := fun u => (HR2.out.kept (hp u)).c3
      have HP := Lib.hid hp
      have HQ := Lib.hid hq
      clear hp hq
      repeat (go_big_quiet_step ((first | with_reducible exact Calls.pick_of HQ.out (fun W' hb => (HP.out _).trans (hb.mono (HP.out _).size)) (HA2.out _) | with_reducible exact Calls.pick_of HQ.out (fun W' hb => (HP.out _).trans (hb.mono (HP.out _).size)) (HB2.out _) | with_reducible exact Calls.pick_of HQ.out (fun W' hb => (HP.out _).trans (hb.mono (HP.out _).size)) (HC2.out _))))
      refine wpQuiet_nil ?_
      rintro _ ⟨u, rfl⟩
      have HR3 := Lib.hid (HR2.out.kept (HP.out u))
      have HG3 := Lib.hid (grown_step HG2.out (HP.out u))
      generalize p u = w3 at *
      clear HP HQ pp0 pp3 HR2 HG2
      go_wp2_with fail
      go_ret
      rw [hR2.out]
      exact ⟨rfl, ⟨true, HR3.out⟩, HG3.out⟩
    · have hR2 := Lib.hid (show R = some ⟨24, true, 0, 0⟩ by rw [HRR.out, if_pos]; simp [n2, n4, n1])
      clear HRR n2 n4 n1
      refine wp_region_pick (fun w' => Below W2.heap.size W2 w') (by kernel_rfl) (by kernel_rfl) (Below.refl _ _) ⟨rfl, rfl, rfl, Nat.le_refl _, fun _ _ => rfl⟩ (fun p hp hq => ?_)
      have pp0 : ∀ u, (p u).cell? ⟨g, 0, none⟩ = some (.string T) := fun u => (HR2.out.kept (hp u)).c0
      have pp3 : ∀ u, (p u).cell? ⟨g, 3, none⟩ = some (.bool true) := fun u => (HR2.out.kept (hp u)).c3
      have HP := Lib.hid hp
      have HQ := Lib.hid hq
      clear hp hq
      repeat (go_big_quiet_step ((first | with_reducible exact Calls.pick_of HQ.out (fun W' hb => (HP.out _).trans (hb.mono (HP.out _).size)) (HA2.out _) | with_reducible exact Calls.pick_of HQ.out (fun W' hb => (HP.out _).trans (hb.mono (HP.out _).size)) (HB2.out _) | with_reducible exact Calls.pick_of HQ.out (fun W' hb => (HP.out _).trans (hb.mono (HP.out _).size)) (HC2.out _))))
      refine wpQuiet_nil ?_
      rintro _ ⟨u, rfl⟩
      have HR3 := Lib.hid (HR2.out.kept (HP.out u))
      have HG3 := Lib.hid (grown_step HG2.out (HP.out u))
      generalize p u = w3 at *
      clear HP HQ pp0 pp3 HR2 HG2
      have d1 := HR3.out.c1
      have d2 := HR3.out.c2
      have g1 := HR3.out.f 1
      have g2 := HR3.out.f 2
      have hgl := HR3.out.lt
      go_wp2_with fail
      go_ret
      rw [hR2.out]
      refine ⟨rfl, ?_, ?_⟩
      · exact (HR3.out.setBeg true).setPos 24
      · exact grown_set (grown_set HG3.out 2 _) 1 _
  · rw [if_neg hm1] at hR
    have tm : (((numC true S 0 4 : Nat) : Int) == 2712847316) = false := by rw [beq_eq_false_iff_ne]; omega
    have nm : ¬ ((numC true S 0 4 : Nat) : Int) = 2712847316 := by omega
    by_cases hm2 : numC true S 0 4 = 3569595041
    · rw [if_pos hm2] at hR
      have tm2 : (((numC true S 0 4 : Nat) : Int) == 3569595041) = true := by rw [hm2]; rfl
      clear hm1 hm2
      generalize numC true S 0 4 = m at *
      change R = if hdOk S false = true then some ⟨24, false, 0, 0⟩ else none at hR
      unfold hdOk at hR
      have HA2 := Lib.hid (HA.out false)
      have HB2 := Lib.hid (HB.out false)
      have HC2 := Lib.hid (HC.out false)
      generalize numC false S 4 2 = v2 at *
      generalize numC false S 6 2 = v4 at *
      generalize numC false S 20 4 = v1 at *
      generalize str S = T at *
      have HRR := Lib.hid hR
      clear HA HB HC hR
      go_enter Try.func36, Try.ntmps36
      go_wp2_with fail
      refine (HM.out _).mono ?_
      rintro e w1 ⟨rfl, hb⟩
      have HR1 := Lib.hid (HR.out.kept hb)
      have HG1 := Lib.hid (grown_below hb g)
      clear c0 c3 f3 hgl
      have f3 := HR1.out.f 3
      have c3 := HR1.out.c3
      have hgl := HR1.out.lt
      clear HR hb HM
      go_wp2_with fail
      obtain ⟨W2, hW2⟩ : ∃ W, W = w1.setCell ⟨g, 3, none⟩ (.bool false) := ⟨_, rfl⟩
      have HR2 := Lib.hid (show RD W2 g T 0 false false cnt last en by rw [hW2]; exact HR1.out.setBig false)
      have HG2 := Lib.hid (show w.grownBy W2 (some g) by rw [hW2]; exact grown_set HG1.out 3 _)
      rw [← hW2]
      clear hW2 HR1 HG1 c3 f3 hgl
      have HCS : ((v2 : Int) != 2) = true ∧ v2 ≠ 2 ∨ ((v2 : Int) != 2) = false ∧ v2 = 2 ∧ (((v4 : Int) != 4) = true ∧ v4 ≠ 4 ∨ ((v4 : Int) != 4) = false ∧ v4 = 4 ∧ (((v1 : Int) != 1) = true ∧ v1 ≠ 1 ∨ ((v1 : Int) != 1) = false ∧ v1 = 1)) := by
        by_cases a : v2 = 2
        · right
          refine ⟨by simp [a], a, ?_⟩
          by_cases b : v4 = 4
          · right
            refine ⟨by simp [b], b, ?_⟩
            by_cases c : v1 = 1
            · right; exact ⟨by simp [c], c⟩
            · left; exact ⟨by rw [bne_iff_ne]; omega, c⟩
          · left; exact ⟨by rw [bne_iff_ne]; omega, b⟩
        · left; exact ⟨by rw [bne_iff_ne]; omega, a⟩
      rcases HCS with ⟨t2, n2⟩ | ⟨t2, n2, ⟨t4, n4⟩ | ⟨t4, n4, ⟨t1, n1⟩ | ⟨t1, n1⟩⟩⟩
      · have hR2 := Lib.hid (show R = none by rw [HRR.out, if_neg]; simp [n2])
        clear HRR n2
        refine wp_region_pick (fun w' => Below W2.heap.size W2 w') (by kernel_rfl) (by kernel_rfl) (Below.refl _ _) ⟨rfl, rfl, rfl, Nat.le_refl _, fun _ _ => rfl⟩ (fun p hp hq => ?_)
        have pp0 : ∀ u, (p u).cell? ⟨g, 0, none⟩ = some (.string T) := fun u => (HR2.out.kept (hp u)).c0
        have pp3 : ∀ u, (p u).cell? ⟨g, 3, none⟩ = some (.bool false) := fun u => (HR2.out.kept (hp u)).c3
        have HP := Lib.hid hp
        have HQ := Lib.hid hq
        clear hp hq
        repeat (go_big_quiet_step ((first | with_reducible exact Calls.pick_of HQ.out (fun W' hb => (HP.out _).trans (hb.mono (HP.out _).size)) (HA2.out _) | with_reducible exact Calls.pick_of HQ.out (fun W' hb => (HP.out _).trans (hb.mono (HP.out _).size)) (HB2.out _) | with_reducible exact Calls.pick_of HQ.out (fun W' hb => (HP.out _).trans (hb.mono (HP.out _).size)) (HC2.out _))))
        refine wpQuiet_nil ?_
        rintro _ ⟨u, rfl⟩
        have HR3 := Lib.hid (HR2.out.kept (HP.out u))
        have HG3 := Lib.hid (grown_step HG2.out (HP.out u))
        generalize p u = w3 at *
        clear HP HQ pp0 pp3 HR2 HG2
        go_wp2_with fail
        go_ret
        rw [hR2.out]
        exact ⟨rfl, ⟨false, HR3.out⟩, HG3.out⟩
      · have hR2 := Lib.hid (show R = none by rw [HRR.out, if_neg]; simp [n2, n4])
        clear HRR n2 n4
        refine wp_region_pick (fun w' => Below W2.heap.size W2 w') (by kernel_rfl) (by kernel_rfl) (Below.refl _ _) ⟨rfl, rfl, rfl, Nat.le_refl _, fun _ _ => rfl⟩ (fun p hp hq => ?_)
        have pp0 : ∀ u, (p u).cell? ⟨g, 0, none⟩ = some (.string T) := fun u => (HR2.out.kept (hp u)).c0
        have pp3 : ∀ u, (p u).cell? ⟨g, 3, none⟩ = some (.bool false) := fun u => (HR2.out.kept (hp u)).c3
        have HP := Lib.hid hp
        have HQ := Lib.hid hq
        clear hp hq
        repeat (go_big_quiet_step ((first | with_reducible exact Calls.pick_of HQ.out (fun W' hb => (HP.out _).trans (hb.mono (HP.out _).size)) (HA2.out _) | with_reducible exact Calls.pick_of HQ.out (fun W' hb => (HP.out _).trans (hb.mono (HP.out _).size)) (HB2.out _) | with_reducible exact Calls.pick_of HQ.out (fun W' hb => (HP.out _).trans (hb.mono (HP.out _).size)) (HC2.out _))))
        refine wpQuiet_nil ?_
        rintro _ ⟨u, rfl⟩
        have HR3 := Lib.hid (HR2.out.kept (HP.out u))
        have HG3 := Lib.hid (grown_step HG2.out (HP.out u))
        generalize p u = w3 at *
        clear HP HQ pp0 pp3 HR2 HG2
        go_wp2_with fail
        go_ret
        rw [hR2.out]
        exact ⟨rfl, ⟨false, HR3.out⟩, HG3.out⟩
      · have hR2 := Lib.hid (show R = none by rw [HRR.out, if_neg]; simp [n2, n4, n1])
        clear HRR n2 n4 n1
        refine wp_region_pick (fun w' => Below W2.heap.size W2 w') (by kernel_rfl) (by kernel_rfl) (Below.refl _ _) ⟨rfl, rfl, rfl, Nat.le_refl _, fun _ _ => rfl⟩ (fun p hp hq => ?_)
        have pp0 : ∀ u, (p u).cell? ⟨g, 0, none⟩ = some (.string T) := fun u => (HR2.out.kept (hp u)).c0
        have pp3 : ∀ u, (p u).cell? ⟨g, 3, none⟩ = some (.bool false) := fun u => (HR2.out.kept (hp u)).c3
        have HP := Lib.hid hp
        have HQ := Lib.hid hq
        clear hp hq
        repeat (go_big_quiet_step ((first | with_reducible exact Calls.pick_of HQ.out (fun W' hb => (HP.out _).trans (hb.mono (HP.out _).size)) (HA2.out _) | with_reducible exact Calls.pick_of HQ.out (fun W' hb => (HP.out _).trans (hb.mono (HP.out _).size)) (HB2.out _) | with_reducible exact Calls.pick_of HQ.out (fun W' hb => (HP.out _).trans (hb.mono (HP.out _).size)) (HC2.out _))))
        refine wpQuiet_nil ?_
        rintro _ ⟨u, rfl⟩
        have HR3 := Lib.hid (HR2.out.kept (HP.out u))
        have HG3 := Lib.hid (grown_step HG2.out (HP.out u))
        generalize p u = w3 at *
        clear HP HQ pp0 pp3 HR2 HG2
        go_wp2_with fail
        go_ret
        rw [hR2.out]
        exact ⟨rfl, ⟨false, HR3.out⟩, HG3.out⟩
      · have hR2 := Lib.hid (show R = some ⟨24, false, 0, 0⟩ by rw [HRR.out, if_pos]; simp [n2, n4, n1])
        clear HRR n2 n4 n1
        refine wp_region_pick (fun w' => Below W2.heap.size W2 w') (by kernel_rfl) (by kernel_rfl) (Below.refl _ _) ⟨rfl, rfl, rfl, Nat.le_refl _, fun _ _ => rfl⟩ (fun p hp hq => ?_)
        have pp0 : ∀ u, (p u).cell? ⟨g, 0, none⟩ = some (.string T) := fun u => (HR2.out.kept (hp u)).c0
        have pp3 : ∀ u, (p u).cell? ⟨g, 3, none⟩ = some (.bool false) := fun u => (HR2.out.kept (hp u)).c3
        have HP := Lib.hid hp
        have HQ := Lib.hid hq
        clear hp hq
        repeat (go_big_quiet_step ((first | with_reducible exact Calls.pick_of HQ.out (fun W' hb => (HP.out _).trans (hb.mono (HP.out _).size)) (HA2.out _) | with_reducible exact Calls.pick_of HQ.out (fun W' hb => (HP.out _).trans (hb.mono (HP.out _).size)) (HB2.out _) | with_reducible exact Calls.pick_of HQ.out (fun W' hb => (HP.out _).trans (hb.mono (HP.out _).size)) (HC2.out _))))
        refine wpQuiet_nil ?_
        rintro _ ⟨u, rfl⟩
        have HR3 := Lib.hid (HR2.out.kept (HP.out u))
        have HG3 := Lib.hid (grown_step HG2.out (HP.out u))
        generalize p u = w3 at *
        clear HP HQ pp0 pp3 HR2 HG2
        have d1 := HR3.out.c1
        have d2 := HR3.out.c2
        have g1 := HR3.out.f 1
        have g2 := HR3.out.f 2
        have hgl := HR3.out.lt
        go_wp2_with fail
        go_ret
        rw [hR2.out]
        refine ⟨rfl, ?_, ?_⟩
        · exact (HR3.out.setBeg true).setPos 24
        · exact grown_set (grown_set HG3.out 2 _) 1 _
    · rw [if_neg hm2] at hR
      have tm2 : (((numC true S 0 4 : Nat) : Int) == 3569595041) = false := by rw [beq_eq_false_iff_ne]; omega
      have nm2 : ¬ ((numC true S 0 4 : Nat) : Int) = 3569595041 := by omega
      have hR2 : R = none := hR
      clear hm1 hm2 hR HA HB HC
      generalize numC true S 0 4 = m at *
      generalize str S = T at *
      go_enter Try.func36, Try.ntmps36
      go_wp2_with fail
      refine (HM.out _).mono ?_
      rintro e w1 ⟨rfl, hb⟩
      have HR1 := Lib.hid (HR.out.kept hb)
      have HG1 := Lib.hid (grown_below hb g)
      clear c0 c3 f3 hgl
      have f3 := HR1.out.f 3
      have c3 := HR1.out.c3
      have hgl := HR1.out.lt
      clear HR hb HM
      go_wp2_with fail
      go_ret
      rw [hR2]
      exact ⟨rfl, ⟨_, HR1.out⟩, HG1.out⟩
end Go.Proofs.Ytnckcdngmffahaa

/- Contract of the reference of layer 9: check. -/
namespace Go.Proofs.Ytnckcdngmffahaa
open Go.ChangeShapes Go.WideShapes Go.ChangeAt Go.RowKit
set_option linter.unusedVariables false

/-- What check leaves, by the error's code. -/
def ChkP (w : World) (tm ca si : Nat) : Nat → Ending → World → Prop
  | 0, e, w' => ∃ b, e = .returned (.tuple #[.slice (some ⟨b, 0, none⟩) 3 3, .int .i64 0]) ∧ Cells w' b 3 #[.int .i64 (tm : Int), .int .i64 (ca : Int), .int .i64 (si : Int)] ∧ w.heap.size ≤ b ∧ Below w.heap.size w w'
  | er + 1, e, w' => e = .returned (.tuple #[.slice none 0 0, .int .i64 ((er + 1 : Nat) : Int)]) ∧ Below w.heap.size w w'
theorem num4_lt (b : Bool) (S : List UInt8) (p : Nat) : numC b S p 4 < 4294967296 := numC_len (b := b) (S := S) (p := p) (n := 4)
set_option maxHeartbeats 4000000 in
set_option maxRecDepth 20000 in
theorem rcheck9_any (g : Nat) (S : List UInt8) (pos cnt last : Nat) (beg big en : Bool) (w : World) (h : RD w g (str S) pos beg big cnt last en) (hp : pos + 16 ≤ S.length) (hs : S.length ≤ 1000000) :
    Calls Try.prog 37 #[.pointer (some ⟨g, 0, none⟩)] w (ChkP w (tmC S ⟨pos, big, cnt, last⟩) (capC S ⟨pos, big, cnt, last⟩) (szC S ⟨pos, big, cnt, last⟩) (chkC S ⟨pos, big, cnt, last⟩)) := by
  have H0 := Lib.hid (fun W => rnum9_at S pos 4 pos rfl 4 rfl big W (by omega) (by decide) hs)
  obtain ⟨p4, hp4⟩ : ∃ p4, p4 = pos + 4 := ⟨_, rfl⟩
  obtain ⟨p8, hp8⟩ : ∃ p8, p8 = pos + 8 := ⟨_, rfl⟩
  obtain ⟨p12, hp12⟩ : ∃ p12, p12 = pos + 12 := ⟨_, rfl⟩
  have H4 := Lib.hid (fun W => rnum9_at S p4 4 p4 rfl 4 rfl big W (by omega) (by decide) hs)
  have H8 := Lib.hid (fun W => rnum9_at S p8 4 p8 rfl 4 rfl big W (by omega) (by decide) hs)
  have H12 := Lib.hid (fun W => rnum9_at S p12 4 p12 rfl 4 rfl big W (by omega) (by decide) hs)
  have k4 : (pos : Int) + 4 = (p4 : Int) := by omega
  have k8 : (pos : Int) + 8 = (p8 : Int) := by omega
  have k12 : (pos : Int) + 12 = (p12 : Int) := by omega
  have x4 : IntKind.i64.wrap ((pos : Int) + 4) = (p4 : Int) := by rw [IntKind.wrap_i64]; omega
  have x8 : IntKind.i64.wrap ((pos : Int) + 8) = (p8 : Int) := by rw [IntKind.wrap_i64]; omega
  have x12 : IntKind.i64.wrap ((pos : Int) + 12) = (p12 : Int) := by rw [IntKind.wrap_i64]; omega
  have y4 : IntKind.i64.wrap (p4 : Int) = (p4 : Int) := by rw [IntKind.wrap_i64]; omega
  have y8 : IntKind.i64.wrap (p8 : Int) = (p8 : Int) := by rw [IntKind.wrap_i64]; omega
  have y12 : IntKind.i64.wrap (p12 : Int) = (p12 : Int) := by rw [IntKind.wrap_i64]; omega
  unfold chkC tmC capC szC
  simp only
  rw [← hp4, ← hp8, ← hp12]
  have b0 := num4_lt big S pos
  have b4 := num4_lt big S p4
  have b8 := num4_lt big S p8
  have b12 := num4_lt big S p12
  have HR := Lib.hid h
  have HB := Lib.hid (Below.refl w.heap.size w)
  clear h hp hs hp4 hp8 hp12
  generalize numC big S pos 4 = se at *
  generalize numC big S p4 4 = mi at *
  generalize numC big S p8 4 = ca at *
  generalize numC big S p12 4 = si at *
  generalize str S = T at *
  obtain ⟨tm, htm⟩ : ∃ tm, tm = se * 1000 + mi / 1000 := ⟨_, rfl⟩
  rw [← htm]
  have ktm : (se : Int) * 1000 + (mi : Int) / 1000 = (tm : Int) := by omega
  obtain ⟨R, hR⟩ : ∃ R, R = (if 999999 < mi then 2 else if cnt = 2000 ∨ 4096 < ca ∨ si < ca then 3 else if 0 < cnt ∧ tm < last then 12 else 0) := ⟨_, rfl⟩
  rw [← hR]
  have HRR := Lib.hid hR
  have htb : tm < 5000000000000 := by omega
  clear hR htm
  go_enter Try.func37, Try.ntmps37
  go_wp2_with fail
  refine wp_region_pick (fun w' => Below w.heap.size w w') (by kernel_rfl) (by kernel_rfl) (Below.refl _ _) ⟨rfl, rfl, rfl, Nat.le_refl _, fun _ _ => rfl⟩ (fun p hp hq => ?_)
  have pp0 : ∀ u, (p u).cell? ⟨g, 0, none⟩ = some (.string T) := fun u => (HR.out.kept (hp u)).c0
  have pp1 : ∀ u, (p u).cell? ⟨g, 1, none⟩ = some (.int .i64 (pos : Int)) := fun u => (HR.out.kept (hp u)).c1
  have pp3 : ∀ u, (p u).cell? ⟨g, 3, none⟩ = some (.bool big) := fun u => (HR.out.kept (hp u)).c3
  have HP := Lib.hid hp
  have HQ := Lib.hid hq
  clear hp hq
  repeat (go_big_quiet_step ((first | with_reducible exact Calls.pick_of HQ.out (fun W' hb => (HP.out _).trans (hb.mono (HP.out _).size)) (H0.out _) | with_reducible exact Calls.pick_of HQ.out (fun W' hb => (HP.out _).trans (hb.mono (HP.out _).size)) (H4.out _))))
  refine wpQuiet_nil ?_
  rintro _ ⟨u, rfl⟩
  have HR1 := Lib.hid (HR.out.kept (HP.out u))
  have HB1 := Lib.hid (HB.out.trans ((HP.out u).mono HB.out.size))
  generalize p u = w1 at *
  clear HP HQ pp0 pp1 pp3 HR HB
  clear H0 H4 x4 y4 k4
  go_wp2_with fail
  refine wp_region_pick (fun w' => Below w1.heap.size w1 w') (by kernel_rfl) (by kernel_rfl) (Below.refl _ _) ⟨rfl, rfl, rfl, Nat.le_refl _, fun _ _ => rfl⟩ (fun p hp hq => ?_)
  have pp0 : ∀ u, (p u).cell? ⟨g, 0, none⟩ = some (.string T) := fun u => (HR1.out.kept (hp u)).c0
  have pp1 : ∀ u, (p u).cell? ⟨g, 1, none⟩ = some (.int .i64 (pos : Int)) := fun u => (HR1.out.kept (hp u)).c1
  have pp3 : ∀ u, (p u).cell? ⟨g, 3, none⟩ = some (.bool big) := fun u => (HR1.out.kept (hp u)).c3
  have HP := Lib.hid hp
  have HQ := Lib.hid hq
  clear hp hq
  repeat (go_big_quiet_step ((first | with_reducible exact Calls.pick_of HQ.out (fun W' hb => (HP.out _).trans (hb.mono (HP.out _).size)) (H8.out _) | with_reducible exact Calls.pick_of HQ.out (fun W' hb => (HP.out _).trans (hb.mono (HP.out _).size)) (H12.out _))))
  refine wpQuiet_nil ?_
  rintro _ ⟨u, rfl⟩
  have HR2 := Lib.hid (HR1.out.kept (HP.out u))
  have HB2 := Lib.hid (HB1.out.trans ((HP.out u).mono HB1.out.size))
  generalize p u = w2 at *
  clear HP HQ pp0 pp1 pp3 HR1 HB1
  clear H8 H12 x8 y8 k8 x12 y12 k12
  have c4 := HR2.out.c4
  have c5 := HR2.out.c5
  by_cases h1 : 999999 < mi
  · have hR2 := Lib.hid (show R = 1 + 1 by rw [HRR.out, if_pos h1])
    have d1 : decide ((999999 : Int) < (mi : Int)) = true := by simp; omega
    have n1 : (999999 : Int) < (mi : Int) := by omega
    clear HRR
    go_wp2_with fail
    go_ret2
    rw [hR2.out]
    exact ⟨rfl, HB2.out⟩
  have d1 : decide ((999999 : Int) < (mi : Int)) = false := by simp; omega
  have n1 : ¬ (999999 : Int) < (mi : Int) := by omega
  have HR3 := Lib.hid (show R = if cnt = 2000 ∨ 4096 < ca ∨ si < ca then 3 else if 0 < cnt ∧ tm < last then 12 else 0 by rw [HRR.out, if_neg h1])
  clear HRR h1
  by_cases h2 : cnt = 2000
  · have hR2 := Lib.hid (show R = 2 + 1 by rw [HR3.out, if_pos (Or.inl h2)])
    have d2 : ((cnt : Int) == 2000) = true := by simp; omega
    clear HR3 h2
    go_wp2_with fail
    go_ret2
    rw [hR2.out]
    exact ⟨rfl, HB2.out⟩
  have d2 : ((cnt : Int) == 2000) = false := by rw [beq_eq_false_iff_ne]; omega
  have n2 : ¬ (cnt : Int) = 2000 := by omega
  by_cases h3 : 4096 < ca
  · have hR2 := Lib.hid (show R = 2 + 1 by rw [HR3.out, if_pos (Or.inr (Or.inl h3))])
    have d3 : decide ((4096 : Int) < (ca : Int)) = true := by simp; omega
    have n3 : (4096 : Int) < (ca : Int) := by omega
    clear HR3 h2
    go_wp2_with fail
    go_ret2
    rw [hR2.out]
    exact ⟨rfl, HB2.out⟩
  have d3 : decide ((4096 : Int) < (ca : Int)) = false := by simp; omega
  have n3 : ¬ (4096 : Int) < (ca : Int) := by omega
  by_cases h4 : si < ca
  · have hR2 := Lib.hid (show R = 2 + 1 by rw [HR3.out, if_pos (Or.inr (Or.inr h4))])
    have d4 : decide ((si : Int) < (ca : Int)) = true := by simp; omega
    clear HR3 h2
    go_wp2_with fail
    go_ret2
    rw [hR2.out]
    exact ⟨rfl, HB2.out⟩
  have d4 : decide ((si : Int) < (ca : Int)) = false := by simp; omega
  have HR4 := Lib.hid (show R = if 0 < cnt ∧ tm < last then 12 else 0 by rw [HR3.out, if_neg (by omega)])
  clear HR3 h2 h3
  by_cases h5 : 0 < cnt
  · have d5 : decide ((0 : Int) < (cnt : Int)) = true := by simp; omega
    by_cases h6 : tm < last
    · have hR2 := Lib.hid (show R = 11 + 1 by rw [HR4.out, if_pos ⟨h5, h6⟩])
      have d6 : decide ((tm : Int) < (last : Int)) = true := by simp; omega
      clear HR4
      go_wp2_with fail
      go_ret2
      rw [hR2.out]
      exact ⟨rfl, HB2.out⟩
    · have hR2 := Lib.hid (show R = 0 by rw [HR4.out, if_neg (fun e => h6 e.2)])
      have d6 : decide ((tm : Int) < (last : Int)) = false := by simp; omega
      clear HR4
      have HB3 := Lib.hid (HB2.out.alloc HB2.out.size (.cells #[.int .i64 (tm : Int), .int .i64 (ca : Int), .int .i64 (si : Int)] 3))
      go_wp2_with fail
      go_ret2
      rw [hR2.out]
      exact ⟨_, rfl, heap_alloc_new _ _, HB2.out.size, HB3.out⟩
  · have hR2 := Lib.hid (show R = 0 by rw [HR4.out, if_neg (fun e => h5 e.1)])
    have d5 : decide ((0 : Int) < (cnt : Int)) = false := by simp; omega
    clear HR4
    have HB3 := Lib.hid (HB2.out.alloc HB2.out.size (.cells #[.int .i64 (tm : Int), .int .i64 (ca : Int), .int .i64 (si : Int)] 3))
    go_wp2_with fail
    go_ret2
    rw [hR2.out]
    exact ⟨_, rfl, heap_alloc_new _ _, HB2.out.size, HB3.out⟩
end Go.Proofs.Ytnckcdngmffahaa
