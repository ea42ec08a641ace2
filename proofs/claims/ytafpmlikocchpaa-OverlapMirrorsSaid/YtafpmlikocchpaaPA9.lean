/- Contracts of the functions, part 9: CapRNum, Ip4Mem, In11. -/
import Derived.SizedLaws
import Derived.Test.YtafpmlikocchpaaPA2
import Derived.Test.YtafpmlikocchpaaPA3
import Derived.Test.YtafpmlikocchpaaPA5
import Derived.Test.YtafpmlikocchpaaPA7
import Derived.Test.YtafpmlikocchpaaPA8
/- Contracts of the reference of layer 9: number, put. -/
namespace Go.Proofs.Ytafpmlikocchpaa
open Go.ChangeShapes Go.WideShapes Go.ChangeAt Go.RowKit
set_option linter.unusedVariables false

set_option maxRecDepth 20000 in
theorem or_i64 (a b : Nat) (h1 : a * 256 + b < 9223372036854775808) (h2 : b < 256) : bits .or .i64 ((a : Int) * 256) (b : Int) = ((a * 256 + b : Nat) : Int) := by
  have nn : ∀ x : Nat, x < 18446744073709551616 → (BitVec.ofInt 64 (x : Int)).toNat = x := fun x hx => by
    rw [BitVec.ofInt_natCast, BitVec.toNat_ofNat]
    exact Nat.mod_eq_of_lt (by omega)
  have e : a * 256 ||| b = a * 256 + b := by
    have h := Nat.shiftLeft_add_eq_or_of_lt (i := 8) (b := b) (by omega) a
    rw [Nat.shiftLeft_eq, show 2 ^ 8 = 256 from rfl] at h
    omega
  rw [show ((a : Int) * 256) = ((a * 256 : Nat) : Int) by omega]
  show IntKind.i64.wrap ((BitVec.ofInt 64 ((a * 256 : Nat) : Int) ||| BitVec.ofInt 64 (b : Int)).toNat : Int) = _
  have ha : a * 256 < 18446744073709551616 := by omega
  have hb : b < 18446744073709551616 := by omega
  rw [BitVec.toNat_or, nn (a * 256) ha, nn b hb, e, IntKind.wrap_i64]
  omega
/-- The bytes that make a number, first the greatest. -/
def bigC (big : Bool) (S : List UInt8) (p n : Nat) : List UInt8 := if big then (S.drop p).take n else ((S.drop p).take n).reverse
theorem bigC_num (big : Bool) (S : List UInt8) (p n : Nat) : numC big S p n = num (bigC big S p n) := rfl
theorem bigC_len {big : Bool} {S : List UInt8} {p n : Nat} (h : p + n ≤ S.length) : (bigC big S p n).length = n := by
  unfold bigC
  split
  · rw [List.length_take, List.length_drop]; omega
  · rw [List.length_reverse, List.length_take, List.length_drop]; omega
theorem bigC_get {big : Bool} {S : List UInt8} {p n i : Nat} (h : p + n ≤ S.length) (hi : i < n) (hk : (if big then p + i else p + n - 1 - i) < S.length) : (bigC big S p n)[i]? = some (S[if big then p + i else p + n - 1 - i]) := by
  unfold bigC
  cases big with
  | true =>
    simp only [if_true, List.getElem?_take_of_lt hi, List.getElem?_drop]
    exact List.getElem?_eq_getElem _
  | false =>
    simp only [Bool.false_eq_true, if_false]
    have hl : ((S.drop p).take n).length = n := by rw [List.length_take, List.length_drop]; omega
    rw [List.getElem?_reverse (by rw [hl]; exact hi), hl, List.getElem?_take_of_lt (by omega), List.getElem?_drop]
    rw [show p + (n - 1 - i) = p + n - 1 - i by omega]
    exact List.getElem?_eq_getElem _
theorem num_take {l : List UInt8} {i : Nat} {c : UInt8} (h : l[i]? = some c) : num (l.take (i + 1)) = num (l.take i) * 256 + c.toNat := by
  obtain ⟨hi, e⟩ := List.getElem?_eq_some_iff.1 h
  rw [List.take_succ_eq_append_getElem hi, e, num_snoc]
/-- The bytes of a number, as cells. -/
theorem cells_snoc9 (M : List UInt8) (c : UInt8) (X : Nat) (h : X = c.toNat) : cellsOf M ++ [.int .u8 (X : Int)] = cellsOf (M ++ [c]) := by rw [h]; simp [cellsOf]
end Go.Proofs.Ytafpmlikocchpaa

/- IPv4 packets in memory; the reference's small functions. -/
namespace Go.Proofs.Ytafpmlikocchpaa
open Go.ChangeShapes Go.WideShapes Go.ChangeAt Go.RowKit
set_option linter.unusedVariables false

/-- Options as elements. -/
def EOpt : Enc OpR := ⟨2, by decide, fun x => [.int .i64 x.kd, .string (str x.dat)], fun _ => rfl, fun x v hv => by
  simp only [List.mem_cons, List.not_mem_nil, or_false] at hv
  rcases hv with rfl | rfl <;> rfl⟩
/-- A packet's cells. -/
def ipC (p : Ip4R) (n : Nat) (A : Option Addr) (c : Nat) (D : ByteArray) : Array Value :=
  #[.int .i64 p.tos, .int .i64 p.id, .int .i64 p.ttl, .int .i64 p.proto, .bool p.dont, .bool p.more, .int .i64 p.off, .bool p.src.v6, .int .u64 (p.src.hi : Int), .int .u64 (p.src.lo : Int), .bool p.dst.v6, .int .u64 (p.dst.hi : Int), .int .u64 (p.dst.lo : Int), .slice A n c, .string D]
theorem opt_at {w0 w : World} {g ob : Nat} {l : List OpR} {k : Nat} {x : OpR} (h : RowL EOpt w0 (some ⟨g, ob, none⟩) l) (hx : l[k]? = some x) (hb : Below w0.heap.size w0 w) : w.cell? ⟨g, ob + k * 2, none⟩ = some (.int .i64 x.kd) ∧ w.cell? ⟨g, ob + k * 2 + 1, none⟩ = some (.string (str x.dat)) :=
  ⟨h.at_ hx hb 0 _ rfl, h.at_ hx hb 1 _ rfl⟩
end Go.Proofs.Ytafpmlikocchpaa

/- A packet as the laws of layer 11 take it. -/
namespace Go.Proofs.Ytafpmlikocchpaa
open Go.ChangeShapes Go.WideShapes Go.ChangeAt Go.RowKit
set_option linter.unusedVariables false

theorem cellsInt11 : Try.prog.cellsOf 3 = 1 := by kernel_rfl
theorem cellsBool11 : Try.prog.cellsOf 4 = 1 := by kernel_rfl
theorem cellsStr11 : Try.prog.cellsOf 9 = 1 := by kernel_rfl
theorem nat_of_wf11 {x : Int} (h : (Lit.int .u64 x).wf = true) : ∃ n : Nat, x = n ∧ n < 18446744073709551616 := by
  have h' : IntKind.u64.min ≤ x ∧ x ≤ IntKind.u64.max := by simpa [Lit.wf] using h
  have h0 : (0 : Int) ≤ x := h'.1
  have h1 : x ≤ 18446744073709551615 := h'.2
  obtain ⟨k, rfl⟩ := Int.eq_ofNat_of_zero_le h0
  exact ⟨k, rfl, by omega⟩
theorem toList_length11 (s : ByteArray) : s.data.toList.length = s.size := by show s.data.toList.length = s.data.size; simp only [Array.length_toList]
theorem arr15 {cs : Array Value} (h : cs.size = 15) : ∃ c0 c1 c2 c3 c4 c5 c6 c7 c8 c9 c10 c11 c12 c13 c14, cs = #[c0, c1, c2, c3, c4, c5, c6, c7, c8, c9, c10, c11, c12, c13, c14] := by
  obtain ⟨l⟩ := cs
  match l, h with
  | [c0, c1, c2, c3, c4, c5, c6, c7, c8, c9, c10, c11, c12, c13, c14], _ => exact ⟨c0, c1, c2, c3, c4, c5, c6, c7, c8, c9, c10, c11, c12, c13, c14, rfl⟩
instance : Inhabited OpR := ⟨⟨0, []⟩⟩
variable {H : Type} {enc : TypeId × Value → H}
def adrFits (a : AdR) : Prop := a.hi < 18446744073709551616 ∧ a.lo < 18446744073709551616
def optWf (y : OpR) : Prop := (Lit.int .i64 y.kd).wf = true ∧ y.dat.length ≤ 281474976710656
/-- A slice that is a field of what comes in, where what comes in holds a bounded number of bytes. -/
theorem weightsAll_mem {P : Program} {e : TypeId} {n : Nat} : ∀ {ds : List (DataW H)} {d : DataW H}, d ∈ ds → n ∈ d.weights P e → n ∈ DataW.weightsAll P e ds
  | d0 :: r, d, hd, hn => by
    simp only [DataW.weightsAll, List.mem_append]
    rcases List.mem_cons.1 hd with rfl | hd
    · exact Or.inl hn
    · exact Or.inr (weightsAll_mem hd hn)
theorem in_rowS {α : Type} [Inhabited α] {E : Enc α} {P : α → Prop} {t e : TypeId} (ht : Try.prog.underlying t = some (.slice e)) (hk : Try.prog.cellsOf e = E.k)
    {W : World} {base : Nat} {sp : Nat → Bool} {held : Bool} (each : ∀ fuel (cs : List Value) (x : DataW H × List MemPlace), cs.length = E.k → DataW.trod enc Try.prog W base sp held fuel e cs = some x → (∀ k ∈ x.1.weights Try.prog e, k ≤ reachBytes) → ∃ q : α, P q ∧ cs = E.c q)
    {fuel : Nat} {cs : List Value} {x : DataW H × List MemPlace} (h : DataW.trod enc Try.prog W base sp held fuel t cs = some x) (hz : ∀ k ∈ x.1.weights Try.prog t, k ≤ reachBytes) : ∃ (A : Option Addr) (cap : Nat) (l : List α), cs = [.slice A l.length cap] ∧ RowL E W A l ∧ (A = none → cap = 0) ∧ l.length ≤ maxLen ∧ ∀ r ∈ l, P r := by
  rcases Go.Deep.open_slice ht h with ⟨hcs, _⟩ | ⟨a, n, cap, m, k, D, Pl, rfl, _, hl, hm, hmm, hxx, hx⟩
  · exact ⟨none, 0, [], hcs, RowL.nil _ _, fun _ => rfl, by simp [maxLen], by simp⟩
  · have hlm : n ≤ m := by rw [hmm]; split <;> omega
    have every : ∀ i, i < n → ∃ q : α, P q ∧ ∀ j v, (E.c q)[j]? = some v → W.cell? (a.add (i * E.k + j)) = some v := by
      intro i hi
      obtain ⟨cs', h1, h2⟩ := hx i (by omega)
      rw [hk] at h1
      obtain ⟨_, hlen, hcell⟩ := World.cells?_some h1
      obtain ⟨q, hq, rfl⟩ := each _ cs' _ hlen h2 (fun y hy => hz y (by
        rw [hxx]
        simp only [DataW.weights, ht]
        exact List.mem_cons_of_mem _ (List.mem_append_left _ (weightsAll_mem (List.mem_map.2 ⟨i, List.mem_range.2 hi, rfl⟩) hy))))
      refine ⟨q, hq, fun j v hv => ?_⟩
      have hj : j < E.k := by rw [← E.len q]; exact (List.getElem?_eq_some_iff.1 hv).1
      have := hcell j hj
      rw [addr_twice] at this
      rw [this]
      exact hv
    obtain ⟨q, hq⟩ := choose_some every
    refine ⟨some a, cap, (List.range n).map q, by simp, fun hp => ?_, (fun e => by simp at e), by simp; omega, fun r hr => ?_⟩
    · simp only [List.length_map, List.length_range] at hp
      obtain ⟨b, off, spot⟩ := a
      have hpos := E.pos
      obtain ⟨u, hu⟩ : ∃ u, (E.c (q 0))[0]? = some u := ⟨_, List.getElem?_eq_getElem (by rw [E.len]; exact hpos)⟩
      have h0 := (hq 0 hp).2 0 u hu
      have hspot : spot = none := by simpa [Addr.add] using World.cell?_spot h0
      subst hspot
      have hlt := World.block_lt_of_cell? W _ h0
      refine ⟨b, off, rfl, by simpa [Addr.add] using hlt, fun i x hx j v hv => ?_⟩
      rw [List.getElem?_map] at hx
      by_cases hi : i < n
      · rw [List.getElem?_range hi] at hx
        simp only [Option.map_some, Option.some.injEq] at hx
        subst hx
        have := (hq i hi).2 j v hv
        rw [addr_add7] at this
        rw [Nat.add_assoc]
        exact this
      · rw [List.getElem?_eq_none (by simpa using hi)] at hx
        simp at hx
    · obtain ⟨i, hi, rfl⟩ := List.mem_map.1 hr
      exact (hq i (List.mem_range.1 hi)).1
theorem weights_str {P : Program} {t : TypeId} (s : List UInt8) : s.length ∈ (DataW.lit (.string s) : DataW H).weights P t := by simp [DataW.weights]
/-- What a packet that comes in is known to be. -/
def ipWf (x : Ip4R) : Prop := ((Lit.int .i64 x.tos).wf = true ∧ (Lit.int .i64 x.id).wf = true ∧ (Lit.int .i64 x.ttl).wf = true ∧ (Lit.int .i64 x.proto).wf = true ∧ (Lit.int .i64 x.off).wf = true) ∧ adrFits x.src ∧ adrFits x.dst ∧ x.pay.length ≤ maxLen ∧ x.ops.length ≤ maxLen ∧ ∀ y ∈ x.ops, optWf y
end Go.Proofs.Ytafpmlikocchpaa
