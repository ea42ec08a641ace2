/- Contracts of the functions, part 26: OvPFill. -/
import Derived.Laws.OwnMore
import Derived.Test.YtafpmlikocchpaaPA24
import Derived.Test.YtafpmlikocchpaaPA25
/- Contracts of the program of layer 15: filled, with the library's IndexFunc and DeleteFunc. -/
namespace Go.Proofs.Ytafpmlikocchpaa
open Go.ChangeShapes Go.WideShapes Go.ChangeAt Go.RowKit
set_option linter.unusedVariables false
set_option maxRecDepth 100000

/-! ### Plain: how far the deleting is -/
structure KepI (l dk : List PcR) (i j : Nat) : Prop where
  len : i = (fillL (l.take j)).length
  lt : i < j
  le : j ≤ l.length
  dlen : dk.length = l.length
  lo : dk.take i = fillL (l.take j)
  hi : dk.drop j = l.drop j
theorem fill_append (a b : List PcR) : fillL (a ++ b) = fillL a ++ fillL b := by unfold fillL; rw [List.filter_append]
theorem fill_next {l : List PcR} {k : Nat} {x : PcR} (hx : l[k]? = some x) : fillL (l.take (k + 1)) = fillL (l.take k) ++ (if x.dat = [] then [] else [x]) := by
  obtain ⟨hk, e⟩ := List.getElem?_eq_some_iff.1 hx
  rw [List.take_succ_eq_append_getElem hk, e, fill_append, fill_cons]
  rfl
theorem fill_all : ∀ {l : List PcR}, (∀ x ∈ l, x.dat ≠ []) → fillL l = l
  | [], _ => rfl
  | x :: r, h => by rw [fill_cons, if_neg (h x (List.mem_cons_self ..)), fill_all (fun y hy => h y (List.mem_cons_of_mem _ hy))]
theorem KepI.start {l : List PcR} {k : Nat} {x : PcR} (hx : l[k]? = some x) (he : x.dat = []) (h : fillL (l.take k) = l.take k) : KepI l l k (k + 1) := by
  obtain ⟨hk, e⟩ := List.getElem?_eq_some_iff.1 hx
  have e1 : fillL (l.take (k + 1)) = l.take k := by rw [fill_next hx, h, if_pos he, List.append_nil]
  exact ⟨by rw [e1, List.length_take]; omega, by omega, hk, rfl, by rw [e1], rfl⟩
theorem KepI.keep {l dk : List PcR} {i j : Nat} {x : PcR} (h : KepI l dk i j) (hx : l[j]? = some x) (he : x.dat ≠ []) : KepI l (dk.set i x) (i + 1) (j + 1) := by
  obtain ⟨hk, e⟩ := List.getElem?_eq_some_iff.1 hx
  have e1 : fillL (l.take (j + 1)) = fillL (l.take j) ++ [x] := by rw [fill_next hx, if_neg he]
  refine ⟨by rw [e1, List.length_append, ← h.len]; rfl, by have := h.lt; omega, hk, by rw [List.length_set]; exact h.dlen, ?_, ?_⟩
  · rw [e1, set_take dk i x (by have := h.lt; have := h.le; have := h.dlen; omega), h.lo]
  · rw [List.drop_set_of_lt (by have := h.lt; omega), ← List.drop_drop, h.hi, List.drop_drop]
theorem KepI.skip {l dk : List PcR} {i j : Nat} {x : PcR} (h : KepI l dk i j) (hx : l[j]? = some x) (he : x.dat = []) : KepI l dk i (j + 1) := by
  obtain ⟨hk, e⟩ := List.getElem?_eq_some_iff.1 hx
  have e1 : fillL (l.take (j + 1)) = fillL (l.take j) := by rw [fill_next hx, if_pos he, List.append_nil]
  refine ⟨by rw [e1]; exact h.len, by have := h.lt; omega, hk, h.dlen, by rw [e1]; exact h.lo, ?_⟩
  rw [← List.drop_drop, h.hi, List.drop_drop]
theorem KepI.get {l dk : List PcR} {i j : Nat} {x : PcR} (h : KepI l dk i j) (hx : l[j]? = some x) : dk[j]? = some x := by
  have : (dk.drop j)[0]? = (l.drop j)[0]? := by rw [h.hi]
  rw [List.getElem?_drop, List.getElem?_drop] at this
  simpa [hx] using this
/-! ### A piece stored into a row that the call owns -/
theorem pc_cells_set : ∀ (l : List PcR) (i : Nat) (x : PcR), i < l.length → ((((EPc.cells l).set (i * 4) (.int .i64 x.at_)).set (i * 4 + 1) (.string (str x.dat))).set (i * 4 + 2) (.int .i64 x.fr)).set (i * 4 + 3) (.int .i64 x.to_) = EPc.cells (l.set i x)
  | [], i, x, h => absurd h (Nat.not_lt_zero _)
  | y :: r, 0, x, h => rfl
  | y :: r, i + 1, x, h => by
    have ih := pc_cells_set r i x (by simpa using h)
    rw [List.set_cons_succ, Enc.cells_cons, Enc.cells_cons, ← ih, show (i + 1) * 4 = i * 4 + 1 + 1 + 1 + 1 by omega]
    rfl
def put4 (w : World) (b i : Nat) (x : PcR) : World := (((w.setCell ⟨b, i * 4, none⟩ (.int .i64 x.at_)).setCell ⟨b, i * 4 + 1, none⟩ (.string (str x.dat))).setCell ⟨b, i * 4 + 2, none⟩ (.int .i64 x.fr)).setCell ⟨b, i * 4 + 3, none⟩ (.int .i64 x.to_)
theorem own_put4 {w : World} {base b n c i : Nat} {l : List PcR} (h : OwnE EPc 23 w base (some ⟨b, 0, none⟩) n c l) (hi : i < l.length) (x : PcR) : OwnE EPc 23 (put4 w b i x) base (some ⟨b, 0, none⟩) n c (l.set i x) := by
  refine ⟨by rw [List.length_set]; exact h.1, ?_⟩
  rw [← pc_cells_set l i x hi]
  exact ((((h.2.stored (i * 4) _).1.stored (i * 4 + 1) _).1.stored (i * 4 + 2) _).1.stored (i * 4 + 3) _).1
theorem below_put4 {w w0 : World} {B b : Nat} (h : Below B w0 w) (hb : B ≤ b) (i : Nat) (x : PcR) : Below B w0 (put4 w b i x) :=
  (((h.setCell (p := ⟨b, i * 4, none⟩) hb _).setCell (p := ⟨b, i * 4 + 1, none⟩) hb _).setCell (p := ⟨b, i * 4 + 2, none⟩) hb _).setCell (p := ⟨b, i * 4 + 3, none⟩) hb _
theorem own_pc {w : World} {base b n c k : Nat} {l : List PcR} {x : PcR} (h : OwnE EPc 23 w base (some ⟨b, 0, none⟩) n c l) (hx : l[k]? = some x) : w.cell? ⟨b, k * 4, none⟩ = some (.int .i64 x.at_) ∧ w.cell? ⟨b, k * 4 + 1, none⟩ = some (.string (str x.dat)) ∧ w.cell? ⟨b, k * 4 + 2, none⟩ = some (.int .i64 x.fr) ∧ w.cell? ⟨b, k * 4 + 3, none⟩ = some (.int .i64 x.to_) := by
  have := pc_at h.row hx (Below.refl _ w)
  simpa only [Nat.zero_add] using this
/-! ### clear of the rest of such a row -/
theorem own_clear {w : World} {base b n c i c' : Nat} {xs : List Value} (h : w.ownsRow base 23 4 (.slice (some ⟨b, 0, none⟩) n c) n xs) (hi : i < n) : ∃ w', (∀ ty, (Builtin.clear_ #[26] ty #[.slice (some ⟨b, i * 4, none⟩) (n - i) c']).run Try.prog w = .ok (.tuple #[]) w') ∧ (∃ ys, w'.ownsRow base 23 4 (.slice (some ⟨b, 0, none⟩) n c) n ys ∧ ys.take (i * 4) = xs.take (i * 4)) ∧ w.grownBy w' (some b) := by
  rcases h.2 with ⟨h1, _⟩ | ⟨g', c9, cur, hv, hbg, hh, hnc, hcm, hcs, ht⟩
  · cases h1
  · simp only [Value.slice.injEq, Option.some.injEq, Addr.mk.injEq, true_and, and_true] at hv
    obtain ⟨rfl, rfl⟩ := hv
    obtain ⟨zc, hzc⟩ : ∃ zc, zc = (Builtin.zeroCells (Value.cells (.agg #[.int .i64 0, .string ⟨#[]⟩, .int .i64 0, .int .i64 0])) (n - i)).toList := ⟨_, rfl⟩
    have hzl : zc.length = (n - i) * 4 := by
      rw [hzc]
      unfold Builtin.zeroCells
      simp [Value.cells]
    have hz1 : ∀ v ∈ zc, v.oneCell' = true := fun v hv => by
      rw [hzc] at hv
      unfold Builtin.zeroCells at hv
      simp only [Value.cells, Array.toList_map, List.mem_map] at hv
      obtain ⟨q, -, rfl⟩ := hv
      have hq : q % 4 = 0 ∨ q % 4 = 1 ∨ q % 4 = 2 ∨ q % 4 = 3 := by omega
      show Value.oneCell' ((#[Value.int .i64 0, .string ⟨#[]⟩, .int .i64 0, .int .i64 0] : Array Value)[q % 4]!) = true
      rcases hq with e | e | e | e <;> rw [e] <;> rfl
    have hst := run_storeCells_at Try.prog b (i * 4) 23 zc 0 cur w hh (by rw [hzl, hcs]; have : n * 4 ≤ c * 4 := Nat.mul_le_mul_right _ hnc; omega) hz1
    obtain ⟨m, hm⟩ : ∃ m, n - i = m + 1 := ⟨n - i - 1, by omega⟩
    have hrun : ∀ ty, (Builtin.clear_ #[26] ty #[.slice (some ⟨b, i * 4, none⟩) (n - i) c']).run Try.prog w = .ok (.tuple #[]) (w.setRow b (cur.toList.take (i * 4 + 0) ++ zc ++ cur.toList.drop (i * 4 + 0 + zc.length)).toArray) := fun ty => by
      rw [hm] at hzc ⊢
      have hu := run_underlying (w := w) Try.underlying26
      have hz0 := Try.zeroValue23
      simp [Builtin.clear_, hu, hz0, ← hzc, hst]
    refine ⟨_, hrun, ⟨_, ⟨?_, .inr ⟨b, c, _, rfl, hbg, setRow_heap w b cur _ 23 (0, 0) hh, hnc, hcm, ?_, rfl⟩⟩, ?_⟩, rfl, rfl, rfl, by simp [World.setRow], fun k _ hk => setRow_other w b k _ (fun e => hk (by rw [e]))⟩
    · have hle : n * 4 ≤ c * 4 := Nat.mul_le_mul_right _ hnc
      simp only [List.length_take, List.length_append, List.length_drop, Array.length_toList, hzl, Nat.add_zero]
      omega
    · have hle : n * 4 ≤ c * 4 := Nat.mul_le_mul_right _ hnc
      simp only [List.size_toArray, List.length_append, List.length_take, List.length_drop, Array.length_toList, hzl, Nat.add_zero]
      omega
    · have hle : n * 4 ≤ c * 4 := Nat.mul_le_mul_right _ hnc
      rw [← ht, List.take_take, List.take_take, show min (i * 4) (n * 4) = i * 4 by omega]
      simp only [Nat.add_zero]
      rw [List.append_assoc, List.take_append_of_le_length (by rw [List.length_take, Array.length_toList]; omega), List.take_take, Nat.min_self]

theorem own_take15 {w : World} {base : Nat} {e : TypeId} {size : Nat} {A : Option Addr} {n m c : Nat} {xs : List Value} (h : w.ownsRow base e size (.slice A n c) n xs) (hm : m ≤ n) : w.ownsRow base e size (.slice A m c) m (xs.take (m * size)) := by
  have hmul : m * size ≤ n * size := Nat.mul_le_mul_right _ hm
  refine ⟨by rw [List.length_take, h.1]; omega, ?_⟩
  rcases h.2 with ⟨h1, h2⟩ | ⟨g', c', cur, hv, hbg, hh, hnc, hcm, hcs, ht⟩
  · left
    cases h1
    exact ⟨by rw [show m = 0 by omega], by omega⟩
  · right
    injection hv with e1 e2 e3
    subst e1 e3
    exact ⟨g', _, cur, rfl, hbg, hh, by omega, hcm, hcs, by rw [← ht, List.take_take]; congr 1; omega⟩
theorem toList_empty15 (b : List UInt8) : (str b).toList.isEmpty = b.isEmpty := by
  rw [(ByteArray.toList_eq _).trans (str_toList b)]
/-! ### IndexFunc -/
def IdxF (l : List PcR) (w : World) (e : Ending) (w' : World) : Prop :=
  ∃ i : Int, e = .returned (.int .i64 i) ∧ Hid ((i = -1 ∧ fillL l = l) ∨ ∃ k : Nat, i = (k : Int) ∧ k < l.length ∧ KepI l l k (k + 1)) ∧ Below w.heap.size w w'
set_option maxHeartbeats 8000000 in
theorem pidx15 (A : Option Addr) (c : Nat) (l : List PcR) (w : World) (h : RowL EPc w A l) (hl : l.length ≤ 1000000000) :
    Calls Try.prog 46 #[.slice A l.length c, .func (.func 44) #[] #[]] w (IdxF l w) := by
  obtain ⟨n, hn⟩ : ∃ n, n = l.length := ⟨_, rfl⟩
  rw [← hn] at hl ⊢
  have HN := Lib.hid hn
  have HS := Lib.hid h
  clear hn h
  go_enter Try.func46, Try.ntmps46
  go_wp2_with fail
  go_loopw [8] (fun i wr => ∃ k : Nat, i = .int .i64 (k : Int) ∧ k ≤ n ∧ Hid (fillL (l.take k) = l.take k) ∧ Hid (Below w.heap.size w wr)) (fun i _ => n - (intOf i).toNat)
  case atStart => exact ⟨0, rfl, Nat.zero_le _, Lib.hid (by rw [List.take_zero]; rfl), Lib.hid (Below.refl _ _)⟩
  case round =>
    obtain ⟨k, rfl, hk, HK, HB⟩ := hrel
    by_cases hlt : k < n
    · have hki : (k : Int) < (n : Int) := by omega
      have hki0 : (0 : Int) ≤ (k : Int) := by omega
      have dlt : decide ((k : Int) < (n : Int)) = true := by simp; omega
      obtain ⟨x, hget⟩ : ∃ x, l[k]? = some x := ⟨l[k]'(by have := HN.out; omega), List.getElem?_eq_getElem _⟩
      obtain ⟨g, ob, rfl, hg⟩ := HS.out.shapeA (by have := HN.out; omega)
      obtain ⟨a0, a1, a2, a3⟩ := pc_at HS.out hget HB.out
      obtain ⟨q, hq⟩ : ∃ q, q = x.dat.isEmpty := ⟨_, rfl⟩
      have HF := Lib.hid (fun W => pfil15 x.at_ x.fr x.to_ (str x.dat) q W (by rw [hq]; exact toList_empty15 _))
      have HK1 := Lib.hid (show q = false → fillL (l.take (k + 1)) = l.take (k + 1) by
        intro hf
        have hne : x.dat ≠ [] := fun e => by rw [hq, e] at hf; cases hf
        obtain ⟨hk', e⟩ := List.getElem?_eq_some_iff.1 hget
        rw [fill_next hget, HK.out, if_neg hne, List.take_succ_eq_append_getElem hk', e])
      have HT := Lib.hid (show q = true → KepI l l k (k + 1) by
        intro hf
        exact KepI.start hget (by rw [hq] at hf; exact List.isEmpty_iff.1 hf) HK.out)
      clear hget hq
      generalize x.at_ = xa at *
      generalize str x.dat = D at *
      generalize x.fr = xf at *
      generalize x.to_ = xt at *
      go_wp2_with fail
      refine (HF.out _).mono ?_
      rintro e w2 ⟨rfl, hb2⟩
      have HB2 := Lib.hid (HB.out.trans (hb2.mono HB.out.size))
      clear hb2 HB a0 a1 a2 a3
      cases q
      · go_wp2_with fail
        go_roundw
        case rel => exact ⟨k + 1, by go_num, by omega, Lib.hid (HK1.out (by first | rfl | trivial)), HB2⟩
        case measure => simp [intOf]; omega
      · go_wp2_with fail
        go_ret
        exact ⟨(k : Int), rfl, Lib.hid (.inr ⟨k, rfl, by have := HN.out; omega, HT.out (by first | rfl | trivial)⟩), HB2.out⟩
    · obtain rfl : k = n := by omega
      have dlt : decide ((k : Int) < (k : Int)) = false := by simp
      have nlt : ¬ (k : Int) < (k : Int) := by omega
      have HT := Lib.hid (show fillL l = l by have := HK.out; rwa [HN.out, List.take_length] at this)
      go_wp2_with fail
      go_ret
      exact ⟨-1, rfl, Lib.hid (.inl ⟨rfl, HT.out⟩), HB.out⟩

/-! ### DeleteFunc -/
def DelP (A : Option Addr) (c base : Nat) (l : List PcR) (w : World) (e : Ending) (w' : World) : Prop :=
  e = .returned (.slice A (fillL l).length c) ∧ RowL EPc w' A (fillL l) ∧ Below base w w'
set_option maxHeartbeats 16000000 in
theorem pdel15 (A : Option Addr) (c base : Nat) (l : List PcR) (w : World) (h : OwnE EPc 23 w base A l.length c l) (hl : l.length ≤ 1000000) (hbw : base ≤ w.heap.size) :
    Calls Try.prog 43 #[.slice A l.length c, .func (.func 44) #[] #[]] w (DelP A c base l w) := by
  have HIX := Lib.hid (fun (W : World) (hb : Below w.heap.size w W) => pidx15 A c l W (h.row.kept hb) (by omega))
  obtain ⟨n, hn⟩ : ∃ n, n = l.length := ⟨_, rfl⟩
  rw [← hn] at hl h HIX ⊢
  have HN := Lib.hid hn
  have HO := Lib.hid h
  have HBW := Lib.hid hbw
  clear hn h hbw
  go_enter Try.func43, Try.ntmps43
  go_wp2_with fail
  refine (HIX.out _ (Below.refl _ _)).mono ?_
  rintro e w1 ⟨iv, rfl, HI, hb1⟩
  have HO1 := Lib.hid (HO.out.kept hb1)
  have HB1 := Lib.hid hb1
  clear hb1 HIX
  rcases HI.out with ⟨hi, hf⟩ | ⟨k0, hi, hk0, hkp⟩
  · have di : (iv == -1) = true := by rw [hi]; rfl
    have HF := Lib.hid hf
    clear hi hf HI
    go_wp2_with fail
    go_ret
    exact ⟨by rw [HF.out, ← HN.out]; rfl, by rw [HF.out]; exact HO1.out.row, HB1.out.mono HBW.out⟩
  · have di : (iv == -1) = false := by rw [hi]; exact beq_eq_false_iff_ne.2 (by omega)
    obtain ⟨b, rfl⟩ : ∃ b, A = some ⟨b, 0, none⟩ := by
      obtain ⟨g, ob, e, -⟩ := HO.out.row.shapeA (by have := HN.out; omega)
      subst e
      obtain ⟨e0, -⟩ := own_start (pt := none) HO.out.2
      exact ⟨g, by rw [e0]⟩
    have HKP := Lib.hid hkp
    have HBB := Lib.hid (show base ≤ b from (own_start (pt := none) HO.out.2).2.1)
    have hk0n : k0 < n := by have := HN.out; omega
    subst hi
    have HB2 := Lib.hid (HB1.out.mono HBW.out)
    clear hkp HI hk0 HB1
    go_wp2_with fail
    go_loopw [5, 6] (fun v5 v6 wr => ∃ (i j : Nat) (dk : List PcR), v5 = .int .i64 (i : Int) ∧ v6 = .int .i64 (j : Int) ∧ i < j ∧ j ≤ n ∧ Hid (KepI l dk i j) ∧ Hid (OwnE EPc 23 wr base (some ⟨b, 0, none⟩) n c dk) ∧ Hid (Below base w wr)) (fun _ v6 _ => n - (intOf v6).toNat)
    case atStart => exact ⟨k0, k0 + 1, l, rfl, by go_num, by omega, by omega, HKP, HO1, HB2⟩
    case round =>
      clear HKP HO1 HB2 di
      obtain ⟨i, j, dk, rfl, rfl, hij, hj, HK, HO2, HB⟩ := hrel
      by_cases hlt : j < n
      · have hji : (j : Int) < (n : Int) := by omega
        have hji0 : (0 : Int) ≤ (j : Int) := by omega
        have hin : i < n := by omega
        have hii : (i : Int) < (n : Int) := by omega
        have hii0 : (0 : Int) ≤ (i : Int) := by omega
        have dlt : decide ((j : Int) < (n : Int)) = true := by simp; omega
        obtain ⟨x, hget⟩ : ∃ x, l[j]? = some x := ⟨l[j]'(by have := HN.out; omega), List.getElem?_eq_getElem _⟩
        obtain ⟨a0, a1, a2, a3⟩ := own_pc HO2.out (HK.out.get hget)
        obtain ⟨q, hq⟩ : ∃ q, q = x.dat.isEmpty := ⟨_, rfl⟩
        have HF := Lib.hid (fun W => pfil15 x.at_ x.fr x.to_ (str x.dat) q W (by rw [hq]; exact toList_empty15 _))
        have HK1 := Lib.hid (show q = false → KepI l (dk.set i x) (i + 1) (j + 1) from fun hf => HK.out.keep hget (fun e => by rw [hq, e] at hf; cases hf))
        have HK2 := Lib.hid (show q = true → KepI l dk i (j + 1) from fun hf => HK.out.skip hget (by rw [hq] at hf; exact List.isEmpty_iff.1 hf))
        have hszb : base ≤ wr.heap.size := Nat.le_trans HBW.out HB.out.size
        obtain ⟨W1, hW1⟩ : ∃ W, W = wr.alloc (.cells #[.int .i64 x.at_, .string (str x.dat), .int .i64 x.fr, .int .i64 x.to_] 23) := ⟨_, rfl⟩
        obtain ⟨gx, hgx⟩ : ∃ g, g = wr.heap.size := ⟨_, rfl⟩
        have HX1 := Lib.hid (show Cells W1 gx 23 #[.int .i64 x.at_, .string (str x.dat), .int .i64 x.fr, .int .i64 x.to_] by rw [hW1, hgx]; exact heap_alloc_new wr _)
        have HO3 := Lib.hid (show OwnE EPc 23 W1 base (some ⟨b, 0, none⟩) n c dk by rw [hW1]; exact HO2.out.al _)
        have HB3 := Lib.hid (show Below base w W1 by rw [hW1]; exact HB.out.alloc hszb _)
        have HW1 := Lib.hid hW1
        have HGX := Lib.hid hgx
        have hbx : b ≠ gx := by
          have := (own_start (pt := none) HO2.out.2).2.2
          omega
        have hbx' : gx ≠ b := fun e => hbx e.symm
        clear hq hW1 hgx hszb HB HO2
        go_upto_region 8 with fail
        rw [← HGX.out, ← HW1.out]
        clear HW1 HGX a0 a1 a2 a3
        have x0 := (Cells.cell HX1.out 0).trans (show _ = some (Value.int .i64 x.at_) from rfl)
        have x1 := (Cells.cell HX1.out 1).trans (show _ = some (Value.string (str x.dat)) from rfl)
        have x2 := (Cells.cell HX1.out 2).trans (show _ = some (Value.int .i64 x.fr) from rfl)
        have x3 := (Cells.cell HX1.out 3).trans (show _ = some (Value.int .i64 x.to_) from rfl)
        cases q
        · have HK3 := Lib.hid (HK1.out rfl)
          obtain ⟨y, hy⟩ : ∃ y, dk[i]? = some y := ⟨dk[i]'(by have := HK.out.dlen; have := HN.out; omega), List.getElem?_eq_getElem _⟩
          have hil : i < dk.length := by have := HK.out.dlen; have := HN.out; omega
          have HY := Lib.hid hy
          have HIL := Lib.hid hil
          clear hget hy hil HK HK1 HK2
          go_wp2_with fail
          refine (HF.out _).mono ?_
          rintro e w2 ⟨rfl, hb2⟩
          have HO4 := Lib.hid (HO3.out.kept hb2)
          have HX4 := Lib.hid (Cells.kept HX1.out hb2 HX1.out.lt)
          have HB4 := Lib.hid (HB3.out.trans (hb2.mono (Nat.le_trans HBW.out HB3.out.size)))
          clear hb2 HO3 HX1 HB3 x0 x1 x2 x3
          have x0 := (Cells.cell HX4.out 0).trans (show _ = some (Value.int .i64 x.at_) from rfl)
          have x1 := (Cells.cell HX4.out 1).trans (show _ = some (Value.string (str x.dat)) from rfl)
          have x2 := (Cells.cell HX4.out 2).trans (show _ = some (Value.int .i64 x.fr) from rfl)
          have x3 := (Cells.cell HX4.out 3).trans (show _ = some (Value.int .i64 x.to_) from rfl)
          obtain ⟨c0, c1, c2, c3⟩ := own_pc HO4.out HY.out
          have f0 := HO4.out.2.frozenAt (i * 4)
          have f1 := HO4.out.2.frozenAt (i * 4 + 1)
          have f2 := HO4.out.2.frozenAt (i * 4 + 2)
          have f3 := HO4.out.2.frozenAt (i * 4 + 3)
          have hbl : b < w2.heap.size := (own_start (pt := none) HO4.out.2).2.2
          have HO5 := Lib.hid (own_put4 HO4.out HIL.out x)
          have HB5 := Lib.hid (below_put4 HB4.out HBB.out i x)
          unfold put4 at HO5 HB5
          clear HO4 HB4 HX4 HY HIL
          go_wp2_with fail
          go_roundw
          case rel => exact ⟨i + 1, j + 1, dk.set i x, by go_num, by go_num, by omega, by omega, HK3, HO5, HB5⟩
          case measure => simp [intOf]; omega
        · have HK3 := Lib.hid (HK2.out rfl)
          clear hget HK HK1 HK2
          go_wp2_with fail
          refine (HF.out _).mono ?_
          rintro e w2 ⟨rfl, hb2⟩
          have HO4 := Lib.hid (HO3.out.kept hb2)
          have HB4 := Lib.hid (HB3.out.trans (hb2.mono (Nat.le_trans HBW.out HB3.out.size)))
          clear hb2 HO3 HX1 HB3 x0 x1 x2 x3
          go_wp2_with fail
          go_roundw
          case rel => exact ⟨i, j + 1, dk, rfl, by go_num, by omega, by omega, HK3, HO4, HB4⟩
          case measure => simp [intOf]; omega
      · obtain rfl : j = n := by omega
        have hd : decide ((j : Int) < (j : Int)) = false := by simp
        have hii0 : (0 : Int) ≤ (i : Int) := by omega
        have hile : (i : Int) ≤ (j : Int) := by omega
        have hilc : i ≤ c := by have := (own_cap HO2.out.2).1; omega
        have hjc : j ≤ c := (own_cap HO2.out.2).1
        have hicI : (i : Int) ≤ (c : Int) := by omega
        have hjcI : (j : Int) ≤ (c : Int) := by omega
        obtain ⟨wz, hrun, ⟨ys, hown, hys⟩, hgr⟩ := own_clear (c' := c - i) HO2.out.2 hij
        have HFI := Lib.hid (show i = (fillL l).length ∧ dk.take i = fillL l by
          have h1 := HK.out.len
          have h2 := HK.out.lo
          rw [HN.out, List.take_length] at h1 h2
          exact ⟨h1, h2⟩)
        have HRW := Lib.hid (show RowL EPc wz (some ⟨b, 0, none⟩) (fillL l) by
          have h3 := own_take15 hown (Nat.le_of_lt hij)
          rw [hys, show (EPc.cells dk).take (i * 4) = EPc.cells (fillL l) by rw [← HFI.out.2]; exact EPc.cells_take dk i] at h3
          exact rowl_of_own (E := EPc) h3 HFI.out.1)
        have HBZ := Lib.hid (show Below base w wz from HB.out.grown hgr (Nat.le_trans HBW.out HB.out.size) (fun q hq => by obtain rfl := Option.some.inj hq; exact HBB.out))
        clear hown hys hgr HB HO2
        go_wp2_with fail
        go_ret
        exact ⟨by rw [← HFI.out.1]; rfl, HRW.out, HBZ.out⟩
/-! ### filled -/
set_option maxHeartbeats 4000000 in
theorem pfilled15 (A : Option Addr) (c base : Nat) (l : List PcR) (w : World) (h : OwnE EPc 23 w base A l.length c l) (hl : l.length ≤ 1000000) (hbw : base ≤ w.heap.size) :
    Calls Try.prog 39 #[.slice A l.length c] w (DelP A c base l w) := by
  have HD := Lib.hid (pdel15 A c base l w h hl hbw)
  obtain ⟨n, hn⟩ : ∃ n, n = l.length := ⟨_, rfl⟩
  rw [← hn] at HD ⊢
  clear hn h
  go_enter Try.func39, Try.ntmps39
  go_wp2_with fail
  refine HD.out.mono ?_
  rintro e w1 ⟨rfl, h1, h2⟩
  have H1 := Lib.hid h1
  have H2 := Lib.hid h2
  clear h1 h2
  go_wp2_with fail
  go_ret
  exact ⟨rfl, H1.out, H2.out⟩
end Go.Proofs.Ytafpmlikocchpaa
