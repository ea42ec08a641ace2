/- Contracts of the functions, part 39: Ip6PSt, Ip6PPx, Ip6PExt. -/
import Derived.StillTailTactics
import Derived.Deep.Cut
import Derived.Test.YtjjldolafnfpoaaPE19
import Derived.Test.YtjjldolafnfpoaaPE20
import Derived.Test.YtjjldolafnfpoaaPE31
import Derived.Test.YtjjldolafnfpoaaPE38
/- The program of layer 12: what readStart reads, and its state in memory. -/
namespace Go.Proofs.Ytjjldolafnfpoaa
open Go.ChangeShapes Go.WideShapes Go.ChangeAt Go.RowKit
set_option linter.unusedVariables false

theorem drop40 (S : List UInt8) (i k : Nat) (h : i + k ≤ 40) : ((S.take 40).drop i).take k = (S.drop i).take k := by
  rw [List.drop_take, List.take_take]
  congr 1
  omega
/-- What FromBytes reads of 16 bytes, or of none. -/
def ad6 (L : List UInt8) : Bool × Nat × Nat × Nat := if L.length = 16 then (true, num (L.take 8), num (L.drop 8), 0) else (false, 0, 0, 2)
theorem ad6_lt (L : List UInt8) : (ad6 L).2.1 < 18446744073709551616 ∧ (ad6 L).2.2.1 < 18446744073709551616 := by
  unfold ad6
  split
  · next h =>
    have h1 := num_lt (L.take 8)
    have h2 := num_lt (L.drop 8)
    rw [List.length_take, h] at h1
    rw [List.length_drop, h] at h2
    exact ⟨h1, h2⟩
  · exact ⟨by decide, by decide⟩
theorem from16p_any (L : List UInt8) (hl : L.length = 16 ∨ L.length = 0) (w : World) :
    Calls Try.prog 44 #[.string (str L)] w fun e w' => e = .returned (.tuple #[.agg #[.bool (ad6 L).1, .int .u64 ((ad6 L).2.1 : Int), .int .u64 ((ad6 L).2.2.1 : Int)], .int .i64 ((ad6 L).2.2.2 : Int)]) ∧ Below w.heap.size w w' := by
  refine (qfrom_any (str L) w (by rw [str_size]; omega)).mono ?_
  rintro e w' ⟨rfl, hb⟩
  refine ⟨?_, hb⟩
  rw [str_toList]
  unfold fbRes ad6
  rcases hl with h | h
  · rw [if_neg (by omega), if_pos h, if_pos h]; rfl
  · rw [if_neg (by omega), if_neg (by omega), if_neg (by omega)]; rfl
theorem first12 (S : List UInt8) (h : 40 ≤ S.length) : nm4 S 0 / 268435456 = byt S 0 / 16 ∧ nm4 S 0 / 1048576 % 256 = nm2 S 0 / 16 % 256 := by
  match S, h with
  | a :: b :: c :: d :: r, _ =>
    have h4 : nm4 (a :: b :: c :: d :: r) 0 = ((a.toNat * 256 + b.toNat) * 256 + c.toNat) * 256 + d.toNat := by unfold nm4 num; simp
    have h2 : nm2 (a :: b :: c :: d :: r) 0 = a.toNat * 256 + b.toNat := by unfold nm2 num; simp
    have h1 : byt (a :: b :: c :: d :: r) 0 = a.toNat := rfl
    have xa := u8_lt a
    have xb := u8_lt b
    have xc := u8_lt c
    have xd := u8_lt d
    rw [h4, h2, h1]
    omega
/-- The values of a whole start. -/
def StartV6 (S : List UInt8) (fi sz X H : Nat) (T1 T2 : List UInt8) : Prop :=
  fi = nm4 S 0 ∧ sz = nm2 S 4 ∧ X = byt S 6 ∧ H = byt S 7 ∧ T1.length = 16 ∧ num (T1.take 8) = nm8 S 8 ∧ num (T1.drop 8) = nm8 S 16 ∧ T2.length = 16 ∧ num (T2.take 8) = nm8 S 24 ∧ num (T2.drop 8) = nm8 S 32
theorem half16 (S : List UInt8) (i : Nat) (h : i + 16 ≤ 40) : (((S.take 40).drop i).take 16).take 8 = (S.drop i).take 8 ∧ (((S.take 40).drop i).take 16).drop 8 = (S.drop (i + 8)).take 8 := by
  rw [drop40 S i 16 h]
  constructor
  · rw [List.take_take]; rfl
  · rw [List.drop_take, List.drop_drop]
theorem start_fin6 {S l1 l2 l3 l4 l5 l6 T1 T2 : List UInt8} {fi sz X H e1 e2 e3 e4 e5 e6 : Nat}
    (h1 : rdI (S.take 40) 0 4 = (fi, l1, e1)) (h2 : rdI l1 e1 2 = (sz, l2, e2)) (h3 : rdI l2 e2 1 = (X, l3, e3)) (h4 : rdI l3 e3 1 = (H, l4, e4))
    (h5 : rdT l4 e4 16 = (T1, l5, e5)) (h6 : rdT l5 e5 16 = (T2, l6, e6)) : (S.length < 40 ∧ e6 = 1) ∨ (40 ≤ S.length ∧ e6 = 0 ∧ StartV6 S fi sz X H T1 T2) := by
  by_cases hs : S.length < 40
  · refine .inl ⟨hs, ?_⟩
    have a := rdT_step (rdT_step (rdI_step (rdI_step (rdI_step (rdI_step (N := (S.take 40).length) (pos := 0) (.inr ⟨rfl, rfl⟩) h1) h2) h3) h4) h5) h6
    rcases a with a | ⟨_, a⟩
    · exact a
    · rw [List.length_take] at a
      omega
  · refine .inr ⟨by omega, ?_⟩
    have hl : (S.take 40).length = 40 := by rw [List.length_take]; omega
    rw [rdI_ok11 (by omega)] at h1
    obtain ⟨rfl, rfl, rfl⟩ := (by simpa only [Prod.mk.injEq] using h1 : _ ∧ _ ∧ _)
    rw [rdI_ok11 (by simp only [List.length_drop]; omega)] at h2
    obtain ⟨rfl, rfl, rfl⟩ := (by simpa only [Prod.mk.injEq] using h2 : _ ∧ _ ∧ _)
    rw [rdI_ok11 (by simp only [List.length_drop]; omega)] at h3
    obtain ⟨rfl, rfl, rfl⟩ := (by simpa only [Prod.mk.injEq] using h3 : _ ∧ _ ∧ _)
    rw [rdI_ok11 (by simp only [List.length_drop]; omega)] at h4
    obtain ⟨rfl, rfl, rfl⟩ := (by simpa only [Prod.mk.injEq] using h4 : _ ∧ _ ∧ _)
    rw [rdT_ok11 (by simp only [List.length_drop]; omega)] at h5
    obtain ⟨rfl, rfl, rfl⟩ := (by simpa only [Prod.mk.injEq] using h5 : _ ∧ _ ∧ _)
    rw [rdT_ok11 (by simp only [List.length_drop]; omega)] at h6
    obtain ⟨rfl, rfl, rfl⟩ := (by simpa only [Prod.mk.injEq] using h6 : _ ∧ _ ∧ _)
    refine ⟨rfl, ?_⟩
    unfold StartV6
    simp only [List.drop_drop]
    refine ⟨?_, ?_, ?_, ?_, ?_, ?_, ?_, ?_, ?_, ?_⟩
    · exact congrArg num (drop40 S 0 4 (by omega))
    · exact congrArg num (drop40 S 4 2 (by omega))
    · exact (congrArg num (drop40 S 6 1 (by omega))).trans (num_byt S 6 (by omega))
    · exact (congrArg num (drop40 S 7 1 (by omega))).trans (num_byt S 7 (by omega))
    · simp only [List.length_take, List.length_drop]; omega
    · exact congrArg num (half16 S 8 (by omega)).1
    · exact congrArg num (half16 S 8 (by omega)).2
    · simp only [List.length_take, List.length_drop]; omega
    · exact congrArg num (half16 S 24 (by omega)).1
    · exact congrArg num (half16 S 24 (by omega)).2
/-! ### The state in memory -/
def zS6 : Array Value := #[.int .i64 0, .int .i64 0, .int .i64 0, .int .i64 0, .int .i64 0, .int .i64 0, .bool false, .int .u64 0, .int .u64 0, .bool false, .int .u64 0, .int .u64 0, .slice none 0 0, .bool false, .int .i64 0, .int .i64 0, .bool false, .string ⟨#[]⟩]
structure SD6 (wb W : World) (g0 gx p : Nat) (cs : Array Value) (l : List UInt8) (err : Nat) : Prop where
  rd : RdB W gx p l (err : Int)
  x : Cells W gx 49 cs
  g : Cells W g0 49 zS6
  bel : Below wb.heap.size wb W
  lo : wb.heap.size = g0
  lp : g0 < p
  ll : l.length ≤ 1000000
theorem SD6.ggx {wb W : World} {g0 gx p err : Nat} {cs : Array Value} {l : List UInt8} (h : SD6 wb W g0 gx p cs l err) : g0 < gx := by have := h.rd.lt; have := h.lp; omega
theorem SD6.grown {wb W W' : World} {g0 gx p err : Nat} {cs : Array Value} {l l' : List UInt8} {err' : Nat} (h : SD6 wb W g0 gx p cs l err) (hg : W.grownBy W' (some p)) (hr : RdB W' gx p l' (err' : Int)) (hl : l'.length ≤ l.length) : SD6 wb W' g0 gx p cs l' err' := by
  have hpg := h.rd.lt
  have hlo := h.lo
  have hlp := h.lp
  exact ⟨hr, h.x.only hg (by intro e; injection e with e; omega), h.g.only hg (by intro e; injection e with e; omega), below_only h.bel hg (by omega) h.bel.size, h.lo, h.lp, Nat.le_trans hl h.ll⟩
theorem SD6.set {wb W : World} {g0 gx p err : Nat} {cs : Array Value} {l : List UInt8} (h : SD6 wb W g0 gx p cs l err) (i : Nat) (v : Value) : SD6 wb (W.setCell ⟨gx, i, none⟩ v) g0 gx p (cs.setIfInBounds i v) l err := by
  have hg := h.ggx
  have hlo := h.lo
  exact ⟨h.rd.set (Nat.le_refl _) _, h.x.set i v, h.g.far (by omega) _, h.bel.setCell (p := ⟨gx, i, none⟩) (by simp only; omega) _, h.lo, h.lp, h.ll⟩
theorem SD6.below {wb W W' : World} {g0 gx p err : Nat} {cs : Array Value} {l : List UInt8} (h : SD6 wb W g0 gx p cs l err) (hb : Below W.heap.size W W') : SD6 wb W' g0 gx p cs l err :=
  ⟨h.rd.kept hb (Nat.le_of_lt h.x.lt), h.x.kept hb h.x.lt, h.g.kept hb h.g.lt, h.bel.trans (hb.mono h.bel.size), h.lo, h.lp, h.ll⟩
theorem SD6.int {wb W : World} {g0 gx p err : Nat} {cs : Array Value} {l : List UInt8} (h : SD6 wb W g0 gx p cs l err) (k : Nat) (K : Int) (hK : (k : Int) = K) (h1 : 1 ≤ k) (h7 : k ≤ 7) :
    Calls Try.prog 43 #[.pointer (some ⟨p, 0, none⟩), .int .i64 K] W fun e w' => e = .returned (.int .i64 ((rdI l err k).1 : Int)) ∧ SD6 wb w' g0 gx p cs (rdI l err k).2.1 (rdI l err k).2.2 :=
  (intB_any gx p k K hK l err W h.rd (by have := h.ll; omega) h1 h7).mono fun e w' ⟨h2, h3, h4⟩ => ⟨h2, h.grown h4 h3 (rdI_len _ _ _)⟩
theorem SD6.take {wb W : World} {g0 gx p err : Nat} {cs : Array Value} {l : List UInt8} (h : SD6 wb W g0 gx p cs l err) (k : Nat) (K : Int) (hK : (k : Int) = K) :
    Calls Try.prog 45 #[.pointer (some ⟨p, 0, none⟩), .int .i64 K] W fun e w' => e = .returned (.string (str (rdT l err k).1)) ∧ SD6 wb w' g0 gx p cs (rdT l err k).2.1 (rdT l err k).2.2 :=
  (takeB_any gx p k K hK l err W h.rd (by have := h.ll; omega)).mono fun e w' ⟨h2, h3, h4⟩ => ⟨h2, h.grown h4 h3 (rdT_len _ _ _)⟩
theorem SD6.init {W w1 : World} {p : Nat} {S : List UInt8} (hb : Below (w1.alloc (.cells zS6 49)).heap.size (w1.alloc (.cells zS6 49)) W) (hp : (w1.alloc (.cells zS6 49)).heap.size ≤ p) (hr : Rd W p S 0) (hS : S.length ≤ 1000000) :
    SD6 w1 (W.alloc (.cells zS6 49)) w1.heap.size W.heap.size p zS6 S 0 := by
  have hz : (w1.alloc (.cells zS6 49)).heap.size = w1.heap.size + 1 := by simp
  have h0 : Cells (w1.alloc (.cells zS6 49)) w1.heap.size 49 zS6 := heap_alloc_new w1 _
  have hB := below_alloc6 W (.cells zS6 49)
  have h1 := Cells.kept h0 hb h0.lt
  refine ⟨(RdB.of hr).kept hB (Nat.le_refl _), heap_alloc_new W _, Cells.kept h1 hB h1.lt, ?_, rfl, by omega, hS⟩
  exact ((below_alloc6 w1 _).trans (hb.mono (by omega))).trans (hB.mono (by have := hb.size; omega))
end Go.Proofs.Ytjjldolafnfpoaa

/- The state of readPayload of layer 12 in memory; readFragment. -/
namespace Go.Proofs.Ytjjldolafnfpoaa
open Go.ChangeShapes Go.WideShapes Go.ChangeAt Go.RowKit
set_option linter.unusedVariables false

def noU8 (cs : Array Value) : Bool := cs.toList.all fun v => match v with | .int .u8 _ => false | _ => true
theorem noU8_get {cs : Array Value} (h : noU8 cs = true) {i : Nat} {x : Int} : cs[i]? ≠ some (.int .u8 x) := by
  intro e
  unfold noU8 at h
  rw [List.all_eq_true] at h
  have := h _ (List.mem_of_getElem? (by rw [Array.getElem?_toList]; exact e))
  cases this
/-- A store into a block that holds no bytes leaves a reader as it was. -/
theorem RdB.far {W : World} {B p g i : Nat} {t : TypeId} {cs : Array Value} {l : List UInt8} {err : Int} (h : RdB W B p l err) (hc : Cells W g t cs) (hno : noU8 cs = true) (hp : g ≠ p) (u : Value) : RdB (W.setCell ⟨g, i, none⟩ u) B p l err := by
  obtain ⟨A, cap, h0, h1, h2, h3⟩ := h
  refine ⟨A, cap, h0, (Below.heap_setCell W ⟨g, i, none⟩ u p (fun e => hp e.symm)).trans h1, ⟨h2.1, fun hpos => ?_⟩, h3⟩
  obtain ⟨b, o, e, hne, hlt, hcs⟩ := h2.2 hpos
  have hbg : b ≠ g := by
    intro e2
    subst e2
    have h4 := (hcs 0 hpos).1
    rw [Cells.cell hc] at h4
    exact noU8_get hno h4
  have hb : (W.setCell ⟨g, i, none⟩ u).heap[b]? = W.heap[b]? := Below.heap_setCell W ⟨g, i, none⟩ u b hbg
  refine ⟨b, o, e, hne, by simpa [World.setCell] using hlt, fun j hj => ?_⟩
  rw [World.cell?_of_block (w := W) (w' := W.setCell ⟨g, i, none⟩ u) (a := ⟨b, o + j, none⟩) hb, World.frozen?_of_block (w := W) (w' := W.setCell ⟨g, i, none⟩ u) (a := ⟨b, o + j, none⟩) hb]
  exact hcs j hj
/-- The packet under way, with its reader. -/
structure PX (wb W : World) (g g0 p B : Nat) (cs : Array Value) (l : List UInt8) (err : Nat) (A : Option Addr) (n cap : Nat) (ex : List OpR) : Prop where
  rd : RdB W B p l (err : Int)
  x : Cells W g 28 cs
  res : Cells W g0 28 #[.int .i64 0, .int .i64 0, .int .i64 0, .int .i64 0, .bool false, .int .u64 0, .int .u64 0, .bool false, .int .u64 0, .int .u64 0, .slice none 0 0, .bool false, .int .i64 0, .int .i64 0, .bool false, .string ⟨#[]⟩]
  own : W.ownsRow B 59 2 (.slice A n cap) n (EOpt.cells ex)
  len : n = ex.length
  bel : Below wb.heap.size wb W
  lo : wb.heap.size ≤ g
  hg : g < g0
  lp : g0 < p
  ll : l.length ≤ 1000000
  no : noU8 cs = true
  bz : B ≤ W.heap.size
section
variable {wb W W' : World} {g g0 p B err n cap : Nat} {cs : Array Value} {l l' : List UInt8} {A : Option Addr} {ex : List OpR}
theorem PX.grown {err' : Nat} (h : PX wb W g g0 p B cs l err A n cap ex) (hg : W.grownBy W' (some p)) (hr : RdB W' B p l' (err' : Int)) (hl : l'.length ≤ l.length) : PX wb W' g g0 p B cs l' err' A n cap ex := by
  have hpg := h.rd.lt
  have h1 := h.lo
  have h2 := h.hg
  have h3 := h.lp
  refine ⟨hr, h.x.only hg (by intro e; injection e with e; omega), h.res.only hg (by intro e; injection e with e; omega), own_only h.own hg (fun j hj e => ?_), h.len, below_only h.bel hg (by omega) h.bel.size, h.lo, h.hg, h.lp, Nat.le_trans hl h.ll, h.no, Nat.le_trans h.bz hg.size⟩
  injection e with e
  have := (own_blk_in h.own _ hj).1
  omega
theorem PX.set (h : PX wb W g g0 p B cs l err A n cap ex) (i : Nat) (v : Value) (hno : noU8 (cs.setIfInBounds i v) = true) : PX wb (W.setCell ⟨g, i, none⟩ v) g g0 p B (cs.setIfInBounds i v) l err A n cap ex := by
  have hpg := h.rd.lt
  have h1 := h.lo
  have h2 := h.hg
  have h3 := h.lp
  exact ⟨h.rd.far h.x h.no (by omega) v, h.x.set i v, h.res.far (by omega) _, own_setb h.own (by omega) _, h.len, h.bel.setCell (p := ⟨g, i, none⟩) h1 _, h.lo, h.hg, h.lp, h.ll, hno, by simpa [World.setCell] using h.bz⟩
theorem PX.below (h : PX wb W g g0 p B cs l err A n cap ex) (hb : Below W.heap.size W W') : PX wb W' g g0 p B cs l err A n cap ex :=
  ⟨h.rd.kept hb h.bz, h.x.kept hb h.x.lt, h.res.kept hb h.res.lt, own_kept h.own hb (Nat.le_refl _), h.len, h.bel.trans (hb.mono h.bel.size), h.lo, h.hg, h.lp, h.ll, h.no, Nat.le_trans h.bz hb.size⟩
theorem PX.drew (h : PX wb W g g0 p B cs l err A n cap ex) : PX wb W.drew g g0 p B cs l err A n cap ex := h.below ⟨rfl, rfl, rfl, Nat.le_refl _, fun _ _ => rfl⟩
theorem PX.int (h : PX wb W g g0 p B cs l err A n cap ex) (k : Nat) (K : Int) (hK : (k : Int) = K) (h1 : 1 ≤ k) (h7 : k ≤ 7) :
    Calls Try.prog 43 #[.pointer (some ⟨p, 0, none⟩), .int .i64 K] W fun e w' => e = .returned (.int .i64 ((rdI l err k).1 : Int)) ∧ PX wb w' g g0 p B cs (rdI l err k).2.1 (rdI l err k).2.2 A n cap ex ∧ W.grownBy w' (some p) :=
  (intB_any B p k K hK l err W h.rd (by have := h.ll; omega) h1 h7).mono fun e w' ⟨h2, h3, h4⟩ => ⟨h2, h.grown h4 h3 (rdI_len _ _ _), h4⟩
theorem PX.take (h : PX wb W g g0 p B cs l err A n cap ex) (k : Nat) (K : Int) (hK : (k : Int) = K) :
    Calls Try.prog 45 #[.pointer (some ⟨p, 0, none⟩), .int .i64 K] W fun e w' => e = .returned (.string (str (rdT l err k).1)) ∧ PX wb w' g g0 p B cs (rdT l err k).2.1 (rdT l err k).2.2 A n cap ex ∧ W.grownBy w' (some p) :=
  (takeB_any B p k K hK l err W h.rd (by have := h.ll; omega)).mono fun e w' ⟨h2, h3, h4⟩ => ⟨h2, h.grown h4 h3 (rdT_len _ _ _), h4⟩
end
set_option maxHeartbeats 8000000 in
set_option maxRecDepth 20000 in
theorem pfrag12_any (wb W : World) (g g0 p B C L H sh sl dh dl : Nat) (b1 b2 : Bool) (k id off : Int) (mo : Bool) (l l1 l2 l3 l4 : List UInt8) (err f1 f2 wd idn e1 e2 e3 e4 : Nat) (A : Option Addr) (n cap : Nat) (ex : List OpR) (h : PX wb W g g0 p B #[.int .i64 (C : Int), .int .i64 (L : Int), .int .i64 (H : Int), .int .i64 k, .bool b1, .int .u64 (sh : Int), .int .u64 (sl : Int), .bool b2, .int .u64 (dh : Int), .int .u64 (dl : Int), .slice A n cap, .bool false, .int .i64 id, .int .i64 off, .bool mo, .string ⟨#[]⟩] l err A n cap ex)
    (hq1 : rdI l err 1 = (f1, l1, e1)) (hq2 : rdI l1 e1 1 = (f2, l2, e2)) (hq3 : rdI l2 e2 2 = (wd, l3, e3)) (hq4 : rdI l3 e3 4 = (idn, l4, e4)) :
    Calls Try.prog 48 #[.pointer (some ⟨p, 0, none⟩), .pointer (some ⟨g, 0, none⟩)] W fun e w' => (∃ v, e = .returned v) ∧ PX wb w' g g0 p B #[.int .i64 (C : Int), .int .i64 (L : Int), .int .i64 (H : Int), .int .i64 (f1 : Int), .bool b1, .int .u64 (sh : Int), .int .u64 (sl : Int), .bool b2, .int .u64 (dh : Int), .int .u64 (dl : Int), .slice A n cap, .bool true, .int .i64 (idn : Int), .int .i64 ((wd / 8 * 8 : Nat) : Int), .bool (decide (wd % 2 = 1)), .string ⟨#[]⟩] l4 e4 A n cap ex := by
  have hlt3 := rdI_lt l2 e2 2
  rw [hq3] at hlt3
  have hlt4 := rdI_lt l3 e3 4
  rw [hq4] at hlt4
  have hlt1 := rdI_lt l err 1
  rw [hq1] at hlt1
  simp only at hlt1 hlt3 hlt4
  have hwd : wd < 65536 := by omega
  have hid' : idn < 4294967296 := by omega
  have hf1 : f1 < 256 := by omega
  obtain ⟨wr, hwr⟩ : ∃ x, x = wd % 8 := ⟨_, rfl⟩
  obtain ⟨wo, hwo⟩ : ∃ x, x = wd / 8 * 8 := ⟨_, rfl⟩
  have tm : (wd : Int).tmod 8 = (wr : Int) := by rw [Int.tmod_eq_emod_of_nonneg (by omega)]; omega
  have tm2 : (wd : Int) % 8 = (wr : Int) := by omega
  have fm : (wd : Int) - (wr : Int) = (wo : Int) := by omega
  have hwol : wo ≤ 65528 := by omega
  have hwrl : wr ≤ 7 := by omega
  obtain ⟨bm, hbm⟩ : ∃ b : Bool, (bits .and .i64 (wd : Int) 1 != 0) = b := ⟨_, rfl⟩
  have HBM := Lib.hid (show bm = decide (wd % 2 = 1) by
    rw [← hbm]
    have := and_bit wd 0 (by omega) (by omega)
    rw [Nat.pow_zero, Nat.div_one] at this
    exact this)
  have HWO := Lib.hid hwo
  have HQ1 := Lib.hid hq1
  have HQ2 := Lib.hid hq2
  have HQ3 := Lib.hid hq3
  have HQ4 := Lib.hid hq4
  have H0 := Lib.hid h
  clear hq1 hq2 hq3 hq4 hlt1 hlt3 hlt4 h hwr hwo
  have x11 := (Cells.cell H0.out.x 11).trans (show _ = some (Value.bool false) from rfl)
  have z11 := Cells.frozen H0.out.x 11
  have hgl := H0.out.x.lt
  go_enter Try.func48, Try.ntmps48
  go_wp2_with fail
  have S1 := Lib.hid (show PX wb (W.setCell ⟨g, 11, none⟩ (.bool true)) g g0 p B #[.int .i64 (C : Int), .int .i64 (L : Int), .int .i64 (H : Int), .int .i64 k, .bool b1, .int .u64 (sh : Int), .int .u64 (sl : Int), .bool b2, .int .u64 (dh : Int), .int .u64 (dl : Int), .slice A n cap, .bool true, .int .i64 id, .int .i64 off, .bool mo, .string ⟨#[]⟩] l err A n cap ex from H0.out.set 11 (.bool true) rfl)
  clear x11 z11 hgl H0
  generalize W.setCell ⟨g, 11, none⟩ (.bool true) = V1 at *
  refine (S1.out.int 1 1 rfl (by decide) (by decide)).mono ?_
  rintro e U2 ⟨rfl, h, -⟩
  rw [HQ1.out] at h ⊢
  have C2 := Lib.hid (show PX wb U2 g g0 p B #[.int .i64 (C : Int), .int .i64 (L : Int), .int .i64 (H : Int), .int .i64 k, .bool b1, .int .u64 (sh : Int), .int .u64 (sl : Int), .bool b2, .int .u64 (dh : Int), .int .u64 (dl : Int), .slice A n cap, .bool true, .int .i64 id, .int .i64 off, .bool mo, .string ⟨#[]⟩] l1 e1 A n cap ex from h)
  clear h S1 HQ1
  dsimp only
  have x3 := (Cells.cell C2.out.x 3).trans (show _ = some (Value.int .i64 k) from rfl)
  have z3 := Cells.frozen C2.out.x 3
  have hgl := C2.out.x.lt
  go_wp2_with fail
  have S3 := Lib.hid (show PX wb (U2.setCell ⟨g, 3, none⟩ (.int .i64 (f1 : Int))) g g0 p B #[.int .i64 (C : Int), .int .i64 (L : Int), .int .i64 (H : Int), .int .i64 (f1 : Int), .bool b1, .int .u64 (sh : Int), .int .u64 (sl : Int), .bool b2, .int .u64 (dh : Int), .int .u64 (dl : Int), .slice A n cap, .bool true, .int .i64 id, .int .i64 off, .bool mo, .string ⟨#[]⟩] l1 e1 A n cap ex from C2.out.set 3 (.int .i64 (f1 : Int)) rfl)
  clear x3 z3 hgl C2
  generalize U2.setCell ⟨g, 3, none⟩ (.int .i64 (f1 : Int)) = V3 at *
  refine (S3.out.int 1 1 rfl (by decide) (by decide)).mono ?_
  rintro e U4 ⟨rfl, h, -⟩
  rw [HQ2.out] at h ⊢
  have C4 := Lib.hid (show PX wb U4 g g0 p B #[.int .i64 (C : Int), .int .i64 (L : Int), .int .i64 (H : Int), .int .i64 (f1 : Int), .bool b1, .int .u64 (sh : Int), .int .u64 (sl : Int), .bool b2, .int .u64 (dh : Int), .int .u64 (dl : Int), .slice A n cap, .bool true, .int .i64 id, .int .i64 off, .bool mo, .string ⟨#[]⟩] l2 e2 A n cap ex from h)
  clear h S3 HQ2
  dsimp only
  go_wp2_with fail
  refine (C4.out.int 2 2 rfl (by decide) (by decide)).mono ?_
  rintro e U5 ⟨rfl, h, -⟩
  rw [HQ3.out] at h ⊢
  have C5 := Lib.hid (show PX wb U5 g g0 p B #[.int .i64 (C : Int), .int .i64 (L : Int), .int .i64 (H : Int), .int .i64 (f1 : Int), .bool b1, .int .u64 (sh : Int), .int .u64 (sl : Int), .bool b2, .int .u64 (dh : Int), .int .u64 (dl : Int), .slice A n cap, .bool true, .int .i64 id, .int .i64 off, .bool mo, .string ⟨#[]⟩] l3 e3 A n cap ex from h)
  clear h C4 HQ3
  dsimp only
  have x13 := (Cells.cell C5.out.x 13).trans (show _ = some (Value.int .i64 off) from rfl)
  have z13 := Cells.frozen C5.out.x 13
  have x14 := (Cells.cell C5.out.x 14).trans (show _ = some (Value.bool mo) from rfl)
  have z14 := Cells.frozen C5.out.x 14
  have hgl := C5.out.x.lt
  go_wp2_with fail
  have S6 := Lib.hid (show PX wb ((U5.setCell ⟨g, 13, none⟩ (.int .i64 (wo : Int))).setCell ⟨g, 14, none⟩ (.bool bm)) g g0 p B #[.int .i64 (C : Int), .int .i64 (L : Int), .int .i64 (H : Int), .int .i64 (f1 : Int), .bool b1, .int .u64 (sh : Int), .int .u64 (sl : Int), .bool b2, .int .u64 (dh : Int), .int .u64 (dl : Int), .slice A n cap, .bool true, .int .i64 id, .int .i64 (wo : Int), .bool bm, .string ⟨#[]⟩] l3 e3 A n cap ex from (C5.out.set 13 (.int .i64 (wo : Int)) rfl).set 14 (.bool bm) rfl)
  clear x13 z13 x14 z14 hgl C5
  generalize (U5.setCell ⟨g, 13, none⟩ (.int .i64 (wo : Int))).setCell ⟨g, 14, none⟩ (.bool bm) = V6 at *
  refine (S6.out.int 4 4 rfl (by decide) (by decide)).mono ?_
  rintro e U7 ⟨rfl, h, -⟩
  rw [HQ4.out] at h ⊢
  have C7 := Lib.hid (show PX wb U7 g g0 p B #[.int .i64 (C : Int), .int .i64 (L : Int), .int .i64 (H : Int), .int .i64 (f1 : Int), .bool b1, .int .u64 (sh : Int), .int .u64 (sl : Int), .bool b2, .int .u64 (dh : Int), .int .u64 (dl : Int), .slice A n cap, .bool true, .int .i64 id, .int .i64 (wo : Int), .bool bm, .string ⟨#[]⟩] l4 e4 A n cap ex from h)
  clear h S6 HQ4
  dsimp only
  have x12 := (Cells.cell C7.out.x 12).trans (show _ = some (Value.int .i64 id) from rfl)
  have z12 := Cells.frozen C7.out.x 12
  have hgl := C7.out.x.lt
  go_wp2_with fail
  have S8 := Lib.hid (show PX wb (U7.setCell ⟨g, 12, none⟩ (.int .i64 (idn : Int))) g g0 p B #[.int .i64 (C : Int), .int .i64 (L : Int), .int .i64 (H : Int), .int .i64 (f1 : Int), .bool b1, .int .u64 (sh : Int), .int .u64 (sl : Int), .bool b2, .int .u64 (dh : Int), .int .u64 (dl : Int), .slice A n cap, .bool true, .int .i64 (idn : Int), .int .i64 (wo : Int), .bool bm, .string ⟨#[]⟩] l4 e4 A n cap ex from C7.out.set 12 (.int .i64 (idn : Int)) rfl)
  clear x12 z12 hgl C7
  generalize U7.setCell ⟨g, 12, none⟩ (.int .i64 (idn : Int)) = V8 at *
  go_end0
  rw [← HBM.out, ← HWO.out]
  exact ⟨⟨_, rfl⟩, S8.out⟩
end Go.Proofs.Ytjjldolafnfpoaa

/- Contract of the program of layer 12: readExt. -/
namespace Go.Proofs.Ytjjldolafnfpoaa
open Go.ChangeShapes Go.WideShapes Go.ChangeAt Go.RowKit
set_option linter.unusedVariables false

set_option maxHeartbeats 8000000 in
set_option maxRecDepth 100000 in
theorem pext12_any (wb W : World) (g g0 p B C L H sh sl dh dl : Nat) (b1 b2 : Bool) (k : Int) (id off : Int) (mo : Bool) (l l1 l2 l3 T : List UInt8) (err n1 u e1 e2 e3 : Nat) (A : Option Addr) (n cap : Nat) (ex : List OpR) (h : PX wb W g g0 p B #[.int .i64 (C : Int), .int .i64 (L : Int), .int .i64 (H : Int), .int .i64 k, .bool b1, .int .u64 (sh : Int), .int .u64 (sl : Int), .bool b2, .int .u64 (dh : Int), .int .u64 (dl : Int), .slice A n cap, .bool false, .int .i64 id, .int .i64 off, .bool mo, .string ⟨#[]⟩] l err A n cap ex) (hn : n ≤ 7)
    (hq1 : rdI l err 1 = (n1, l1, e1)) (hq2 : rdI l1 e1 1 = (u, l2, e2)) (hq3 : rdT l2 e2 (6 + u * 8) = (T, l3, e3)) :
    Calls Try.prog 49 #[.pointer (some ⟨p, 0, none⟩), .pointer (some ⟨g, 0, none⟩)] W fun e w' => ∃ A' cap', (∃ v, e = .returned v) ∧ PX wb w' g g0 p B #[.int .i64 (C : Int), .int .i64 (L : Int), .int .i64 (H : Int), .int .i64 (n1 : Int), .bool b1, .int .u64 (sh : Int), .int .u64 (sl : Int), .bool b2, .int .u64 (dh : Int), .int .u64 (dl : Int), .slice A' (n + 1) cap', .bool false, .int .i64 id, .int .i64 off, .bool mo, .string ⟨#[]⟩] l3 e3 A' (n + 1) cap' (ex ++ [⟨k, T⟩]) := by
  have hlt1 := rdI_lt l err 1
  rw [hq1] at hlt1
  have hlt2 := rdI_lt l1 e1 1
  rw [hq2] at hlt2
  simp only at hlt1 hlt2
  have hn1 : n1 < 256 := by omega
  have hu : u < 256 := by omega
  obtain ⟨u8, hu8⟩ : ∃ x, x = u * 8 := ⟨_, rfl⟩
  obtain ⟨m, hm⟩ : ∃ x, x = 6 + u8 := ⟨_, rfl⟩
  have km1 : (u : Int) * 8 = (u8 : Int) := by omega
  have km2 : (6 : Int) + (u8 : Int) = (m : Int) := by omega
  have hml : m ≤ 2046 := by omega
  have hu8l : u8 ≤ 2040 := by omega
  rw [← hu8, ← hm] at hq3
  have HQ1 := Lib.hid hq1
  have HQ2 := Lib.hid hq2
  have HQ3 := Lib.hid hq3
  have H0 := Lib.hid h
  have x3 := (Cells.cell h.x 3).trans (show _ = some (Value.int .i64 k) from rfl)
  have hgl := h.x.lt
  clear hq1 hq2 hq3 hlt1 hlt2 h hu8 hm
  obtain ⟨ge, hge⟩ : ∃ q, q = W.heap.size := ⟨_, rfl⟩
  obtain ⟨W1, hW1⟩ : ∃ q, q = W.alloc (.cells #[.int .i64 k, .string { data := #[] }] 59) := ⟨_, rfl⟩
  have HE1 := Lib.hid (show Cells W1 ge 59 #[.int .i64 k, .string { data := #[] }] by rw [hW1, hge]; exact heap_alloc_new W _)
  have H1 := Lib.hid (show PX wb W1 g g0 p B #[.int .i64 (C : Int), .int .i64 (L : Int), .int .i64 (H : Int), .int .i64 k, .bool b1, .int .u64 (sh : Int), .int .u64 (sl : Int), .bool b2, .int .u64 (dh : Int), .int .u64 (dl : Int), .slice A n cap, .bool false, .int .i64 id, .int .i64 off, .bool mo, .string ⟨#[]⟩] l err A n cap ex by rw [hW1]; exact H0.out.below (below_alloc6 W _))
  have HPE := Lib.hid (show p < ge ∧ g < ge ∧ B ≤ ge by rw [hge]; have h1 := H0.out.rd.lt; have h2 := H0.out.bz; have h3 := H0.out.hg; have h4 := H0.out.lp; omega)
  have HG1 := Lib.hid (And.intro hW1.symm hge.symm)
  have HJ := Lib.hid (show ∀ c, (Value.slice A n cap).ownBlock = some c → c < ge from fun c hc => by rw [hge]; exact (own_blk_in H0.out.own c hc).2)
  clear hW1 hge
  go_enter Try.func49, Try.ntmps49
  go_upto_region 1 with fail
  rw [HG1.out.1, HG1.out.2]
  clear H0 x3 hgl HG1
  go_wp2_with fail
  refine (H1.out.int 1 1 rfl (by decide) (by decide)).mono ?_
  rintro e U2 ⟨rfl, h, hgr⟩
  rw [HQ1.out] at h ⊢
  have H2 := Lib.hid (show PX wb U2 g g0 p B #[.int .i64 (C : Int), .int .i64 (L : Int), .int .i64 (H : Int), .int .i64 k, .bool b1, .int .u64 (sh : Int), .int .u64 (sl : Int), .bool b2, .int .u64 (dh : Int), .int .u64 (dl : Int), .slice A n cap, .bool false, .int .i64 id, .int .i64 off, .bool mo, .string ⟨#[]⟩] l1 e1 A n cap ex from h)
  have HE2 := Lib.hid (HE1.out.only hgr (by intro e; injection e with e; have := HPE.out; omega))
  clear h hgr H1 HE1 HQ1
  dsimp only
  have x3 := (Cells.cell H2.out.x 3).trans (show _ = some (Value.int .i64 k) from rfl)
  have z3 := Cells.frozen H2.out.x 3
  have hgl := H2.out.x.lt
  go_wp2_with fail
  have H3 := Lib.hid (show PX wb (U2.setCell ⟨g, 3, none⟩ (.int .i64 (n1 : Int))) g g0 p B #[.int .i64 (C : Int), .int .i64 (L : Int), .int .i64 (H : Int), .int .i64 (n1 : Int), .bool b1, .int .u64 (sh : Int), .int .u64 (sl : Int), .bool b2, .int .u64 (dh : Int), .int .u64 (dl : Int), .slice A n cap, .bool false, .int .i64 id, .int .i64 off, .bool mo, .string ⟨#[]⟩] l1 e1 A n cap ex from H2.out.set 3 (.int .i64 (n1 : Int)) rfl)
  have HE3 := Lib.hid (HE2.out.far (b := g) (i := 3) (by have := HPE.out; omega) (.int .i64 (n1 : Int)))
  clear x3 z3 hgl H2 HE2
  generalize U2.setCell ⟨g, 3, none⟩ (.int .i64 (n1 : Int)) = V3 at *
  refine (H3.out.int 1 1 rfl (by decide) (by decide)).mono ?_
  rintro e U4 ⟨rfl, h, hgr⟩
  rw [HQ2.out] at h ⊢
  have H4 := Lib.hid (show PX wb U4 g g0 p B #[.int .i64 (C : Int), .int .i64 (L : Int), .int .i64 (H : Int), .int .i64 (n1 : Int), .bool b1, .int .u64 (sh : Int), .int .u64 (sl : Int), .bool b2, .int .u64 (dh : Int), .int .u64 (dl : Int), .slice A n cap, .bool false, .int .i64 id, .int .i64 off, .bool mo, .string ⟨#[]⟩] l2 e2 A n cap ex from h)
  have HE4 := Lib.hid (HE3.out.only hgr (by intro e; injection e with e; have := HPE.out; omega))
  clear h hgr H3 HE3 HQ2
  dsimp only
  go_wp2_with fail
  refine (H4.out.take m (m : Int) rfl).mono ?_
  rintro e U5 ⟨rfl, h, hgr⟩
  rw [HQ3.out] at h ⊢
  have H5 := Lib.hid (show PX wb U5 g g0 p B #[.int .i64 (C : Int), .int .i64 (L : Int), .int .i64 (H : Int), .int .i64 (n1 : Int), .bool b1, .int .u64 (sh : Int), .int .u64 (sl : Int), .bool b2, .int .u64 (dh : Int), .int .u64 (dl : Int), .slice A n cap, .bool false, .int .i64 id, .int .i64 off, .bool mo, .string ⟨#[]⟩] l3 e3 A n cap ex from h)
  have HE5 := Lib.hid (HE4.out.only hgr (by intro e; injection e with e; have := HPE.out; omega))
  clear h hgr H4 HE4 HQ3
  dsimp only
  obtain ⟨E, hE⟩ : ∃ E, E = str T := ⟨_, rfl⟩
  rw [← hE]
  have HEE := Lib.hid hE
  have x1 := (Cells.cell HE5.out 1).trans (show _ = some (Value.string { data := #[] }) from rfl)
  have z1 := Cells.frozen HE5.out 1
  have hgl := HE5.out.lt
  clear hE
  go_upto_region 4 with fail
  have HE6 := Lib.hid (show Cells (U5.setCell ⟨ge, 1, none⟩ (.string E)) ge 59 #[.int .i64 k, .string E] from HE5.out.set 1 (.string E))
  have H6 := Lib.hid (show PX wb (U5.setCell ⟨ge, 1, none⟩ (.string E)) g g0 p B #[.int .i64 (C : Int), .int .i64 (L : Int), .int .i64 (H : Int), .int .i64 (n1 : Int), .bool b1, .int .u64 (sh : Int), .int .u64 (sl : Int), .bool b2, .int .u64 (dh : Int), .int .u64 (dl : Int), .slice A n cap, .bool false, .int .i64 id, .int .i64 off, .bool mo, .string ⟨#[]⟩] l3 e3 A n cap ex from by
    have hx := H5.out
    have hp := HPE.out
    exact ⟨hx.rd.set (by have := hx.rd.lt; omega) _, hx.x.far (by omega) _, hx.res.far (by have := hx.lp; omega) _, own_only hx.own (only_set ..) (fun c hc e => by injection e with e; have := HJ.out c hc; omega), hx.len, hx.bel.setCell (p := ⟨ge, 1, none⟩) (by have := hx.lo; simp only; omega) _, hx.lo, hx.hg, hx.lp, hx.ll, hx.no, by simpa [World.setCell] using hx.bz⟩)
  clear x1 z1 hgl H5 HE5
  generalize U5.setCell ⟨ge, 1, none⟩ (.string E) = V6 at *
  have x10 := (Cells.cell H6.out.x 10).trans (show _ = some (Value.slice A n cap) from rfl)
  have z10 := Cells.frozen H6.out.x 10
  have hgl := H6.out.x.lt
  have c0 := (Cells.cell HE6.out 0).trans (show _ = some (Value.int .i64 k) from rfl)
  have c1 := (Cells.cell HE6.out 1).trans (show _ = some (Value.string E) from rfl)
  have HROW := Lib.hid (show EOpt.cells [⟨k, T⟩] = [.int .i64 k, .string E] by rw [EOpt.cells_one]; rw [HEE.out]; rfl)
  have HOA := Lib.hid ((H6.out.own.alloc (.cells #[.int .i64 k, .string E] 59)).drew)
  have HBA := Lib.hid (show B ≤ ((V6.alloc (.cells #[.int .i64 k, .string E] 59)).drew).heap.size by
    have h1 := H6.out.bz
    have h2 : ((V6.alloc (.cells #[.int .i64 k, .string E] 59)).drew).heap.size = V6.heap.size + 1 := by
      show (V6.alloc _).heap.size = _
      simp
    omega)
  go_region_law (first
    | (refine step_push (E := EOpt) extTy (by rfl) _ _ (by rfl) B (.slice A n cap) n ex [⟨k, T⟩] (by rfl) HOA.out V6.heap.size 1 1 #[.int .i64 k, .string E] (0, 0) (by rfl) (heap_alloc_new V6 _) (HROW.out.symm) rfl (by omega) (by omega) (by decide) HBA.out ?_; intro g2 cap2 wz hown hgrow hat hlt2; have hx9 := Cells.only (Cells.drew (Cells.kept H6.out.x (below_alloc6 V6 (.cells #[.int .i64 k, .string E] 59)) hgl)) hgrow (fun e => by have h7 := (own_blk_in H6.out.own _ e.symm).1; have h8 := H6.out.rd.lt; have h9 := H6.out.lp; have h10 := H6.out.hg; omega); have i10 := (Cells.cell hx9 10).trans (show _ = some (Value.slice A n cap) from rfl); have j10 := Cells.frozen hx9 10; have jl := Cells.lt hx9))
  all_goals
    have hHX := H6.out
    have hb1 := below_alloc6 V6 (.cells #[.int .i64 k, .string E] 59)
    have hrow9 : ∀ j, (Value.slice A n cap).ownBlock = some j → B ≤ j := fun j hj => (own_blk_in hHX.own _ hj).1
    have hrd9 : RdB wz B p l3 (e3 : Int) := (show RdB ((V6.alloc (.cells #[.int .i64 k, .string E] 59)).drew) B p l3 (e3 : Int) from hHX.rd.kept hb1.drew hHX.bz).grown hgrow HBA.out hrow9
    have hres9 := Cells.only (Cells.drew (Cells.kept hHX.res hb1 hHX.res.lt)) hgrow (fun e => by have h7 := hrow9 _ e.symm; have h8 := hHX.rd.lt; have h9 := hHX.lp; omega)
    have hbel9 := (hHX.bel.trans (hb1.mono hHX.bel.size)).grown (show (V6.alloc (.cells #[.int .i64 k, .string E] 59)).grownBy wz _ from ⟨hgrow.os, hgrow.tape, hgrow.output, hgrow.size, hgrow.block⟩) (by have := hHX.bel.size; simp; omega) (fun j hj => by have h7 := hrow9 j hj; have h8 := hHX.rd.lt; have h9 := hHX.lp; have h10 := hHX.hg; have h11 := hHX.lo; omega)
    have hbz9 : B ≤ (wz.setCell ⟨g, 10, none⟩ (.slice (some ⟨g2, 0, none⟩) (n + 1) cap2)).heap.size := by
      have h1 := hgrow.size
      have h2 := HBA.out
      have h3 : (wz.setCell ⟨g, 10, none⟩ (.slice (some ⟨g2, 0, none⟩) (n + 1) cap2)).heap.size = wz.heap.size := by simp [World.setCell]
      omega
    have HF := Lib.hid (show PX wb (wz.setCell ⟨g, 10, none⟩ (.slice (some ⟨g2, 0, none⟩) (n + 1) cap2)) g g0 p B #[.int .i64 (C : Int), .int .i64 (L : Int), .int .i64 (H : Int), .int .i64 (n1 : Int), .bool b1, .int .u64 (sh : Int), .int .u64 (sl : Int), .bool b2, .int .u64 (dh : Int), .int .u64 (dl : Int), .slice (some ⟨g2, 0, none⟩) (n + 1) cap2, .bool false, .int .i64 id, .int .i64 off, .bool mo, .string ⟨#[]⟩] l3 e3 (some ⟨g2, 0, none⟩) (n + 1) cap2 (ex ++ [⟨k, T⟩]) from
      ⟨hrd9.far hx9 hHX.no (by have h1 := hHX.hg; have h2 := hHX.lp; omega) _, hx9.set 10 _, hres9.far (by have h1 := hHX.hg; omega) _, own_setb hown (by have h1 := hHX.hg; have h2 := hHX.lp; have h3 := hHX.rd.lt; omega) _, by rw [List.length_append, ← hHX.len]; rfl, hbel9.setCell (p := ⟨g, 10, none⟩) hHX.lo _, hHX.lo, hHX.hg, hHX.lp, hHX.ll, rfl, hbz9⟩)
    clear hown hgrow hat hlt2 hx9 i10 j10 jl hHX hb1 hrow9 hrd9 hres9 hbel9 hbz9
    go_wp2_with fail
    go_end0
    exact ⟨_, _, ⟨_, rfl⟩, HF.out⟩
end Go.Proofs.Ytjjldolafnfpoaa
