/- A Hash in memory; the table of constants; what a call leaves as it was. -/
import Derived.Test.YtbejdfjioanjlaaDoorShaSched
namespace Go.Proofs.YtbejdfjioanjlaaDoor
open Go.ChangeShapes Go.WideShapes Go.ChangeAt Go.RowKit

/-- The variable holds the constants. -/
def Kt (w : World) : Prop := ∃ cs t fr, w.heap[0]? = some (.cells cs t fr) ∧ ∀ x, x < 64 → cs[x]? = some (.int .u32 (KL.getD x 0 : Nat))
theorem Kt.lt {w : World} (h : Kt w) : 0 < w.heap.size := by
  obtain ⟨cs, t, fr, hg, _⟩ := h
  obtain ⟨hlt, _⟩ := Array.getElem?_eq_some_iff.1 hg
  exact hlt
theorem Kt.of_block {w w' : World} (h : Kt w) (e : w'.heap[0]? = w.heap[0]?) : Kt w' := by
  obtain ⟨cs, t, fr, hg, hc⟩ := h
  exact ⟨cs, t, fr, e.trans hg, hc⟩
theorem Kt.kept {w w' : World} (h : Kt w) (hb : Below w.heap.size w w') : Kt w' := h.of_block (hb.block _ h.lt)
theorem Kt.alloc {w : World} (h : Kt w) (o : Obj) : Kt (w.alloc o) := h.kept ((Below.refl _ _).alloc (Nat.le_refl _) _)
theorem Kt.only {w w' : World} {g : Nat} (h : Kt w) (hg : w.grownBy w' (some g)) (hne : g ≠ 0) : Kt w' := h.of_block (hg.block _ h.lt (by intro e; injection e with e; exact hne e.symm))
theorem Kt.cell {w : World} (h : Kt w) {x : Nat} (hx : x < 64) : w.cell? ⟨0, x, none⟩ = some (.int .u32 (KL.getD x 0 : Nat)) := by
  obtain ⟨cs, t, fr, hg, hc⟩ := h
  simp [World.cell?, hg, hc x hx]

/-- The cells of a Hash: the state, the bytes that wait, the length. -/
def hcell (S : St) (P : List UInt8) (n : Nat) (x : Nat) : Value := if x < 8 then .int .u32 (S.get x : Nat) else if x < 72 then .int .u8 ((P.getD (x - 8) 0).toNat : Nat) else .int .i64 n
/-- Block g is a Hash with these. -/
def HH (w : World) (g : Nat) (S : St) (P : List UInt8) (n : Nat) : Prop := w.rowIs g 46 73 (hcell S P n)
theorem HH.lt {w : World} {g : Nat} {S : St} {P : List UInt8} {n : Nat} (h : HH w g S P n) : g < w.heap.size := World.rowIs.lt h
theorem HH.frozen {w : World} {g : Nat} {S : St} {P : List UInt8} {n : Nat} (h : HH w g S P n) (i : Nat) : w.frozen? ⟨g, i, none⟩ = false := World.rowIs.frozen h i
theorem HH.word {w : World} {g : Nat} {S : St} {P : List UInt8} {n : Nat} (h : HH w g S P n) {i : Nat} (hi : i < 8) : w.cell? ⟨g, i, none⟩ = some (.int .u32 (S.get i : Nat)) := by
  have := World.rowIs.cell h (show i < 73 by omega)
  rw [this, hcell, if_pos hi]
theorem HH.byte {w : World} {g : Nat} {S : St} {P : List UInt8} {n : Nat} (h : HH w g S P n) {i : Nat} (hi : i < 64) : w.cell? ⟨g, 8 + i, none⟩ = some (.int .u8 ((P.getD i 0).toNat : Nat)) := by
  have := World.rowIs.cell h (show 8 + i < 73 by omega)
  rw [this, hcell, if_neg (by omega), if_pos (by omega), show 8 + i - 8 = i by omega]
theorem HH.count {w : World} {g : Nat} {S : St} {P : List UInt8} {n : Nat} (h : HH w g S P n) : w.cell? ⟨g, 72, none⟩ = some (.int .i64 n) := by
  have := World.rowIs.cell h (show 72 < 73 by omega)
  rw [this, hcell, if_neg (by omega), if_neg (by omega)]
theorem HH.of_block {w w' : World} {g : Nat} {S : St} {P : List UInt8} {n : Nat} (h : HH w g S P n) (e : w'.heap[g]? = w.heap[g]?) : HH w' g S P n := World.rowIs.of_block h e
theorem HH.kept {w w' : World} {g : Nat} {S : St} {P : List UInt8} {n : Nat} (h : HH w g S P n) (hb : Below w.heap.size w w') : HH w' g S P n := h.of_block (hb.block _ h.lt)
theorem HH.only {w w' : World} {g k : Nat} {S : St} {P : List UInt8} {n : Nat} (h : HH w g S P n) (hg : w.grownBy w' (some k)) (hne : g ≠ k) : HH w' g S P n := h.of_block (hg.block _ h.lt (by intro e; injection e with e; exact hne e))

/-- One word of the state turned. -/
def St.put (S : St) (i v : Nat) : St := ⟨if i = 0 then v else S.a, if i = 1 then v else S.b, if i = 2 then v else S.c, if i = 3 then v else S.d, if i = 4 then v else S.e, if i = 5 then v else S.f, if i = 6 then v else S.g, if i = 7 then v else S.h⟩
theorem St.get_put (S : St) (i v : Nat) (hi : i < 8) (x : Nat) (hx : x < 8) : (S.put i v).get x = if x = i then v else S.get x := by
  have h : ∀ i x : Fin 8, ∀ v a b c d e f g h : Nat, ((⟨a, b, c, d, e, f, g, h⟩ : St).put i.1 v).get x.1 = if x.1 = i.1 then v else (⟨a, b, c, d, e, f, g, h⟩ : St).get x.1 := by
    intro i x
    match i, x with
    | ⟨i, hi⟩, ⟨x, hx⟩ =>
      intro v a b c d e f g h
      match x, hx with
      | 0, _ => simp only [St.put, St.get, eq_comm]
      | 1, _ => simp only [St.put, St.get, eq_comm]
      | 2, _ => simp only [St.put, St.get, eq_comm]
      | 3, _ => simp only [St.put, St.get, eq_comm]
      | 4, _ => simp only [St.put, St.get, eq_comm]
      | 5, _ => simp only [St.put, St.get, eq_comm]
      | 6, _ => simp only [St.put, St.get, eq_comm]
      | 7, _ => simp only [St.put, St.get, eq_comm]
  obtain ⟨a, b, c, d, e, f, g, h'⟩ := S
  exact h ⟨i, hi⟩ ⟨x, hx⟩ v a b c d e f g h'
theorem HH.put {w : World} {g : Nat} {S : St} {P : List UInt8} {n : Nat} (h : HH w g S P n) {i : Nat} (hi : i < 8) (v : Nat) : HH (w.setCell ⟨g, i, none⟩ (.int .u32 v)) g (S.put i v) P n := by
  refine (World.rowIs.set h i (.int .u32 v)).congr (fun x hx => ?_)
  unfold hcell
  by_cases h8 : x < 8
  · rw [if_pos h8, St.get_put _ _ _ hi _ h8]
    by_cases e : x = i
    · rw [if_pos e, if_pos e, if_pos h8]
    · rw [if_neg e, if_neg e, if_pos h8]
  · rw [if_neg (show x ≠ i by omega), if_neg h8, if_neg h8]
theorem get_0 (sa sb sc sd se sf sg sh : Nat) : (⟨sa, sb, sc, sd, se, sf, sg, sh⟩ : St).get 0 = sa := rfl
theorem put_0 (sa sb sc sd se sf sg sh v : Nat) : (⟨sa, sb, sc, sd, se, sf, sg, sh⟩ : St).put 0 v = ⟨v, sb, sc, sd, se, sf, sg, sh⟩ := rfl
theorem HH.word0 {w : World} {g : Nat} {sa sb sc sd se sf sg sh : Nat} {P : List UInt8} {n : Nat} (h : HH w g ⟨sa, sb, sc, sd, se, sf, sg, sh⟩ P n) : w.cell? ⟨g, 0, none⟩ = some (.int .u32 (sa : Nat)) := by
  have := h.word (i := 0) (by decide)
  rw [get_0] at this
  exact this
theorem HH.put0 {w : World} {g : Nat} {sa sb sc sd se sf sg sh : Nat} {P : List UInt8} {n : Nat} (h : HH w g ⟨sa, sb, sc, sd, se, sf, sg, sh⟩ P n) (v : Nat) : HH (w.setCell ⟨g, 0, none⟩ (.int .u32 v)) g ⟨v, sb, sc, sd, se, sf, sg, sh⟩ P n := by
  have := h.put (i := 0) (by decide) v
  rw [put_0] at this
  exact this
theorem get_1 (sa sb sc sd se sf sg sh : Nat) : (⟨sa, sb, sc, sd, se, sf, sg, sh⟩ : St).get 1 = sb := rfl
theorem put_1 (sa sb sc sd se sf sg sh v : Nat) : (⟨sa, sb, sc, sd, se, sf, sg, sh⟩ : St).put 1 v = ⟨sa, v, sc, sd, se, sf, sg, sh⟩ := rfl
theorem HH.word1 {w : World} {g : Nat} {sa sb sc sd se sf sg sh : Nat} {P : List UInt8} {n : Nat} (h : HH w g ⟨sa, sb, sc, sd, se, sf, sg, sh⟩ P n) : w.cell? ⟨g, 1, none⟩ = some (.int .u32 (sb : Nat)) := by
  have := h.word (i := 1) (by decide)
  rw [get_1] at this
  exact this
theorem HH.put1 {w : World} {g : Nat} {sa sb sc sd se sf sg sh : Nat} {P : List UInt8} {n : Nat} (h : HH w g ⟨sa, sb, sc, sd, se, sf, sg, sh⟩ P n) (v : Nat) : HH (w.setCell ⟨g, 1, none⟩ (.int .u32 v)) g ⟨sa, v, sc, sd, se, sf, sg, sh⟩ P n := by
  have := h.put (i := 1) (by decide) v
  rw [put_1] at this
  exact this
theorem get_2 (sa sb sc sd se sf sg sh : Nat) : (⟨sa, sb, sc, sd, se, sf, sg, sh⟩ : St).get 2 = sc := rfl
theorem put_2 (sa sb sc sd se sf sg sh v : Nat) : (⟨sa, sb, sc, sd, se, sf, sg, sh⟩ : St).put 2 v = ⟨sa, sb, v, sd, se, sf, sg, sh⟩ := rfl
theorem HH.word2 {w : World} {g : Nat} {sa sb sc sd se sf sg sh : Nat} {P : List UInt8} {n : Nat} (h : HH w g ⟨sa, sb, sc, sd, se, sf, sg, sh⟩ P n) : w.cell? ⟨g, 2, none⟩ = some (.int .u32 (sc : Nat)) := by
  have := h.word (i := 2) (by decide)
  rw [get_2] at this
  exact this
theorem HH.put2 {w : World} {g : Nat} {sa sb sc sd se sf sg sh : Nat} {P : List UInt8} {n : Nat} (h : HH w g ⟨sa, sb, sc, sd, se, sf, sg, sh⟩ P n) (v : Nat) : HH (w.setCell ⟨g, 2, none⟩ (.int .u32 v)) g ⟨sa, sb, v, sd, se, sf, sg, sh⟩ P n := by
  have := h.put (i := 2) (by decide) v
  rw [put_2] at this
  exact this
theorem get_3 (sa sb sc sd se sf sg sh : Nat) : (⟨sa, sb, sc, sd, se, sf, sg, sh⟩ : St).get 3 = sd := rfl
theorem put_3 (sa sb sc sd se sf sg sh v : Nat) : (⟨sa, sb, sc, sd, se, sf, sg, sh⟩ : St).put 3 v = ⟨sa, sb, sc, v, se, sf, sg, sh⟩ := rfl
theorem HH.word3 {w : World} {g : Nat} {sa sb sc sd se sf sg sh : Nat} {P : List UInt8} {n : Nat} (h : HH w g ⟨sa, sb, sc, sd, se, sf, sg, sh⟩ P n) : w.cell? ⟨g, 3, none⟩ = some (.int .u32 (sd : Nat)) := by
  have := h.word (i := 3) (by decide)
  rw [get_3] at this
  exact this
theorem HH.put3 {w : World} {g : Nat} {sa sb sc sd se sf sg sh : Nat} {P : List UInt8} {n : Nat} (h : HH w g ⟨sa, sb, sc, sd, se, sf, sg, sh⟩ P n) (v : Nat) : HH (w.setCell ⟨g, 3, none⟩ (.int .u32 v)) g ⟨sa, sb, sc, v, se, sf, sg, sh⟩ P n := by
  have := h.put (i := 3) (by decide) v
  rw [put_3] at this
  exact this
theorem get_4 (sa sb sc sd se sf sg sh : Nat) : (⟨sa, sb, sc, sd, se, sf, sg, sh⟩ : St).get 4 = se := rfl
theorem put_4 (sa sb sc sd se sf sg sh v : Nat) : (⟨sa, sb, sc, sd, se, sf, sg, sh⟩ : St).put 4 v = ⟨sa, sb, sc, sd, v, sf, sg, sh⟩ := rfl
theorem HH.word4 {w : World} {g : Nat} {sa sb sc sd se sf sg sh : Nat} {P : List UInt8} {n : Nat} (h : HH w g ⟨sa, sb, sc, sd, se, sf, sg, sh⟩ P n) : w.cell? ⟨g, 4, none⟩ = some (.int .u32 (se : Nat)) := by
  have := h.word (i := 4) (by decide)
  rw [get_4] at this
  exact this
theorem HH.put4 {w : World} {g : Nat} {sa sb sc sd se sf sg sh : Nat} {P : List UInt8} {n : Nat} (h : HH w g ⟨sa, sb, sc, sd, se, sf, sg, sh⟩ P n) (v : Nat) : HH (w.setCell ⟨g, 4, none⟩ (.int .u32 v)) g ⟨sa, sb, sc, sd, v, sf, sg, sh⟩ P n := by
  have := h.put (i := 4) (by decide) v
  rw [put_4] at this
  exact this
theorem get_5 (sa sb sc sd se sf sg sh : Nat) : (⟨sa, sb, sc, sd, se, sf, sg, sh⟩ : St).get 5 = sf := rfl
theorem put_5 (sa sb sc sd se sf sg sh v : Nat) : (⟨sa, sb, sc, sd, se, sf, sg, sh⟩ : St).put 5 v = ⟨sa, sb, sc, sd, se, v, sg, sh⟩ := rfl
theorem HH.word5 {w : World} {g : Nat} {sa sb sc sd se sf sg sh : Nat} {P : List UInt8} {n : Nat} (h : HH w g ⟨sa, sb, sc, sd, se, sf, sg, sh⟩ P n) : w.cell? ⟨g, 5, none⟩ = some (.int .u32 (sf : Nat)) := by
  have := h.word (i := 5) (by decide)
  rw [get_5] at this
  exact this
theorem HH.put5 {w : World} {g : Nat} {sa sb sc sd se sf sg sh : Nat} {P : List UInt8} {n : Nat} (h : HH w g ⟨sa, sb, sc, sd, se, sf, sg, sh⟩ P n) (v : Nat) : HH (w.setCell ⟨g, 5, none⟩ (.int .u32 v)) g ⟨sa, sb, sc, sd, se, v, sg, sh⟩ P n := by
  have := h.put (i := 5) (by decide) v
  rw [put_5] at this
  exact this
theorem get_6 (sa sb sc sd se sf sg sh : Nat) : (⟨sa, sb, sc, sd, se, sf, sg, sh⟩ : St).get 6 = sg := rfl
theorem put_6 (sa sb sc sd se sf sg sh v : Nat) : (⟨sa, sb, sc, sd, se, sf, sg, sh⟩ : St).put 6 v = ⟨sa, sb, sc, sd, se, sf, v, sh⟩ := rfl
theorem HH.word6 {w : World} {g : Nat} {sa sb sc sd se sf sg sh : Nat} {P : List UInt8} {n : Nat} (h : HH w g ⟨sa, sb, sc, sd, se, sf, sg, sh⟩ P n) : w.cell? ⟨g, 6, none⟩ = some (.int .u32 (sg : Nat)) := by
  have := h.word (i := 6) (by decide)
  rw [get_6] at this
  exact this
theorem HH.put6 {w : World} {g : Nat} {sa sb sc sd se sf sg sh : Nat} {P : List UInt8} {n : Nat} (h : HH w g ⟨sa, sb, sc, sd, se, sf, sg, sh⟩ P n) (v : Nat) : HH (w.setCell ⟨g, 6, none⟩ (.int .u32 v)) g ⟨sa, sb, sc, sd, se, sf, v, sh⟩ P n := by
  have := h.put (i := 6) (by decide) v
  rw [put_6] at this
  exact this
theorem get_7 (sa sb sc sd se sf sg sh : Nat) : (⟨sa, sb, sc, sd, se, sf, sg, sh⟩ : St).get 7 = sh := rfl
theorem put_7 (sa sb sc sd se sf sg sh v : Nat) : (⟨sa, sb, sc, sd, se, sf, sg, sh⟩ : St).put 7 v = ⟨sa, sb, sc, sd, se, sf, sg, v⟩ := rfl
theorem HH.word7 {w : World} {g : Nat} {sa sb sc sd se sf sg sh : Nat} {P : List UInt8} {n : Nat} (h : HH w g ⟨sa, sb, sc, sd, se, sf, sg, sh⟩ P n) : w.cell? ⟨g, 7, none⟩ = some (.int .u32 (sh : Nat)) := by
  have := h.word (i := 7) (by decide)
  rw [get_7] at this
  exact this
theorem HH.put7 {w : World} {g : Nat} {sa sb sc sd se sf sg sh : Nat} {P : List UInt8} {n : Nat} (h : HH w g ⟨sa, sb, sc, sd, se, sf, sg, sh⟩ P n) (v : Nat) : HH (w.setCell ⟨g, 7, none⟩ (.int .u32 v)) g ⟨sa, sb, sc, sd, se, sf, sg, v⟩ P n := by
  have := h.put (i := 7) (by decide) v
  rw [put_7] at this
  exact this
theorem HH.drew {w : World} {g : Nat} {S : St} {P : List UInt8} {n : Nat} (h : HH w g S P n) : HH w.drew g S P n := h

theorem but_set (w : World) (g i : Nat) (u : Value) : w.grownBy (w.setCell ⟨g, i, none⟩ u) (some g) :=
  ⟨rfl, rfl, rfl, by simp [World.setCell], fun k _ hne => Below.heap_setCell w ⟨g, i, none⟩ u k (by intro e; exact hne (by rw [e]))⟩
theorem but_trans {a b c : World} {row : Option Nat} (h : a.grownBy b row) (k : b.grownBy c row) : a.grownBy c row :=
  ⟨k.os.trans h.os, k.tape.trans h.tape, k.output.trans h.output, Nat.le_trans h.size k.size, fun i hi hne => (k.block i (Nat.lt_of_lt_of_le hi h.size) hne).trans (h.block i hi hne)⟩
theorem but_refl (w : World) (row : Option Nat) : w.grownBy w row := ⟨rfl, rfl, rfl, Nat.le_refl _, fun _ _ _ => rfl⟩
theorem but_below {w w' : World} (h : Below w.heap.size w w') (row : Option Nat) : w.grownBy w' row := ⟨h.os, h.tape, h.output, h.size, fun k hk _ => h.block k hk⟩
theorem but_setCell {a w : World} {g : Nat} (h : a.grownBy w (some g)) (i : Nat) (u : Value) : a.grownBy (w.setCell ⟨g, i, none⟩ u) (some g) := but_trans h (but_set w g i u)
theorem but_drew {a w : World} {row : Option Nat} (h : a.grownBy w row) : a.grownBy w.drew row := ⟨h.os, h.tape, h.output, h.size, h.block⟩
theorem but_drewN {a w : World} {row : Option Nat} (h : a.grownBy w row) (q : Nat) : a.grownBy (w.drewN q) row := ⟨h.os, h.tape, h.output, h.size, h.block⟩
/-- A step that writes block p alone keeps what lies below a number up to p. -/
theorem below_but {B : Nat} {a w w' : World} {p : Nat} (h : Below B a w) (hg : w.grownBy w' (some p)) (hp : B ≤ p) (hB : B ≤ w.heap.size) : Below B a w' :=
  h.grown hg hB (fun k hk => by injection hk with hk; omega)
end Go.Proofs.YtbejdfjioanjlaaDoor
