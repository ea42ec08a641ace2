/- A string copied into the bytes of a Hash that wait. -/
import Derived.Test.YtbejdfjioanjlaaDoorShaEach
import Derived.Test.YtbejdfjioanjlaaDoorRef2
import Derived.Lib.LazyBuf
namespace Go.Proofs.YtbejdfjioanjlaaDoor
open Go.ChangeShapes Go.WideShapes Go.ChangeAt Go.RowKit

/-- The bytes bs laid over P from place o on. -/
def lay (P : List UInt8) (o : Nat) (bs : List UInt8) : List UInt8 := (List.range 64).map fun i => if o ≤ i ∧ i < o + bs.length then bs.getD (i - o) 0 else P.getD i 0
theorem lay_length (P : List UInt8) (o : Nat) (bs : List UInt8) : (lay P o bs).length = 64 := by simp [lay]
theorem lay_getD (P : List UInt8) (o : Nat) (bs : List UInt8) {i : Nat} (h : i < 64) : (lay P o bs).getD i 0 = if o ≤ i ∧ i < o + bs.length then bs.getD (i - o) 0 else P.getD i 0 := by
  unfold lay
  rw [List.getD_eq_getElem?_getD, List.getElem?_map, List.getElem?_range h]
  rfl

theorem rowIs_setCells {g : Nat} {t : TypeId} {n : Nat} : ∀ (vs : List Value) (o : Nat) (w : World) (f : Nat → Value), w.rowIs g t n f → (w.setCells g o vs).rowIs g t n (fun x => if o ≤ x ∧ x < o + vs.length then vs.getD (x - o) undef else f x)
  | [], _, _, _, h => h.congr (fun x _ => by rw [if_neg (by simp)])
  | v :: r, o, w, f, h => by
    have := rowIs_setCells r (o + 1) _ _ (h.set o v)
    refine World.rowIs.congr this (fun x _ => ?_)
    simp only [List.length_cons]
    by_cases e : x = o
    · subst e
      rw [if_neg (by omega), if_pos rfl, if_pos (by omega)]
      simp
    · by_cases e2 : o + 1 ≤ x ∧ x < o + 1 + r.length
      · rw [if_pos e2, if_pos (by omega)]
        obtain ⟨y, hy⟩ : ∃ y, x - o = y + 1 := ⟨x - o - 1, by omega⟩
        rw [hy, show x - (o + 1) = y by omega]
        simp
      · rw [if_neg e2, if_neg e, if_neg (by omega)]
theorem but_setCells {g : Nat} : ∀ (vs : List Value) (o : Nat) (a w : World), a.grownBy w (some g) → a.grownBy (w.setCells g o vs) (some g)
  | [], _, _, _, h => h
  | v :: r, o, a, _, h => but_setCells r (o + 1) a _ (but_setCell h o v)

theorem HH.splice {w : World} {g : Nat} {S : St} {P : List UInt8} {n : Nat} (h : HH w g S P n) (o : Nat) (bs : List UInt8) (hfit : o + bs.length ≤ 64) : HH (w.setCells g (8 + o) (cellsOf bs)) g S (lay P o bs) n := by
  refine (rowIs_setCells (cellsOf bs) (8 + o) w _ h).congr (fun x hx => ?_)
  rw [cellsOf_length]
  unfold hcell
  by_cases h1 : 8 + o ≤ x ∧ x < 8 + o + bs.length
  · rw [if_pos h1, if_neg (by omega), if_pos (by omega), lay_getD _ _ _ (by omega), if_pos (by omega)]
    unfold cellsOf
    have hx2 : x - (8 + o) < bs.length := by omega
    rw [List.getD_eq_getElem?_getD, List.getElem?_map, List.getElem?_eq_getElem hx2, show x - 8 - o = x - (8 + o) by omega, List.getD_eq_getElem?_getD, List.getElem?_eq_getElem hx2]
    rfl
  · rw [if_neg h1]
    by_cases h8 : x < 8
    · rw [if_pos h8, if_pos h8]
    · rw [if_neg h8, if_neg h8]
      by_cases h72 : x < 72
      · rw [if_pos h72, if_pos h72, lay_getD _ _ _ (by omega), if_neg (by omega)]
      · rw [if_neg h72, if_neg h72]
theorem HH.counted {w : World} {g : Nat} {S : St} {P : List UInt8} {n : Nat} (h : HH w g S P n) (m : Nat) : HH (w.setCell ⟨g, 72, none⟩ (.int .i64 m)) g S P m := by
  refine (World.rowIs.set h 72 (.int .i64 m)).congr (fun x hx => ?_)
  unfold hcell
  by_cases h8 : x < 8
  · rw [if_neg (show x ≠ 72 by omega), if_pos h8, if_pos h8]
  · by_cases h72 : x < 72
    · rw [if_neg (show x ≠ 72 by omega), if_neg h8, if_neg h8, if_pos h72, if_pos h72]
    · rw [if_pos (show x = 72 by omega), if_neg h8, if_neg h72]

/-- 'copy(dst, s)' from a string of whatever length into a Hash's bytes that wait. -/
theorem run_copy_hash {w : World} {g : Nat} {S : St} {P : List UInt8} {n : Nat} (h : HH w g S P n) (ty : TypeId) (o : Nat) (ho : o ≤ 64) (dCap : Nat) (s : ByteArray) (k : Nat) (hk : Nat.min s.size (64 - o) = k) :
    (Builtin.copy_ #[27, 9] ty #[.slice (some ⟨g, 8 + o, none⟩) (64 - o) dCap, .string s]).run Tryd.prog w = .ok (.int .i64 (k : Int)) (w.setCells g (8 + o) (cellsOf (s.data.toList.take k))) := by
  have hk1 : k ≤ s.size := by rw [← hk]; exact Nat.min_le_left _ _
  have hk2 : k ≤ 64 - o := by rw [← hk]; exact Nat.min_le_right _ _
  have hz : ∀ w, (Go.sizeOf 5).run Tryd.prog w = .ok 1 w := fun _ => by kernel_rfl
  have hl : (cellsOf (s.data.toList.take k)).length = k := by rw [cellsOf_length, List.length_take]; simp; omega
  have hst := run_storeCells_cells (P := Tryd.prog) g (8 + o) (cellsOf (s.data.toList.take k)) 0 w (fun j hj => by
      rw [hl] at hj
      have := h.byte (show o + j < 64 by omega)
      rw [show 8 + o + 0 + j = 8 + (o + j) by omega, this]; rfl) (fun j hj => h.frozen _) (by
    intro v hv
    obtain ⟨x, _, rfl⟩ := List.mem_map.1 hv
    rfl)
  simp [Builtin.copy_, run_underlying Tryd.underlying27, Builtin.lenOf, Builtin.firstCells, hz, hk]
  unfold cellsOf at hst ⊢
  simp at hst
  rw [hst]
  simp [Result.andThen, goInt]

/-- At the list of a plain region. -/
theorem wpList_copy_hash {w : World} {ops : Array Oper} {more : List Oper} {o : Oper} {a : Act} {Q : Exit → Act → World → Prop} (hgd : o.guard = none) (d x : Operand)
    (hop : o.op = .call { callee := .builtin .copy, args := #[d, x], argTypes := #[27, 9] }) {g : Nat} {S : St} {P : List UInt8} {n : Nat} (h : HH w g S P n) (off : Nat) (hoff : off ≤ 64) (dCap : Nat) (s : ByteArray) (k : Nat) (hk : Nat.min s.size (64 - off) = k)
    (hd : a.eval d = .slice (some ⟨g, 8 + off, none⟩) (64 - off) dCap) (hx : a.eval x = .string s)
    (hK : wpList Tryd.prog ops Q more (a.put o.dst (.int .i64 (k : Int))) (w.setCells g (8 + off) (cellsOf (s.data.toList.take k)))) : wpList Tryd.prog ops Q (o :: more) a w := by
  refine wpList_plain hgd fun K hK' => ?_
  have hrun := run_copy_hash h o.type off hoff dCap s k hk
  unfold Oper.wp
  simp [execOp, hop, resolve, invoke, builtin, hd, hx, hrun, Result.andThen]
  exact hK' _ _ hK
end Go.Proofs.YtbejdfjioanjlaaDoor
