/- Plain mathematics: how far a token reaches; which errors there are. -/
import Derived.Test.YtcakdgfkepdpkaaLexTokAt
namespace Go.Proofs.Ytcakdgfkepdpkaa
open Go.ChangeShapes Go.WideShapes Go.ChangeAt Go.RowKit

def resOk {α : Type} (lo hi : Nat) : Res α → Prop
  | .ok _ n => lo < n ∧ n ≤ hi
  | .err e _ => e = 3 ∨ e = 5 ∨ e = 14
theorem resOk.mono {α : Type} {lo hi lo' hi' : Nat} {r : Res α} (h : resOk lo hi r) (h1 : lo' ≤ lo) (h2 : hi ≤ hi') : resOk lo' hi' r := by
  cases r with
  | ok v n => exact ⟨Nat.lt_of_le_of_lt h1 h.1, Nat.le_trans h.2 h2⟩
  | err e n => exact h
theorem lit_ok (st : Nat) : ∀ (L : List UInt8) (m : Md) (out : List UInt8) (off : Nat), resOk off (off + L.length) (lit st m out off L)
  | [], m, out, off => by cases m <;> exact .inr (.inr rfl)
  | c :: r, m, out, off => by
    have rc : ∀ m' out', resOk off (off + (c :: r).length) (lit st m' out' (off + 1) r) := fun m' out' =>
      (lit_ok st r m' out' (off + 1)).mono (by omega) (by simp; omega)
    cases m with
    | plain =>
      rw [lit]
      split
      · split
        · exact .inl rfl
        · exact ⟨by omega, by simp⟩
      split
      · exact rc _ _
      split
      · exact rc _ _
      split
      · exact .inr (.inr rfl)
      · exact rc _ _
    | esc =>
      rw [lit]
      split
      · exact rc _ _
      · exact .inr (.inr rfl)
    | g1 =>
      rw [lit]
      split
      · exact rc _ _
      · exact .inr (.inr rfl)
    | g2 h =>
      rw [lit]
      split
      · exact rc _ _
      · exact .inr (.inr rfl)
    | g3 =>
      rw [lit]
      split
      · exact rc _ _
      split
      · exact rc _ _
      · exact .inr (.inr rfl)
theorem tw_length_le (L : List UInt8) (p : UInt8 → Bool) : (L.takeWhile p).length ≤ L.length := (List.takeWhile_prefix p).length_le
theorem markOf_le (L : List UInt8) : (markOf L).length ≤ L.length := by
  rw [markOf_eq]
  split
  · rw [List.length_take]; omega
  split
  · rw [List.length_take]; omega
  · simp
theorem tok_ok (L : List UInt8) (off : Nat) (h : 0 < L.length) : resOk off (off + L.length) (tokAt L off) := by
  cases L with
  | nil => exact absurd h (by simp)
  | cons c r =>
    rw [tok_eq]
    split
    · rename_i hw
      unfold wordT
      split
      · exact .inl rfl
      · have := tw_length_le (c :: r) wordB
        refine ⟨?_, by omega⟩
        rw [List.takeWhile_cons, if_pos hw]
        simp
    split
    · unfold varT
      split
      · have := tw_length_le r nameB
        exact ⟨by omega, by simp; omega⟩
      · exact .inr (.inl rfl)
    split
    · have := lit_ok off r .plain [] (off + 1)
      unfold strR
      cases hl : lit off .plain [] (off + 1) r with
      | ok t n =>
        rw [hl] at this
        exact ⟨by have := this.1; omega, by have := this.2; simp; omega⟩
      | err e n =>
        rw [hl] at this
        exact this
    · have := markOf_le (c :: r)
      unfold markT
      cases hM : markOf (c :: r) with
      | nil => exact .inr (.inr rfl)
      | cons x y =>
        rw [hM] at this
        exact ⟨by simp, by simp at this ⊢; omega⟩
theorem skp_le : ∀ (L : List UInt8) (b : Bool), skp b L ≤ L.length
  | [], b => by cases b <;> simp [skp]
  | c :: r, b => by
    rw [skp_cons]
    split
    · have := skp_le r (cmtB b c)
      simp; omega
    · simp
end Go.Proofs.Ytcakdgfkepdpkaa
