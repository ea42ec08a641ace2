/- Plain mathematics: the tokens of a scan: the end is the last one alone; no text is longer than the scanned one. The lists of steps that the law about cursors takes. -/
import Derived.Test.YtcakdgfkepdpkaaLexCur
import Derived.Deep.SlicePairs
namespace Go.Proofs.Ytcakdgfkepdpkaa
open Go.ChangeShapes Go.WideShapes Go.ChangeAt Go.RowKit
set_option linter.unusedVariables false

theorem lit_len (st : Nat) : ∀ (L : List UInt8) (m : Md) (out : List UInt8) (off : Nat) (t : List UInt8) (n : Nat), lit st m out off L = .ok t n → t.length + off ≤ out.length + n
  | [], m, out, off, t, n, h => by cases m <;> cases h
  | c :: r, m, out, off, t, n, h => by
    cases m with
    | plain =>
      rw [lit] at h
      split at h
      · split at h
        · cases h
        · injection h with h1 h2
          subst h1; omega
      split at h
      · have := lit_len st r _ _ _ t n h; omega
      split at h
      · have := lit_len st r _ _ _ t n h; omega
      split at h
      · cases h
      · have := lit_len st r _ _ _ t n h; simp at this; omega
    | esc =>
      rw [lit] at h
      split at h
      · have := lit_len st r _ _ _ t n h; simp at this; omega
      · cases h
    | g1 =>
      rw [lit] at h
      split at h
      · have := lit_len st r _ _ _ t n h; omega
      · cases h
    | g2 d =>
      rw [lit] at h
      split at h
      · have := lit_len st r _ _ _ t n h; simp at this; omega
      · cases h
    | g3 =>
      rw [lit] at h
      split at h
      · have := lit_len st r _ _ _ t n h; omega
      split at h
      · have := lit_len st r _ _ _ t n h; omega
      · cases h
theorem tok_kind (L : List UInt8) (off : Nat) (t : Tok) (n : Nat) (h : tokAt L off = .ok t n) : t.kind ≠ 0 ∧ t.text.length + off ≤ n := by
  cases L with
  | nil => cases h
  | cons c r =>
    rw [tok_eq] at h
    split at h
    · unfold wordT at h
      split at h
      · cases h
      · injection h with h1 h2
        subst h1; exact ⟨by simp, by simp; omega⟩
    split at h
    · unfold varT at h
      split at h
      · injection h with h1 h2
        subst h1; exact ⟨by simp, by simp; omega⟩
      · cases h
    split at h
    · cases hl : lit off .plain [] (off + 1) r with
      | err e m => rw [hl] at h; cases h
      | ok x m =>
        rw [hl] at h
        have := lit_len _ _ _ _ _ _ _ hl
        injection h with h1 h2
        subst h1; exact ⟨by simp, by simp at this ⊢; omega⟩
    · unfold markT at h
      cases hM : markOf (c :: r) with
      | nil => rw [hM] at h; cases h
      | cons x y =>
        rw [hM] at h
        injection h with h1 h2
        subst h1; exact ⟨by simp, by simp at h2 ⊢; omega⟩
theorem scanL_good (L : List UInt8) : ∀ (f off : Nat) (out : List Tok) (l : List Tok) (m : Nat), scanL L f off out = .ok l m → off ≤ L.length → (∀ t ∈ out, t.kind ≠ 0 ∧ t.text.length ≤ L.length) → ∃ r, l = r ++ [⟨0, [], L.length⟩] ∧ ∀ t ∈ r, t.kind ≠ 0 ∧ t.text.length ≤ L.length
  | 0, off, out, l, m, h, _, _ => by cases h
  | f + 1, off, out, l, m, h, hoff, ho => by
    rw [scanL] at h
    split at h
    · rename_i hlt
      have hok := tok_ok (L.drop (off + skp false (L.drop off))) (off + skp false (L.drop off)) (by rw [List.length_drop]; omega)
      rw [List.length_drop] at hok
      split at h
      · rename_i t n ht
        rw [ht] at hok
        have hk := tok_kind _ _ _ _ ht
        have hn := hok.1
        have hn2 := hok.2
        refine scanL_good L f n (out ++ [t]) l m h (by omega) (fun x hx => ?_)
        rw [List.mem_append] at hx
        rcases hx with hx | hx
        · exact ho x hx
        · simp only [List.mem_singleton] at hx
          subst hx
          exact ⟨hk.1, by omega⟩
      · cases h
    · injection h with h1 h2
      exact ⟨out, h1.symm, ho⟩
theorem scanS_good {s : ByteArray} {l : List Tok} {n : Nat} (h : scanS s = .ok l n) (hs : s.size ≤ 16000) (hl : l.length ≤ 100000) : GL l ∧ ∀ (i : Nat) (t : Tok), l[i]? = some t → t.text.length ≤ 16000 := by
  unfold scanS at h
  rw [if_neg (by omega)] at h
  have hz : s.data.toList.length = s.size := by simp
  obtain ⟨r, hr, hg⟩ := scanL_good _ _ _ _ _ _ h (Nat.zero_le _) (by simp)
  have hlen : l.length = r.length + 1 := by rw [hr]; simp
  have key : ∀ i t, l[i]? = some t → (i < r.length ∧ t ∈ r) ∨ (i = r.length ∧ t = ⟨0, [], s.data.toList.length⟩) := fun i t ht => by
    by_cases hi : i < r.length
    · rw [hr, List.getElem?_append_left hi] at ht
      exact .inl ⟨hi, List.mem_of_getElem? ht⟩
    · have hil := (List.getElem?_eq_some_iff.1 ht).1
      have e : i = r.length := by omega
      rw [hr, List.getElem?_append_right (by omega), e, Nat.sub_self] at ht
      simp at ht
      exact .inr ⟨e, by rw [← ht]; simp⟩
  refine ⟨⟨hl, fun i t ht => ?_⟩, fun i t ht => ?_⟩
  · rcases key i t ht with ⟨hi, hm⟩ | ⟨hi, rfl⟩
    · constructor
      · exact fun e => absurd e (hg t hm).1
      · intro e; omega
    · constructor
      · intro _; omega
      · exact fun _ => rfl
  · rcases key i t ht with ⟨hi, hm⟩ | ⟨hi, rfl⟩
    · have := (hg t hm).2; omega
    · simp

/-- The steps that came in: kind K i, text T i. -/
def InSt (w : World) (A : Option Addr) (n : Nat) (K : Nat → Int) (T : Nat → ByteArray) : Prop :=
  0 < n → ∃ g o, A = some ⟨g, o, none⟩ ∧ g < w.heap.size ∧ ∀ i, i < n → w.cell? ⟨g, o + i * 2, none⟩ = some (.int .i64 (K i)) ∧ w.cell? ⟨g, o + i * 2 + 1, none⟩ = some (.string (T i))
theorem cellsStp : Try.prog.cellsOf 43 = 2 := by kernel_rfl
theorem cInt5 : Try.prog.cellsOf 3 = 1 := by kernel_rfl
theorem cStr5 : Try.prog.cellsOf 9 = 1 := by kernel_rfl
/-- What a value holds as a string. -/
def strOf : Value → ByteArray
  | .string s => s
  | _ => ⟨#[]⟩
theorem in_st {H : Type} {enc : TypeId × Value → H} {W : World} {base : Nat} {sp : Nat → Bool} {held : Bool} {A : Option Addr} {n cap : Nat} {d : DataW H} {p : List MemPlace}
    (h : DataW.Trod enc Try.prog W base sp held 40 (.slice A n cap) d p) : ∃ K T, InSt W A n K T ∧ n ≤ maxLen := by
  obtain ⟨fuel, hf⟩ := h
  rcases Go.Deep.open_slice_pairs Try.underlying40 Try.underlying43 cellsStp rfl rfl cInt5 cStr5 hf with ⟨hcs, _⟩ | ⟨a, l, c, m, k, V0, V1, D0, D1, P0, P1, hcs, _, hl, hm, hmm, _, hcell⟩
  · simp [Value.cells] at hcs
    obtain ⟨rfl, rfl, rfl⟩ := hcs
    exact ⟨fun _ => 0, fun _ => ⟨#[]⟩, fun h => absurd h (by omega), by simp [maxLen]⟩
  · simp [Value.cells] at hcs
    obtain ⟨rfl, rfl, rfl⟩ := hcs
    have hlm : n ≤ m := by rw [hmm]; split <;> omega
    refine ⟨fun i => intOf (V0 i), fun i => strOf (V1 i), fun hp => ?_, by omega⟩
    obtain ⟨b, off, spot⟩ := a
    have h0 := (hcell 0 (by omega)).1
    have hspot : spot = none := by simpa [Addr.add] using World.cell?_spot h0
    subst hspot
    have hlt := World.block_lt_of_cell? W _ h0
    refine ⟨b, off, rfl, by simpa [Addr.add] using hlt, fun i hi => ?_⟩
    obtain ⟨h1, h2, h3, h4⟩ := hcell i (by omega)
    obtain ⟨a0, e0, _, _⟩ := DataW.trod_int Try.underlying3 h3
    obtain ⟨s1, e1, _, _⟩ := DataW.trod_string Try.underlying9 h4
    simp at e0 e1
    rw [add_flat] at h1 h2
    exact ⟨by rw [h1]; simp [e0, intOf], by rw [Nat.add_assoc, h2]; simp [e1, strOf]⟩
end Go.Proofs.Ytcakdgfkepdpkaa
