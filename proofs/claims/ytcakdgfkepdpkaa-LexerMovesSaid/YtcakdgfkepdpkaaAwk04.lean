/- The examples of the laws of layer 4: awake returns true. Lists of tokens in memory. -/
import Derived.Test.YtcakdgfkepdpkaaLexEq
import Derived.Test.YtcakdgfkepdpkaaLexQuote
namespace Go.Proofs.Ytcakdgfkepdpkaa
open Go.ChangeShapes Go.WideShapes Go.ChangeAt Go.RowKit
set_option linter.unusedVariables false

/-- Block g begins with the tokens l. -/
def TS (w : World) (g : Nat) (l : List Tok) : Prop := g < w.heap.size ∧ ∀ j u, (tokCells l)[j]? = some u → w.cell? ⟨g, j, none⟩ = some u
theorem TS.kept {w w' : World} {g B : Nat} {l : List Tok} (h : TS w g l) (hb : Below B w w') (hg : g < B) : TS w' g l :=
  ⟨Nat.lt_of_lt_of_le h.1 hb.size, fun j u hu => by
    rw [World.cell?_of_block (w := w) (w' := w') (a := ⟨g, j, none⟩) (hb.block g hg)]
    exact h.2 j u hu⟩
theorem tokCells_get : ∀ (l : List Tok) (i : Nat) (t : Tok), l[i]? = some t → (tokCells l)[i * 3]? = some (.int .i64 (t.kind : Nat)) ∧ (tokCells l)[i * 3 + 1]? = some (.string (str t.text)) ∧ (tokCells l)[i * 3 + 2]? = some (.int .i64 (t.at_ : Nat))
  | [], i, t, h => by simp at h
  | x :: r, 0, t, h => by
    simp at h
    subst h
    exact ⟨rfl, rfl, rfl⟩
  | x :: r, i + 1, t, h => by
    have ih := tokCells_get r i t (by simpa using h)
    have e : tokCells (x :: r) = tokC x ++ tokCells r := rfl
    have e1 : (i + 1) * 3 = i * 3 + 3 := by omega
    have e2 : (i + 1) * 3 + 1 = (i * 3 + 1) + 3 := by omega
    have e3 : (i + 1) * 3 + 2 = (i * 3 + 2) + 3 := by omega
    rw [e, e2, e3, e1]
    exact ih
theorem TS.at {w : World} {g : Nat} {l : List Tok} (h : TS w g l) {i : Nat} {t : Tok} (ht : l[i]? = some t) :
    w.cell? ⟨g, i * 3, none⟩ = some (.int .i64 (t.kind : Nat)) ∧ w.cell? ⟨g, i * 3 + 1, none⟩ = some (.string (str t.text)) ∧ w.cell? ⟨g, i * 3 + 2, none⟩ = some (.int .i64 (t.at_ : Nat)) :=
  have e := tokCells_get l i t ht
  ⟨h.2 _ _ e.1, h.2 _ _ e.2.1, h.2 _ _ e.2.2⟩
theorem ts_of_own {w : World} {base : Nat} {A : Option Addr} {cap : Nat} {l : List Tok} (h : w.ownsRow base 36 3 (.slice A l.length cap) l.length (tokCells l)) (hp : 0 < l.length) : ∃ g, A = some ⟨g, 0, none⟩ ∧ base ≤ g ∧ TS w g l := by
  rcases h.2 with ⟨_, hn⟩ | ⟨g, c, cur, hv, hg, hh, hn, _, hs, ht⟩
  · omega
  · cases hv
    refine ⟨g, rfl, hg, (Array.getElem?_eq_some_iff.1 hh).1, fun j u hu => ?_⟩
    rw [← ht] at hu
    have hj : j < l.length * 3 := by
      by_cases hc : j < l.length * 3
      · exact hc
      · rw [List.getElem?_eq_none (by rw [List.length_take]; omega)] at hu
        cases hu
    rw [List.getElem?_take_of_lt hj] at hu
    simp only [World.cell?, hh]
    simpa using hu
/-- What Scan leaves of a list. -/
theorem scan_list {f : FuncId} {s : ByteArray} {w : World} {l : List Tok} {n : Nat} (h : Calls Try.prog f #[.string s] w (ScanP w (.ok l n))) (hp : 0 < l.length) :
    Calls Try.prog f #[.string s] w fun e w' => ∃ g cap, e = .returned (.tuple #[.slice (some ⟨g, 0, none⟩) l.length cap, .int .i64 0, .int .i64 0]) ∧ w.heap.size ≤ g ∧ TS w' g l ∧ Below w.heap.size w w' := by
  refine h.mono ?_
  rintro e w' ⟨A, cap, rfl, ho, hb⟩
  obtain ⟨g, rfl, hg, hts⟩ := ts_of_own ho hp
  exact ⟨g, cap, rfl, hg, hts, hb⟩
theorem str_tl (l : List UInt8) : (str l).toList = l := (ByteArray.toList_eq _).trans (str_toList l)
theorem scan_one : scanS ⟨#[97, 61, 36, 66]⟩ = .ok [⟨1, [97], 0⟩, ⟨4, [61], 1⟩, ⟨3, [66], 2⟩, ⟨0, [], 4⟩] 0 := by kernel_rfl
theorem scan_two : scanS ⟨#[97, 32, 45, 32, 98]⟩ = .err 14 2 := by kernel_rfl
theorem quote_one : str (quoteL (⟨#[97, 34, 10, 98]⟩ : ByteArray).data.toList) = ⟨#[34, 97, 124, 50, 50, 32, 48, 97, 124, 98, 34]⟩ := by kernel_rfl

set_option maxRecDepth 20000 in
theorem awake_any (w : World) :
    Calls Try.prog 9 #[] w fun e w' => e = .returned (.bool true) ∧ Below w.heap.size w w' := by
  have hm := tok_guard
  have h1 : ∀ W, Calls Try.prog 10 #[.string ⟨#[97, 61, 36, 66]⟩] W fun e w' => ∃ g cap, e = .returned (.tuple #[.slice (some ⟨g, 0, none⟩) 4 cap, .int .i64 0, .int .i64 0]) ∧ W.heap.size ≤ g ∧ TS w' g [⟨1, [97], 0⟩, ⟨4, [61], 1⟩, ⟨3, [66], 2⟩, ⟨0, [], 4⟩] ∧ Below W.heap.size W w' := fun W => by
    have h := pscan_any ⟨#[97, 61, 36, 66]⟩ W (by decide)
    rw [scan_one] at h
    exact scan_list h (by decide)
  have h2 : ∀ W, Calls Try.prog 10 #[.string ⟨#[97, 32, 45, 32, 98]⟩] W fun e w' => e = .returned (.tuple #[.slice none 0 0, .int .i64 14, .int .i64 2]) ∧ Below W.heap.size W w' := fun W => by
    have h := pscan_any ⟨#[97, 32, 45, 32, 98]⟩ W (by decide)
    rw [scan_two] at h
    exact h
  have h3 : ∀ W, Calls Try.prog 18 #[.string ⟨#[97, 34, 10, 98]⟩] W fun e w' => e = .returned (.string ⟨#[34, 97, 124, 50, 50, 32, 48, 97, 124, 98, 34]⟩) ∧ Below W.heap.size W w' := fun W => by
    have h := pquote_any ⟨#[97, 34, 10, 98]⟩ W (by decide)
    rw [quote_one] at h
    exact h
  have H1 := Lib.hid h1
  have H2 := Lib.hid h2
  have H3 := Lib.hid h3
  clear h1 h2 h3
  go_enter Try.func9, Try.ntmps9
  go_wp2_with fail
  refine (H1.out _).mono ?_
  rintro e w1 ⟨g, cap, rfl, hg, hts, hb1⟩
  go_wp2_with fail
  refine (H2.out _).mono ?_
  rintro e w2 ⟨rfl, hb2⟩
  have ht2 := hts.kept hb2 hts.1
  obtain ⟨a0, a1, a2⟩ := ht2.at (i := 0) rfl
  obtain ⟨b0, b1, b2⟩ := ht2.at (i := 2) rfl
  obtain ⟨d0, d1, d2⟩ := ht2.at (i := 3) rfl
  simp only [Nat.zero_mul, Nat.zero_add, Nat.reduceMul, Nat.reduceAdd] at a0 a1 a2 b0 b1 b2 d0 d1 d2
  have HB2 := Lib.hid (hb1.trans (hb2.mono hb1.size))
  have q1 := fun W => tok_eql 1 1 0 0 (str [97]) ⟨#[97]⟩ W
  have q2 := fun W => tok_eql 3 3 2 2 (str [66]) ⟨#[66]⟩ W
  have q3 := fun W => tok_eql 0 0 4 4 (str []) ⟨#[]⟩ W
  clear hb1 hb2 hts ht2
  have x1 := str_tl [97]
  have x2 := str_tl [66]
  have x3 := str_tl []
  go_wp2_with fail
  refine (H3.out _).mono ?_
  rintro e w3 ⟨rfl, hb3⟩
  have HB3 := Lib.hid (HB2.out.trans (hb3.mono HB2.out.size))
  clear hb3 HB2 a0 a1 a2 b0 b1 b2 d0 d1 d2
  go_wp2_with fail
  go_ret
  exact ⟨rfl, HB3.out⟩
end Go.Proofs.Ytcakdgfkepdpkaa
