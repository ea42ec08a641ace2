/- Contracts: Same of the reference at equal lists; NewCursor. -/
import Derived.Test.YtcakdgfkepdpkaaAwk04
import Derived.Test.YtcakdgfkepdpkaaLexRScan
import Derived.Deep.QuietTactic
namespace Go.Proofs.Ytcakdgfkepdpkaa
open Go.ChangeShapes Go.WideShapes Go.ChangeAt Go.RowKit
set_option linter.unusedVariables false

theorem same_nil (w : World) : Calls Try.prog 13 #[.slice none 0 0, .slice none 0 0] w fun e w' => e = .returned (.bool true) ∧ Below w.heap.size w w' := by
  go_enter Try.func13, Try.ntmps13
  go_wp2_with fail
  go_loop [5] (fun i => i = .int .i64 0) (fun _ => 0)
  case atStart => rfl
  case round =>
    subst hrel
    go_wp2_with fail
    go_ret
    exact ⟨rfl, Below.refl _ _⟩

theorem TS.drewN {w : World} {g : Nat} {l : List Tok} (h : TS w g l) (q : Nat) : TS (w.drewN q) g l := h
set_option maxRecDepth 20000 in
theorem same_list (g1 g2 c1 c2 : Nat) (l : List Tok) (w : World) (h1 : TS w g1 l) (h2 : TS w g2 l) (hl : l.length ≤ 1000000) :
    Calls Try.prog 13 #[.slice (some ⟨g1, 0, none⟩) l.length c1, .slice (some ⟨g2, 0, none⟩) l.length c2] w fun e w' => e = .returned (.bool true) ∧ Below w.heap.size w w' := by
  have hm := tok_guard
  obtain ⟨n, hn⟩ : ∃ n, n = l.length := ⟨_, rfl⟩
  rw [← hn]
  have HN := Lib.hid hn
  have H1 := Lib.hid h1
  have H2 := Lib.hid h2
  have hn6 : n ≤ 1000000 := by omega
  clear h1 h2 hl hn
  go_enter Try.func13, Try.ntmps13
  go_wp2_with fail
  go_loopw [5] (fun i wr => ∃ k : Nat, k ≤ n ∧ i = .int .i64 k ∧ Hid (TS wr g1 l) ∧ Hid (TS wr g2 l) ∧ Below w.heap.size w wr) (fun i _ => n - (intOf i).toNat)
  case atStart => exact ⟨0, Nat.zero_le _, rfl, H1.out, H2.out, Below.refl _ _⟩
  case round =>
    clear H1 H2
    obtain ⟨k, hk, rfl, T1, T2, hB⟩ := hrel
    by_cases hlt : k < n
    · have hkl : k < l.length := by rw [← HN.out]; exact hlt
      have hget : l[k]? = some l[k] := List.getElem?_eq_getElem hkl
      obtain ⟨a0, a1, a2⟩ := T1.out.at hget
      obtain ⟨b0, b1, b2⟩ := T2.out.at hget
      have q1 := fun W => tok_neq (l[k].kind : Nat) (l[k].kind : Nat) (l[k].at_ : Nat) (l[k].at_ : Nat) (str l[k].text) (str l[k].text) W
      generalize l[k].kind = kd at *
      generalize str l[k].text = tx at *
      generalize l[k].at_ = at' at *
      have hki : (k : Int) < (n : Int) := by omega
      have hki0 : (0 : Int) ≤ (k : Int) := by omega
      clear hget hkl
      go_wp2_with fail
      go_quiet (fail)
      have hB2 := Lib.hid (below_drewN hB nq)
      have T12 := Lib.hid (T1.out.drewN nq)
      have T22 := Lib.hid (T2.out.drewN nq)
      clear hB T1 T2 a0 a1 a2 b0 b1 b2 q1
      generalize wr.drewN nq = w2 at *
      go_wp2_with fail
      go_roundw
      case rel => exact ⟨k + 1, by omega, by go_num, T12.out, T22.out, hB2.out⟩
      case measure => simp [intOf]; omega
    · obtain rfl : k = n := by omega
      have hd : decide ((k : Int) < (k : Int)) = false := by simp
      go_wp2_with fail
      go_ret
      exact ⟨rfl, hB⟩

/-- A cursor at block p: the tokens at block g from index i on (n in all). -/
def CU (w : World) (p g n i cap : Nat) : Prop := Cells w p 50 #[.slice (some ⟨g, i * 3, none⟩) (n - i) (cap - i)]
theorem ncur_ok (s : ByteArray) (w : World) (l : List Tok) (n0 : Nat) (h : scanS s = .ok l n0) (hp : 0 < l.length) (hs : s.size ≤ 9223372036854775807) :
    Calls Try.prog 12 #[.string s] w fun e w' => ∃ p g cap, e = .returned (.tuple #[.pointer (some ⟨p, 0, none⟩), .int .i64 0, .int .i64 0]) ∧ w.heap.size ≤ g ∧ w.heap.size ≤ p ∧ g ≠ p ∧ l.length ≤ cap ∧ TS w' g l ∧ CU w' p g l.length 0 cap ∧ Below w.heap.size w w' := by
  have h1 : ∀ W, Calls Try.prog 10 #[.string s] W fun e w' => ∃ g cap, e = .returned (.tuple #[.slice (some ⟨g, 0, none⟩) l.length cap, .int .i64 0, .int .i64 0]) ∧ W.heap.size ≤ g ∧ l.length ≤ cap ∧ TS w' g l ∧ Below W.heap.size W w' := fun W => by
    have hh := pscan_any s W hs
    rw [h] at hh
    refine hh.mono ?_
    rintro e w' ⟨A, cap, rfl, ho, hb⟩
    obtain ⟨g, rfl, hg, hts⟩ := ts_of_own ho hp
    have hc : l.length ≤ cap := by
      rcases ho.2 with ⟨_, hn⟩ | ⟨g, c, cur, hv, _, _, hn, _⟩
      · omega
      · cases hv; exact hn
    exact ⟨g, cap, rfl, hg, hc, hts, hb⟩
  have H1 := Lib.hid h1
  clear h1 h
  generalize l.length = n at *
  go_enter Try.func12, Try.ntmps12
  go_wp2_with fail
  refine (H1.out _).mono ?_
  rintro e w1 ⟨g, cap, rfl, hg, hnc, hts, hb⟩
  have HB := Lib.hid (hb.alloc hb.size (.cells #[.slice (some ⟨g, 0, none⟩) n cap] 50))
  have HT := Lib.hid (hts.kept (below_alloc w1 (.cells #[.slice (some ⟨g, 0, none⟩) n cap] 50)) hts.1)
  have HC := Lib.hid (show CU (w1.alloc (.cells #[.slice (some ⟨g, 0, none⟩) n cap] 50)) w1.heap.size g n 0 cap from heap_alloc_new w1 _)
  have hgl := hts.1
  have hbs := hb.size
  clear hb hts
  go_wp2_with fail
  go_ret3
  exact ⟨w1.heap.size, g, cap, rfl, hg, hbs, by omega, hnc, HT.out, HC.out, HB.out⟩
theorem ncur_err (s : ByteArray) (w : World) (er n : Nat) (h : scanS s = .err er n) (he : er ≠ 0) (hs : s.size ≤ 9223372036854775807) :
    Calls Try.prog 12 #[.string s] w fun e w' => e = .returned (.tuple #[.pointer none, .int .i64 (er : Nat), .int .i64 (n : Nat)]) ∧ Below w.heap.size w w' := by
  have h1 : ∀ W, Calls Try.prog 10 #[.string s] W fun e w' => e = .returned (.tuple #[.slice none 0 0, .int .i64 (er : Nat), .int .i64 (n : Nat)]) ∧ Below W.heap.size W w' := fun W => by
    have hh := pscan_any s W hs
    rw [h] at hh
    exact hh
  have hne : ((er : Int) != 0) = true := by simp; omega
  have H1 := Lib.hid h1
  clear h1 h
  go_enter Try.func12, Try.ntmps12
  go_wp2_with fail
  refine (H1.out _).mono ?_
  rintro e w1 ⟨rfl, hb⟩
  go_wp2_with fail
  go_ret3
  exact ⟨rfl, hb⟩

/-- What a scan means: tokens, not none; or one of three errors. -/
theorem scanL_form (L : List UInt8) : ∀ (f off : Nat) (out : List Tok), L.length + 1 ≤ f + off → off ≤ L.length → (∃ l n, scanL L f off out = .ok l n ∧ 0 < l.length ∧ l.length ≤ out.length + (L.length - off) + 1) ∨ ∃ e n, scanL L f off out = .err e n ∧ (e = 3 ∨ e = 5 ∨ e = 14)
  | 0, off, out, h, h2 => by omega
  | f + 1, off, out, h, h2 => by
    rw [scanL]
    split
    · rename_i hlt
      have hok := tok_ok (L.drop (off + skp false (L.drop off))) (off + skp false (L.drop off)) (by rw [List.length_drop]; omega)
      rw [List.length_drop] at hok
      split
      · rename_i t n ht
        rw [ht] at hok
        have hn := hok.1
        have hn2 := hok.2
        rcases scanL_form L f n (out ++ [t]) (by omega) (by omega) with ⟨l, m, h1, h2, h3⟩ | h1
        · exact .inl ⟨l, m, h1, h2, by simp at h3; omega⟩
        · exact .inr h1
      · rename_i e n ht
        rw [ht] at hok
        exact .inr ⟨e, n, rfl, hok⟩
    · exact .inl ⟨_, _, rfl, by simp, by simp⟩
theorem scanS_form (s : ByteArray) : (∃ l n, scanS s = .ok l n ∧ 0 < l.length ∧ l.length ≤ s.size + 1 ∧ s.size ≤ 16000) ∨ ∃ e n, scanS s = .err e n ∧ (e = 3 ∨ e = 5 ∨ e = 14) := by
  unfold scanS
  split
  · exact .inr ⟨3, 0, rfl, .inl rfl⟩
  · have hl : s.data.toList.length = s.size := by simp
    rcases scanL_form s.data.toList (s.size + 1) 0 [] (by omega) (by omega) with ⟨l, n, h1, h2, h3⟩ | h
    · exact .inl ⟨l, n, h1, h2, by simp at h3; omega, by omega⟩
    · exact .inr h
end Go.Proofs.Ytcakdgfkepdpkaa
