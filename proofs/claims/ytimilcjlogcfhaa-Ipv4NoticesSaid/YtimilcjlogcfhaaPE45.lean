/- Contracts of the functions, part 45: Prog11. -/
import Derived.Test.YtimilcjlogcfhaaPE16
import Derived.Test.YtimilcjlogcfhaaPE30
import Derived.Test.YtimilcjlogcfhaaPE34
import Derived.Test.YtimilcjlogcfhaaPE35
import Derived.Test.YtimilcjlogcfhaaPE38
import Derived.Test.YtimilcjlogcfhaaPE40
import Derived.Test.YtimilcjlogcfhaaPE44
/- The program of layer 11: its five functions, as the laws use them. -/
namespace Go.Proofs.Ytimilcjlogcfhaa
open Go.ChangeShapes Go.WideShapes Go.ChangeAt Go.RowKit
set_option linter.unusedVariables false

theorem wf_i64_11 {n : Int} (h : (Lit.int .i64 n).wf = true) : -9223372036854775808 ≤ n ∧ n ≤ 9223372036854775807 := by
  have h' : IntKind.i64.min ≤ n ∧ n ≤ IntKind.i64.max := by simpa [Lit.wf] using h
  exact h'
theorem prog11 : P11 (fun _ => True) where
  keep := fun _ _ _ _ => trivial
  enc := fun p A c w _ h => penc11_any p A c w h.2.1 h.2.2.1 (fun x hx => (h.1.2.2.2.2.2 x hx).2) h.2.2.2
  dec := fun S w _ hs => pdec11_any S w hs
  spl := fun p size A c w _ h hw => by
    obtain ⟨tos, id, ttl, proto, dont, more, off, ⟨sv, sh, sl⟩, ⟨dv, dh, dl⟩, l, pay⟩ := p
    exact psplit11_any tos id ttl proto off dont more sv dv sh sl dh dl l pay size A c w h.2.1 h.2.2.1 (fun x hx => (h.1.2.2.2.2.2 x hx).2) h.2.2.2 (wf_i64_11 hw).2 (wf_i64_11 hw).1
  frg := fun p A c w _ h => by
    obtain ⟨tos, id, ttl, proto, dont, more, off, ⟨sv, sh, sl⟩, ⟨dv, dh, dl⟩, l, pay⟩ := p
    exact pfragment11_any tos id ttl proto off dont more sv dv sh sl dh dl l.length A c (str pay) w
  rou := fun p A c w _ h => prouted11_any p A c (str p.pay) w h.2.1 (by have := h.2.2.1; omega)
theorem decI_ops (S : List UInt8) : (decI S).1.ops.length ≤ S.length := by
  by_cases h : (decI S).2 = 0
  · obtain ⟨p, hp⟩ : ∃ p, decI S = (p, 0) := ⟨(decI S).1, by rw [← h]⟩
    obtain ⟨l, hl, rfl, h20, h3, h4, _⟩ := decI_ok hp
    rw [hp]
    have h1 := (opts_ok _ _ l (Nat.le_refl _) hl).2.1
    have h2 := len_wrOs l
    rw [List.length_drop, List.length_take] at h1
    show l.length ≤ _
    omega
  · rw [decI_bad h]
    exact Nat.zero_le _
theorem int_wf11 (n : Nat) (h : n ≤ 9223372036854775807) : (Lit.int .i64 (n : Int)).wf = true := by
  have : IntKind.i64.min ≤ (n : Int) ∧ (n : Int) ≤ IntKind.i64.max := ⟨Int.le_trans (by decide) (Int.natCast_nonneg n), by show (n : Int) ≤ 9223372036854775807; omega⟩
  simpa [Lit.wf] using this
theorem int_wf11' (x : Int) (h0 : 0 ≤ x) (h : x ≤ 9223372036854775807) : (Lit.int .i64 x).wf = true := by
  obtain ⟨n, rfl⟩ := Int.eq_ofNat_of_zero_le h0
  exact int_wf11 n (by omega)
/-- What Decode returns may be given to the other functions. -/
theorem decI_in {S : List UInt8} {p : Ip4R} (h : decI S = (p, 0)) : ipWf p := by
  obtain ⟨l, hl, rfl, h20, h3, h4, h5, h6, h7, _⟩ := decI_ok h
  obtain ⟨k1, k2, k3⟩ := opts_ok _ _ l (Nat.le_refl _) hl
  have hn := len_wrOs l
  have b1 := byt_lt S 1
  have b8 := byt_lt S 8
  have b9 := byt_lt S 9
  have n4 := nm2_lt S 4
  have n2 := nm2_lt S 2
  have a1 := nm4_lt S 12
  have a2 := nm4_lt S 16
  refine ⟨⟨int_wf11 _ (by omega), int_wf11 _ (by omega), int_wf11 _ (by omega), int_wf11 _ (by omega), int_wf11 _ (by omega)⟩, ⟨by show (0 : Nat) < _; omega, by show nm4 S 12 < _; omega⟩, ⟨by show (0 : Nat) < _; omega, by show nm4 S 16 < _; omega⟩, ?_, ?_, fun y hy => ?_⟩
  · show ((S.take (nm2 S 2)).drop (hdL S)).length ≤ _
    rw [List.length_drop, List.length_take]
    unfold maxLen
    omega
  · show l.length ≤ _
    rw [List.length_drop, List.length_take] at k2
    have hd60 : hdL S ≤ 60 := by unfold hdL; omega
    unfold maxLen
    omega
  · have h1 := k1 y hy
    have h2 := k3 y hy
    exact ⟨int_wf11' _ (by omega) (by omega), by omega⟩
theorem awk11 (w : World) : Calls Try.prog 10 #[] w fun e w' => e = .returned (.bool true) ∧ Below w.heap.size w w' := awake11_any _ prog11 w trivial
end Go.Proofs.Ytimilcjlogcfhaa
