/- Both Pseudos answer one string. -/
import Derived.Test.YtajoejpodflnlaaDoorPseudoRef
namespace Go.Proofs.YtajoejpodflnlaaDoor
open Go.ChangeShapes Go.WideShapes Go.ChangeAt Go.RowKit

theorem str_isEmpty (l : List UInt8) : (str l).toList.isEmpty = l.isEmpty := by
  have h : (str l).toList = l := (ByteArray.toList_eq _).trans (str_toList l)
  rw [h]
theorem be_isEmpty (k n : Nat) : (str (leL (k + 1) n).reverse).toList.isEmpty = false := by
  rw [str_isEmpty]
  simp [leL]
theorem be_size (k n : Nat) : (str (leL k n).reverse).size = k := by rw [str_size, List.length_reverse, leL_length]
theorem be_pad (a n : Nat) (h : n < 256) : (leL (a + 1) n).reverse = (leL a 0).reverse ++ (leL 1 n).reverse := by
  rw [show a + 1 = 1 + a by omega, leL_append, show pw 1 = 256 from rfl, Nat.div_eq_of_lt h, List.reverse_append]

theorem adr_le (v6 : Bool) (hi lo : Nat) : (str (adr v6 hi lo)).size ≤ 16 := by
  rw [str_size, adr_length]; split <;> omega

theorem pseudo_both (v1 : Bool) (h1 l1 : Nat) (v2 : Bool) (h2 l2 : Nat) (p z : Int) (e1 : h1 < 18446744073709551616) (e2 : l1 < 18446744073709551616) (e3 : h2 < 18446744073709551616) (e4 : l2 < 18446744073709551616)
    (p0 : -9223372036854775808 ≤ p) (p1 : p ≤ 9223372036854775807) (z0 : -9223372036854775808 ≤ z) (z1 : z ≤ 9223372036854775807) :
    ∃ R : ByteArray, (∀ W, Sh W → Calls Tryd.prog 18 #[.agg #[.bool v1, .int .u64 h1, .int .u64 l1], .agg #[.bool v2, .int .u64 h2, .int .u64 l2], .int .i64 p, .int .i64 z] W fun e w' => e = .returned (.string R) ∧ Below W.heap.size W w') ∧
      (∀ W, Calls Tryd.prog 19 #[.agg #[.bool v1, .int .u64 h1, .int .u64 l1], .agg #[.bool v2, .int .u64 h2, .int .u64 l2], .int .i64 p, .int .i64 z] W fun e w' => e = .returned (.string R) ∧ Below W.heap.size W w') := by
  cases hv : vadr v1 h1 l1 with
  | false => exact ⟨str [], fun W _ => pseudo_bad1 v1 h1 l1 v2 h2 l2 p z W hv, fun W => rpseudo_bad1 v1 h1 l1 v2 h2 l2 p z W hv⟩
  | true =>
  cases hv2 : vadr v2 h2 l2 with
  | false => exact ⟨str [], fun W _ => pseudo_bad2 v1 h1 l1 v2 h2 l2 p z W hv hv2, fun W => rpseudo_bad2 v1 h1 l1 v2 h2 l2 p z W hv hv2⟩
  | true =>
  cases hne : v1 == v2 with
  | false => exact ⟨str [], fun W _ => pseudo_bad3 v1 h1 l1 v2 h2 l2 p z W hv hv2 hne, fun W => rpseudo_bad3 v1 h1 l1 v2 h2 l2 p z W hv hv2 hne⟩
  | true =>
  obtain rfl : v1 = v2 := by simpa using hne
  clear hne
  have hk : ∃ k : Nat, k = (if v1 then 4 else 2) ∧ 1 ≤ k ∧ k ≤ 4 ∧ (pw k : Int) = (if v1 then 4294967296 else 65536) := by
    cases v1
    · exact ⟨2, rfl, by omega, by omega, by decide⟩
    · exact ⟨4, rfl, by omega, by omega, by decide⟩
  obtain ⟨k, hk, k1, k4, hpk⟩ := hk
  have hpos : 0 < pw k := pw_pos k
  have hlim : ((if v1 then 4294967295 else 65535 : Int)) = (pw k : Int) - 1 := by rw [hpk]; cases v1 <;> rfl
  have pe : (str ([] : List UInt8)).toList.isEmpty = true := by rw [str_isEmpty]; rfl
  -- Put's answers
  have zno : (z < 0 ∨ (pw k : Int) ≤ z) → ∀ W, Calls Tryd.prog 24 #[.int .i64 z, .int .i64 k] W fun e w' => e = .returned (.string (str [])) ∧ Below W.heap.size W w' :=
    fun h W => put_no z k W z1 z0 (by rcases h with h | h
                                      · exact Or.inr (Or.inr (Or.inl h))
                                      · exact Or.inr (Or.inr (Or.inr ⟨by omega, by rw [Int.toNat_natCast]; omega⟩)))
  have pno : (p < 0 ∨ 255 < p) → ∀ W, Calls Tryd.prog 24 #[.int .i64 p, .int .i64 1] W fun e w' => e = .returned (.string (str [])) ∧ Below W.heap.size W w' :=
    fun h W => put_no p 1 W p1 p0 (by rcases h with h | h
                                      · exact Or.inr (Or.inr (Or.inl h))
                                      · exact Or.inr (Or.inr (Or.inr ⟨by omega, by show 256 ≤ _; omega⟩)))
  by_cases hz0 : z < 0 ∨ (pw k : Int) ≤ z
  · -- the size has no bytes
    by_cases hp : p < 0 ∨ 255 < p
    · refine ⟨str [], fun W _ => pseudo_put_bad v1 h1 l1 h2 l2 p z k _ _ W hk hv hv2 (pno hp) (zno hz0) (Or.inl pe), fun W => rpseudo_bad4 v1 h1 l1 h2 l2 p z W hv hv2 ?_⟩
      by_cases hp0 : p < 0
      · exact Or.inl hp0
      · exact Or.inr (Or.inl ⟨by simpa using hp0, by omega⟩)
    have pyes : ∀ W, Calls Tryd.prog 24 #[.int .i64 p, .int .i64 1] W fun e w' => e = .returned (.string (str (leL 1 p.toNat).reverse)) ∧ Below W.heap.size W w' :=
      fun W => put_yes p 1 W (by omega) (by omega) (by omega) p1 (by show _ < 256; omega)
    have bad := fun W => pseudo_put_bad v1 h1 l1 h2 l2 p z k _ _ W hk hv hv2 pyes (zno hz0) (Or.inr ⟨be_isEmpty 0 _, pe⟩)
    have d1 : decide (p < 0) = false := by simp; omega
    have d2 : decide (255 < p) = false := by simp; omega
    by_cases hz : z < 0
    · exact ⟨str [], fun W _ => bad W, fun W => rpseudo_bad4 v1 h1 l1 h2 l2 p z W hv hv2 (Or.inr (Or.inr ⟨d1, d2, hz⟩))⟩
    · have d3 : decide (z < 0) = false := by simp; omega
      exact ⟨str [], fun W _ => bad W, fun W => rpseudo_big v1 h1 l1 h2 l2 p z _ _ W hv hv2 (fun W => raddr_any v1 h1 l1 W e1 e2 hv) (fun W => raddr_any v1 h2 l2 W e3 e4 hv2) (adr_le v1 h1 l1) (adr_le v1 h2 l2) d1 d2 d3 (by rw [hlim]; omega)⟩
  · have zyes : ∀ W, Calls Tryd.prog 24 #[.int .i64 z, .int .i64 k] W fun e w' => e = .returned (.string (str (leL k z.toNat).reverse)) ∧ Below W.heap.size W w' := fun W => by
      have := put_yes z k W (by omega) (by omega) (by omega) z1 (by rw [Int.toNat_natCast]; omega)
      rw [Int.toNat_natCast] at this
      exact this
    by_cases hp : p < 0 ∨ 255 < p
    · refine ⟨str [], fun W _ => pseudo_put_bad v1 h1 l1 h2 l2 p z k _ _ W hk hv hv2 (pno hp) zyes (Or.inl pe), fun W => rpseudo_bad4 v1 h1 l1 h2 l2 p z W hv hv2 ?_⟩
      by_cases hp0 : p < 0
      · exact Or.inl hp0
      · exact Or.inr (Or.inl ⟨by simpa using hp0, by omega⟩)
    have pyes : ∀ W, Calls Tryd.prog 24 #[.int .i64 p, .int .i64 1] W fun e w' => e = .returned (.string (str (leL 1 p.toNat).reverse)) ∧ Below W.heap.size W w' :=
      fun W => put_yes p 1 W (by omega) (by omega) (by omega) p1 (by show _ < 256; omega)
    have d1 : decide (p < 0) = false := by simp; omega
    have d2 : decide (255 < p) = false := by simp; omega
    have d3 : decide (z < 0) = false := by simp; omega
    obtain ⟨k', rfl⟩ : ∃ k', k = k' + 1 := ⟨k - 1, by omega⟩
    have rz : ∀ W, Calls Tryd.prog 32 #[.int .i64 z, .int .i64 (k' + 1 : Nat)] W fun e w' => e = .returned (.string (str (leL (k' + 1) z.toNat).reverse)) ∧ Below W.heap.size W w' := fun W => by
      have := rnum_any z.toNat (k' + 1) W (by omega) (by omega)
      rw [show ((z.toNat : Nat) : Int) = z by omega] at this
      exact this
    have rp : ∀ W, Calls Tryd.prog 32 #[.int .i64 p, .int .i64 (k' + 1 : Nat)] W fun e w' => e = .returned (.string (str (leL (k' + 1) p.toNat).reverse)) ∧ Below W.heap.size W w' := fun W => by
      have := rnum_any p.toNat (k' + 1) W (by omega) (by omega)
      rw [show ((p.toNat : Nat) : Int) = p by omega] at this
      exact this
    have g1 := fun W h => pseudo_good v1 h1 l1 h2 l2 p z (k' + 1) _ _ _ _ W h hk hv hv2 pyes zyes (fun W h => addrb_any v1 h1 l1 W e1 e2 h) (fun W h => addrb_any v1 h2 l2 W e3 e4 h) (be_isEmpty 0 _) (be_isEmpty k' _) (by rw [be_size]; omega) (by rw [be_size]; omega) (adr_le v1 h1 l1) (adr_le v1 h2 l2)
    have g2 := fun W => rpseudo_good v1 h1 l1 h2 l2 p z (k' + 1) _ _ _ _ W hk hv hv2 (fun W => raddr_any v1 h1 l1 W e1 e2 hv) (fun W => raddr_any v1 h2 l2 W e3 e4 hv2) (adr_le v1 h1 l1) (adr_le v1 h2 l2) d1 d2 d3 rp rz (by rw [be_size]; omega) (by rw [be_size]; omega) (by rw [hlim]; simp; omega)
    refine ⟨_, g1, ?_⟩
    have hpl : p.toNat < 256 := by omega
    cases v1 with
    | true =>
      obtain rfl : k' = 3 := by simpa using hk
      rw [be_pad 3 _ hpl, ← str_append] at g2
      simp only [if_true] at g2 ⊢
      rw [show str (leL 3 0).reverse = ⟨#[0, 0, 0]⟩ from rfl, ← ByteArray.append_assoc] at g2
      exact g2
    | false =>
      obtain rfl : k' = 1 := by simpa using hk
      rw [be_pad 1 _ hpl, ← str_append] at g2
      simp only [Bool.false_eq_true, if_false] at g2 ⊢
      rw [show str (leL 1 0).reverse = ⟨#[0]⟩ from rfl, ← ByteArray.append_assoc] at g2
      exact g2
end Go.Proofs.YtajoejpodflnlaaDoor
