/- Contracts of the functions, part 20: TcpPs. -/
import Derived.Test.YtmfoionlapcgkaaDoorPA18
import Derived.Test.YtmfoionlapcgkaaDoorPA19
/- Pseudo headers of TCP: the reference's and the program's, as bytes. -/
namespace Go.Proofs.YtmfoionlapcgkaaDoor
open Go.ChangeShapes Go.WideShapes Go.ChangeAt Go.RowKit
set_option linter.unusedVariables false
set_option maxRecDepth 100000

theorem rpseudoT (a b : AdR) (z : Nat) (hf : fitU a b) (ha : fits13 a) (hb : fits13 b) (hz : z ≤ 65535) (w : World) :
    Calls Tryd.prog 32 #[.agg #[.bool a.v6, .int .u64 (a.hi : Int), .int .u64 (a.lo : Int)], .agg #[.bool b.v6, .int .u64 (b.hi : Int), .int .u64 (b.lo : Int)], .int .i64 6, .int .i64 (z : Int)] w fun e w' => e = .returned (.string (str (psU a b 6 z))) ∧ Below w.heap.size w w' := by
  obtain ⟨h1, h2, h3⟩ := hf
  have v1 := (vadr_fine a).2 h1
  have v2 := (vadr_fine b).2 h2
  obtain ⟨v, ah, al⟩ := a
  obtain ⟨bv, bh, bl⟩ := b
  dsimp only at h3 v1 v2 ⊢
  subst h3
  have hps : psU ⟨v, ah, al⟩ ⟨v, bh, bl⟩ 6 z = adr v ah al ++ adr v bh bl ++ (if v then beL 4 z ++ beL 4 6 else beL 2 6 ++ beL 2 z) := rfl
  rw [hps]
  obtain ⟨k, hk⟩ : ∃ k : Nat, k = if v then 4 else 2 := ⟨_, rfl⟩
  have hk4 : k ≤ 4 := by rw [hk]; split <;> omega
  refine (rpseudo_good v ah al bh bl 6 (z : Int) k _ _ (str (leL k 6).reverse) (str (leL k z).reverse) w hk v1 v2 (fun W => raddr_any v ah al W ha.1 ha.2 v1) (fun W => raddr_any v bh bl W hb.1 hb.2 v2) (adr_le ..) (adr_le ..) (by decide) (by decide) (by simp) (fun W => ?_) (fun W => ?_) (by rw [be_size]; omega) (by rw [be_size]; omega) ?_).mono ?_
  · exact rnum_any 6 k W (by omega) (by omega)
  · exact rnum_any z k W (by omega) (by omega)
  · cases v <;> simp <;> omega
  · rintro e w' ⟨rfl, hw⟩
    refine ⟨?_, hw⟩
    subst hk
    cases v
    · simp only [Bool.false_eq_true, if_false, str_append, List.append_assoc]
      rfl
    · simp only [if_true, str_append, List.append_assoc]
      rfl
theorem ppseudoT (a b : AdR) (z : Nat) (hf : fitU a b) (ha : fits13 a) (hb : fits13 b) (hz : z ≤ 65535) (w : World) (hsh : Sh w) :
    Calls Tryd.prog 23 #[.agg #[.bool a.v6, .int .u64 (a.hi : Int), .int .u64 (a.lo : Int)], .agg #[.bool b.v6, .int .u64 (b.hi : Int), .int .u64 (b.lo : Int)], .int .i64 6, .int .i64 (z : Int)] w fun e w' => e = .returned (.string (str (psU a b 6 z))) ∧ Below w.heap.size w w' := by
  obtain ⟨h1, h2, h3⟩ := hf
  have v1 := (vadr_fine a).2 h1
  have v2 := (vadr_fine b).2 h2
  obtain ⟨v, ah, al⟩ := a
  obtain ⟨bv, bh, bl⟩ := b
  dsimp only at h3 v1 v2 ⊢
  subst h3
  have hps : psU ⟨v, ah, al⟩ ⟨v, bh, bl⟩ 6 z = adr v ah al ++ adr v bh bl ++ (if v then beL 4 z ++ beL 4 6 else beL 2 6 ++ beL 2 z) := rfl
  rw [hps]
  obtain ⟨k, hk⟩ : ∃ k : Nat, k = if v then 4 else 2 := ⟨_, rfl⟩
  have hk4 : 2 ≤ k ∧ k ≤ 4 := by rw [hk]; split <;> omega
  have hp2 : z < 256 ^ k := by
    have : 256 ^ 2 ≤ 256 ^ k := Nat.pow_le_pow_right (by decide) hk4.1
    omega
  refine (pseudo_good v ah al bh bl 6 (z : Int) k (str (beL 1 6)) (str (beL k z)) _ _ w hsh hk v1 v2 (fun W => pputB_any 1 6 6 1 rfl rfl (by decide) (by decide) (by decide) (by decide) W) (fun W => pputB_any k z (z : Int) (k : Int) rfl rfl (by omega) (by omega) hp2 (by omega) W)
    (fun W hW => addrb_any v ah al W ha.1 ha.2 hW) (fun W hW => addrb_any v bh bl W hb.1 hb.2 hW) (by rw [str_isEmpty]; decide) ?_ (by rw [str_size, beL_len]; omega) (by rw [str_size, beL_len]; omega) (adr_le ..) (adr_le ..)).mono ?_
  · rw [str_isEmpty]
    cases hq : beL k z with
    | nil => have := beL_len k z; rw [hq] at this; simp at this; omega
    | cons x r => rfl
  · rintro e w' ⟨rfl, hw⟩
    refine ⟨?_, hw⟩
    subst hk
    have e4 : beL 4 6 = [0, 0, 0] ++ beL 1 6 := by decide
    have e2 : beL 2 6 = [0] ++ beL 1 6 := by decide
    cases v
    · simp only [Bool.false_eq_true, if_false]
      show Ending.returned (.string (str (adr false ah al ++ adr false bh bl) ++ str [0] ++ str (beL 1 6) ++ str (beL 2 z))) = _
      simp only [str_append, List.append_assoc, e2]
    · simp only [if_true]
      show Ending.returned (.string (str (adr true ah al ++ adr true bh bl) ++ str (beL 4 z) ++ str [0, 0, 0] ++ str (beL 1 6))) = _
      simp only [str_append, List.append_assoc, e4]
/-- The program's pseudo header, of any addresses. -/
theorem ppseudo14_any (a b : AdR) (z : Nat) (ha : fits13 a) (hb : fits13 b) (hz : z ≤ 65535) (w : World) (hsh : Sh w) :
    Calls Tryd.prog 23 #[.agg #[.bool a.v6, .int .u64 (a.hi : Int), .int .u64 (a.lo : Int)], .agg #[.bool b.v6, .int .u64 (b.hi : Int), .int .u64 (b.lo : Int)], .int .i64 6, .int .i64 (z : Int)] w fun e w' => e = .returned (.string (str (if fitU a b then psU a b 6 z else []))) ∧ Below w.heap.size w w' := by
  by_cases hf : fitU a b
  · rw [if_pos hf]
    exact ppseudoT a b z hf ha hb hz w hsh
  · rw [if_neg hf]
    cases hv1 : vadr a.v6 a.hi a.lo with
    | false => exact pseudo_bad1 _ _ _ _ _ _ _ _ w hv1
    | true =>
      cases hv2 : vadr b.v6 b.hi b.lo with
      | false => exact pseudo_bad2 _ _ _ _ _ _ _ _ w hv1 hv2
      | true =>
        refine pseudo_bad3 _ _ _ _ _ _ _ _ w hv1 hv2 ?_
        rw [beq_eq_false_iff_ne]
        exact fun e => hf ⟨(vadr_fine a).1 hv1, (vadr_fine b).1 hv2, e⟩
end Go.Proofs.YtmfoionlapcgkaaDoor
