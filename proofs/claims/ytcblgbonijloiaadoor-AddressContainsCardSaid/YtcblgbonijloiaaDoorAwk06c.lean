/- Reading what was printed: plain facts for the laws. -/
import Derived.Test.YtcblgbonijloiaaDoorAwk06
namespace Go.Proofs.YtcblgbonijloiaaDoor
open Go.ChangeShapes Go.WideShapes Go.ChangeAt Go.RowKit
set_option linter.unusedVariables false

theorem fb_adrB {v : Bool} {hi lo : Nat} (h1 : hi < 18446744073709551616) (h2 : lo < 18446744073709551616) (hv : vldA v hi lo = true) : fbRes (adrB v hi lo) = adRes (some (v, hi, lo)) := by
  have h64 : (256 : Nat) ^ 8 = 18446744073709551616 := by decide
  cases v with
  | true =>
    have hl : (leL 8 hi).reverse.length = 8 := by rw [List.length_reverse, leL_length]
    have e : adrB true hi lo = (leL 8 hi).reverse ++ (leL 8 lo).reverse := rfl
    unfold fbRes
    rw [if_neg (by rw [adrB_length]; simp), if_pos (by rw [adrB_length]; rfl), e, List.take_append_of_le_length (by omega), List.take_of_length_le (by omega), List.drop_append_of_le_length (by omega), List.drop_of_length_le (by omega), List.nil_append, num_reverse_leL, num_reverse_leL, h64, Nat.mod_eq_of_lt h1, Nat.mod_eq_of_lt h2]
    rfl
  | false =>
    unfold vldA at hv
    simp only [Bool.false_or, Bool.and_eq_true, beq_iff_eq, decide_eq_true_eq] at hv
    obtain ⟨rfl, h⟩ := hv
    have e : adrB false 0 lo = (leL 4 lo).reverse := rfl
    have h4 : (256 : Nat) ^ 4 = 4294967296 := by decide
    unfold fbRes
    rw [if_pos (by rw [adrB_length]; rfl), e, num_reverse_leL, h4, Nat.mod_eq_of_lt h]
    rfl
theorem prs_fmtA {v : Bool} {hi lo : Nat} (h1 : hi < 18446744073709551616) (h2 : lo < 18446744073709551616) (hv : vldA v hi lo = true) : prs (fmtA v hi lo) = some (v, hi, lo) := by
  cases v with
  | true =>
    have hd := digitsOf_len 65536 8 (numA hi lo)
    have hl := digitsOf_lt (b := 65536) (by omega) 8 (numA hi lo)
    have hb := adrB_6 h1 h2
    have hf : fmtA true hi lo = fmt6 (digitsOf 65536 (numA hi lo) 8) := rfl
    rw [hf]
    have hfb := fb_groups hd hl
    rw [← hb, fb_adrB h1 h2 hv] at hfb
    unfold prs
    rw [parse4_no _ (fun x hx e => by
      subst e
      rcases fmt6_mem _ _ hx with h | h | h
      · exact absurd h (by decide)
      · exact absurd h.1 (by decide)
      · exact absurd h.1 (by decide)), parse6_fmt6 hd hl]
    show some (true, halfH _, halfL _) = _
    have key : ∀ (a b c d : Nat), adRes (some (true, a, b)) = adRes (some (true, c, d)) → a = c ∧ b = d := by
      intro a b c d h
      simp only [adRes, Value.tuple.injEq, Array.mk.injEq, List.cons.injEq, Value.agg.injEq, Value.int.injEq, true_and, and_true] at h
      omega
    obtain ⟨e1, e2⟩ := key _ _ _ _ hfb
    rw [← e1, ← e2]
  | false =>
    unfold vldA at hv
    simp only [Bool.false_or, Bool.and_eq_true, beq_iff_eq, decide_eq_true_eq] at hv
    obtain ⟨rfl, h⟩ := hv
    have hf : fmtA false 0 lo = fmt4 (digitsOf 256 lo 4) := rfl
    have h4 : (256 : Nat) ^ 4 = 4294967296 := by decide
    rw [hf]
    unfold prs
    rw [parse4_fmt4 (digitsOf_len _ _ _) (fun d hd => by have := digitsOf_lt (b := 256) (by omega) 4 lo d hd; omega)]
    show some (false, 0, ofDigits 256 (digitsOf 256 lo 4)) = _
    rw [ofDigits_of (by omega) 4 lo (by omega)]
theorem pRes_fmtA {v : Bool} {hi lo : Nat} (h1 : hi < 18446744073709551616) (h2 : lo < 18446744073709551616) (hv : vldA v hi lo = true) : pRes (fmtA v hi lo) = .tuple #[.agg #[.bool v, .int .u64 hi, .int .u64 lo], .int .i64 0] := by
  unfold pRes
  rw [if_neg (by have := fmtA_len h1 h2 hv; omega), prs_fmtA h1 h2 hv]
  rfl
theorem decV_num {k : Nat} (h : k ≤ 60000) : decV (numL k) = some k := by
  have h1 := decS_decV (most := 60000) (by omega) (numL k)
  rw [decS_num h] at h1
  cases hd : decV (numL k) with
  | none => rw [hd] at h1; simp only at h1; omega
  | some n =>
    rw [hd] at h1
    simp only at h1
    split at h1
    · omega
    · congr 1; omega
/-- The parts of a prefix that MakePrefix made. -/
theorem mk_lt {v : Bool} {k hi lo : Nat} (h1 : hi < 18446744073709551616) (h2 : lo < 18446744073709551616) : mkH v k hi < 18446744073709551616 ∧ mkL v k lo < 18446744073709551616 :=
  ⟨Nat.lt_of_le_of_lt (lowZ_le _ _) h1, Nat.lt_of_le_of_lt (lowZ_le _ _) h2⟩
theorem mk_valid {v : Bool} {k hi lo : Nat} (hv : vldA v hi lo = true) : vldA v (mkH v k hi) (mkL v k lo) = true := by
  cases v with
  | true => rfl
  | false =>
    unfold vldA at hv ⊢
    simp only [Bool.false_or, Bool.and_eq_true, beq_iff_eq, decide_eq_true_eq] at hv ⊢
    have a := lowZ_le (frH false k) hi
    have b := lowZ_le (frL false k) lo
    unfold mkH mkL
    omega
theorem mk_mk (v : Bool) (k hi lo : Nat) : mkH v k (mkH v k hi) = mkH v k hi ∧ mkL v k (mkL v k lo) = mkL v k lo := ⟨lowZ_lowZ _ _, lowZ_lowZ _ _⟩
theorem mk_cont {v : Bool} {k hi lo : Nat} (hk : k ≤ width v) : cntB v (mkH v k hi) (mkL v k lo) k v hi lo = true := by
  unfold cntB
  rw [decide_eq_true ⟨by omega, by omega⟩, Int.toNat_natCast]
  simp
theorem mk_vldP {v : Bool} {k hi lo : Nat} (hk : k ≤ width v) (hv : vldA v hi lo = true) : vldP v (mkH v k hi) (mkL v k lo) k = true := by
  unfold vldP
  rw [mk_valid hv, Bool.true_and]
  unfold cntB
  rw [decide_eq_true ⟨by omega, by omega⟩, Int.toNat_natCast, (mk_mk v k hi lo).1, (mk_mk v k hi lo).2]
  simp
theorem ppRes_fmtPA {v : Bool} {k hi lo : Nat} (h1 : hi < 18446744073709551616) (h2 : lo < 18446744073709551616) (hv : vldA v hi lo = true) (hk : k ≤ width v) (hm : mkH v k hi = hi ∧ mkL v k lo = lo) : ppRes (fmtPA v hi lo k) = .tuple #[.agg #[.bool v, .int .u64 hi, .int .u64 lo, .int .i64 k], .int .i64 0] := by
  have hw : width v ≤ 128 := by unfold width; split <;> omega
  have hl := fmtA_len h1 h2 hv
  have hn : (numL k).length ≤ 3 := num_len (by omega)
  have hc : cutAt 47 (fmtPA v hi lo k) = (fmtA v hi lo, some (numL k)) := cutAt_at _ _ (by rw [fmtA_fmtS hv]; exact fmt_no47 _)
  unfold ppRes
  rw [if_neg (by unfold fmtPA; rw [List.length_append, List.length_cons]; omega), hc]
  show (match prs (fmtA v hi lo) with | none => zeroP 2 | some (v, hi, lo) => ppEnd v hi lo (ppB v (some (numL k)))) = _
  rw [prs_fmtA h1 h2 hv]
  show ppEnd v hi lo (decV (numL k)) = _
  rw [decV_num (by omega), ppEnd_some, if_pos hk, if_pos hm]
end Go.Proofs.YtcblgbonijloiaaDoor
