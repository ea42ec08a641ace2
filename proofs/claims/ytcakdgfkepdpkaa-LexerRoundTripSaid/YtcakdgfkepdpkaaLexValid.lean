/- Contracts: isValid and printed of the program, Valid of the reference. -/
import Derived.Test.YtcakdgfkepdpkaaLexRScan
import Derived.Test.YtcakdgfkepdpkaaLexQuote
import Derived.Deep.QuietTactic
namespace Go.Proofs.Ytcakdgfkepdpkaa
open Go.ChangeShapes Go.WideShapes Go.ChangeAt Go.RowKit
set_option linter.unusedVariables false

/-- Can a token of this kind and text occur? -/
def validI (k : Int) (L : List UInt8) : Bool :=
  if k = 2 then decide (L.length ≤ 256) else if k = 3 then isName L else if k = 4 then !L.isEmpty && markOf L == L else k == 1 && !L.isEmpty && decide (L.length ≤ 80) && L.all wordB
theorem validI_yes {k : Int} {L : List UInt8} (h : validI k L = true) : ∃ j : Nat, k = (j : Int) ∧ j ≤ 4 ∧ 0 < j ∧ validT j L = true := by
  unfold validI at h
  by_cases h2 : k = 2
  · rw [if_pos h2] at h
    exact ⟨2, h2, by omega, by omega, by simpa [validT] using h⟩
  rw [if_neg h2] at h
  by_cases h3 : k = 3
  · rw [if_pos h3] at h
    exact ⟨3, h3, by omega, by omega, by simpa [validT] using h⟩
  rw [if_neg h3] at h
  by_cases h4 : k = 4
  · rw [if_pos h4] at h
    exact ⟨4, h4, by omega, by omega, by simpa [validT] using h⟩
  rw [if_neg h4] at h
  have h1 : k = 1 := by
    simp only [Bool.and_eq_true, beq_iff_eq] at h
    exact h.1.1.1
  subst h1
  exact ⟨1, rfl, by omega, by omega, by simpa [validT] using h⟩
theorem isMk_iff (L : List UInt8) : isMk L = (!L.isEmpty && markOf L == L) := by
  rw [Bool.eq_iff_iff]
  constructor
  · intro h
    have hne := isMk_ne h
    have hm : L ∈ marks := by
      unfold isMk at h
      rw [List.any_eq_true] at h
      obtain ⟨m, hm, he⟩ := h
      rw [beq_iff_eq] at he
      rw [← he]; exact hm
    have h2 := (mark_sp hm (.inl rfl)).1
    rw [List.append_nil] at h2
    rw [h2]
    cases L with
    | nil => exact absurd rfl hne
    | cons c r => simp
  · intro h
    simp only [Bool.and_eq_true, Bool.not_eq_true', List.isEmpty_eq_false_iff, beq_iff_eq] at h
    have hm := mark_mem h.2 h.1
    unfold isMk
    rw [List.any_eq_true]
    exact ⟨L, hm, by simp⟩

set_option maxRecDepth 20000 in
theorem pvalid_any (k x : Int) (t : ByteArray) (w : World) (hs : t.size ≤ 4611686018427387903) :
    Calls Try.prog 33 #[.agg #[.int .i64 k, .string t, .int .i64 x]] w fun e w' => e = .returned (.bool (validI k t.data.toList)) ∧ Below w.heap.size w w' := by
  have ht0 := tb_new w k t x
  have hB0 := below_alloc w (.cells #[.int .i64 k, .string t, .int .i64 x] 36)
  have hll : t.data.toList.length = t.size := by simp
  unfold validI
  rw [hll]
  by_cases h1 : k = 1
  · have z1 : (k == 1) = true := by simpa using h1
    rw [if_neg (by omega), if_neg (by omega), if_neg (by omega), z1]
    by_cases h0 : t.size = 0
    · have hnil : t.data.toList = [] := List.eq_nil_of_length_eq_zero (by rw [hll]; exact h0)
      have hem : t.toList.isEmpty = true := by rw [ByteArray.toList_eq, hnil]; rfl
      rw [hnil, h0]
      clear h0 hll h1 hnil
      go_enter Try.func33, Try.ntmps33
      go_wp2_with fail
      generalize w.alloc (.cells #[.int .i64 k, .string t, .int .i64 x] 36) = w0 at *
      have c0 := ht0.c0
      have c1 := ht0.c1
      go_quiet (fail)
      have hB2 := below_drewN hB0 nq
      go_wp2_with fail
      go_ret
      exact ⟨rfl, hB2⟩
    have hem := empty_of (show 0 < t.size by omega)
    have hne : t.data.toList.isEmpty = false := by rw [← hem, ByteArray.toList_eq]
    rw [hne]
    by_cases h80 : t.size ≤ 80
    · have d80 : (t.size : Int) ≤ 80 := by omega
      rw [show decide (t.size ≤ 80) = true by simp; exact h80]
      have hf := fun W => follow_all t 49 wordB W hs pword_any eg_word
      have htl := take_len t.data.toList wordB
      rw [hll] at htl
      rw [← htl]
      generalize (t.data.toList.takeWhile wordB).length = m at *
      rw [nat_beq m t.size]
      have HF := Lib.hid hf
      clear hf htl h0 hll hne h1
      go_enter Try.func33, Try.ntmps33
      go_wp2_with fail
      generalize w.alloc (.cells #[.int .i64 k, .string t, .int .i64 x] 36) = w0 at *
      have c0 := ht0.c0
      have c1 := ht0.c1
      go_quiet (first | (go_at_call 42; exact quiet_eq4 (HF.out _)))
      have hB2 := below_drewN hB0 nq
      clear hB0
      generalize w0.drewN nq = w2 at *
      go_wp2_with fail
      go_ret
      refine ⟨?_, hB2⟩
      show Ending.returned (Value.bool _) = Ending.returned (Value.bool _)
      simp
    · have d80 : decide ((t.size : Int) ≤ 80) = false := by simp; omega
      rw [show decide (t.size ≤ 80) = false by simp; omega]
      clear h0 hll hne h1
      go_enter Try.func33, Try.ntmps33
      go_wp2_with fail
      generalize w.alloc (.cells #[.int .i64 k, .string t, .int .i64 x] 36) = w0 at *
      have c0 := ht0.c0
      have c1 := ht0.c1
      go_quiet (fail)
      have hB2 := below_drewN hB0 nq
      clear hB0
      generalize w0.drewN nq = w2 at *
      go_wp2_with fail
      go_ret
      exact ⟨rfl, hB2⟩
  have y1 : (k == 1) = false := by simpa using h1
  by_cases h3 : k = 3
  · have z3 : (k == 3) = true := by simpa using h3
    rw [if_neg (by omega), if_pos h3]
    have hf := fun W => pisname_any t W hs
    generalize isName t.data.toList = b at *
    have HF := Lib.hid hf
    clear hf hll h1 h3
    go_enter Try.func33, Try.ntmps33
    go_wp2_with fail
    refine (HF.out _).mono ?_
    rintro e w1 ⟨rfl, rfl⟩
    generalize w.alloc (.cells #[.int .i64 k, .string t, .int .i64 x] 36) = w0 at *
    have c0 := ht0.c0
    have c1 := ht0.c1
    go_wp2_with fail
    go_ret
    exact ⟨rfl, hB0⟩
  have y3 : (k == 3) = false := by simpa using h3
  by_cases h2 : k = 2
  · have z2 : (k == 2) = true := by simpa using h2
    rw [if_pos h2]
    have hz : decide (t.size ≤ 256) = decide ((t.size : Int) ≤ 256) := by
      by_cases h : t.size ≤ 256
      · simp [h]; omega
      · simp [h]; omega
    rw [hz]
    clear hll hz h2 h1 h3
    go_enter Try.func33, Try.ntmps33
    go_wp2_with fail
    generalize w.alloc (.cells #[.int .i64 k, .string t, .int .i64 x] 36) = w0 at *
    have c0 := ht0.c0
    have c1 := ht0.c1
    go_ret
    exact ⟨rfl, hB0⟩
  have y2 : (k == 2) = false := by simpa using h2
  rw [if_neg h2, if_neg h3]
  by_cases h4 : k = 4
  · have z4 : (k == 4) = true := by simpa using h4
    rw [if_pos h4, ← isMk_iff]
    have hf := fun W => pismark_any t W
    generalize isMk t.data.toList = b at *
    have HF := Lib.hid hf
    clear hf hll h1 h3 h2 h4
    go_enter Try.func33, Try.ntmps33
    go_wp2_with fail
    refine (HF.out _).mono ?_
    rintro e w1 ⟨rfl, rfl⟩
    generalize w.alloc (.cells #[.int .i64 k, .string t, .int .i64 x] 36) = w0 at *
    have c0 := ht0.c0
    have c1 := ht0.c1
    go_wp2_with fail
    go_ret
    exact ⟨rfl, hB0⟩
  have y4 : (k == 4) = false := by simpa using h4
  rw [if_neg h4, y1]
  clear hll h1 h2 h3 h4
  go_enter Try.func33, Try.ntmps33
  go_wp2_with fail
  generalize w.alloc (.cells #[.int .i64 k, .string t, .int .i64 x] 36) = w0 at *
  have c0 := ht0.c0
  have c1 := ht0.c1
  go_ret
  exact ⟨rfl, hB0⟩

/-- What a token is printed as. -/
def textI (k : Int) (L : List UInt8) : List UInt8 := if k = 2 then quoteL L else if k = 3 then 36 :: L else L
set_option maxRecDepth 20000 in
theorem pprinted_any (k x : Int) (t : ByteArray) (w : World) (hs : t.size ≤ 16000) :
    Calls Try.prog 34 #[.agg #[.int .i64 k, .string t, .int .i64 x]] w fun e w' => e = .returned (.string (str (textI k t.data.toList))) ∧ Below w.heap.size w w' := by
  have ht0 := tb_new w k t x
  have hB0 := below_alloc w (.cells #[.int .i64 k, .string t, .int .i64 x] 36)
  unfold textI
  by_cases h2 : k = 2
  · have z2 : (k == 2) = true := by simpa using h2
    rw [if_pos h2]
    have hf := fun W => pquote_any t W hs
    generalize str (quoteL t.data.toList) = q at *
    have HF := Lib.hid hf
    clear hf h2
    go_enter Try.func34, Try.ntmps34
    go_wp2_with fail
    refine (HF.out _).mono ?_
    rintro e w1 ⟨rfl, hb⟩
    have hB1 := hB0.trans (hb.mono hB0.size)
    go_wp2_with fail
    go_ret
    exact ⟨rfl, hB1⟩
  have y2 : (k == 2) = false := by simpa using h2
  rw [if_neg h2]
  by_cases h3 : k = 3
  · have z3 : (k == 3) = true := by simpa using h3
    rw [if_pos h3]
    have hq : str (36 :: t.data.toList) = (⟨#[36]⟩ : ByteArray) ++ t := by
      rw [show (36 :: t.data.toList : List UInt8) = [36] ++ t.data.toList from rfl, ← str_append, str_of]; rfl
    rw [hq]
    have hj : (9223372036854775807 < 1 + t.size) = False := by simp; omega
    clear hq h2 h3
    go_enter Try.func34, Try.ntmps34
    go_wp2_with fail
    generalize w.alloc (.cells #[.int .i64 k, .string t, .int .i64 x] 36) = w0 at *
    have c0 := ht0.c0
    have c1 := ht0.c1
    go_ret
    exact ⟨rfl, hB0⟩
  have y3 : (k == 3) = false := by simpa using h3
  rw [if_neg h3, str_of]
  clear h2 h3
  go_enter Try.func34, Try.ntmps34
  go_wp2_with fail
  generalize w.alloc (.cells #[.int .i64 k, .string t, .int .i64 x] 36) = w0 at *
  have c0 := ht0.c0
  have c1 := ht0.c1
  go_ret
  exact ⟨rfl, hB0⟩
end Go.Proofs.Ytcakdgfkepdpkaa
