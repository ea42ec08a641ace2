/- Contract: Valid of the reference. -/
import Derived.Test.YtcakdgfkepdpkaaLexValid
import Derived.Deep.RegionHeld3
namespace Go.Proofs.Ytcakdgfkepdpkaa
open Go.ChangeShapes Go.WideShapes Go.ChangeAt Go.RowKit
set_option linter.unusedVariables false

theorem str_tl4 (l : List UInt8) : (str l).toList = l := (ByteArray.toList_eq _).trans (str_toList l)
set_option maxHeartbeats 400000 in
set_option maxRecDepth 20000 in
theorem rvalid4_any (k x : Int) (t : ByteArray) (w : World) (hs : t.size ≤ 4611686018427387903) :
    Calls Try.prog 17 #[.agg #[.int .i64 k, .string t, .int .i64 x]] w fun e w' => e = .returned (.bool (validI k t.data.toList)) ∧ Below w.heap.size w w' := by
  have ht0 := tb_new w k t x
  have hB0 := below_alloc w (.cells #[.int .i64 k, .string t, .int .i64 x] 36)
  have hll : t.data.toList.length = t.size := by simp
  unfold validI
  rw [hll]
  by_cases h2 : k = 2
  · have z2 : (k == 2) = true := by simpa using h2
    rw [if_pos h2]
    have hz : decide (t.size ≤ 256) = decide ((t.size : Int) ≤ 256) := by
      by_cases h : t.size ≤ 256
      · simp [h]; omega
      · simp [h]; omega
    rw [hz]
    clear hll hz h2
    go_enter Try.func17, Try.ntmps17
    go_wp2_with fail
    generalize w.alloc (.cells #[.int .i64 k, .string t, .int .i64 x] 36) = w0 at *
    have c0 := ht0.c0
    have c1 := ht0.c1
    go_ret
    exact ⟨rfl, hB0⟩
  have y2 : (k == 2) = false := by simpa using h2
  rw [if_neg h2]
  by_cases h3 : k = 3
  · have z3 : (k == 3) = true := by simpa using h3
    rw [if_pos h3]
    have hf := fun W => risname_any t W hs
    generalize isName t.data.toList = b at *
    have HF := Lib.hid hf
    clear hf hll h2 h3
    go_enter Try.func17, Try.ntmps17
    go_wp2_with fail
    refine (HF.out _).mono ?_
    rintro e w1 ⟨rfl, rfl⟩
    generalize w.alloc (.cells #[.int .i64 k, .string t, .int .i64 x] 36) = w0 at *
    have c0 := ht0.c0
    have c1 := ht0.c1
    go_wp2_with fail
    go_ret
    exact ⟨rfl, hB0⟩
  have y3 : (k == 3) = false := by simpa using h3
  rw [if_neg h3]
  by_cases h4 : k = 4
  · have z4 : (k == 4) = true := by simpa using h4
    rw [if_pos h4]
    by_cases h0 : t.size = 0
    · have hnil : t.data.toList = [] := List.eq_nil_of_length_eq_zero (by rw [hll]; exact h0)
      have hem : t.toList.isEmpty = true := by rw [ByteArray.toList_eq, hnil]; rfl
      rw [hnil]
      clear h0 hll h2 h3 h4 hnil
      go_enter Try.func17, Try.ntmps17
      go_wp2_with fail
      generalize w.alloc (.cells #[.int .i64 k, .string t, .int .i64 x] 36) = w0 at *
      have c0 := ht0.c0
      have c1 := ht0.c1
      go_quiet (fail)
      have hB2 := below_drewN hB0 nq
      go_wp2_with fail
      go_ret
      exact ⟨rfl, hB2⟩
    · have hem := empty_of (show 0 < t.size by omega)
      have hne : t.data.toList.isEmpty = false := by rw [← hem, ByteArray.toList_eq]
      rw [hne]
      have hf := fun W => rmark_any t W hs
      have hcmp : ((str (markOf t.data.toList)).toList == t.toList) = (markOf t.data.toList == t.data.toList) := by rw [str_tl4, ByteArray.toList_eq]
      generalize (markOf t.data.toList == t.data.toList) = b at *
      generalize str (markOf t.data.toList) = m at *
      have HF := Lib.hid hf
      clear hf hll h2 h3 h4 h0 hne
      go_enter Try.func17, Try.ntmps17
      go_wp2_with fail
      generalize w.alloc (.cells #[.int .i64 k, .string t, .int .i64 x] 36) = w0 at *
      have c0 := ht0.c0
      have c1 := ht0.c1
      go_region_held3 (fun w' => w'.cell? ⟨w.heap.size, 1, none⟩ = some (.string t)) (go_keep) (first
        | (go_at_call 35; refine (HF.out _).mono ?_; rintro e w3 ⟨rfl, hb3d⟩; have hb3 : Below w0.heap.size w0 w3 := ⟨hb3d.os, hb3d.tape, hb3d.output, hb3d.size, hb3d.block⟩; have c1' := (ht0.kept hb3 ht0.lt).c1))
      all_goals
        have hB2 := hB0.trans (hb3.mono hB0.size)
        go_wp2_with fail
        go_ret
        refine ⟨?_, hB2⟩
        show Ending.returned (Value.bool _) = Ending.returned (Value.bool _)
        simp
  have y4 : (k == 4) = false := by simpa using h4
  rw [if_neg h4]
  by_cases h1 : k = 1
  · have z1 : (k != 1) = false := by simp [h1]
    have z1' : (k == 1) = true := by simpa using h1
    rw [z1', Bool.true_and]
    by_cases h0 : t.size = 0
    · have hnil : t.data.toList = [] := List.eq_nil_of_length_eq_zero (by rw [hll]; exact h0)
      have hem : t.toList.isEmpty = true := by rw [ByteArray.toList_eq, hnil]; rfl
      rw [hnil]
      clear h0 hll h2 h3 h4 hnil h1
      go_enter Try.func17, Try.ntmps17
      go_wp2_with fail
      generalize w.alloc (.cells #[.int .i64 k, .string t, .int .i64 x] 36) = w0 at *
      have c0 := ht0.c0
      have c1 := ht0.c1
      go_ret
      exact ⟨rfl, hB0⟩
    have hem := empty_of (show 0 < t.size by omega)
    have hne : t.data.toList.isEmpty = false := by rw [← hem, ByteArray.toList_eq]
    rw [hne]
    by_cases h80 : t.size ≤ 80
    · have d80 : decide ((80 : Int) < (t.size : Int)) = false := by simp; omega
      rw [show decide (t.size ≤ 80) = true by simp; exact h80, Bool.not_false, Bool.true_and, Bool.true_and]
      obtain ⟨B, hB⟩ : ∃ B, B = t.data.toList.all wordB := ⟨_, rfl⟩
      rw [← hB]
      have HBB := Lib.hid hB
      clear h0 hll h2 h3 h4 h1 hne hB
      go_enter Try.func17, Try.ntmps17
      go_wp2_with fail
      generalize w.alloc (.cells #[.int .i64 k, .string t, .int .i64 x] 36) = w0 at *
      have c0 := ht0.c0
      have c1 := ht0.c1
      go_loop [3] (fun i => ∃ q : Nat, q ≤ t.size ∧ i = .int .i64 q ∧ Hid ((t.data.toList.take q).all wordB = true)) (fun i => t.size - (intOf i).toNat)
      case atStart => exact ⟨0, by omega, rfl, rfl⟩
      case round =>
        obtain ⟨q, hq, rfl, HK⟩ := hrel
        by_cases hlt : q < t.size
        · have hb8 := u8_lt t[q]
          have hki : (q : Int) < (t.size : Int) := by omega
          have hki0 : (0 : Int) ≤ (q : Int) := by omega
          have hw := fun W => rword_any t[q] W
          have hn := all_next t wordB q hlt
          have hx := all_not t wordB q hlt
          rw [HK.out, Bool.true_and] at hn
          cases hnb : wordB t[q] with
          | false =>
            rw [hnb] at hw
            have HW := Lib.hid hw
            obtain rfl : B = false := HBB.out.trans (hx hnb)
            clear hw hn hx hnb
            go_wp2_with fail
            refine (HW.out _).mono ?_
            rintro e w1 ⟨rfl, rfl⟩
            go_wp2_with fail
            go_ret
            exact ⟨rfl, hB0⟩
          | true =>
            rw [hnb] at hw hn
            have HW := Lib.hid hw
            have HN := Lib.hid hn
            clear hw hn hx hnb
            go_wp2_with fail
            refine (HW.out _).mono ?_
            rintro e w1 ⟨rfl, rfl⟩
            go_wp2_with fail
            go_round
            case rel => exact ⟨q + 1, by omega, by go_num, HN.out⟩
            case measure => simp [intOf]; omega
        · obtain rfl : q = t.size := by omega
          have hx := HK.out
          rw [all_end] at hx
          obtain rfl : B = true := HBB.out.trans hx
          have hd : decide ((t.size : Int) < (t.size : Int)) = false := by simp
          clear hx
          go_wp2_with fail
          go_ret
          exact ⟨rfl, hB0⟩
    · have d80 : (80 : Int) < (t.size : Int) := by omega
      rw [show decide (t.size ≤ 80) = false by simp; omega]
      clear h0 hll h2 h3 h4 h1 hne
      go_enter Try.func17, Try.ntmps17
      go_wp2_with fail
      generalize w.alloc (.cells #[.int .i64 k, .string t, .int .i64 x] 36) = w0 at *
      have c0 := ht0.c0
      have c1 := ht0.c1
      go_ret
      exact ⟨rfl, hB0⟩
  have z1 : (k != 1) = true := by simpa using h1
  have z1' : (k == 1) = false := by simpa using h1
  rw [z1']
  clear hll h1 h2 h3 h4
  go_enter Try.func17, Try.ntmps17
  go_wp2_with fail
  generalize w.alloc (.cells #[.int .i64 k, .string t, .int .i64 x] 36) = w0 at *
  have c0 := ht0.c0
  have c1 := ht0.c1
  go_ret
  exact ⟨rfl, hB0⟩
end Go.Proofs.Ytcakdgfkepdpkaa
