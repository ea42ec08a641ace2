/- Contract: Print of the reference. -/
import Derived.Test.YtcakdgfkepdpkaaLexPrint
import Derived.Test.YtcakdgfkepdpkaaLexRQuote
namespace Go.Proofs.Ytcakdgfkepdpkaa
open Go.ChangeShapes Go.WideShapes Go.ChangeAt Go.RowKit
set_option linter.unusedVariables false

set_option maxHeartbeats 1000000 in
set_option maxRecDepth 20000 in
theorem rprint_any (A0 : Option Addr) (n cap0 : Nat) (K : Nat → Int) (T : Nat → ByteArray) (P : Nat → Int) (w : World) (h : InToks w A0 n K T P) (hn : n ≤ 40) (ht : ∀ i, i < n → (T i).size ≤ 300) :
    Calls Try.prog 16 #[.slice A0 n cap0] w fun e w' => e = .returned (.string (str (joinT (pl K T n)))) ∧ Below w.heap.size w w' := by
  have H := Lib.hid h
  have HT := Lib.hid ht
  clear h ht
  go_enter Try.func16, Try.ntmps16
  go_wp2_with fail
  go_loopw [3, 4] (fun b i wr => ∃ k : Nat, ∃ O : List UInt8, ∃ bb : ByteArray, k ≤ n ∧ i = .int .i64 k ∧ Hid (O = joinT (pl K T k)) ∧ O.length ≤ 1000 * k ∧ b = .string bb ∧ Hid (bb = str O) ∧ Hid (Below w.heap.size w wr)) (fun _ i _ => n - (intOf i).toNat)
  case atStart => exact ⟨0, [], ⟨#[]⟩, Nat.zero_le _, rfl, rfl, Nat.zero_le _, rfl, rfl, Below.refl _ _⟩
  case round =>
    obtain ⟨k, O, b, hk, rfl, HO, hol, rfl, HBS, HB⟩ := hrel
    have hbz : b.size = O.length := by rw [HBS.out, str_size]
    by_cases hlt : k < n
    · obtain ⟨g, o, rfl, hg, hc⟩ := H.out (by omega)
      obtain ⟨c0, c1, c2, _⟩ := hc k hlt
      have hbc := fun i => HB.out.cell (p := ⟨g, i, none⟩) hg
      have d0 := (hbc _).trans c0
      have d1 := (hbc _).trans c1
      have d2 := (hbc _).trans c2
      have hsz := HT.out k hlt
      have hO' : joinT (pl K T (k + 1)) = if validI (K k) (T k).data.toList = true then (if pl K T k = [] then textI (K k) (T k).data.toList else O ++ ([32] ++ textI (K k) (T k).data.toList)) else O := by
        rw [HO.out, pl]
        by_cases hv : validI (K k) (T k).data.toList = true
        · rw [if_pos hv, if_pos hv, join_snoc, text_eq hv]
        · rw [if_neg hv, if_neg hv]
      have hlen' : (joinT (pl K T (k + 1))).length ≤ 1000 * (k + 1) := join_len K T (k + 1) (fun i hi => HT.out i (by omega))
      have hni := join_nil_iff K T k
      rw [← HO.out] at hni
      have hva := fun W => rvalid4_any (K k) (P k) (T k) W (by omega)
      have hki : (k : Int) < (n : Int) := by omega
      have hki0 : (0 : Int) ≤ (k : Int) := by omega
      obtain ⟨O2, hO2⟩ : ∃ O2, O2 = joinT (pl K T (k + 1)) := ⟨_, rfl⟩
      rw [← hO2] at hO' hlen'
      have HO2 := Lib.hid hO2
      generalize hvd : validI (K k) (T k).data.toList = vd at *
      generalize K k = kd at *
      generalize T k = te at *
      generalize P k = pp at *
      have HC0 := Lib.hid c0
      have HC1 := Lib.hid c1
      have hB := HB.out
      clear hc hbc c0 c1 c2 hO2 hvd HB
      have HVA := Lib.hid hva
      clear hva
      cases vd with
      | false =>
        rw [if_neg (by decide)] at hO'
        subst hO'
        clear hni
        go_wp2_with fail
        refine (HVA.out _).mono ?_
        rintro e w2 ⟨rfl, hb⟩
        have HB2 := Lib.hid (hB.trans (hb.mono hB.size))
        clear hb hB d0 d1 d2
        go_wp2_with fail
        go_roundw
        case rel => exact ⟨k + 1, O2, b, by omega, by go_num, HO2, hlen', rfl, HBS, HB2⟩
        case measure => simp [intOf]; omega
      | true =>
        rw [if_pos rfl] at hO'
        by_cases hO0 : O.length = 0
        · have hnil := hni.2 hO0
          rw [if_pos hnil] at hO'
          have hOn : O = [] := List.eq_nil_of_length_eq_zero hO0
          have HOE := Lib.hid hOn
          have hem : b.toList.isEmpty = true := by rw [HBS.out, hOn]; exact str_isEmpty4 []
          clear hni hnil hOn
          by_cases k2 : kd = 2
          · have z2 : (kd == 2) = true := by simpa using k2
            have hq := fun W => rquote_any te W (by omega)
            have hte : textI kd te.data.toList = quoteL te.data.toList := by unfold textI; rw [if_pos k2]
            rw [hte] at hO'
            obtain ⟨q, hqq⟩ : ∃ q, q = str (quoteL te.data.toList) := ⟨_, rfl⟩
            have hqz : q.size ≤ 903 := by
              rw [hqq, str_size]
              have := quo_len4 te.data.toList false
              have hl : te.data.toList.length = te.size := by simp
              unfold quoteL
              simp; omega
            have HF := Lib.hid (show b ++ q = str O2 by rw [hO', hqq, HBS.out, HOE.out, str_append, List.nil_append])
            have HQ := Lib.hid (show ∀ W, Calls Try.prog 19 #[.string te] W fun e w' => e = .returned (.string q) ∧ Below W.heap.size W w' from by rw [hqq]; exact hq)
            have jq : (9223372036854775807 < b.size + q.size) = False := by simp; omega
            clear hO' hq hqq hte k2
            go_wp2_with fail
            refine (HVA.out _).mono ?_
            rintro e w2 ⟨rfl, hb⟩
            have hB2 := hB.trans (hb.mono hB.size)
            have hbc2 := fun i => hB2.cell (p := ⟨g, i, none⟩) hg
            have d0 := (hbc2 _).trans HC0.out
            have d1 := (hbc2 _).trans HC1.out
            clear hb hB hbc2
            go_wp2_with fail
            refine (HQ.out _).mono ?_
            rintro e w3 ⟨rfl, hb⟩
            have HB3 := Lib.hid (hB2.trans (hb.mono hB2.size))
            clear hb hB2 d0 d1
            go_wp2_with fail
            go_roundw
            case rel => exact ⟨k + 1, O2, _, by omega, by go_num, HO2, hlen', rfl, HF.out, HB3⟩
            case measure => simp [intOf]; omega
          have y2 : (kd == 2) = false := by simpa using k2
          by_cases k3 : kd = 3
          · have z3 : (kd == 3) = true := by simpa using k3
            have hte : textI kd te.data.toList = [36] ++ te.data.toList := by unfold textI; rw [if_neg k2, if_pos k3]; rfl
            rw [hte] at hO'
            have HF := Lib.hid (show b ++ (⟨#[36]⟩ : ByteArray) ++ te = str O2 by rw [hO', HBS.out, HOE.out, show (⟨#[36]⟩ : ByteArray) = str [36] from rfl, str_append, ← str_of te, str_append, str_toList, List.nil_append])
            have jq : (9223372036854775807 < b.size + 1) = False := by simp; omega
            have jq2 : (9223372036854775807 < b.size + 1 + te.size) = False := by simp; omega
            clear hO' hte k2 k3
            go_wp2_with fail
            refine (HVA.out _).mono ?_
            rintro e w2 ⟨rfl, hb⟩
            have hB2 := hB.trans (hb.mono hB.size)
            have hbc2 := fun i => hB2.cell (p := ⟨g, i, none⟩) hg
            have d0 := (hbc2 _).trans HC0.out
            have d1 := (hbc2 _).trans HC1.out
            have HB3 := Lib.hid hB2
            clear hb hB hbc2
            go_wp2_with fail
            go_roundw
            case rel => exact ⟨k + 1, O2, _, by omega, by go_num, HO2, hlen', rfl, HF.out, HB3⟩
            case measure => simp [intOf]; omega
          have y3 : (kd == 3) = false := by simpa using k3
          have hte : textI kd te.data.toList = te.data.toList := by unfold textI; rw [if_neg k2, if_neg k3]
          rw [hte] at hO'
          have HF := Lib.hid (show b ++ te = str O2 by rw [hO', HBS.out, HOE.out, ← str_of te, str_append, str_toList, List.nil_append])
          have jq : (9223372036854775807 < b.size + te.size) = False := by simp; omega
          clear hO' hte k2 k3
          go_wp2_with fail
          refine (HVA.out _).mono ?_
          rintro e w2 ⟨rfl, hb⟩
          have hB2 := hB.trans (hb.mono hB.size)
          have hbc2 := fun i => hB2.cell (p := ⟨g, i, none⟩) hg
          have d0 := (hbc2 _).trans HC0.out
          have d1 := (hbc2 _).trans HC1.out
          have HB3 := Lib.hid hB2
          clear hb hB hbc2
          go_wp2_with fail
          go_roundw
          case rel => exact ⟨k + 1, O2, _, by omega, by go_num, HO2, hlen', rfl, HF.out, HB3⟩
          case measure => simp [intOf]; omega
        · have hnil : ¬ pl K T k = [] := fun e => hO0 (hni.1 e)
          rw [if_neg hnil] at hO'
          have hem := empty_of (show 0 < b.size by omega)
          have js : (9223372036854775807 < b.size + 1) = False := by simp; omega
          clear hni hnil hO0
          by_cases k2 : kd = 2
          · have z2 : (kd == 2) = true := by simpa using k2
            have hq := fun W => rquote_any te W (by omega)
            have hte : textI kd te.data.toList = quoteL te.data.toList := by unfold textI; rw [if_pos k2]
            rw [hte] at hO'
            obtain ⟨q, hqq⟩ : ∃ q, q = str (quoteL te.data.toList) := ⟨_, rfl⟩
            have hqz : q.size ≤ 903 := by
              rw [hqq, str_size]
              have := quo_len4 te.data.toList false
              have hl : te.data.toList.length = te.size := by simp
              unfold quoteL
              simp; omega
            have HF := Lib.hid (show b ++ (⟨#[32]⟩ : ByteArray) ++ q = str O2 by rw [hO', hqq, HBS.out, show (⟨#[32]⟩ : ByteArray) = str [32] from rfl, str_append, str_append, List.append_assoc])
            have HQ := Lib.hid (show ∀ W, Calls Try.prog 19 #[.string te] W fun e w' => e = .returned (.string q) ∧ Below W.heap.size W w' from by rw [hqq]; exact hq)
            have jq : (9223372036854775807 < b.size + 1 + q.size) = False := by simp; omega
            clear hO' hq hqq hte k2
            go_wp2_with fail
            refine (HVA.out _).mono ?_
            rintro e w2 ⟨rfl, hb⟩
            have hB2 := hB.trans (hb.mono hB.size)
            have hbc2 := fun i => hB2.cell (p := ⟨g, i, none⟩) hg
            have d0 := (hbc2 _).trans HC0.out
            have d1 := (hbc2 _).trans HC1.out
            clear hb hB hbc2
            go_wp2_with fail
            refine (HQ.out _).mono ?_
            rintro e w3 ⟨rfl, hb⟩
            have HB3 := Lib.hid (hB2.trans (hb.mono hB2.size))
            clear hb hB2 d0 d1
            go_wp2_with fail
            go_roundw
            case rel => exact ⟨k + 1, O2, _, by omega, by go_num, HO2, hlen', rfl, HF.out, HB3⟩
            case measure => simp [intOf]; omega
          have y2 : (kd == 2) = false := by simpa using k2
          by_cases k3 : kd = 3
          · have z3 : (kd == 3) = true := by simpa using k3
            have hte : textI kd te.data.toList = [36] ++ te.data.toList := by unfold textI; rw [if_neg k2, if_pos k3]; rfl
            rw [hte] at hO'
            have HF := Lib.hid (show b ++ (⟨#[32]⟩ : ByteArray) ++ (⟨#[36]⟩ : ByteArray) ++ te = str O2 by rw [hO', HBS.out, show (⟨#[32]⟩ : ByteArray) = str [32] from rfl, show (⟨#[36]⟩ : ByteArray) = str [36] from rfl, str_append, str_append, ← str_of te, str_append, str_toList, List.append_assoc, List.append_assoc])
            have jq : (9223372036854775807 < b.size + 1 + 1) = False := by simp; omega
            have jq2 : (9223372036854775807 < b.size + 1 + 1 + te.size) = False := by simp; omega
            clear hO' hte k2 k3
            go_wp2_with fail
            refine (HVA.out _).mono ?_
            rintro e w2 ⟨rfl, hb⟩
            have hB2 := hB.trans (hb.mono hB.size)
            have hbc2 := fun i => hB2.cell (p := ⟨g, i, none⟩) hg
            have d0 := (hbc2 _).trans HC0.out
            have d1 := (hbc2 _).trans HC1.out
            have HB3 := Lib.hid hB2
            clear hb hB hbc2
            go_wp2_with fail
            go_roundw
            case rel => exact ⟨k + 1, O2, _, by omega, by go_num, HO2, hlen', rfl, HF.out, HB3⟩
            case measure => simp [intOf]; omega
          have y3 : (kd == 3) = false := by simpa using k3
          have hte : textI kd te.data.toList = te.data.toList := by unfold textI; rw [if_neg k2, if_neg k3]
          rw [hte] at hO'
          have HF := Lib.hid (show b ++ (⟨#[32]⟩ : ByteArray) ++ te = str O2 by rw [hO', HBS.out, show (⟨#[32]⟩ : ByteArray) = str [32] from rfl, str_append, ← str_of te, str_append, str_toList, List.append_assoc])
          have jq : (9223372036854775807 < b.size + 1 + te.size) = False := by simp; omega
          clear hO' hte k2 k3
          go_wp2_with fail
          refine (HVA.out _).mono ?_
          rintro e w2 ⟨rfl, hb⟩
          have hB2 := hB.trans (hb.mono hB.size)
          have hbc2 := fun i => hB2.cell (p := ⟨g, i, none⟩) hg
          have d0 := (hbc2 _).trans HC0.out
          have d1 := (hbc2 _).trans HC1.out
          have HB3 := Lib.hid hB2
          clear hb hB hbc2
          go_wp2_with fail
          go_roundw
          case rel => exact ⟨k + 1, O2, _, by omega, by go_num, HO2, hlen', rfl, HF.out, HB3⟩
          case measure => simp [intOf]; omega
    · obtain rfl : k = n := by omega
      have hd : decide ((k : Int) < (k : Int)) = false := by simp
      have hb := HB.out
      clear HB
      go_wp2_with fail
      go_ret
      exact ⟨by rw [← HO.out, ← HBS.out]; rfl, hb⟩
end Go.Proofs.Ytcakdgfkepdpkaa
