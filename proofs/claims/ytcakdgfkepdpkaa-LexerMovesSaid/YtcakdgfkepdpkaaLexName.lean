/- Contracts: names and numbers, of the program and of the reference. -/
import Derived.Test.YtcakdgfkepdpkaaLexSkip
namespace Go.Proofs.Ytcakdgfkepdpkaa
open Go.ChangeShapes Go.WideShapes Go.ChangeAt Go.RowKit

theorem follow_all (s : ByteArray) (g : FuncId) (p : UInt8 → Bool) (w : World) (hs : s.size ≤ 4611686018427387903)
    (hp : ∀ c W, Calls Try.prog g #[.int .i32 ((c : UInt8).toNat : Int)] W fun e W' => e = .returned (.bool (p c)) ∧ W = W') (eg : ∀ args W, (callFunc g args).run Try.prog W = .ok (.enter g args) W) :
    Calls Try.prog 42 #[.string s, .int .i64 0, .func (.func g) #[] #[]] w fun e w' => e = .returned (.int .i64 (((s.data.toList.takeWhile p).length : Nat) : Int)) ∧ w = w' := by
  have h := follow_pure s 0 g p w (Nat.zero_le _) hs hp eg
  rw [List.drop_zero, Nat.zero_add] at h
  exact h
theorem eg_name : ∀ (args : Array Value) (W : World), (callFunc 43 args).run Try.prog W = .ok (.enter 43 args) W := fun _ _ => by kernel_rfl
theorem eg_word : ∀ (args : Array Value) (W : World), (callFunc 49 args).run Try.prog W = .ok (.enter 49 args) W := fun _ _ => by kernel_rfl
theorem take_len (L : List UInt8) (p : UInt8 → Bool) : ((L.takeWhile p).length == L.length) = L.all p := by
  induction L with
  | nil => rfl
  | cons c r ih =>
    rw [List.takeWhile_cons, List.all_cons]
    cases h : p c
    · simp
    · simp [ih]

theorem first_of (s : ByteArray) (h : 0 < s.size) : s.data.toList = s[0] :: s.data.toList.drop 1 := by
  have := drop_at s 0 h
  rwa [List.drop_zero] at this

theorem str_isEmpty4 (l : List UInt8) : (str l).toList.isEmpty = l.isEmpty := by
  rw [(ByteArray.toList_eq _).trans (str_toList l)]
theorem empty_of {s : ByteArray} (h : 0 < s.size) : s.toList.isEmpty = false := by
  obtain ⟨⟨l⟩⟩ := s
  cases l with
  | nil => exact absurd h (by decide)
  | cons c r =>
    have e : (str (c :: r)).toList.isEmpty = false := by rw [str_isEmpty4]; rfl
    exact e
theorem isName_of (s : ByteArray) (h : 0 < s.size) : isName s.data.toList = (decide (s.size ≤ 32) && letB s[0] && s.data.toList.all nameB) := by
  have e := first_of s h
  have hl : s.data.toList.length = s.size := by simp
  rw [← hl]
  generalize s[0] = c at *
  generalize s.data.toList.drop 1 = r at *
  rw [e]
  rfl
theorem pisname_any (s : ByteArray) (w : World) (hs : s.size ≤ 4611686018427387903) :
    Calls Try.prog 22 #[.string s] w fun e w' => e = .returned (.bool (isName s.data.toList)) ∧ w = w' := by
  by_cases h0 : s.size = 0
  · obtain rfl : s = ⟨#[]⟩ := by
      apply ByteArray.ext
      exact Array.eq_empty_of_size_eq_zero h0
    go_enter Try.func22, Try.ntmps22
    go_wp2_with fail
    go_ret
    exact ⟨rfl, rfl⟩
  · have hpos : 0 < s.size := by omega
    have hem := empty_of hpos
    have hval := isName_of s hpos
    have hl : s.data.toList.length = s.size := by simp
    by_cases h32 : 32 < s.size
    · have hv : isName s.data.toList = false := by rw [hval]; simp; omega
      rw [hv]
      clear hval hv
      go_enter Try.func22, Try.ntmps22
      go_wp2_with fail
      go_ret
      exact ⟨rfl, rfl⟩
    · have hd : decide (32 < (s.size : Int)) = false := by simp; omega
      have h1 := fun W => pletter_any s[0] W
      have h2 := fun W => follow_all s 43 nameB W hs pname_any eg_name
      have hb := u8_lt s[0]
      have e2 := take_len s.data.toList nameB
      rw [show decide (s.size ≤ 32) = true by simp; omega, Bool.true_and, ← e2] at hval
      rw [hval]
      rw [hl] at *
      generalize hm : (s.data.toList.takeWhile nameB).length = m at *
      have hfin : (m == s.size) = ((m : Int) == (s.size : Int)) := nat_beq _ _
      rw [hfin]
      cases hlb : letB s[0] with
      | false =>
        rw [hlb] at h1
        have H1 := Lib.hid h1
        clear h1 h2 hval hm e2 hfin h32 h0 hl hlb
        go_enter Try.func22, Try.ntmps22
        go_wp2_with fail
        refine (H1.out _).mono ?_
        rintro e w1 ⟨rfl, rfl⟩
        go_wp2_with fail
        go_ret
        exact ⟨rfl, rfl⟩
      | true =>
        rw [hlb] at h1
        have H1 := Lib.hid h1
        have H2 := Lib.hid h2
        clear h1 h2 hval hm e2 hfin h32 h0 hl hlb
        go_enter Try.func22, Try.ntmps22
        go_wp2_with fail
        refine (H1.out _).mono ?_
        rintro e w1 ⟨rfl, rfl⟩
        go_wp2_with fail
        refine (H2.out _).mono ?_
        rintro e w1 ⟨rfl, rfl⟩
        go_wp2_with fail
        go_ret
        exact ⟨rfl, rfl⟩

theorem all_cut (L : List UInt8) (p : UInt8 → Bool) (k : Nat) : L.all p = ((L.take k).all p && (L.drop k).all p) := by
  rw [← List.all_append, List.take_append_drop]
theorem all_next (s : ByteArray) (p : UInt8 → Bool) (k : Nat) (h : k < s.size) : (s.data.toList.take (k + 1)).all p = ((s.data.toList.take k).all p && p s[k]) := by
  have e : s.data.toList.take (k + 1) = s.data.toList.take k ++ [s[k]] := by rw [List.take_succ_eq_append_getElem (by simpa using h)]; rfl
  rw [e, List.all_append]
  simp
theorem all_not (s : ByteArray) (p : UInt8 → Bool) (k : Nat) (h : k < s.size) (hp : p s[k] = false) : s.data.toList.all p = false := by
  rw [all_cut _ p k, drop_at s k h, List.all_cons, hp]
  simp
theorem all_end (s : ByteArray) (p : UInt8 → Bool) : (s.data.toList.take s.size).all p = s.data.toList.all p := by
  rw [List.take_of_length_le (by simp)]

theorem risname_any (s : ByteArray) (w : World) (hs : s.size ≤ 4611686018427387903) :
    Calls Try.prog 23 #[.string s] w fun e w' => e = .returned (.bool (isName s.data.toList)) ∧ w = w' := by
  by_cases h0 : s.size = 0
  · obtain rfl : s = ⟨#[]⟩ := by
      apply ByteArray.ext
      exact Array.eq_empty_of_size_eq_zero h0
    go_enter Try.func23, Try.ntmps23
    go_wp2_with fail
    go_ret
    exact ⟨rfl, rfl⟩
  · have hpos : 0 < s.size := by omega
    have hem := empty_of hpos
    have hval := isName_of s hpos
    by_cases h32 : 32 < s.size
    · have hv : isName s.data.toList = false := by rw [hval]; simp; omega
      rw [hv]
      clear hval hv
      go_enter Try.func23, Try.ntmps23
      go_wp2_with fail
      go_ret
      exact ⟨rfl, rfl⟩
    · have hd : decide (32 < (s.size : Int)) = false := by simp; omega
      have h1 := fun W => rletter_any s[0] W
      rw [show decide (s.size ≤ 32) = true by simp; omega, Bool.true_and] at hval
      rw [hval]
      cases hlb : letB s[0] with
      | false =>
        rw [hlb] at h1
        have H1 := Lib.hid h1
        clear h1 hval h32 h0 hlb
        go_enter Try.func23, Try.ntmps23
        go_wp2_with fail
        refine (H1.out _).mono ?_
        rintro e w1 ⟨rfl, rfl⟩
        go_wp2_with fail
        go_ret
        exact ⟨rfl, rfl⟩
      | true =>
        rw [hlb] at h1
        have H1 := Lib.hid h1
        rw [Bool.true_and]
        obtain ⟨B, hB⟩ : ∃ B, B = s.data.toList.all nameB := ⟨_, rfl⟩
        rw [← hB]
        have HB := Lib.hid hB
        clear h1 hval h32 h0 hlb hB
        go_enter Try.func23, Try.ntmps23
        go_wp2_with fail
        refine (H1.out _).mono ?_
        rintro e w1 ⟨rfl, rfl⟩
        go_wp2_with fail
        go_loop [3] (fun i => ∃ k : Nat, k ≤ s.size ∧ i = .int .i64 k ∧ Hid ((s.data.toList.take k).all nameB = true)) (fun i => s.size - (intOf i).toNat)
        case atStart => exact ⟨0, by omega, rfl, rfl⟩
        case round =>
          obtain ⟨k, hk, rfl, HK⟩ := hrel
          by_cases hlt : k < s.size
          · have hb8 := u8_lt s[k]
            have hki : (k : Int) < (s.size : Int) := by omega
            have hki0 : (0 : Int) ≤ (k : Int) := by omega
            have h2 := fun W => rname_any s[k] W
            have hn := all_next s nameB k hlt
            have hx := all_not s nameB k hlt
            rw [HK.out, Bool.true_and] at hn
            cases hnb : nameB s[k] with
            | false =>
              rw [hnb] at h2
              have H2 := Lib.hid h2
              obtain rfl : B = false := HB.out.trans (hx hnb)
              clear h2 hn hx hnb
              go_wp2_with fail
              refine (H2.out _).mono ?_
              rintro e w1 ⟨rfl, rfl⟩
              go_wp2_with fail
              go_ret
              exact ⟨rfl, rfl⟩
            | true =>
              rw [hnb] at h2 hn
              have H2 := Lib.hid h2
              have HN := Lib.hid hn
              clear h2 hn hx hnb
              go_wp2_with fail
              refine (H2.out _).mono ?_
              rintro e w1 ⟨rfl, rfl⟩
              go_wp2_with fail
              go_round
              case rel => exact ⟨k + 1, by omega, by go_num, HN.out⟩
              case measure => simp [intOf]; omega
          · obtain rfl : k = s.size := by omega
            have hx := HK.out
            rw [all_end] at hx
            obtain rfl : B = true := HB.out.trans hx
            have hd : decide ((s.size : Int) < (s.size : Int)) = false := by simp
            clear hx
            go_wp2_with fail
            go_ret
            exact ⟨rfl, rfl⟩

theorem numV_snoc (L : List UInt8) (c : UInt8) : numV (L ++ [c]) = numV L * 10 + (c.toNat - 48) := by simp [numV]
theorem dig_le {c : UInt8} (h : digB c = true) : 48 ≤ c.toNat ∧ c.toNat ≤ 57 := by
  unfold digB at h
  simpa using h
theorem numV_lt : ∀ (k : Nat) (s : ByteArray), k ≤ s.size → (s.data.toList.take k).all digB = true → numV (s.data.toList.take k) < 10 ^ k
  | 0, _, _, _ => by simp [numV]
  | k + 1, s, hk, h => by
    rw [all_next s digB k (by omega), Bool.and_eq_true] at h
    have ih := numV_lt k s (by omega) h.1
    have e : s.data.toList.take (k + 1) = s.data.toList.take k ++ [s[k]] := by rw [List.take_succ_eq_append_getElem (by simp; omega)]; rfl
    rw [e, numV_snoc, Nat.pow_succ]
    have := dig_le h.2
    omega
theorem isNum_of (s : ByteArray) (h : 0 < s.size) : isNum s.data.toList = (decide (s.size ≤ 13) && !(s[0].toNat == 48 && decide (1 < s.size)) && s.data.toList.all digB && decide (numV s.data.toList < 1099511627776)) := by
  have e := first_of s h
  have hl : s.data.toList.length = s.size := by simp
  rw [← hl]
  generalize s[0] = c at *
  generalize s.data.toList.drop 1 = r at *
  rw [e]
  unfold isNum
  have hr : (!r.isEmpty) = decide (1 < (c :: r).length) := by
    cases r <;> simp
  simp only [hr]
/-- What Number answers. -/
def numR (s : ByteArray) : Value := .tuple #[.int .i64 (if isNum s.data.toList then numV s.data.toList else 0 : Nat), .bool (isNum s.data.toList)]
theorem numR_no {s : ByteArray} (h : isNum s.data.toList = false) : numR s = .tuple #[.int .i64 0, .bool false] := by
  unfold numR
  rw [h]; rfl
theorem numR_yes {s : ByteArray} (h : isNum s.data.toList = true) : numR s = .tuple #[.int .i64 (numV s.data.toList), .bool true] := by
  unfold numR
  rw [h]; rfl

set_option maxRecDepth 20000 in
theorem pnumber_any (s : ByteArray) (w : World) (hs : s.size ≤ 4611686018427387903) :
    Calls Try.prog 20 #[.string s] w fun e w' => e = .returned (numR s) ∧ w = w' := by
  by_cases h0 : s.size = 0
  · obtain rfl : s = ⟨#[]⟩ := by
      apply ByteArray.ext
      exact Array.eq_empty_of_size_eq_zero h0
    go_enter Try.func20, Try.ntmps20
    go_wp2_with fail
    go_ret2
    exact ⟨rfl, rfl⟩
  have hpos : 0 < s.size := by omega
  have hem := empty_of hpos
  have hval := isNum_of s hpos
  by_cases h13 : 13 < s.size
  · rw [numR_no (by rw [hval]; simp; omega)]
    clear hval
    go_enter Try.func20, Try.ntmps20
    go_wp2_with fail
    go_ret2
    exact ⟨rfl, rfl⟩
  have hd : decide (13 < (s.size : Int)) = false := by simp; omega
  rw [show decide (s.size ≤ 13) = true by simp; omega, Bool.true_and] at hval
  have hb8 := u8_lt s[0]
  by_cases hz : s[0].toNat = 48 ∧ 1 < s.size
  · rw [numR_no (by rw [hval]; simp [hz.1, hz.2])]
    have e1 : ((s[0].toNat : Int) == 48) = true := by simp [hz.1]
    have e2 : (1 : Int) < (s.size : Int) := by omega
    clear hval hz
    go_enter Try.func20, Try.ntmps20
    go_wp2_with fail
    go_ret2
    exact ⟨rfl, rfl⟩
  have hg : (s[0].toNat == 48 && decide (1 < s.size)) = false := by
    rw [Bool.and_eq_false_iff]
    simp
    omega
  rw [hg, Bool.not_false, Bool.true_and] at hval
  have HV := Lib.hid hval
  clear hval hg
  by_cases hz0 : s[0].toNat = 48
  case' pos =>
    have e1 : ((s[0].toNat : Int) == 48) = true := by simp [hz0]
    have e2 : decide ((1 : Int) < (s.size : Int)) = false := by simp; omega
    clear hz hz0
  case' neg =>
    have e1 : ((s[0].toNat : Int) == 48) = false := by simp; omega
    clear hz hz0
  all_goals
    go_enter Try.func20, Try.ntmps20
    go_wp2_with fail
    go_loop [4, 5, 6, 26] (fun v c5 c6 i => ∃ k n : Nat, k ≤ s.size ∧ i = .int .i64 k ∧ v = .int .i64 n ∧ Hid ((s.data.toList.take k).all digB = true ∧ n = numV (s.data.toList.take k))) (fun v c5 c6 i => s.size - (intOf i).toNat)
    case atStart => exact ⟨0, 0, by omega, rfl, rfl, rfl, rfl⟩
    case round =>
      obtain ⟨k, n, hk, rfl, rfl, HK⟩ := hrel
      by_cases hlt : k < s.size
      · have hb8 := u8_lt s[k]
        have hki : (k : Int) < (s.size : Int) := by omega
        have hki0 : (0 : Int) ≤ (k : Int) := by omega
        have h2 := fun W => pdigit_any s[k] W
        have hn := all_next s digB k hlt
        have hx := all_not s digB k hlt
        have hv := numV_lt k s (by omega) HK.out.1
        have hp : 10 ^ k ≤ 10 ^ 12 := Nat.pow_le_pow_right (by omega) (by omega)
        have hsn : numV (s.data.toList.take (k + 1)) = n * 10 + (s[k].toNat - 48) := by
          rw [HK.out.2, ← numV_snoc, List.take_succ_eq_append_getElem (by simp; omega)]; rfl
        rw [← HK.out.2] at hv
        have hnb : n < 1000000000000 := by omega
        rw [HK.out.1, Bool.true_and] at hn
        cases hnb : digB s[k] with
        | false =>
          rw [hnb] at h2
          have H2 := Lib.hid h2
          have HX := Lib.hid (hx hnb)
          clear h2 hn hx hnb hv hp hsn
          go_wp2_with fail
          refine (H2.out _).mono ?_
          rintro e w1 ⟨rfl, rfl⟩
          go_wp2_with fail
          go_ret2
          exact ⟨by rw [numR_no (by rw [HV.out, HX.out]; rfl)]; rfl, rfl⟩
        | true =>
          obtain ⟨d1, d2⟩ := dig_le hnb
          rw [hnb] at h2 hn
          have H2 := Lib.hid h2
          have HN := Lib.hid (And.intro hn hsn.symm)
          clear h2 hn hx hnb hv hp hsn
          go_wp2_with fail
          refine (H2.out _).mono ?_
          rintro e w1 ⟨rfl, rfl⟩
          go_wp2_with fail
          go_round
          case rel => exact ⟨k + 1, n * 10 + (s[k].toNat - 48), by omega, by go_num, by go_num, HN.out⟩
          case measure => simp [intOf]; omega
      · obtain rfl : k = s.size := by omega
        have hx := HK.out
        have hv := numV_lt s.size s (Nat.le_refl _) HK.out.1
        have hp : 10 ^ s.size ≤ 10 ^ 13 := Nat.pow_le_pow_right (by omega) (by omega)
        rw [all_end, List.take_of_length_le (by simp)] at hx
        rw [List.take_of_length_le (by simp)] at hv
        obtain ⟨hx1, hx2⟩ := hx
        rw [← hx2] at hv
        have hnb : n < 10000000000000 := by omega
        have hd : decide ((s.size : Int) < (s.size : Int)) = false := by simp
        by_cases hbig : n < 1099511627776
        · have hd2 : decide ((1099511627776 : Int) ≤ (n : Int)) = false := by simp; omega
          have hr := numR_yes (s := s) (by rw [HV.out, hx1, ← hx2]; simp; omega)
          rw [← hx2] at hr
          have HR := Lib.hid hr
          clear hx1 hx2 hv hp hr HK
          go_wp2_with fail
          go_ret2
          exact ⟨by rw [HR.out]; rfl, rfl⟩
        · have hd2 : decide ((1099511627776 : Int) ≤ (n : Int)) = true := by simp; omega
          have hr := numR_no (s := s) (by rw [HV.out, hx1, ← hx2]; simp; omega)
          have HR := Lib.hid hr
          clear hx1 hx2 hv hp hr HK
          go_wp2_with fail
          go_ret2
          exact ⟨by rw [HR.out]; rfl, rfl⟩

set_option maxRecDepth 20000 in
theorem rnumber_any (s : ByteArray) (w : World) (hs : s.size ≤ 4611686018427387903) :
    Calls Try.prog 21 #[.string s] w fun e w' => e = .returned (numR s) ∧ w = w' := by
  by_cases h0 : s.size = 0
  · obtain rfl : s = ⟨#[]⟩ := by
      apply ByteArray.ext
      exact Array.eq_empty_of_size_eq_zero h0
    go_enter Try.func21, Try.ntmps21
    go_wp2_with fail
    go_ret2
    exact ⟨rfl, rfl⟩
  have hpos : 0 < s.size := by omega
  have hem := empty_of hpos
  have hval := isNum_of s hpos
  by_cases h13 : 13 < s.size
  · rw [numR_no (by rw [hval]; simp; omega)]
    clear hval
    go_enter Try.func21, Try.ntmps21
    go_wp2_with fail
    go_ret2
    exact ⟨rfl, rfl⟩
  have hd : decide (13 < (s.size : Int)) = false := by simp; omega
  rw [show decide (s.size ≤ 13) = true by simp; omega, Bool.true_and] at hval
  have hb8 := u8_lt s[0]
  by_cases hz : s[0].toNat = 48 ∧ 1 < s.size
  · rw [numR_no (by rw [hval]; simp [hz.1, hz.2])]
    have e1 : ((s[0].toNat : Int) == 48) = true := by simp [hz.1]
    have e2 : (1 : Int) < (s.size : Int) := by omega
    clear hval hz
    go_enter Try.func21, Try.ntmps21
    go_wp2_with fail
    go_ret2
    exact ⟨rfl, rfl⟩
  have hg : (s[0].toNat == 48 && decide (1 < s.size)) = false := by
    rw [Bool.and_eq_false_iff]
    simp
    omega
  rw [hg, Bool.not_false, Bool.true_and] at hval
  have HV := Lib.hid hval
  clear hval hg
  by_cases hz0 : s[0].toNat = 48
  case' pos =>
    have e1 : ((s[0].toNat : Int) == 48) = true := by simp [hz0]
    have e2 : decide ((1 : Int) < (s.size : Int)) = false := by simp; omega
    clear hz hz0
  case' neg =>
    have e1 : ((s[0].toNat : Int) == 48) = false := by simp; omega
    clear hz hz0
  all_goals
    go_enter Try.func21, Try.ntmps21
    go_wp2_with fail
    go_loop [4, 5] (fun v i => ∃ k n : Nat, k ≤ s.size ∧ i = .int .i64 k ∧ v = .int .i64 n ∧ Hid ((s.data.toList.take k).all digB = true ∧ n = numV (s.data.toList.take k))) (fun v i => s.size - (intOf i).toNat)
    case atStart => exact ⟨0, 0, by omega, rfl, rfl, rfl, rfl⟩
    case round =>
      obtain ⟨k, n, hk, rfl, rfl, HK⟩ := hrel
      by_cases hlt : k < s.size
      · have hb8 := u8_lt s[k]
        have hki : (k : Int) < (s.size : Int) := by omega
        have hki0 : (0 : Int) ≤ (k : Int) := by omega
        have h2 := fun W => rdigit_any s[k] W
        have hn := all_next s digB k hlt
        have hx := all_not s digB k hlt
        have hv := numV_lt k s (by omega) HK.out.1
        have hp : 10 ^ k ≤ 10 ^ 12 := Nat.pow_le_pow_right (by omega) (by omega)
        have hsn : numV (s.data.toList.take (k + 1)) = n * 10 + (s[k].toNat - 48) := by
          rw [HK.out.2, ← numV_snoc, List.take_succ_eq_append_getElem (by simp; omega)]; rfl
        rw [← HK.out.2] at hv
        have hnb : n < 1000000000000 := by omega
        rw [HK.out.1, Bool.true_and] at hn
        cases hnb : digB s[k] with
        | false =>
          rw [hnb] at h2
          have H2 := Lib.hid h2
          have HX := Lib.hid (hx hnb)
          clear h2 hn hx hnb hv hp hsn
          go_wp2_with fail
          refine (H2.out _).mono ?_
          rintro e w1 ⟨rfl, rfl⟩
          go_wp2_with fail
          go_ret2
          exact ⟨by rw [numR_no (by rw [HV.out, HX.out]; rfl)]; rfl, rfl⟩
        | true =>
          obtain ⟨d1, d2⟩ := dig_le hnb
          rw [hnb] at h2 hn
          have H2 := Lib.hid h2
          have HN := Lib.hid (And.intro hn hsn.symm)
          clear h2 hn hx hnb hv hp hsn
          go_wp2_with fail
          refine (H2.out _).mono ?_
          rintro e w1 ⟨rfl, rfl⟩
          go_wp2_with fail
          go_round
          case rel => exact ⟨k + 1, n * 10 + (s[k].toNat - 48), by omega, by go_num, by go_num, HN.out⟩
          case measure => simp [intOf]; omega
      · obtain rfl : k = s.size := by omega
        have hx := HK.out
        have hv := numV_lt s.size s (Nat.le_refl _) HK.out.1
        have hp : 10 ^ s.size ≤ 10 ^ 13 := Nat.pow_le_pow_right (by omega) (by omega)
        rw [all_end, List.take_of_length_le (by simp)] at hx
        rw [List.take_of_length_le (by simp)] at hv
        obtain ⟨hx1, hx2⟩ := hx
        rw [← hx2] at hv
        have hnb : n < 10000000000000 := by omega
        have hd : decide ((s.size : Int) < (s.size : Int)) = false := by simp
        by_cases hbig : n < 1099511627776
        · have hd2 : decide ((1099511627776 : Int) ≤ (n : Int)) = false := by simp; omega
          have hr := numR_yes (s := s) (by rw [HV.out, hx1, ← hx2]; simp; omega)
          rw [← hx2] at hr
          have HR := Lib.hid hr
          clear hx1 hx2 hv hp hr HK
          go_wp2_with fail
          go_ret2
          exact ⟨by rw [HR.out]; rfl, rfl⟩
        · have hd2 : decide ((1099511627776 : Int) ≤ (n : Int)) = true := by simp; omega
          have hr := numR_no (s := s) (by rw [HV.out, hx1, ← hx2]; simp; omega)
          have HR := Lib.hid hr
          clear hx1 hx2 hv hp hr HK
          go_wp2_with fail
          go_ret2
          exact ⟨by rw [HR.out]; rfl, rfl⟩
end Go.Proofs.Ytcakdgfkepdpkaa
