/- Contracts of the functions, part 23: AdqBnd, AdrVal, AdqStr. -/
import Derived.Test.YtjjldolafnfpoaaPE6
import Derived.Test.YtjjldolafnfpoaaPE15
import Derived.Test.YtjjldolafnfpoaaPE21
import Derived.Test.YtjjldolafnfpoaaPE22
/- Contracts of the program's layer 6: Bounds. -/
namespace Go.Proofs.Ytjjldolafnfpoaa
open Go.ChangeShapes Go.WideShapes Go.ChangeAt Go.RowKit
set_option linter.unusedVariables false

theorem AB.al {w : World} {g : Nat} {v6 : Bool} {hi lo : Nat} (h : AB w g v6 hi lo) (o : Obj) : AB (w.alloc o) g v6 hi lo := h.kept (below_alloc6 w o) h.lt
/-- The six stores of a range. -/
def rset (w : World) (g : Nat) (v1 : Bool) (h1 l1 : Nat) (v2 : Bool) (h2 l2 : Nat) : World := (((((w.setCell ⟨g, 0, none⟩ (.bool v1)).setCell ⟨g, 1, none⟩ (.int .u64 h1)).setCell ⟨g, 2, none⟩ (.int .u64 l1)).setCell ⟨g, 3, none⟩ (.bool v2)).setCell ⟨g, 4, none⟩ (.int .u64 h2)).setCell ⟨g, 5, none⟩ (.int .u64 l2)
theorem rset_below {B : Nat} {a w : World} {g : Nat} (h : Below B a w) (hg : B ≤ g) (v1 : Bool) (h1 l1 : Nat) (v2 : Bool) (h2 l2 : Nat) : Below B a (rset w g v1 h1 l1 v2 h2 l2) := (((((h.setCell hg _).setCell hg _).setCell hg _).setCell hg _).setCell hg _).setCell hg _
theorem vldP_out {v6 : Bool} {hi lo k : Nat} (h : vldP v6 hi lo k = true) : vldA v6 hi lo = true ∧ k ≤ width v6 ∧ mkH v6 k hi = hi ∧ mkL v6 k lo = lo := by
  unfold vldP cntB at h
  rw [Bool.and_eq_true, Bool.and_eq_true, Bool.and_eq_true, Bool.and_eq_true, decide_eq_true_eq, beq_iff_eq, beq_iff_eq, beq_iff_eq, Int.toNat_natCast] at h
  obtain ⟨a, ⟨_, b⟩, _, c, d⟩ := h
  exact ⟨a, by omega, by omega, by omega⟩
end Go.Proofs.Ytjjldolafnfpoaa

/- Contracts of the reference of layer 6 in the program's words: with; ValidPrefix. -/
namespace Go.Proofs.Ytjjldolafnfpoaa
open Go.ChangeShapes Go.WideShapes Go.ChangeAt Go.RowKit
set_option linter.unusedVariables false

theorem width_le (v : Bool) : width v ≤ 128 := by unfold width; split <;> omega
theorem wst_mk {v : Bool} {hi lo k hi' lo' : Nat} (h : Wst (numA hi lo) (width v) k (width v) false hi' lo') (h1 : hi < 18446744073709551616) (h2 : lo < 18446744073709551616) : hi' = mkH v k hi ∧ lo' = mkL v k lo := by
  have he := wst_end h (numA_lt h1 h2) (by have := width_le v; omega)
  rw [if_neg (by decide), ← low_cut v k h2] at he
  exact (numA_inj h.h2 (Nat.lt_of_le_of_lt (lowZ_le _ _) h2)).1 he
theorem wst_fill {v : Bool} {hi lo k hi' lo' : Nat} (h : Wst (numA hi lo) (width v) k (width v) true hi' lo') (h1 : hi < 18446744073709551616) (h2 : lo < 18446744073709551616) : hi' = lowO (frH v k) hi ∧ lo' = lowO (frL v k) lo := by
  have he := wst_end h (numA_lt h1 h2) (by have := width_le v; omega)
  rw [if_pos rfl, ← low_fill v k h2] at he
  exact (numA_inj h.h2 (lowO_lt h2 (frL_le _ _))).1 he
end Go.Proofs.Ytjjldolafnfpoaa

/- Contracts of the program's layer 6: eightBytes, numberOf, Bytes, FromBytes. -/
namespace Go.Proofs.Ytjjldolafnfpoaa
open Go.ChangeShapes Go.WideShapes Go.ChangeAt Go.RowKit
set_option linter.unusedVariables false

set_option maxHeartbeats 1000000 in
set_option maxRecDepth 20000 in
theorem qeight_any (n : Nat) (w : World) (hn : n < 18446744073709551616) :
    Calls Try.prog 57 #[.int .u64 n] w fun e w' => e = .returned (.string (str (leL 8 n).reverse)) ∧ Below w.heap.size w w' := by
  go_enter Try.func57, Try.ntmps57
  go_wp2_with fail
  go_loopw [0, 4] (fun v0 v4 wr => ∃ m N : Nat, m ≤ 8 ∧ Hid (N = n / pw m) ∧ v0 = .int .u64 N ∧ v4 = .int .i64 (7 - (m : Int)) ∧ wr.rowIs w.heap.size 96 8 (fun x => .int .u8 (if 8 - m ≤ x then ((n / 256 ^ (7 - x) % 256 : Nat) : Int) else 0)) ∧ Below w.heap.size w wr) (fun v0 v4 _ => (intOf v4 + 1).toNat)
  case atStart =>
    refine ⟨0, n, by omega, Lib.hid (by rw [pw_zero, Nat.div_one]), rfl, rfl, ?_, (Below.refl _ _).alloc (Nat.le_refl _) _⟩
    refine World.rowIs.congr (World.rowIs_alloc w _ _ (fun _ => .int .u8 0) ?_) (fun i hi => by rw [if_neg (by omega)])
    intro i hi
    have hk : i = 0 ∨ i = 1 ∨ i = 2 ∨ i = 3 ∨ i = 4 ∨ i = 5 ∨ i = 6 ∨ i = 7 := by
      have : i < 8 := hi
      omega
    rcases hk with rfl | rfl | rfl | rfl | rfl | rfl | rfl | rfl <;> rfl
  case round =>
    obtain ⟨m, N, hm, HN, rfl, rfl, hrow, hb⟩ := hrel
    by_cases hlt : m < 8
    · obtain ⟨q, hq⟩ : ∃ q, q + m = 7 := ⟨7 - m, by omega⟩
      have hqi : (7 - (m : Int)) = (q : Int) := by omega
      rw [hqi]
      have hq8 : q < 8 := by omega
      have hc := hrow.cell hq8
      rw [if_neg (by omega)] at hc
      have hf := hrow.frozen q
      have d0 : decide ((0 : Int) ≤ (q : Int)) = true := by simp
      have hqs : IntKind.i64.wrap ((q : Int) - 1) = (q : Int) - 1 := IntWalk.i64_in _ (by omega)
      have HQ := Lib.hid hq
      have HM := Lib.hid (show 7 - ((m + 1 : Nat) : Int) = (q : Int) - 1 by omega)
      clear hq hqi hm
      go_wp2_with fail
      go_roundw
      case rel =>
        have hq := HQ.out
        refine ⟨m + 1, N / 256, by omega, Lib.hid (by rw [HN.out, pw_succ, Nat.div_div_eq_div_mul]), by go_num, by rw [HM.out], (hrow.set q _).congr (fun x hx => ?_), hb.setCell (Nat.le_refl _) _⟩
        by_cases e : x = q
        · subst e
          rw [if_pos rfl, if_pos (by omega), HN.out]
          unfold pw
          rw [show 7 - x = m by omega]
          simp
        · rw [if_neg e]
          by_cases e2 : 8 - m ≤ x
          · rw [if_pos e2, if_pos (by omega)]
          · rw [if_neg e2, if_neg (by omega)]
      case measure => simp [intOf]
    · obtain rfl : m = 8 := by omega
      have hl8 : (leL 8 n).reverse.length = 8 := by rw [List.length_reverse, leL_length]
      have hbs : BS wr w.heap.size (.slice (some ⟨w.heap.size, 0, none⟩) (leL 8 n).reverse.length 8) (leL 8 n).reverse := by
        refine ⟨some ⟨w.heap.size, 0, none⟩, 8, rfl, by omega, fun _ => ⟨w.heap.size, 0, rfl, Nat.le_refl _, hrow.lt, fun x hx => ?_⟩⟩
        have hx8 : x < 8 := by omega
        rw [Nat.zero_add]
        refine ⟨?_, hrow.frozen x⟩
        rw [hrow.cell hx8, if_pos (by omega), List.getElem_reverse, leL_get, UInt8.toNat_ofNat', show (leL 8 n).length - 1 - x = 7 - x by rw [leL_length]]
        simp
      have hcv := bs_string hbs
      rw [hl8] at hcv
      have HB := Lib.hid hb
      have d0 : decide ((0 : Int) ≤ 7 - ((8 : Nat) : Int)) = false := by decide
      clear hb hbs hrow hl8 HN hm hlt
      go_wp2_with fail
      go_ret
      exact ⟨rfl, HB.out⟩
set_option maxHeartbeats 1000000 in
set_option maxRecDepth 20000 in
theorem qnumber_any (s : ByteArray) (w : World) (hs : s.size ≤ 8) :
    Calls Try.prog 62 #[.string s] w fun e w' => e = .returned (.int .u64 (num s.data.toList : Nat)) ∧ w' = w := by
  have HLN := Lib.hid (toList_length6 s)
  go_enter Try.func62, Try.ntmps62
  go_wp2_with fail
  go_loop [3, 7] (fun v3 v7 => ∃ k n : Nat, k ≤ s.size ∧ Hid (n = num (s.data.toList.take k)) ∧ v3 = .int .u64 n ∧ v7 = .int .i64 k) (fun v3 v7 => s.size - (intOf v7).toNat)
  case atStart => exact ⟨0, 0, Nat.zero_le _, Lib.hid rfl, rfl, rfl⟩
  case round =>
    obtain ⟨k, n, hk, HN, rfl, rfl⟩ := hrel
    by_cases hlt : k < s.size
    · have dlt : decide ((k : Int) < (s.size : Int)) = true := by simp; omega
      have hlti : (k : Int) < (s.size : Int) := by omega
      have hki0 : (0 : Int) ≤ (k : Int) := by omega
      have hx8 := u8_lt s[k]
      have hll : k < s.data.toList.length := by have := HLN.out; omega
      have ha : s.data.toList[k]'hll = s[k]'hlt := rfl
      have hn7 : n < 72057594037927936 := by rw [HN.out]; exact num_le7 (by rw [List.length_take]; omega)
      have hst : num (s.data.toList.take (k + 1)) = n * 256 + (s[k]'hlt).toNat := by rw [List.take_succ_eq_append_getElem hll, num_snoc, HN.out, ha]
      obtain ⟨k1, hk1⟩ : ∃ k1, k1 = k + 1 := ⟨_, rfl⟩
      have k1i : (k : Int) + 1 = (k1 : Int) := by omega
      have k1s : k1 ≤ s.size := by omega
      rw [← hk1] at hst
      have HK1 := Lib.hid hk1
      have HS := Lib.hid hst
      generalize hxc : s[k]'hlt = x at *
      have HOR := Lib.hid (or_u64 n x.toNat (by omega) (by omega))
      clear hk1 ha hst
      go_wp2_with fail
      go_round
      case rel => exact ⟨k1, n * 256 + x.toNat, k1s, Lib.hid HS.out.symm, by rw [HOR.out], by go_num⟩
      case measure => have := HK1.out; simp [intOf]; omega
    · have dlt : decide ((k : Int) < (s.size : Int)) = false := by simp; omega
      have nlt : ¬ (k : Int) < (s.size : Int) := by omega
      obtain rfl : k = s.size := by omega
      have HE := Lib.hid (show n = num s.data.toList by rw [HN.out, List.take_of_length_le (by rw [HLN.out]; exact Nat.le_refl _)])
      go_wp2_with fail
      go_ret
      exact ⟨by rw [← HE.out]; rfl, rfl⟩
/-- The bytes of an address. -/
def adrB (v6 : Bool) (hi lo : Nat) : By := if v6 then (leL 8 hi).reverse ++ (leL 8 lo).reverse else (leL 4 lo).reverse
theorem adrB_length (v6 : Bool) (hi lo : Nat) : (adrB v6 hi lo).length = if v6 then 16 else 4 := by
  unfold adrB; split <;> simp [leL_length]
theorem leL_add : ∀ (a b n : Nat), leL (a + b) n = leL a n ++ leL b (n / 256 ^ a) := by
  intro a b n
  apply List.ext_getElem
  · simp [leL_length]
  · intro i h1 h2
    rw [leL_get]
    by_cases hi : i < a
    · rw [List.getElem_append_left (by rw [leL_length]; exact hi), leL_get]
    · rw [List.getElem_append_right (by rw [leL_length]; omega), leL_get, leL_length, Nat.div_div_eq_div_mul, ← Nat.pow_add, show a + (i - a) = i by omega]
theorem adrB_tail (lo : Nat) : (str (leL 8 lo).reverse).extract 4 (str (leL 8 lo).reverse).size = str (leL 4 lo).reverse := by
  apply ByteArray.ext
  apply Array.ext'
  rw [Lib.extract_data, str_size, List.length_reverse, leL_length, str_toList, str_toList, show (8 : Nat) = 4 + 4 from rfl, leL_add, List.reverse_append]
  rw [List.drop_append_of_le_length (by simp [leL_length]), List.drop_eq_nil_of_le (by simp [leL_length]), List.nil_append, List.take_of_length_le (by simp [leL_length])]
theorem ret_str6 {a b : ByteArray} (h : a = b) : Ending.returned (.string a) = .returned (.string b) := by rw [h]
set_option maxHeartbeats 1000000 in
set_option maxRecDepth 20000 in
theorem qbytes_any (v6 : Bool) (hi lo : Nat) (w : World) (h1 : hi < 18446744073709551616) (h2 : lo < 18446744073709551616) :
    Calls Try.prog 34 #[.agg #[.bool v6, .int .u64 hi, .int .u64 lo]] w fun e w' => e = .returned (.string (str (adrB v6 hi lo))) ∧ Below w.heap.size w w' := by
  have H1 := Lib.hid (fun W => qeight_any hi W h1)
  have H2 := Lib.hid (fun W => qeight_any lo W h2)
  have HX := Lib.hid (ab_new w v6 hi lo)
  have HB := Lib.hid (below_alloc6 w (.cells #[.bool v6, .int .u64 hi, .int .u64 lo] 25))
  have hsz : (str (leL 8 lo).reverse).size = 8 := by rw [str_size, List.length_reverse, leL_length]
  have hle : 4 ≤ (str (leL 8 lo).reverse).size := by omega
  have hle2 : (4 : Int) ≤ ((str (leL 8 lo).reverse).size : Int) := by omega
  have hT := Lib.hid (adrB_tail lo)
  have hcat : (9223372036854775807 < (str (leL 8 hi).reverse).size + (str (leL 8 lo).reverse).size) = False := by
    rw [str_size, str_size]; simp [leL_length]
  have HC : Hid (str (leL 8 hi).reverse ++ str (leL 8 lo).reverse = str (adrB true hi lo)) := str_append _ _
  have HD : Hid (str (leL 4 lo).reverse = str (adrB false hi lo)) := rfl
  rw [hsz] at hT
  generalize str (leL 8 lo).reverse = B at *
  generalize str (leL 8 hi).reverse = A at *
  go_enter Try.func34, Try.ntmps34
  go_wp2_with fail
  refine (H2.out _).mono ?_
  rintro e w2 ⟨rfl, hb⟩
  have HX2 := Lib.hid (HX.out.kept hb HX.out.lt)
  have HB2 := Lib.hid (HB.out.trans (hb.mono HB.out.size))
  clear hb HX HB
  have x0 := HX2.out.c0
  have x1 := HX2.out.c1
  cases v6 with
  | true =>
    go_wp2_with fail
    refine (H1.out _).mono ?_
    rintro e w3 ⟨rfl, hb⟩
    have HB3 := Lib.hid (HB2.out.trans (hb.mono HB2.out.size))
    clear hb hsz hle hle2 hT
    go_wp2_with fail
    go_ret
    exact ⟨ret_str6 HC.out, HB3.out⟩
  | false =>
    go_wp2_with fail
    go_ret
    exact ⟨ret_str6 (by rw [← HD.out, ← hT.out]), HB2.out⟩
/-- What FromBytes answers. -/
def fbRes (l : By) : Value :=
  if l.length = 4 then .tuple #[.agg #[.bool false, .int .u64 0, .int .u64 (num l : Nat)], .int .i64 0]
  else if l.length = 16 then .tuple #[.agg #[.bool true, .int .u64 (num (l.take 8) : Nat), .int .u64 (num (l.drop 8) : Nat)], .int .i64 0]
  else .tuple #[.agg #[.bool false, .int .u64 0, .int .u64 0], .int .i64 2]
theorem extract_toList6 (s : ByteArray) (a b : Nat) : (s.extract a b).data.toList = (s.data.toList.drop a).take (b - a) := Lib.extract_data s a b
set_option maxHeartbeats 1000000 in
set_option maxRecDepth 20000 in
theorem qfrom_any (s : ByteArray) (w : World) (hs : s.size ≤ 1000) :
    Calls Try.prog 44 #[.string s] w fun e w' => e = .returned (fbRes s.data.toList) ∧ Below w.heap.size w w' := by
  have HLN := Lib.hid (toList_length6 s)
  have HX := Lib.hid (ab_new w false 0 0)
  have HB := Lib.hid (below_alloc6 w (.cells #[.bool false, .int .u64 0, .int .u64 0] 25))
  by_cases c4 : s.size = 4
  · have HN := Lib.hid (fun W => qnumber_any s W (by omega))
    have HR : Hid (fbRes s.data.toList = .tuple #[.agg #[.bool false, .int .u64 0, .int .u64 (num s.data.toList : Nat)], .int .i64 0]) := Lib.hid (by unfold fbRes; rw [if_pos (by rw [HLN.out, c4])])
    have d4 : ((s.size : Int) == 4) = true := by rw [c4]; rfl
    generalize num s.data.toList = n at *
    go_enter Try.func44, Try.ntmps44
    go_wp2_with fail
    refine (HN.out _).mono ?_
    rintro e w2 ⟨rfl, rfl⟩
    go_wp2_with fail
    exact bodyPost_ret (res_addr2 rfl _ _ rfl (ab_new w false 0 n)) rfl ⟨by rw [HR.out]; rfl, below_alloc6 w _⟩
  · have d4 : ((s.size : Int) == 4) = false := by rw [beq_eq_false_iff_ne]; omega
    have n4 : ¬ (s.size : Int) = 4 := by omega
    by_cases c16 : s.size = 16
    · have e1 : (s.extract 0 8).data.toList = s.data.toList.take 8 := by rw [extract_toList6]; rfl
      have e2 : (s.extract 8 s.size).data.toList = s.data.toList.drop 8 := by rw [extract_toList6, List.take_of_length_le (by rw [List.length_drop, HLN.out]; exact Nat.le_refl _)]
      have HN1 := Lib.hid (fun W => qnumber_any (s.extract 0 8) W (by rw [← toList_length6, e1, List.length_take]; omega))
      have HN2 := Lib.hid (fun W => qnumber_any (s.extract 8 s.size) W (by rw [← toList_length6, e2, List.length_drop, HLN.out]; omega))
      rw [e1] at HN1
      rw [e2] at HN2
      have HR : Hid (fbRes s.data.toList = .tuple #[.agg #[.bool true, .int .u64 (num (s.data.toList.take 8) : Nat), .int .u64 (num (s.data.toList.drop 8) : Nat)], .int .i64 0]) := Lib.hid (by unfold fbRes; rw [if_neg (by rw [HLN.out]; exact c4), if_pos (by rw [HLN.out, c16])])
      have d16 : ((s.size : Int) == 16) = true := by rw [c16]; rfl
      have l8 : 8 ≤ s.size := by omega
      have l8i : (8 : Int) ≤ (s.size : Int) := by omega
      generalize num (s.data.toList.take 8) = a at *
      generalize num (s.data.toList.drop 8) = b at *
      clear e1 e2
      have C16 := Lib.hid c16
      clear c16 c4
      go_enter Try.func44, Try.ntmps44
      go_wp2_with fail
      go_region_held3 (fun _ => True) (trivial) (first
        | (go_at_call_of 62 (Value.string (s.extract 0 8)); refine (HN1.out _).mono ?_; rintro e w5 ⟨rfl, rfl⟩)
        | (go_at_call_of 62 (Value.string (s.extract 8 s.size)); refine (HN2.out _).mono ?_; rintro e w6 ⟨rfl, rfl⟩))
      go_wp2_with fail
      exact bodyPost_ret (res_addr2 rfl _ _ rfl (show AB _ _ true a b from ab_new w true a b)) rfl ⟨by rw [HR.out]; rfl, (below_alloc6 w _).drew⟩
    · have HR : Hid (fbRes s.data.toList = .tuple #[.agg #[.bool false, .int .u64 0, .int .u64 0], .int .i64 2]) := Lib.hid (by unfold fbRes; rw [if_neg (by rw [HLN.out]; exact c4), if_neg (by rw [HLN.out]; exact c16)])
      have d16 : ((s.size : Int) == 16) = false := by rw [beq_eq_false_iff_ne]; omega
      have n16 : ¬ (s.size : Int) = 16 := by omega
      go_enter Try.func44, Try.ntmps44
      go_wp2_with fail
      exact bodyPost_ret (res_addr2 rfl _ _ rfl HX.out) rfl ⟨by rw [HR.out]; rfl, HB.out⟩
end Go.Proofs.Ytjjldolafnfpoaa
