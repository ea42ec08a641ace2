/- Contracts of the functions, part 18: Csum, Eu8, UdpPs. -/
import Derived.Test.YtmfoionlapcgkaaDoorPA2
import Derived.Test.YtmfoionlapcgkaaDoorPA3
import Derived.Test.YtmfoionlapcgkaaDoorPA4
import Derived.Test.YtmfoionlapcgkaaDoorPA10
import Derived.Test.YtmfoionlapcgkaaDoorPA11
import Derived.Test.YtmfoionlapcgkaaDoorPA17
/- Contracts: the Internet checksum of the program and of the reference. -/
namespace Go.Proofs.YtmfoionlapcgkaaDoor
open Go.ChangeShapes Go.WideShapes Go.ChangeAt Go.RowKit

/-- 'n & 65535'. -/
theorem low16 (n : Int) : bits .and .i64 n 65535 = n % 65536 := by
  have e : (BitVec.ofInt 64 65535).toNat = 65535 := by decide
  have e2 : ((BitVec.ofInt 64 n).toNat : Int) = n % 18446744073709551616 := by
    rw [BitVec.toNat_ofInt]
    have : (0 : Int) ≤ n % 18446744073709551616 := Int.emod_nonneg _ (by decide)
    omega
  show IntKind.i64.wrap ((BitVec.ofInt 64 n &&& BitVec.ofInt 64 65535).toNat : Int) = _
  rw [BitVec.toNat_and, e, show (65535 : Nat) = 2 ^ 16 - 1 from rfl, Nat.and_two_pow_sub_one_eq_mod, IntKind.wrap_i64]
  omega

theorem add_any (a b : Int) (w : World) :
    Calls Tryd.prog 49 #[.int .i64 a, .int .i64 b] w fun e w' => e = .returned (.int .i64 (oc (a % 65536) (b % 65536))) ∧ w = w' := by
  have ha := low16 a
  have hb := low16 b
  by_cases h : 65535 < a % 65536 + b % 65536
  · go_enter Tryd.func49, Tryd.ntmps49
    go_wp2_with fail
    go_ret
    exact ⟨ret_int (by unfold oc; rw [if_pos h]), rfl⟩
  · have hd : decide (65535 < a % 65536 + b % 65536) = false := by simpa using h
    go_enter Tryd.func49, Tryd.ntmps49
    go_wp2_with fail
    go_ret
    exact ⟨ret_int (by unfold oc; rw [if_neg (by omega)]), rfl⟩

theorem radd_any (a b : Int) (w : World) :
    Calls Tryd.prog 58 #[.int .i64 a, .int .i64 b] w fun e w' => e = .returned (.int .i64 (oc (a % 65536) (b % 65536))) ∧ w = w' := by
  have ha := low16 a
  have hb := low16 b
  by_cases h : 65535 < a % 65536 + b % 65536
  · go_enter Tryd.func58, Tryd.ntmps58
    go_wp2_with fail
    go_ret
    exact ⟨ret_int (by unfold oc; rw [if_pos h]), rfl⟩
  · have hd : decide (65535 < a % 65536 + b % 65536) = false := by simpa using h
    go_enter Tryd.func58, Tryd.ntmps58
    go_wp2_with fail
    go_ret
    exact ⟨ret_int (by unfold oc; rw [if_neg (by omega)]), rfl⟩

theorem compl_any (n : Int) (w : World) :
    Calls Tryd.prog 51 #[.int .i64 n] w fun e w' => e = .returned (.int .i64 (65535 - n % 65536)) ∧ w = w' := by
  have ha := low16 n
  go_enter Tryd.func51, Tryd.ntmps51
  go_wp2_with fail
  go_ret
  exact ⟨rfl, rfl⟩

theorem word_any (s : ByteArray) (k : Nat) (w : World) (hm : s.size ≤ 9223372036854775807) (hk : k < s.size) :
    Calls Tryd.prog 50 #[.string s, .int .i64 k] w fun e w' => e = .returned (.int .i64 (wdL (s.data.toList.drop k) : Nat)) ∧ w = w' := by
  have hb : s[k].toNat < 256 := u8_lt _
  by_cases h : k + 1 < s.size
  · have hb2 : s[k + 1].toNat < 256 := u8_lt _
    have H := Lib.hid (wd_two s k h)
    have hor := or_byte s[k].toNat s[k + 1].toNat (by omega) hb2
    go_enter Tryd.func50, Tryd.ntmps50
    go_wp2_with fail
    go_ret
    exact ⟨ret_int (by rw [H.out]; simp), rfl⟩
  · have H := Lib.hid (wd_one s k hk (by omega))
    have hd : decide ((k : Int) + 1 < (s.size : Int)) = false := by simp; omega
    go_enter Tryd.func50, Tryd.ntmps50
    go_wp2_with fail
    go_ret
    exact ⟨ret_int (by rw [H.out]; simp), rfl⟩

/-- The program's Sum. -/
theorem sum_any (s : ByteArray) (w : World) (hs : s.size ≤ 9223372036854775805) :
    Calls Tryd.prog 22 #[.string s] w fun e w' => e = .returned (.int .i64 (csum s.data.toList : Nat)) ∧ w = w' := by
  have hl : s.data.toList.length = s.size := by simp
  generalize hL : s.data.toList = L at *
  have HL := Lib.hid hL
  clear hL
  go_enter Tryd.func22, Tryd.ntmps22
  go_wp2_with fail
  go_loop [3, 4] (fun p i => ∃ k m : Nat, k ≤ s.size + 1 ∧ i = .int .i64 k ∧ p = .int .i64 (rep m : Nat) ∧ m + wsum (L.drop k) = wsum L) (fun _ i => s.size + 1 - (intOf i).toNat)
  case atStart => exact ⟨0, 0, by omega, rfl, rfl, by simp⟩
  case round =>
    obtain ⟨k, m, hk, rfl, rfl, hm⟩ := hrel
    have hr := rep_le m
    by_cases hlt : k < s.size
    · have hwd := wdL_le (L.drop k)
      have hstep := wsum_step (L.drop k)
      rw [List.drop_drop] at hstep
      have hoc := oc_rep m (wdL (L.drop k)) hwd
      have e1 : ((rep m : Nat) : Int) % 65536 = (rep m : Nat) := by omega
      have e2 : ((wdL (L.drop k) : Nat) : Int) % 65536 = (wdL (L.drop k) : Nat) := by omega
      have HM := Lib.hid hm
      have HS := Lib.hid hstep
      have hw := fun W => word_any s k W (by omega) hlt
      rw [HL.out] at hw
      have hadd := fun W => add_any (rep m : Nat) (wdL (L.drop k) : Nat) W
      rw [e1, e2, hoc] at hadd
      have HA := Lib.hid hadd
      have HW := Lib.hid hw
      clear hm hstep hw hadd e1 e2 hoc
      generalize wdL (L.drop k) = x at *
      generalize hq : rep m = q at *
      go_wp2_with fail
      refine (HW.out _).mono ?_
      rintro e w1 ⟨rfl, rfl⟩
      go_wp2_with fail
      refine (HA.out _).mono ?_
      rintro e w1 ⟨rfl, rfl⟩
      go_wp2_with fail
      go_round
      case rel => exact ⟨k + 2, m + x, by omega, by go_num, rfl, by have := HM.out; have := HS.out; omega⟩
      case measure => simp [intOf]; omega
    · have hfin : csum L = 65535 - rep m := by
        rw [List.drop_eq_nil_of_le (by omega)] at hm
        unfold csum
        rw [← hm]; rfl
      have HF := Lib.hid hfin
      have hc := fun W => compl_any (rep m : Nat) W
      rw [show ((rep m : Nat) : Int) % 65536 = (rep m : Nat) by omega] at hc
      have HC := Lib.hid hc
      clear hm hfin hc
      go_wp2_with fail
      refine (HC.out _).mono ?_
      rintro e w1 ⟨rfl, rfl⟩
      go_wp2_with fail
      go_ret
      exact ⟨ret_int (by rw [HF.out]; omega), rfl⟩

/-- The reference's Sum. -/
theorem rsum_any (s : ByteArray) (w : World) (hs : s.size ≤ 9223372036854775805) :
    Calls Tryd.prog 31 #[.string s] w fun e w' => e = .returned (.int .i64 (csum s.data.toList : Nat)) ∧ w = w' := by
  have hl : s.data.toList.length = s.size := by simp
  generalize hL : s.data.toList = L at *
  have HL := Lib.hid hL
  clear hL
  go_enter Tryd.func31, Tryd.ntmps31
  go_wp2_with fail
  go_loop [3, 4] (fun p i => ∃ k m : Nat, k ≤ s.size + 1 ∧ i = .int .i64 k ∧ p = .int .i64 (rep m : Nat) ∧ m + wsum (L.drop k) = wsum L) (fun _ i => s.size + 1 - (intOf i).toNat)
  case atStart => exact ⟨0, 0, by omega, rfl, rfl, by simp⟩
  case round =>
    obtain ⟨k, m, hk, rfl, rfl, hm⟩ := hrel
    have hr := rep_le m
    by_cases hlt : k < s.size
    · have hwd := wdL_le (L.drop k)
      have hstep := wsum_step (L.drop k)
      rw [List.drop_drop] at hstep
      have hoc := oc_rep m (wdL (L.drop k)) hwd
      have e1 : ((rep m : Nat) : Int) % 65536 = (rep m : Nat) := by omega
      have e2 : ((wdL (L.drop k) : Nat) : Int) % 65536 = (wdL (L.drop k) : Nat) := by omega
      have HM := Lib.hid hm
      have HS := Lib.hid hstep
      have hadd := fun W => radd_any (rep m : Nat) (wdL (L.drop k) : Nat) W
      rw [e1, e2, hoc] at hadd
      have HA := Lib.hid hadd
      have hb : s[k].toNat < 256 := u8_lt _
      by_cases hlt2 : k + 1 < s.size
      · have hb2 : s[k + 1].toNat < 256 := u8_lt _
        have hwv := wd_two s k hlt2
        rw [HL.out] at hwv
        have hx : (s[k].toNat : Int) * 256 + (s[k + 1].toNat : Int) = ((wdL (L.drop k) : Nat) : Int) := by rw [hwv]; simp
        have HX := Lib.hid hx
        clear hm hstep hadd e1 e2 hoc hwv hx
        generalize wdL (L.drop k) = x at *
        generalize hq : rep m = q at *
        go_wp2_with fail
        rw [HX.out]
        refine (HA.out _).mono ?_
        rintro e w1 ⟨rfl, rfl⟩
        go_wp2_with fail
        go_round
        case rel => exact ⟨k + 2, m + x, by omega, by go_num, rfl, by have := HM.out; have := HS.out; omega⟩
        case measure => simp [intOf]; omega
      · have hd : decide ((k : Int) + 1 < (s.size : Int)) = false := by simp; omega
        have hwv := wd_one s k hlt (by omega)
        rw [HL.out] at hwv
        have hx : (s[k].toNat : Int) * 256 = ((wdL (L.drop k) : Nat) : Int) := by rw [hwv]; simp
        have HX := Lib.hid hx
        clear hm hstep hadd e1 e2 hoc hwv hx
        generalize wdL (L.drop k) = x at *
        generalize hq : rep m = q at *
        go_wp2_with fail
        rw [HX.out]
        refine (HA.out _).mono ?_
        rintro e w1 ⟨rfl, rfl⟩
        go_wp2_with fail
        go_round
        case rel => exact ⟨k + 2, m + x, by omega, by go_num, rfl, by have := HM.out; have := HS.out; omega⟩
        case measure => simp [intOf]; omega
    · have hfin : csum L = 65535 - rep m := by
        rw [List.drop_eq_nil_of_le (by omega)] at hm
        unfold csum
        rw [← hm]; rfl
      have HF := Lib.hid hfin
      clear hm hfin
      go_wp2_with fail
      go_ret
      exact ⟨ret_int (by rw [HF.out]; omega), rfl⟩

/-- What Update answers. -/
def upd (s b a : Int) : Int := 65535 - oc (oc (65535 - s % 65536) (65535 - b % 65536)) (a % 65536)
theorem oc_le {a b : Int} (h0 : 0 ≤ a) (h1 : a ≤ 65535) (h2 : 0 ≤ b) (h3 : b ≤ 65535) : 0 ≤ oc a b ∧ oc a b ≤ 65535 := by
  unfold oc; split <;> omega
theorem low_id {a : Int} (h0 : 0 ≤ a) (h1 : a ≤ 65535) : a % 65536 = a := by omega

end Go.Proofs.YtmfoionlapcgkaaDoor

/- Bytes as elements of a row that the call owns; Put of the program, of a number that fits. -/
namespace Go.Proofs.YtmfoionlapcgkaaDoor
open Go.ChangeShapes Go.WideShapes Go.ChangeAt Go.RowKit
set_option linter.unusedVariables false

/-- Bytes as elements. -/
def EU8 : Enc UInt8 := ⟨1, by decide, fun x => [.int .u8 (x.toNat : Int)], fun _ => rfl, fun s v hv => by
  simp only [List.mem_cons, List.not_mem_nil, or_false] at hv
  subst hv
  rfl⟩
theorem u8Ty10 : ElemTy 48 5 1 1 :=
  ⟨Tryd.underlying48, by
    obtain ⟨i, h1, h2, h3, h4⟩ := info_parts info5
    exact ⟨i, _, h1, h2, h3, h4, rfl⟩⟩
theorem eu8_cells (l : List UInt8) : EU8.cells l = cellsOf l := by
  induction l with
  | nil => rfl
  | cons a r ih => rw [Enc.cells_cons, ih]; rfl
/-- Put of the program, of a number that fits. -/
theorem pputB_any (k n : Nat) (N Z : Int) (hN : (n : Int) = N) (hZ : (k : Int) = Z) (hk : 1 ≤ k) (hk7 : k ≤ 7) (hn : n < 256 ^ k) (hn9 : n ≤ 9223372036854775807) (w : World) :
    Calls Tryd.prog 39 #[.int .i64 N, .int .i64 Z] w fun e w' => e = .returned (.string (str (beL k n))) ∧ Below w.heap.size w w' := by
  subst hN hZ
  have := put_yes (n : Int) (k : Int) w (by omega) (by omega) (by omega) (by omega) (by rw [Int.toNat_natCast, Int.toNat_natCast]; exact hn)
  rwa [Int.toNat_natCast, Int.toNat_natCast] at this
end Go.Proofs.YtmfoionlapcgkaaDoor

/- Pseudo headers and checksums of UDP: the reference's and the program's, as bytes. -/
namespace Go.Proofs.YtmfoionlapcgkaaDoor
open Go.ChangeShapes Go.WideShapes Go.ChangeAt Go.RowKit
set_option linter.unusedVariables false

def fits13 (a : AdR) : Prop := a.hi < 18446744073709551616 ∧ a.lo < 18446744073709551616
theorem vadr_fine (a : AdR) : vadr a.v6 a.hi a.lo = true ↔ fineU a := by
  unfold vadr fineU
  rw [Bool.or_eq_true, Bool.and_eq_true, beq_iff_eq, decide_eq_true_iff]
theorem vldA_fine (a : AdR) : vldA a.v6 a.hi a.lo = decide (fineU a) := by
  have h : vldA a.v6 a.hi a.lo = true ↔ fineU a := by
    unfold vldA fineU
    rw [Bool.or_eq_true, Bool.and_eq_true, beq_iff_eq, decide_eq_true_iff]
  by_cases hf : fineU a
  · rw [decide_eq_true hf, h.2 hf]
  · rw [decide_eq_false hf, ← Bool.not_eq_true]
    exact fun e => hf (h.1 e)
theorem psU_size (a b : AdR) (pr z : Nat) : (psU a b pr z).length ≤ 40 := by
  unfold psU adU
  split <;> split <;> simp [beL_len]
theorem rpseudoU (a b : AdR) (z : Nat) (hf : fitU a b) (ha : fits13 a) (hb : fits13 b) (hz : z ≤ 65535) (w : World) :
    Calls Tryd.prog 32 #[.agg #[.bool a.v6, .int .u64 (a.hi : Int), .int .u64 (a.lo : Int)], .agg #[.bool b.v6, .int .u64 (b.hi : Int), .int .u64 (b.lo : Int)], .int .i64 17, .int .i64 (z : Int)] w fun e w' => e = .returned (.string (str (psU a b 17 z))) ∧ Below w.heap.size w w' := by
  obtain ⟨h1, h2, h3⟩ := hf
  have v1 := (vadr_fine a).2 h1
  have v2 := (vadr_fine b).2 h2
  obtain ⟨v, ah, al⟩ := a
  obtain ⟨bv, bh, bl⟩ := b
  dsimp only at h3 v1 v2 ⊢
  subst h3
  have hps : psU ⟨v, ah, al⟩ ⟨v, bh, bl⟩ 17 z = adr v ah al ++ adr v bh bl ++ (if v then beL 4 z ++ beL 4 17 else beL 2 17 ++ beL 2 z) := rfl
  rw [hps]
  obtain ⟨k, hk⟩ : ∃ k : Nat, k = if v then 4 else 2 := ⟨_, rfl⟩
  have hk4 : k ≤ 4 := by rw [hk]; split <;> omega
  refine (rpseudo_good v ah al bh bl 17 (z : Int) k _ _ (str (leL k 17).reverse) (str (leL k z).reverse) w hk v1 v2 (fun W => raddr_any v ah al W ha.1 ha.2 v1) (fun W => raddr_any v bh bl W hb.1 hb.2 v2) (adr_le ..) (adr_le ..) (by decide) (by decide) (by simp) (fun W => ?_) (fun W => ?_) (by rw [be_size]; omega) (by rw [be_size]; omega) ?_).mono ?_
  · exact rnum_any 17 k W (by omega) (by omega)
  · exact rnum_any z k W (by omega) (by omega)
  · cases v <;> simp <;> omega
  · rintro e w' ⟨rfl, hw⟩
    refine ⟨?_, hw⟩
    subst hk
    cases v
    · simp only [Bool.false_eq_true, if_false, str_append, List.append_assoc]
      rfl
    · simp only [if_true, str_append, List.append_assoc]
      rfl
theorem ppseudoU (a b : AdR) (z : Nat) (hf : fitU a b) (ha : fits13 a) (hb : fits13 b) (hz : z ≤ 65535) (w : World) (hsh : Sh w) :
    Calls Tryd.prog 23 #[.agg #[.bool a.v6, .int .u64 (a.hi : Int), .int .u64 (a.lo : Int)], .agg #[.bool b.v6, .int .u64 (b.hi : Int), .int .u64 (b.lo : Int)], .int .i64 17, .int .i64 (z : Int)] w fun e w' => e = .returned (.string (str (psU a b 17 z))) ∧ Below w.heap.size w w' := by
  obtain ⟨h1, h2, h3⟩ := hf
  have v1 := (vadr_fine a).2 h1
  have v2 := (vadr_fine b).2 h2
  obtain ⟨v, ah, al⟩ := a
  obtain ⟨bv, bh, bl⟩ := b
  dsimp only at h3 v1 v2 ⊢
  subst h3
  have hps : psU ⟨v, ah, al⟩ ⟨v, bh, bl⟩ 17 z = adr v ah al ++ adr v bh bl ++ (if v then beL 4 z ++ beL 4 17 else beL 2 17 ++ beL 2 z) := rfl
  rw [hps]
  obtain ⟨k, hk⟩ : ∃ k : Nat, k = if v then 4 else 2 := ⟨_, rfl⟩
  have hk4 : 2 ≤ k ∧ k ≤ 4 := by rw [hk]; split <;> omega
  have hp2 : z < 256 ^ k := by
    have : 256 ^ 2 ≤ 256 ^ k := Nat.pow_le_pow_right (by decide) hk4.1
    omega
  refine (pseudo_good v ah al bh bl 17 (z : Int) k (str (beL 1 17)) (str (beL k z)) _ _ w hsh hk v1 v2 (fun W => pputB_any 1 17 17 1 rfl rfl (by decide) (by decide) (by decide) (by decide) W) (fun W => pputB_any k z (z : Int) (k : Int) rfl rfl (by omega) (by omega) hp2 (by omega) W)
    (fun W hW => addrb_any v ah al W ha.1 ha.2 hW) (fun W hW => addrb_any v bh bl W hb.1 hb.2 hW) (by rw [str_isEmpty]; decide) ?_ (by rw [str_size, beL_len]; omega) (by rw [str_size, beL_len]; omega) (adr_le ..) (adr_le ..)).mono ?_
  · rw [str_isEmpty]
    cases hq : beL k z with
    | nil => have := beL_len k z; rw [hq] at this; simp at this; omega
    | cons x r => rfl
  · rintro e w' ⟨rfl, hw⟩
    refine ⟨?_, hw⟩
    subst hk
    have e4 : beL 4 17 = [0, 0, 0] ++ beL 1 17 := by decide
    have e2 : beL 2 17 = [0] ++ beL 1 17 := by decide
    cases v
    · simp only [Bool.false_eq_true, if_false]
      show Ending.returned (.string (str (adr false ah al ++ adr false bh bl) ++ str [0] ++ str (beL 1 17) ++ str (beL 2 z))) = _
      simp only [str_append, List.append_assoc, e2]
    · simp only [if_true]
      show Ending.returned (.string (str (adr true ah al ++ adr true bh bl) ++ str (beL 4 z) ++ str [0, 0, 0] ++ str (beL 1 17))) = _
      simp only [str_append, List.append_assoc, e4]
end Go.Proofs.YtmfoionlapcgkaaDoor
