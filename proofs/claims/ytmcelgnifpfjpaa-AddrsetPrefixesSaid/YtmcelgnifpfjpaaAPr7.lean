/- Contracts of the functions, part 7: SetRef1, SetRAdd, SetRNor, SetRComp, Awk07b, In07, SetPfxU, SetPfxG. -/
import Derived.Deep.Slices
import Derived.Deep.Strs
import Derived.Lib.SmallJoins
import Derived.Test.YtmcelgnifpfjpaaAPr3
import Derived.Test.YtmcelgnifpfjpaaAPr4
import Derived.Test.YtmcelgnifpfjpaaAPr5
import Derived.Test.YtmcelgnifpfjpaaAPr6
/- Contracts of the reference of layer 7: Last, After, Ahead, Some, joined. -/
namespace Go.Proofs.Ytmcelgnifpfjpaa
open Go.ChangeShapes Go.WideShapes Go.ChangeAt Go.RowKit
set_option linter.unusedVariables false

theorem befB_key {a b : Ad} (ha : a.fits) (hb : b.fits) : befB a.v b.v (decide ((a.h : Int) < (b.h : Int))) ((a.h : Int) == (b.h : Int)) (decide ((a.l : Int) < (b.l : Int))) = decide (kA a < kA b) := by
  rw [Bool.eq_iff_iff, decide_eq_true_eq, ← lt_key ha hb]
  unfold befB
  by_cases e : a.v = b.v
  · rw [e]
    simp only [beq_self_eq_true, if_true]
    by_cases c : a.h = b.h
    · rw [c]
      simp only [beq_self_eq_true, if_true, decide_eq_true_eq, true_and, Nat.lt_irrefl, false_or]
      constructor
      · intro h; exact .inr (by omega)
      · rintro (⟨h1, h2⟩ | h)
        · rw [h1] at h2; cases h2
        · omega
    · rw [show ((a.h : Int) == (b.h : Int)) = false by simp; omega]
      simp only [Bool.false_eq_true, if_false, decide_eq_true_eq, true_and]
      constructor
      · intro h; exact .inr (.inl (by omega))
      · rintro (⟨h1, h2⟩ | h)
        · rw [h1] at h2; cases h2
        · omega
  · rw [show (a.v == b.v) = false by simpa using e]
    simp only [Bool.false_eq_true, if_false]
    cases h1 : a.v <;> cases h2 : b.v <;> simp_all
theorem rbef_key {a b : Ad} (ha : a.fits) (hb : b.fits) (w : World) :
    Calls Try.prog 42 #[.agg #[.bool a.v, .int .u64 a.h, .int .u64 a.l], .agg #[.bool b.v, .int .u64 b.h, .int .u64 b.l]] w fun e w' => e = .returned (.bool (decide (kA a < kA b))) ∧ Below w.heap.size w w' := by
  rw [← befB_key ha hb]
  exact rbef_any _ _ _ _ _ _ w
/-- One more, in 64 bits. -/
def up64 (n : Nat) : Nat := if n + 1 < 18446744073709551616 then n + 1 else 0
theorem up64_mod {n : Nat} (h : n < 18446744073709551616) : ((n : Int) + 1) % 18446744073709551616 = (up64 n : Nat) := by
  unfold up64
  split <;> omega
theorem up64_wrap {n : Nat} (h : n < 18446744073709551616) : IntKind.u64.wrap ((n : Int) + 1) = (up64 n : Nat) := by
  simp only [IntKind.wrap, IntKind.bits, IntKind.signed]
  have := up64_mod h
  simpa using this
theorem up64_lt (n : Nat) : up64 n < 18446744073709551616 := by
  unfold up64
  split <;> omega
theorem up64_zero {n : Nat} : ((up64 n : Nat) : Int) = 0 ↔ ¬ n + 1 < 18446744073709551616 := by
  unfold up64
  split <;> omega
/-- Is an address the last one of its family, by the reference's tests. -/
def lastR (v : Bool) (h l : Nat) : Bool := if v then (((up64 h : Nat) : Int) == 0) && (((up64 l : Nat) : Int) == 0) else ((l : Int) == 4294967295)
theorem lastR_nxt {a : Ad} (hf : a.fits) (hv : vA a = true) : lastR a.v a.h a.l = (nxtA a.v a.h a.l).isNone := by
  obtain ⟨v, h, l⟩ := a
  obtain ⟨h1, h2⟩ := hf
  unfold vA vldA at hv
  simp only at h1 h2 hv ⊢
  unfold lastR nxtA
  cases v with
  | true =>
    simp only [if_true, Bool.true_eq_false, false_and, if_false]
    rw [Bool.eq_iff_iff, Bool.and_eq_true, beq_iff_eq, beq_iff_eq, up64_zero, up64_zero]
    by_cases c : l + 1 < 18446744073709551616
    · rw [if_pos c]; simp; omega
    · rw [if_neg c]
      by_cases d : h + 1 < 18446744073709551616
      · rw [if_pos d]; simp; omega
      · rw [if_neg d]; simp; omega
  | false =>
    simp only [Bool.false_or, Bool.and_eq_true, beq_iff_eq, decide_eq_true_eq] at hv
    simp only [Bool.false_eq_true, if_false, true_and]
    rw [if_pos (by omega), Bool.eq_iff_iff, beq_iff_eq]
    by_cases c : l + 1 = 4294967296
    · rw [if_pos c]; simp; omega
    · rw [if_neg c]; simp; omega
set_option maxRecDepth 20000 in
theorem rlast_any (v : Bool) (h l : Nat) (w : World) (h1 : h < 18446744073709551616) (h2 : l < 18446744073709551616) :
    Calls Try.prog 64 #[.agg #[.bool v, .int .u64 h, .int .u64 l]] w fun e w' => e = .returned (.bool (lastR v h l)) ∧ Below w.heap.size w w' := by
  have HB := Lib.hid (below_alloc6 w (.cells #[.bool v, .int .u64 h, .int .u64 l] 25))
  unfold lastR
  have e1 := up64_mod h1
  have e2 := up64_mod h2
  have e3 := up64_wrap h1
  have e4 := up64_wrap h2
  generalize up64 h = p at *
  generalize up64 l = q at *
  clear h1 h2
  cases v with
  | true =>
    simp only [if_true]
    cases d1 : ((p : Int) == 0)
    case false =>
      go_enter Try.func64, Try.ntmps64
      go_wp2_with fail
      go_ret
      exact ⟨rfl, HB.out⟩
    cases d2 : ((q : Int) == 0)
    all_goals
      go_enter Try.func64, Try.ntmps64
      go_wp2_with fail
      go_ret
      exact ⟨rfl, HB.out⟩
  | false =>
    simp only [Bool.false_eq_true, if_false]
    cases d1 : ((l : Int) == 4294967295)
    all_goals
      go_enter Try.func64, Try.ntmps64
      go_wp2_with fail
      go_ret
      exact ⟨rfl, HB.out⟩
/-- The address behind an address, as the reference reckons it. -/
def aftR (a : Ad) : Ad := ⟨a.v, if up64 a.l = 0 then up64 a.h else a.h, up64 a.l⟩
theorem aftR_nxt {a b : Ad} (hf : a.fits) (hv : vA a = true) (h : nxtA a.v a.h a.l = some (b.v, b.h, b.l)) : aftR a = b := by
  obtain ⟨v, x, l⟩ := a
  obtain ⟨bv, bh, bl⟩ := b
  obtain ⟨h1, h2⟩ := hf
  unfold vA vldA at hv
  simp only at h1 h2 hv h
  unfold aftR up64
  unfold nxtA at h
  simp only
  by_cases c : l + 1 < 18446744073709551616
  · rw [if_pos c] at h ⊢
    rw [if_neg (by omega)]
    split at h
    · cases h
    · simp only [Option.some.injEq, Prod.mk.injEq] at h
      obtain ⟨rfl, rfl, rfl⟩ := h
      rfl
  · rw [if_neg c] at h ⊢
    rw [if_pos rfl]
    cases v with
    | true =>
      rw [if_pos rfl] at h
      by_cases d : x + 1 < 18446744073709551616
      · rw [if_pos d] at h ⊢
        simp only [Option.some.injEq, Prod.mk.injEq] at h
        obtain ⟨rfl, rfl, rfl⟩ := h
        rfl
      · rw [if_neg d] at h; cases h
    | false =>
      simp only [Bool.false_or, Bool.and_eq_true, beq_iff_eq, decide_eq_true_eq] at hv
      omega
set_option maxRecDepth 20000 in
theorem raft_any (v : Bool) (h l : Nat) (w : World) (h1 : h < 18446744073709551616) (h2 : l < 18446744073709551616) :
    Calls Try.prog 58 #[.agg #[.bool v, .int .u64 h, .int .u64 l]] w fun e w' => e = .returned (.agg #[.bool (aftR ⟨v, h, l⟩).v, .int .u64 (aftR ⟨v, h, l⟩).h, .int .u64 (aftR ⟨v, h, l⟩).l]) ∧ Below w.heap.size w w' := by
  have HX := Lib.hid (ab2 w (.cells #[.bool v, .int .u64 h, .int .u64 l] 25) false 0 0)
  have HB := Lib.hid (below2 w (.cells #[.bool v, .int .u64 h, .int .u64 l] 25) (.cells #[.bool false, .int .u64 0, .int .u64 0] 25))
  unfold aftR
  simp only
  have e1 := up64_mod h1
  have e2 := up64_mod h2
  have e3 := up64_wrap h1
  have e4 := up64_wrap h2
  generalize up64 h = p at *
  generalize up64 l = q at *
  clear h1 h2
  by_cases c : q = 0
  · subst c
    rw [if_pos rfl]
    go_enter Try.func58, Try.ntmps58
    go_wp2_with fail
    exact bodyPost_ret (res_addr1 rfl _ _ rfl ((ab2 w _ v p 0).al _)) rfl ⟨rfl, below3 w _ _ _⟩
  · rw [if_neg c]
    have d : ((q : Int) == 0) = false := by simp; omega
    clear c
    go_enter Try.func58, Try.ntmps58
    go_wp2_with fail
    exact bodyPost_ret (res_addr1 rfl _ _ rfl ((ab2 w _ v h q).al _)) rfl ⟨rfl, below3 w _ _ _⟩
set_option maxRecDepth 20000 in
theorem rahe_any (v : Bool) (h l : Nat) (b : Ad) (w : World) (h1 : h < 18446744073709551616) (h2 : l < 18446744073709551616) (hp : prvA v h l = some (b.v, b.h, b.l)) :
    Calls Try.prog 69 #[.agg #[.bool v, .int .u64 h, .int .u64 l]] w fun e w' => e = .returned (.agg #[.bool b.v, .int .u64 b.h, .int .u64 b.l]) ∧ Below w.heap.size w w' := by
  obtain ⟨bv, bh, bl⟩ := b
  simp only at hp ⊢
  unfold prvA at hp
  by_cases c : l = 0
  · subst c
    rw [if_pos rfl] at hp
    by_cases d : h = 0
    · rw [if_pos d] at hp; cases hp
    · rw [if_neg d] at hp
      simp only [Option.some.injEq, Prod.mk.injEq] at hp
      obtain ⟨rfl, rfl, rfl⟩ := hp
      have e1 : IntKind.u64.wrap ((h : Int) - 1) = ((h - 1 : Nat) : Int) := by rw [wrap_u64_in (by omega) (by omega)]; omega
      have e2 : ((h : Int) - 1) % 18446744073709551616 = ((h - 1 : Nat) : Int) := by omega
      generalize h - 1 = p at *
      clear d h1 h2
      go_enter Try.func69, Try.ntmps69
      go_wp2_with fail
      exact bodyPost_ret (res_addr1 rfl _ _ rfl ((ab2 w _ v p 18446744073709551615).al _)) rfl ⟨rfl, below3 w _ _ _⟩
  · rw [if_neg c] at hp
    simp only [Option.some.injEq, Prod.mk.injEq] at hp
    obtain ⟨rfl, rfl, rfl⟩ := hp
    have e1 : IntKind.u64.wrap ((l : Int) - 1) = ((l - 1 : Nat) : Int) := by rw [wrap_u64_in (by omega) (by omega)]; omega
    have e2 : ((l : Int) - 1) % 18446744073709551616 = ((l - 1 : Nat) : Int) := by omega
    have d : ((l : Int) == 0) = false := by simp; omega
    generalize l - 1 = p at *
    clear c h1 h2
    go_enter Try.func69, Try.ntmps69
    go_wp2_with fail
    exact bodyPost_ret (res_addr1 rfl _ _ rfl ((ab2 w _ v h p).al _)) rfl ⟨rfl, below3 w _ _ _⟩
set_option maxHeartbeats 1000000 in
set_option maxRecDepth 20000 in
theorem rsome_any (v1 : Bool) (h1 l1 : Nat) (v2 : Bool) (h2 l2 : Nat) (w : World) (f1 : (⟨v1, h1, l1⟩ : Ad).fits) (f2 : (⟨v2, h2, l2⟩ : Ad).fits) :
    Calls Try.prog 40 #[.agg #[.bool v1, .int .u64 h1, .int .u64 l1, .bool v2, .int .u64 h2, .int .u64 l2]] w fun e w' => e = .returned (.bool (someR ⟨⟨v1, h1, l1⟩, ⟨v2, h2, l2⟩⟩)) ∧ Below w.heap.size w w' := by
  rw [someR_tests _ _ f1 f2]
  have HV1 := Lib.hid (fun W => rfine_any v1 h1 l1 W)
  have HV2 := Lib.hid (fun W => rfine_any v2 h2 l2 W)
  have HC := Lib.hid (fun W => rbef_key f2 f1 W)
  rw [show vldA v1 h1 l1 = vA ⟨v1, h1, l1⟩ from rfl] at HV1
  rw [show vldA v2 h2 l2 = vA ⟨v2, h2, l2⟩ from rfl] at HV2
  simp only at HC ⊢
  generalize vA ⟨v1, h1, l1⟩ = b1 at *
  generalize vA ⟨v2, h2, l2⟩ = b2 at *
  generalize decide (kA ⟨v2, h2, l2⟩ < kA ⟨v1, h1, l1⟩) = b4 at *
  obtain ⟨b3, d3⟩ : ∃ b, (v1 == v2) = b := ⟨_, rfl⟩
  rw [d3]
  clear f1 f2
  obtain ⟨W0, hW0⟩ : ∃ W, W = w.alloc (.cells #[.bool v1, .int .u64 h1, .int .u64 l1, .bool v2, .int .u64 h2, .int .u64 l2] 43) := ⟨_, rfl⟩
  have HE0 := Lib.hid (show RB W0 w.heap.size v1 h1 l1 v2 h2 l2 from by rw [hW0]; exact rb_new w v1 h1 l1 v2 h2 l2)
  have HB0 := Lib.hid (show Below w.heap.size w W0 by rw [hW0]; exact below_alloc6 w _)
  cases b1
  case false =>
    go_enter Try.func40, Try.ntmps40
    go_wp2_with fail
    rw [← hW0]
    clear hW0
    refine (HV1.out _).mono ?_
    rintro e w1 ⟨rfl, hb⟩
    have HE1 := Lib.hid (show RB w1 w.heap.size v1 h1 l1 v2 h2 l2 from HE0.out.kept hb HE0.out.lt)
    have HB1 := Lib.hid (HB0.out.trans (hb.mono HB0.out.size))
    clear hb HE0 HB0 
    have f0_0 : w1.cell? ⟨w.heap.size, 0, none⟩ = some (.bool v1) := (HE1.out.c 0).trans rfl
    have f0_1 : w1.cell? ⟨w.heap.size, 1, none⟩ = some (.int .u64 h1) := (HE1.out.c 1).trans rfl
    have f0_2 : w1.cell? ⟨w.heap.size, 2, none⟩ = some (.int .u64 l1) := (HE1.out.c 2).trans rfl
    have f0_3 : w1.cell? ⟨w.heap.size, 3, none⟩ = some (.bool v2) := (HE1.out.c 3).trans rfl
    have f0_4 : w1.cell? ⟨w.heap.size, 4, none⟩ = some (.int .u64 h2) := (HE1.out.c 4).trans rfl
    have f0_5 : w1.cell? ⟨w.heap.size, 5, none⟩ = some (.int .u64 l2) := (HE1.out.c 5).trans rfl
    have fl0 := HE1.out.lt
    go_wp2_with fail
    go_ret
    exact ⟨rfl, HB1.out⟩
  cases b2
  case false =>
    go_enter Try.func40, Try.ntmps40
    go_wp2_with fail
    rw [← hW0]
    clear hW0
    refine (HV1.out _).mono ?_
    rintro e w1 ⟨rfl, hb⟩
    have HE1 := Lib.hid (show RB w1 w.heap.size v1 h1 l1 v2 h2 l2 from HE0.out.kept hb HE0.out.lt)
    have HB1 := Lib.hid (HB0.out.trans (hb.mono HB0.out.size))
    clear hb HE0 HB0 
    have f0_0 : w1.cell? ⟨w.heap.size, 0, none⟩ = some (.bool v1) := (HE1.out.c 0).trans rfl
    have f0_1 : w1.cell? ⟨w.heap.size, 1, none⟩ = some (.int .u64 h1) := (HE1.out.c 1).trans rfl
    have f0_2 : w1.cell? ⟨w.heap.size, 2, none⟩ = some (.int .u64 l1) := (HE1.out.c 2).trans rfl
    have f0_3 : w1.cell? ⟨w.heap.size, 3, none⟩ = some (.bool v2) := (HE1.out.c 3).trans rfl
    have f0_4 : w1.cell? ⟨w.heap.size, 4, none⟩ = some (.int .u64 h2) := (HE1.out.c 4).trans rfl
    have f0_5 : w1.cell? ⟨w.heap.size, 5, none⟩ = some (.int .u64 l2) := (HE1.out.c 5).trans rfl
    have fl0 := HE1.out.lt
    go_wp2_with fail
    clear f0_0 f0_1 f0_2 f0_3 f0_4 f0_5 fl0
    refine (HV2.out _).mono ?_
    rintro e w2 ⟨rfl, hb⟩
    have HE2 := Lib.hid (show RB w2 w.heap.size v1 h1 l1 v2 h2 l2 from HE1.out.kept hb HE1.out.lt)
    have HB2 := Lib.hid (HB1.out.trans (hb.mono HB1.out.size))
    clear hb HE1 HB1 
    have f0_0 : w2.cell? ⟨w.heap.size, 0, none⟩ = some (.bool v1) := (HE2.out.c 0).trans rfl
    have f0_1 : w2.cell? ⟨w.heap.size, 1, none⟩ = some (.int .u64 h1) := (HE2.out.c 1).trans rfl
    have f0_2 : w2.cell? ⟨w.heap.size, 2, none⟩ = some (.int .u64 l1) := (HE2.out.c 2).trans rfl
    have f0_3 : w2.cell? ⟨w.heap.size, 3, none⟩ = some (.bool v2) := (HE2.out.c 3).trans rfl
    have f0_4 : w2.cell? ⟨w.heap.size, 4, none⟩ = some (.int .u64 h2) := (HE2.out.c 4).trans rfl
    have f0_5 : w2.cell? ⟨w.heap.size, 5, none⟩ = some (.int .u64 l2) := (HE2.out.c 5).trans rfl
    have fl0 := HE2.out.lt
    go_wp2_with fail
    go_ret
    exact ⟨rfl, HB2.out⟩
  cases b3
  case false =>
    go_enter Try.func40, Try.ntmps40
    go_wp2_with fail
    rw [← hW0]
    clear hW0
    refine (HV1.out _).mono ?_
    rintro e w1 ⟨rfl, hb⟩
    have HE1 := Lib.hid (show RB w1 w.heap.size v1 h1 l1 v2 h2 l2 from HE0.out.kept hb HE0.out.lt)
    have HB1 := Lib.hid (HB0.out.trans (hb.mono HB0.out.size))
    clear hb HE0 HB0 
    have f0_0 : w1.cell? ⟨w.heap.size, 0, none⟩ = some (.bool v1) := (HE1.out.c 0).trans rfl
    have f0_1 : w1.cell? ⟨w.heap.size, 1, none⟩ = some (.int .u64 h1) := (HE1.out.c 1).trans rfl
    have f0_2 : w1.cell? ⟨w.heap.size, 2, none⟩ = some (.int .u64 l1) := (HE1.out.c 2).trans rfl
    have f0_3 : w1.cell? ⟨w.heap.size, 3, none⟩ = some (.bool v2) := (HE1.out.c 3).trans rfl
    have f0_4 : w1.cell? ⟨w.heap.size, 4, none⟩ = some (.int .u64 h2) := (HE1.out.c 4).trans rfl
    have f0_5 : w1.cell? ⟨w.heap.size, 5, none⟩ = some (.int .u64 l2) := (HE1.out.c 5).trans rfl
    have fl0 := HE1.out.lt
    go_wp2_with fail
    clear f0_0 f0_1 f0_2 f0_3 f0_4 f0_5 fl0
    refine (HV2.out _).mono ?_
    rintro e w2 ⟨rfl, hb⟩
    have HE2 := Lib.hid (show RB w2 w.heap.size v1 h1 l1 v2 h2 l2 from HE1.out.kept hb HE1.out.lt)
    have HB2 := Lib.hid (HB1.out.trans (hb.mono HB1.out.size))
    clear hb HE1 HB1 
    have f0_0 : w2.cell? ⟨w.heap.size, 0, none⟩ = some (.bool v1) := (HE2.out.c 0).trans rfl
    have f0_1 : w2.cell? ⟨w.heap.size, 1, none⟩ = some (.int .u64 h1) := (HE2.out.c 1).trans rfl
    have f0_2 : w2.cell? ⟨w.heap.size, 2, none⟩ = some (.int .u64 l1) := (HE2.out.c 2).trans rfl
    have f0_3 : w2.cell? ⟨w.heap.size, 3, none⟩ = some (.bool v2) := (HE2.out.c 3).trans rfl
    have f0_4 : w2.cell? ⟨w.heap.size, 4, none⟩ = some (.int .u64 h2) := (HE2.out.c 4).trans rfl
    have f0_5 : w2.cell? ⟨w.heap.size, 5, none⟩ = some (.int .u64 l2) := (HE2.out.c 5).trans rfl
    have fl0 := HE2.out.lt
    go_wp2_with fail
    go_ret
    exact ⟨rfl, HB2.out⟩
  cases b4
  all_goals
    go_enter Try.func40, Try.ntmps40
    go_wp2_with fail
    rw [← hW0]
    clear hW0
    refine (HV1.out _).mono ?_
    rintro e w1 ⟨rfl, hb⟩
    have HE1 := Lib.hid (show RB w1 w.heap.size v1 h1 l1 v2 h2 l2 from HE0.out.kept hb HE0.out.lt)
    have HB1 := Lib.hid (HB0.out.trans (hb.mono HB0.out.size))
    clear hb HE0 HB0 
    have f0_0 : w1.cell? ⟨w.heap.size, 0, none⟩ = some (.bool v1) := (HE1.out.c 0).trans rfl
    have f0_1 : w1.cell? ⟨w.heap.size, 1, none⟩ = some (.int .u64 h1) := (HE1.out.c 1).trans rfl
    have f0_2 : w1.cell? ⟨w.heap.size, 2, none⟩ = some (.int .u64 l1) := (HE1.out.c 2).trans rfl
    have f0_3 : w1.cell? ⟨w.heap.size, 3, none⟩ = some (.bool v2) := (HE1.out.c 3).trans rfl
    have f0_4 : w1.cell? ⟨w.heap.size, 4, none⟩ = some (.int .u64 h2) := (HE1.out.c 4).trans rfl
    have f0_5 : w1.cell? ⟨w.heap.size, 5, none⟩ = some (.int .u64 l2) := (HE1.out.c 5).trans rfl
    have fl0 := HE1.out.lt
    go_wp2_with fail
    clear f0_0 f0_1 f0_2 f0_3 f0_4 f0_5 fl0
    refine (HV2.out _).mono ?_
    rintro e w2 ⟨rfl, hb⟩
    have HE2 := Lib.hid (show RB w2 w.heap.size v1 h1 l1 v2 h2 l2 from HE1.out.kept hb HE1.out.lt)
    have HB2 := Lib.hid (HB1.out.trans (hb.mono HB1.out.size))
    clear hb HE1 HB1 
    have f0_0 : w2.cell? ⟨w.heap.size, 0, none⟩ = some (.bool v1) := (HE2.out.c 0).trans rfl
    have f0_1 : w2.cell? ⟨w.heap.size, 1, none⟩ = some (.int .u64 h1) := (HE2.out.c 1).trans rfl
    have f0_2 : w2.cell? ⟨w.heap.size, 2, none⟩ = some (.int .u64 l1) := (HE2.out.c 2).trans rfl
    have f0_3 : w2.cell? ⟨w.heap.size, 3, none⟩ = some (.bool v2) := (HE2.out.c 3).trans rfl
    have f0_4 : w2.cell? ⟨w.heap.size, 4, none⟩ = some (.int .u64 h2) := (HE2.out.c 4).trans rfl
    have f0_5 : w2.cell? ⟨w.heap.size, 5, none⟩ = some (.int .u64 l2) := (HE2.out.c 5).trans rfl
    have fl0 := HE2.out.lt
    go_wp2_with fail
    clear f0_0 f0_1 f0_2 f0_3 f0_4 f0_5 fl0
    refine (HC.out _).mono ?_
    rintro e w3 ⟨rfl, hb⟩
    have HE3 := Lib.hid (show RB w3 w.heap.size v1 h1 l1 v2 h2 l2 from HE2.out.kept hb HE2.out.lt)
    have HB3 := Lib.hid (HB2.out.trans (hb.mono HB2.out.size))
    clear hb HE2 HB2 
    have f0_0 : w3.cell? ⟨w.heap.size, 0, none⟩ = some (.bool v1) := (HE3.out.c 0).trans rfl
    have f0_1 : w3.cell? ⟨w.heap.size, 1, none⟩ = some (.int .u64 h1) := (HE3.out.c 1).trans rfl
    have f0_2 : w3.cell? ⟨w.heap.size, 2, none⟩ = some (.int .u64 l1) := (HE3.out.c 2).trans rfl
    have f0_3 : w3.cell? ⟨w.heap.size, 3, none⟩ = some (.bool v2) := (HE3.out.c 3).trans rfl
    have f0_4 : w3.cell? ⟨w.heap.size, 4, none⟩ = some (.int .u64 h2) := (HE3.out.c 4).trans rfl
    have f0_5 : w3.cell? ⟨w.heap.size, 5, none⟩ = some (.int .u64 l2) := (HE3.out.c 5).trans rfl
    have fl0 := HE3.out.lt
    go_wp2_with fail
    go_ret
    exact ⟨rfl, HB3.out⟩
theorem rb2 (w : World) (o : Obj) (v1 : Bool) (h1 l1 : Nat) (v2 : Bool) (h2 l2 : Nat) : RB ((w.alloc o).alloc (.cells #[.bool v1, .int .u64 h1, .int .u64 l1, .bool v2, .int .u64 h2, .int .u64 l2] 43)) (w.heap.size + 1) v1 h1 l1 v2 h2 l2 := by
  have := rb_new (w.alloc o) v1 h1 l1 v2 h2 l2
  rwa [show (w.alloc o).heap.size = w.heap.size + 1 by simp] at this
set_option maxHeartbeats 2000000 in
set_option maxRecDepth 20000 in
theorem rjoin_ne (u1 : Bool) (x1 y1 : Nat) (v1 : Bool) (h1 l1 : Nat) (v2 : Bool) (h2 l2 : Nat) (u2 : Bool) (x2 y2 : Nat) (w : World) (e1 : v1 = u1) (f1 : (⟨v1, h1, l1⟩ : Ad).fits) (f2 : (⟨v2, h2, l2⟩ : Ad).fits) (a1 : vA ⟨v1, h1, l1⟩ = true) (a2 : vA ⟨v2, h2, l2⟩ = true) (hv : (v1 == v2) = false) :
    Calls Try.prog 43 #[.agg #[.bool u1, .int .u64 x1, .int .u64 y1, .bool v1, .int .u64 h1, .int .u64 l1], .agg #[.bool v2, .int .u64 h2, .int .u64 l2, .bool u2, .int .u64 x2, .int .u64 y2]] w fun e w' => e = .returned (.bool (v1 == v2 && decide (kA ⟨v2, h2, l2⟩ ≤ kA ⟨v1, h1, l1⟩ + 1))) ∧ Below w.heap.size w w' := by
  subst e1
  rw [hv, Bool.false_and]
  have hne : (!(v1 == v2)) = true := by rw [hv]; rfl
  clear f1 f2 a1 a2 hv
  obtain ⟨W0, hW0⟩ : ∃ W, W = (w.alloc (.cells #[.bool v1, .int .u64 x1, .int .u64 y1, .bool v1, .int .u64 h1, .int .u64 l1] 43)).alloc (.cells #[.bool v2, .int .u64 h2, .int .u64 l2, .bool u2, .int .u64 x2, .int .u64 y2] 43) := ⟨_, rfl⟩
  have HB0 := Lib.hid (show Below w.heap.size w W0 by rw [hW0]; exact below2 w _ _)
  have HE0 := Lib.hid (show RB W0 w.heap.size v1 x1 y1 v1 h1 l1 ∧ RB W0 (w.heap.size + 1) v2 h2 l2 u2 x2 y2 from by rw [hW0]; exact ⟨(rb_new w v1 x1 y1 v1 h1 l1).al _, rb2 w _ v2 h2 l2 u2 x2 y2⟩)
  go_enter Try.func43, Try.ntmps43
  go_wp2_with fail
  rw [← hW0]
  clear hW0
  go_ret
  exact ⟨rfl, HB0.out⟩
set_option maxHeartbeats 2000000 in
set_option maxRecDepth 20000 in
theorem rjoin_over (u1 : Bool) (x1 y1 : Nat) (v1 : Bool) (h1 l1 : Nat) (v2 : Bool) (h2 l2 : Nat) (u2 : Bool) (x2 y2 : Nat) (w : World) (e1 : v1 = u1) (f1 : (⟨v1, h1, l1⟩ : Ad).fits) (f2 : (⟨v2, h2, l2⟩ : Ad).fits) (a1 : vA ⟨v1, h1, l1⟩ = true) (a2 : vA ⟨v2, h2, l2⟩ = true) (hv : (v1 == v2) = true) (hk : ¬ kA ⟨v1, h1, l1⟩ < kA ⟨v2, h2, l2⟩) :
    Calls Try.prog 43 #[.agg #[.bool u1, .int .u64 x1, .int .u64 y1, .bool v1, .int .u64 h1, .int .u64 l1], .agg #[.bool v2, .int .u64 h2, .int .u64 l2, .bool u2, .int .u64 x2, .int .u64 y2]] w fun e w' => e = .returned (.bool (v1 == v2 && decide (kA ⟨v2, h2, l2⟩ ≤ kA ⟨v1, h1, l1⟩ + 1))) ∧ Below w.heap.size w w' := by
  subst e1
  rw [hv, Bool.true_and, decide_eq_true (show kA ⟨v2, h2, l2⟩ ≤ kA ⟨v1, h1, l1⟩ + 1 by omega)]
  have hne : (!(v1 == v2)) = false := by rw [hv]; rfl
  have HC := Lib.hid (fun W => rbef_key f1 f2 W)
  rw [decide_eq_false hk] at HC
  simp only at HC
  clear f1 f2 a1 a2 hv hk
  obtain ⟨W0, hW0⟩ : ∃ W, W = (w.alloc (.cells #[.bool v1, .int .u64 x1, .int .u64 y1, .bool v1, .int .u64 h1, .int .u64 l1] 43)).alloc (.cells #[.bool v2, .int .u64 h2, .int .u64 l2, .bool u2, .int .u64 x2, .int .u64 y2] 43) := ⟨_, rfl⟩
  have HB0 := Lib.hid (show Below w.heap.size w W0 by rw [hW0]; exact below2 w _ _)
  have HE0 := Lib.hid (show RB W0 w.heap.size v1 x1 y1 v1 h1 l1 ∧ RB W0 (w.heap.size + 1) v2 h2 l2 u2 x2 y2 from by rw [hW0]; exact ⟨(rb_new w v1 x1 y1 v1 h1 l1).al _, rb2 w _ v2 h2 l2 u2 x2 y2⟩)
  go_enter Try.func43, Try.ntmps43
  go_wp2_with fail
  rw [← hW0]
  clear hW0
  refine wp_region_pick (fun w' => Below W0.heap.size W0 w') (by kernel_rfl) (by kernel_rfl) (Below.refl _ _) ⟨rfl, rfl, rfl, Nat.le_refl _, fun _ _ => rfl⟩ (fun p hp hq => ?_)
  have p0_0 : ∀ u, (p u).cell? ⟨w.heap.size, 0, none⟩ = some (.bool v1) := fun u => ((HE0.out.1.kept (hp u) HE0.out.1.lt).c 0).trans rfl
  have p0_1 : ∀ u, (p u).cell? ⟨w.heap.size, 1, none⟩ = some (.int .u64 x1) := fun u => ((HE0.out.1.kept (hp u) HE0.out.1.lt).c 1).trans rfl
  have p0_2 : ∀ u, (p u).cell? ⟨w.heap.size, 2, none⟩ = some (.int .u64 y1) := fun u => ((HE0.out.1.kept (hp u) HE0.out.1.lt).c 2).trans rfl
  have p0_3 : ∀ u, (p u).cell? ⟨w.heap.size, 3, none⟩ = some (.bool v1) := fun u => ((HE0.out.1.kept (hp u) HE0.out.1.lt).c 3).trans rfl
  have p0_4 : ∀ u, (p u).cell? ⟨w.heap.size, 4, none⟩ = some (.int .u64 h1) := fun u => ((HE0.out.1.kept (hp u) HE0.out.1.lt).c 4).trans rfl
  have p0_5 : ∀ u, (p u).cell? ⟨w.heap.size, 5, none⟩ = some (.int .u64 l1) := fun u => ((HE0.out.1.kept (hp u) HE0.out.1.lt).c 5).trans rfl
  have p1_0 : ∀ u, (p u).cell? ⟨(w.heap.size + 1), 0, none⟩ = some (.bool v2) := fun u => ((HE0.out.2.kept (hp u) HE0.out.2.lt).c 0).trans rfl
  have p1_1 : ∀ u, (p u).cell? ⟨(w.heap.size + 1), 1, none⟩ = some (.int .u64 h2) := fun u => ((HE0.out.2.kept (hp u) HE0.out.2.lt).c 1).trans rfl
  have p1_2 : ∀ u, (p u).cell? ⟨(w.heap.size + 1), 2, none⟩ = some (.int .u64 l2) := fun u => ((HE0.out.2.kept (hp u) HE0.out.2.lt).c 2).trans rfl
  have p1_3 : ∀ u, (p u).cell? ⟨(w.heap.size + 1), 3, none⟩ = some (.bool u2) := fun u => ((HE0.out.2.kept (hp u) HE0.out.2.lt).c 3).trans rfl
  have p1_4 : ∀ u, (p u).cell? ⟨(w.heap.size + 1), 4, none⟩ = some (.int .u64 x2) := fun u => ((HE0.out.2.kept (hp u) HE0.out.2.lt).c 4).trans rfl
  have p1_5 : ∀ u, (p u).cell? ⟨(w.heap.size + 1), 5, none⟩ = some (.int .u64 y2) := fun u => ((HE0.out.2.kept (hp u) HE0.out.2.lt).c 5).trans rfl
  have HP := Lib.hid hp
  have HQ := Lib.hid hq
  clear hp hq
  repeat (go_big_quiet_step ((first | with_reducible exact Calls.pick_of HQ.out (fun W' hb => (HP.out _).trans (hb.mono (HP.out _).size)) (HC.out _))))
  refine wpQuiet_nil ?_
  rintro _ ⟨u, rfl⟩
  have hb := HP.out u
  generalize p u = w1 at *
  clear HP HQ p0_0 p0_1 p0_2 p0_3 p0_4 p0_5 p1_0 p1_1 p1_2 p1_3 p1_4 p1_5
  have HE1 := Lib.hid (show RB w1 w.heap.size v1 x1 y1 v1 h1 l1 ∧ RB w1 (w.heap.size + 1) v2 h2 l2 u2 x2 y2 from ⟨HE0.out.1.kept hb HE0.out.1.lt , HE0.out.2.kept hb HE0.out.2.lt⟩)
  have HB1 := Lib.hid (HB0.out.trans (hb.mono HB0.out.size))
  clear hb HE0 HB0 
  have f0_0 : w1.cell? ⟨w.heap.size, 0, none⟩ = some (.bool v1) := (HE1.out.1.c 0).trans rfl
  have f0_1 : w1.cell? ⟨w.heap.size, 1, none⟩ = some (.int .u64 x1) := (HE1.out.1.c 1).trans rfl
  have f0_2 : w1.cell? ⟨w.heap.size, 2, none⟩ = some (.int .u64 y1) := (HE1.out.1.c 2).trans rfl
  have f0_3 : w1.cell? ⟨w.heap.size, 3, none⟩ = some (.bool v1) := (HE1.out.1.c 3).trans rfl
  have f0_4 : w1.cell? ⟨w.heap.size, 4, none⟩ = some (.int .u64 h1) := (HE1.out.1.c 4).trans rfl
  have f0_5 : w1.cell? ⟨w.heap.size, 5, none⟩ = some (.int .u64 l1) := (HE1.out.1.c 5).trans rfl
  have fl0 := HE1.out.1.lt
  have f1_0 : w1.cell? ⟨(w.heap.size + 1), 0, none⟩ = some (.bool v2) := (HE1.out.2.c 0).trans rfl
  have f1_1 : w1.cell? ⟨(w.heap.size + 1), 1, none⟩ = some (.int .u64 h2) := (HE1.out.2.c 1).trans rfl
  have f1_2 : w1.cell? ⟨(w.heap.size + 1), 2, none⟩ = some (.int .u64 l2) := (HE1.out.2.c 2).trans rfl
  have f1_3 : w1.cell? ⟨(w.heap.size + 1), 3, none⟩ = some (.bool u2) := (HE1.out.2.c 3).trans rfl
  have f1_4 : w1.cell? ⟨(w.heap.size + 1), 4, none⟩ = some (.int .u64 x2) := (HE1.out.2.c 4).trans rfl
  have f1_5 : w1.cell? ⟨(w.heap.size + 1), 5, none⟩ = some (.int .u64 y2) := (HE1.out.2.c 5).trans rfl
  have fl1 := HE1.out.2.lt
  go_wp2_with fail
  go_ret
  exact ⟨rfl, HB1.out⟩
set_option maxHeartbeats 2000000 in
set_option maxRecDepth 20000 in
theorem rjoin_next (u1 : Bool) (x1 y1 : Nat) (v1 : Bool) (h1 l1 : Nat) (v2 : Bool) (h2 l2 : Nat) (u2 : Bool) (x2 y2 : Nat) (w : World) (e1 : v1 = u1) (f1 : (⟨v1, h1, l1⟩ : Ad).fits) (f2 : (⟨v2, h2, l2⟩ : Ad).fits) (a1 : vA ⟨v1, h1, l1⟩ = true) (a2 : vA ⟨v2, h2, l2⟩ = true) (hv : (v1 == v2) = true) (hk : kA ⟨v1, h1, l1⟩ < kA ⟨v2, h2, l2⟩) :
    Calls Try.prog 43 #[.agg #[.bool u1, .int .u64 x1, .int .u64 y1, .bool v1, .int .u64 h1, .int .u64 l1], .agg #[.bool v2, .int .u64 h2, .int .u64 l2, .bool u2, .int .u64 x2, .int .u64 y2]] w fun e w' => e = .returned (.bool (v1 == v2 && decide (kA ⟨v2, h2, l2⟩ ≤ kA ⟨v1, h1, l1⟩ + 1))) ∧ Below w.heap.size w w' := by
  subst e1
  have hnx : ∃ b : Ad, nxtA v1 h1 l1 = some (b.v, b.h, b.l) ∧ b.fits ∧ kA b = kA ⟨v1, h1, l1⟩ + 1 := by
    rcases nxt_key f1 a1 with ⟨_, h | h⟩ | ⟨b, h, _, hf, _, hb⟩
    · have hv' : v1 = v2 := by simpa using hv
      subst hv'
      cases v1 with
      | true => have := kA_v6 f1 rfl; omega
      | false => have := kA_v4 a2 rfl; omega
    · have := kA_top f2; omega
    · exact ⟨b, h, hf, hb⟩
  obtain ⟨⟨v3, h3, l3⟩, hb, hbf, hbk⟩ := hnx
  have hres : (v1 == v2 && decide (kA ⟨v2, h2, l2⟩ ≤ kA ⟨v1, h1, l1⟩ + 1)) = (v3 == v2 && ((h3 : Int) == (h2 : Int) && (l3 : Int) == (l2 : Int))) := by
    rw [hv, Bool.true_and, ← hbk, Bool.eq_iff_iff, decide_eq_true_eq, Bool.and_eq_true, Bool.and_eq_true, beq_iff_eq, beq_iff_eq, beq_iff_eq]
    constructor
    · intro h
      have := kA_inj hbf f2 (by omega)
      simp only [Ad.mk.injEq] at this
      exact ⟨this.1, by omega, by omega⟩
    · rintro ⟨i1, i2, i3⟩
      rw [i1, show h3 = h2 by omega, show l3 = l2 by omega]; exact Int.le_refl _
  rw [hres]
  have hne : (!(v1 == v2)) = false := by rw [hv]; rfl
  have HC := Lib.hid (fun W => rbef_key f1 f2 W)
  rw [decide_eq_true hk] at HC
  simp only at HC
  have HL := Lib.hid (fun W => rlast_any v1 h1 l1 W f1.1 f1.2)
  have hlr := lastR_nxt f1 a1
  simp only at hlr
  rw [hlr, hb] at HL
  simp only [Option.isNone_some] at HL
  have HA := Lib.hid (fun W => raft_any v1 h1 l1 W f1.1 f1.2)
  rw [aftR_nxt f1 a1 hb] at HA
  simp only at HA
  have hm := addr_guard
  have qe := fun W => addr_eql v3 v2 h3 h2 l3 l2 W
  generalize (v3 == v2 && ((h3 : Int) == (h2 : Int) && (l3 : Int) == (l2 : Int))) = z at *
  clear f1 f2 a1 a2 hv hk hb hbf hbk hres hlr
  cases z
  all_goals
    obtain ⟨W0, hW0⟩ : ∃ W, W = (w.alloc (.cells #[.bool v1, .int .u64 x1, .int .u64 y1, .bool v1, .int .u64 h1, .int .u64 l1] 43)).alloc (.cells #[.bool v2, .int .u64 h2, .int .u64 l2, .bool u2, .int .u64 x2, .int .u64 y2] 43) := ⟨_, rfl⟩
    have HB0 := Lib.hid (show Below w.heap.size w W0 by rw [hW0]; exact below2 w _ _)
    have HE0 := Lib.hid (show RB W0 w.heap.size v1 x1 y1 v1 h1 l1 ∧ RB W0 (w.heap.size + 1) v2 h2 l2 u2 x2 y2 from by rw [hW0]; exact ⟨(rb_new w v1 x1 y1 v1 h1 l1).al _, rb2 w _ v2 h2 l2 u2 x2 y2⟩)
    go_enter Try.func43, Try.ntmps43
    go_wp2_with fail
    rw [← hW0]
    clear hW0
    refine wp_region_pick (fun w' => Below W0.heap.size W0 w') (by kernel_rfl) (by kernel_rfl) (Below.refl _ _) ⟨rfl, rfl, rfl, Nat.le_refl _, fun _ _ => rfl⟩ (fun p hp hq => ?_)
    have p0_0 : ∀ u, (p u).cell? ⟨w.heap.size, 0, none⟩ = some (.bool v1) := fun u => ((HE0.out.1.kept (hp u) HE0.out.1.lt).c 0).trans rfl
    have p0_1 : ∀ u, (p u).cell? ⟨w.heap.size, 1, none⟩ = some (.int .u64 x1) := fun u => ((HE0.out.1.kept (hp u) HE0.out.1.lt).c 1).trans rfl
    have p0_2 : ∀ u, (p u).cell? ⟨w.heap.size, 2, none⟩ = some (.int .u64 y1) := fun u => ((HE0.out.1.kept (hp u) HE0.out.1.lt).c 2).trans rfl
    have p0_3 : ∀ u, (p u).cell? ⟨w.heap.size, 3, none⟩ = some (.bool v1) := fun u => ((HE0.out.1.kept (hp u) HE0.out.1.lt).c 3).trans rfl
    have p0_4 : ∀ u, (p u).cell? ⟨w.heap.size, 4, none⟩ = some (.int .u64 h1) := fun u => ((HE0.out.1.kept (hp u) HE0.out.1.lt).c 4).trans rfl
    have p0_5 : ∀ u, (p u).cell? ⟨w.heap.size, 5, none⟩ = some (.int .u64 l1) := fun u => ((HE0.out.1.kept (hp u) HE0.out.1.lt).c 5).trans rfl
    have p1_0 : ∀ u, (p u).cell? ⟨(w.heap.size + 1), 0, none⟩ = some (.bool v2) := fun u => ((HE0.out.2.kept (hp u) HE0.out.2.lt).c 0).trans rfl
    have p1_1 : ∀ u, (p u).cell? ⟨(w.heap.size + 1), 1, none⟩ = some (.int .u64 h2) := fun u => ((HE0.out.2.kept (hp u) HE0.out.2.lt).c 1).trans rfl
    have p1_2 : ∀ u, (p u).cell? ⟨(w.heap.size + 1), 2, none⟩ = some (.int .u64 l2) := fun u => ((HE0.out.2.kept (hp u) HE0.out.2.lt).c 2).trans rfl
    have p1_3 : ∀ u, (p u).cell? ⟨(w.heap.size + 1), 3, none⟩ = some (.bool u2) := fun u => ((HE0.out.2.kept (hp u) HE0.out.2.lt).c 3).trans rfl
    have p1_4 : ∀ u, (p u).cell? ⟨(w.heap.size + 1), 4, none⟩ = some (.int .u64 x2) := fun u => ((HE0.out.2.kept (hp u) HE0.out.2.lt).c 4).trans rfl
    have p1_5 : ∀ u, (p u).cell? ⟨(w.heap.size + 1), 5, none⟩ = some (.int .u64 y2) := fun u => ((HE0.out.2.kept (hp u) HE0.out.2.lt).c 5).trans rfl
    have HP := Lib.hid hp
    have HQ := Lib.hid hq
    clear hp hq
    repeat (go_big_quiet_step ((first | with_reducible exact Calls.pick_of HQ.out (fun W' hb => (HP.out _).trans (hb.mono (HP.out _).size)) (HC.out _) | with_reducible exact Calls.pick_of HQ.out (fun W' hb => (HP.out _).trans (hb.mono (HP.out _).size)) (HL.out _) | with_reducible exact Calls.pick_of HQ.out (fun W' hb => (HP.out _).trans (hb.mono (HP.out _).size)) (HA.out _))))
    refine wpQuiet_nil ?_
    rintro _ ⟨u, rfl⟩
    have hb := HP.out u
    generalize p u = w1 at *
    clear HP HQ p0_0 p0_1 p0_2 p0_3 p0_4 p0_5 p1_0 p1_1 p1_2 p1_3 p1_4 p1_5
    have HE1 := Lib.hid (show RB w1 w.heap.size v1 x1 y1 v1 h1 l1 ∧ RB w1 (w.heap.size + 1) v2 h2 l2 u2 x2 y2 from ⟨HE0.out.1.kept hb HE0.out.1.lt , HE0.out.2.kept hb HE0.out.2.lt⟩)
    have HB1 := Lib.hid (HB0.out.trans (hb.mono HB0.out.size))
    clear hb HE0 HB0 
    have f0_0 : w1.cell? ⟨w.heap.size, 0, none⟩ = some (.bool v1) := (HE1.out.1.c 0).trans rfl
    have f0_1 : w1.cell? ⟨w.heap.size, 1, none⟩ = some (.int .u64 x1) := (HE1.out.1.c 1).trans rfl
    have f0_2 : w1.cell? ⟨w.heap.size, 2, none⟩ = some (.int .u64 y1) := (HE1.out.1.c 2).trans rfl
    have f0_3 : w1.cell? ⟨w.heap.size, 3, none⟩ = some (.bool v1) := (HE1.out.1.c 3).trans rfl
    have f0_4 : w1.cell? ⟨w.heap.size, 4, none⟩ = some (.int .u64 h1) := (HE1.out.1.c 4).trans rfl
    have f0_5 : w1.cell? ⟨w.heap.size, 5, none⟩ = some (.int .u64 l1) := (HE1.out.1.c 5).trans rfl
    have fl0 := HE1.out.1.lt
    have f1_0 : w1.cell? ⟨(w.heap.size + 1), 0, none⟩ = some (.bool v2) := (HE1.out.2.c 0).trans rfl
    have f1_1 : w1.cell? ⟨(w.heap.size + 1), 1, none⟩ = some (.int .u64 h2) := (HE1.out.2.c 1).trans rfl
    have f1_2 : w1.cell? ⟨(w.heap.size + 1), 2, none⟩ = some (.int .u64 l2) := (HE1.out.2.c 2).trans rfl
    have f1_3 : w1.cell? ⟨(w.heap.size + 1), 3, none⟩ = some (.bool u2) := (HE1.out.2.c 3).trans rfl
    have f1_4 : w1.cell? ⟨(w.heap.size + 1), 4, none⟩ = some (.int .u64 x2) := (HE1.out.2.c 4).trans rfl
    have f1_5 : w1.cell? ⟨(w.heap.size + 1), 5, none⟩ = some (.int .u64 y2) := (HE1.out.2.c 5).trans rfl
    have fl1 := HE1.out.2.lt
    go_wp2_with fail
    go_ret
    exact ⟨rfl, HB1.out⟩
theorem rjoin_any (u1 : Bool) (x1 y1 : Nat) (v1 : Bool) (h1 l1 : Nat) (v2 : Bool) (h2 l2 : Nat) (u2 : Bool) (x2 y2 : Nat) (w : World) (e1 : v1 = u1) (f1 : (⟨v1, h1, l1⟩ : Ad).fits) (f2 : (⟨v2, h2, l2⟩ : Ad).fits) (a1 : vA ⟨v1, h1, l1⟩ = true) (a2 : vA ⟨v2, h2, l2⟩ = true) :
    Calls Try.prog 43 #[.agg #[.bool u1, .int .u64 x1, .int .u64 y1, .bool v1, .int .u64 h1, .int .u64 l1], .agg #[.bool v2, .int .u64 h2, .int .u64 l2, .bool u2, .int .u64 x2, .int .u64 y2]] w fun e w' => e = .returned (.bool (v1 == v2 && decide (kA ⟨v2, h2, l2⟩ ≤ kA ⟨v1, h1, l1⟩ + 1))) ∧ Below w.heap.size w w' := by
  cases hv : (v1 == v2) with
  | false => have := rjoin_ne u1 x1 y1 v1 h1 l1 v2 h2 l2 u2 x2 y2 w e1 f1 f2 a1 a2 hv; rwa [hv] at this
  | true =>
    by_cases hk : kA ⟨v1, h1, l1⟩ < kA ⟨v2, h2, l2⟩
    · have := rjoin_next u1 x1 y1 v1 h1 l1 v2 h2 l2 u2 x2 y2 w e1 f1 f2 a1 a2 hv hk; rwa [hv] at this
    · have := rjoin_over u1 x1 y1 v1 h1 l1 v2 h2 l2 u2 x2 y2 w e1 f1 f2 a1 a2 hv hk; rwa [hv] at this
end Go.Proofs.Ytmcelgnifpfjpaa

/- Contract of the reference of layer 7: add. -/
namespace Go.Proofs.Ytmcelgnifpfjpaa
open Go.ChangeShapes Go.WideShapes Go.ChangeAt Go.RowKit
set_option linter.unusedVariables false

theorem RB.setLo {w : World} {g : Nat} {a1 : Bool} {a2 a3 : Nat} {a4 : Bool} {a5 a6 : Nat} (h : RB w g a1 a2 a3 a4 a5 a6) (v : Bool) (x y : Nat) : RB (((w.setCell ⟨g, 0, none⟩ (.bool v)).setCell ⟨g, 1, none⟩ (.int .u64 x)).setCell ⟨g, 2, none⟩ (.int .u64 y)) g v x y a4 a5 a6 :=
  Cells.set (Cells.set (Cells.set h 0 (.bool v)) 1 (.int .u64 x)) 2 (.int .u64 y)
theorem RB.setHi {w : World} {g : Nat} {a1 : Bool} {a2 a3 : Nat} {a4 : Bool} {a5 a6 : Nat} (h : RB w g a1 a2 a3 a4 a5 a6) (v : Bool) (x y : Nat) : RB (((w.setCell ⟨g, 3, none⟩ (.bool v)).setCell ⟨g, 4, none⟩ (.int .u64 x)).setCell ⟨g, 5, none⟩ (.int .u64 y)) g a1 a2 a3 v x y :=
  Cells.set (Cells.set (Cells.set h 3 (.bool v)) 4 (.int .u64 x)) 5 (.int .u64 y)
theorem RB.far {w : World} {g b i : Nat} {v1 : Bool} {h1 l1 : Nat} {v2 : Bool} {h2 l2 : Nat} (h : RB w g v1 h1 l1 v2 h2 l2) (hne : g ≠ b) (u : Value) : RB (w.setCell ⟨b, i, none⟩ u) g v1 h1 l1 v2 h2 l2 := (Below.heap_setCell w ⟨b, i, none⟩ u g hne).trans h
theorem OwnR.far1 {w : World} {base n c b i : Nat} {A : Option Addr} {l : List Rg} (h : OwnR w base A n c l) (hb : b < base) (u : Value) : OwnR (w.setCell ⟨b, i, none⟩ u) base A n c l :=
  ⟨h.1, own_blocks h.2 fun y hy hl => Below.heap_setCell w ⟨b, i, none⟩ u y (show y ≠ b by omega)⟩

set_option maxHeartbeats 8000000 in
set_option maxRecDepth 20000 in
theorem radd_any (A : Option Addr) (cap : Nat) (l : List Rg) (v1 : Bool) (h1 l1 : Nat) (v2 : Bool) (h2 l2 : Nat) (w : World) (h : RowL ER w A l) (hG : GoodL l) (hs : someR ⟨⟨v1, h1, l1⟩, ⟨v2, h2, l2⟩⟩ = true) (hf : (⟨⟨v1, h1, l1⟩, ⟨v2, h2, l2⟩⟩ : Rg).fits) (hl : l.length ≤ 100000) :
    Calls Try.prog 41 #[.slice A l.length cap, .agg #[.bool v1, .int .u64 h1, .int .u64 l1, .bool v2, .int .u64 h2, .int .u64 l2]] w (SetA w (fun m => anyS (l.map spn) m || inS (spn ⟨⟨v1, h1, l1⟩, ⟨v2, h2, l2⟩⟩) m) (l.length + 1)) := by
  obtain ⟨N, hN⟩ : ∃ n, n = l.length := ⟨_, rfl⟩
  have hn6 : N ≤ 100000 := by omega
  rw [← hN]
  have H := Lib.hid h
  have HG := Lib.hid hG
  have HN := Lib.hid hN
  have HR0 := Lib.hid (rb_new w v1 h1 l1 v2 h2 l2)
  have HB0 := Lib.hid (below_alloc6 w (.cells #[.bool v1, .int .u64 h1, .int .u64 l1, .bool v2, .int .u64 h2, .int .u64 l2] 43))
  have HI0 := Lib.hid (addI_start hG hs hf)
  have HO0 := Lib.hid (OwnR.nil (w.alloc (.cells #[.bool v1, .int .u64 h1, .int .u64 l1, .bool v2, .int .u64 h2, .int .u64 l2] 43)) (w.heap.size + 1))
  obtain ⟨R, hR⟩ : ∃ R, R = (⟨⟨v1, h1, l1⟩, ⟨v2, h2, l2⟩⟩ : Rg) := ⟨_, rfl⟩
  rw [← hR]
  have HI0 := Lib.hid (show AddI l R 0 false ⟨⟨v1, h1, l1⟩, ⟨v2, h2, l2⟩⟩ [] by rw [hR]; exact HI0.out)
  clear h hG hs hf hl hN hR
  go_enter Try.func41, Try.ntmps41
  go_wp2_with fail
  generalize w.alloc (.cells #[.bool v1, .int .u64 h1, .int .u64 l1, .bool v2, .int .u64 h2, .int .u64 l2] 43) = W0 at *
  go_loopw [5, 6, 7] (fun s5 s6 s7 wr => ∃ k n c' : Nat, ∃ A' : Option Addr, ∃ out : List Rg, ∃ d : Bool, ∃ u1 : Bool, ∃ x1 y1 : Nat, ∃ u2 : Bool, ∃ x2 y2 : Nat, k ≤ N ∧ n ≤ k + 1 ∧ s7 = .int .i64 k ∧ s6 = .bool d ∧ s5 = .slice A' n c' ∧ Hid (d = false → n ≤ k) ∧ Hid (AddI l R k d ⟨⟨u1, x1, y1⟩, ⟨u2, x2, y2⟩⟩ out) ∧ Hid (Below w.heap.size w wr) ∧ Hid (OwnR wr (w.heap.size + 1) A' n c' out) ∧ Hid (RB wr w.heap.size u1 x1 y1 u2 x2 y2)) (fun _ _ s7 _ => N - (intOf s7).toNat)
  case atStart => exact ⟨0, 0, 0, none, [], false, v1, h1, l1, v2, h2, l2, by omega, by omega, rfl, rfl, rfl, Lib.hid (fun _ => Nat.le_refl _), HI0, HB0, HO0, HR0⟩
  case round =>
    clear HI0 HB0 HO0 HR0
    obtain ⟨k, n, c', A', out, d, u1, x1, y1, u2, x2, y2, hk, hnk, rfl, rfl, rfl, HD, HI, HB, HO, HR⟩ := hrel
    by_cases hlt : k < N
    · have hkl : k < l.length := by rw [← HN.out]; exact hlt
      obtain ⟨g, o, rfl, hg⟩ := H.out.shape (by omega)
      obtain ⟨⟨⟨v3, h3, l3⟩, ⟨v4, h4, l4⟩⟩, hget⟩ : ∃ s, l[k]? = some s := ⟨l[k], List.getElem?_eq_getElem hkl⟩
      obtain ⟨c0, c1, c2, c3, c4, c5⟩ := rg_at H.out hget HB.out
      have hki : (k : Int) < (N : Int) := by omega
      have hki0 : (0 : Int) ≤ (k : Int) := by omega
      have hxm := good_mem HG.out hget
      have hxs := someR_iff.1 hxm.1
      have hrs := someR_iff.1 HI.out.some
      have hxf := hxm.2
      have hrf := HI.out.fits
      have HGT := Lib.hid hget
      clear hget hg hkl
      cases d with
      | true =>
        clear hxm hxs hrs hxf hrf
        have hsz : w.heap.size + 1 ≤ wr.heap.size := HR.out.lt
        go_wp2_with (at_builtin; refine wpList_push (E := ER) rgTy (by rfl) _ _ (by rfl) (w.heap.size + 1) _ n out [⟨⟨v3, h3, l3⟩, ⟨v4, h4, l4⟩⟩] (by rfl) ((HO.out.al _).al _).2 _ 1 1 #[.bool v3, .int .u64 h3, .int .u64 l3, .bool v4, .int .u64 h4, .int .u64 l4] (0, 0) (by rfl) (heap2 wr _ _) rfl rfl (by omega) (by omega) (by decide) ?hb ?_)
        case hb => simp; omega
        intro g2 cap2 wz hown hgrow hat hlt2
        have hal := HO.out.al (.cells #[.bool v3, .int .u64 h3, .int .u64 l3, .bool v4, .int .u64 h4, .int .u64 l4] 43)
        have hbl := HB.out.alloc HB.out.size (.cells #[.bool v3, .int .u64 h3, .int .u64 l3, .bool v4, .int .u64 h4, .int .u64 l4] 43)
        have HO9 := Lib.hid (hal.push rfl hown)
        have HB9 := Lib.hid (hal.below hbl hbl.size hbl.size (Nat.le_succ _) hgrow)
        have HR9 := Lib.hid (show RB wz w.heap.size u1 x1 y1 u2 x2 y2 from (hal.far hgrow (b := w.heap.size) (by omega) (by simp; omega)).trans ((HR.out.al _).al _))
        have HI9 := Lib.hid (addI_keep HI.out HG.out HGT.out (fun e => Bool.noConfusion e))
        clear hown hgrow hat hlt2 hal hbl HO HB HR HI hsz c0 c1 c2 c3 c4 c5
        go_wp2_with fail
        go_roundw
        case rel => exact ⟨k + 1, n + 1, cap2, some ⟨g2, 0, none⟩, out ++ [⟨⟨v3, h3, l3⟩, ⟨v4, h4, l4⟩⟩], true, u1, x1, y1, u2, x2, y2, by omega, by omega, by go_num, rfl, rfl, Lib.hid (fun e => Bool.noConfusion e), HI9, HB9, HO9, HR9⟩
        case measure => simp [intOf]; omega
      | false =>
        have HT1 := Lib.hid (fun W => rbef_key hxf.2 hrf.1 W)
        have HT2 := Lib.hid (fun W => rbef_key hrf.2 hxf.1 W)
        have HT3 := Lib.hid (fun W => rbef_key hxf.1 hrf.1 W)
        have HT4 := Lib.hid (fun W => rbef_key hrf.2 hxf.2 W)
        have HJ1 := Lib.hid (fun W => rjoin_any v3 h3 l3 v4 h4 l4 u1 x1 y1 u2 x2 y2 W hxs.2.2.1.symm hxf.2 hrf.1 hxs.2.1 hrs.1)
        have HJ2 := Lib.hid (fun W => rjoin_any u1 x1 y1 u2 x2 y2 v3 h3 l3 v4 h4 l4 W hrs.2.2.1.symm hrf.2 hxf.1 hrs.2.1 hxs.1)
        simp only at HT1 HT2 HT3 HT4
        have hx4 : kA ⟨v3, h3, l3⟩ ≤ kA ⟨v4, h4, l4⟩ := hxs.2.2.2
        have hr4 : kA ⟨u1, x1, y1⟩ ≤ kA ⟨u2, x2, y2⟩ := hrs.2.2.2
        have HAP1 := Lib.hid (@apart_tests ⟨v4, h4, l4⟩ ⟨u1, x1, y1⟩ hxf.2 hrf.1 hxs.2.1 hrs.1)
        have HAP2 := Lib.hid (@apart_tests ⟨u2, x2, y2⟩ ⟨v3, h3, l3⟩ hrf.2 hxf.1 hrs.2.1 hxs.1)
        have hsz : w.heap.size + 1 ≤ wr.heap.size := HR.out.lt
        have hnk2 := HD.out rfl
        have HMG := Lib.hid (fun (p : kA ⟨u1, x1, y1⟩ ≤ kA ⟨v4, h4, l4⟩ + 1) (q : kA ⟨v3, h3, l3⟩ ≤ kA ⟨u2, x2, y2⟩ + 1) (a b : Ad) (ha : a = if kA ⟨v3, h3, l3⟩ < kA ⟨u1, x1, y1⟩ then (⟨v3, h3, l3⟩ : Ad) else ⟨u1, x1, y1⟩) (hb : b = if kA ⟨u2, x2, y2⟩ < kA ⟨v4, h4, l4⟩ then (⟨v4, h4, l4⟩ : Ad) else ⟨u2, x2, y2⟩) => addI_merge HI.out HG.out HGT.out p q ha hb)
        clear hxm hxs hrs hxf hrf
        by_cases t1 : kA ⟨v4, h4, l4⟩ < kA ⟨u1, x1, y1⟩
        · rw [decide_eq_true t1] at HT1
          cases j1 : (v4 == u1 && decide (kA ⟨u1, x1, y1⟩ ≤ kA ⟨v4, h4, l4⟩ + 1)) with
          | false =>
            rw [j1] at HJ1
            have hap := HAP1.out t1 j1
            clear t1 j1 hx4 hr4 HT2 HT3 HT4 HJ2 HAP1 HAP2 HMG
            have y1_0 : wr.cell? ⟨w.heap.size, 0, none⟩ = some (.bool u1) := (HR.out.c 0).trans rfl
            have y1_1 : wr.cell? ⟨w.heap.size, 1, none⟩ = some (.int .u64 x1) := (HR.out.c 1).trans rfl
            have y1_2 : wr.cell? ⟨w.heap.size, 2, none⟩ = some (.int .u64 y1) := (HR.out.c 2).trans rfl
            have y1_3 : wr.cell? ⟨w.heap.size, 3, none⟩ = some (.bool u2) := (HR.out.c 3).trans rfl
            have y1_4 : wr.cell? ⟨w.heap.size, 4, none⟩ = some (.int .u64 x2) := (HR.out.c 4).trans rfl
            have y1_5 : wr.cell? ⟨w.heap.size, 5, none⟩ = some (.int .u64 y2) := (HR.out.c 5).trans rfl
            have yl1 := HR.out.lt
            go_wp2_with fail
            clear y1_0 y1_1 y1_2 y1_3 y1_4 y1_5 yl1 c0 c1 c2 c3 c4 c5
            obtain ⟨W12, hW12⟩ : ∃ W, W = wr.alloc (.cells #[.bool v3, .int .u64 h3, .int .u64 l3, .bool v4, .int .u64 h4, .int .u64 l4] 43) := ⟨_, rfl⟩
            obtain ⟨gx, hgx⟩ : ∃ g, g = wr.heap.size := ⟨_, rfl⟩
            have HO_1 := Lib.hid (show OwnR W12 (w.heap.size + 1) A' n c' out from by rw [hW12]; exact HO.out.al _)
            have HR_1 := Lib.hid (show RB W12 w.heap.size u1 x1 y1 u2 x2 y2 from by rw [hW12]; exact HR.out.al _)
            have Lgx := Lib.hid (show w.heap.size < gx ∧ w.heap.size ≤ gx from by rw [hgx]; exact ⟨HR.out.lt, HB.out.size⟩)
            have HX := Lib.hid (show RB W12 gx v3 h3 l3 v4 h4 l4 from by rw [hW12, hgx]; exact rb_new wr v3 h3 l3 v4 h4 l4)
            have HB_1 := Lib.hid (show Below w.heap.size w W12 by rw [hW12]; exact HB.out.alloc HB.out.size _)
            clear HO HR HB
            rw [← hW12, ← hgx]
            clear hW12 hgx
            have y1_0 : W12.cell? ⟨w.heap.size, 0, none⟩ = some (.bool u1) := (HR_1.out.c 0).trans rfl
            have y1_1 : W12.cell? ⟨w.heap.size, 1, none⟩ = some (.int .u64 x1) := (HR_1.out.c 1).trans rfl
            have y1_2 : W12.cell? ⟨w.heap.size, 2, none⟩ = some (.int .u64 y1) := (HR_1.out.c 2).trans rfl
            have y1_3 : W12.cell? ⟨w.heap.size, 3, none⟩ = some (.bool u2) := (HR_1.out.c 3).trans rfl
            have y1_4 : W12.cell? ⟨w.heap.size, 4, none⟩ = some (.int .u64 x2) := (HR_1.out.c 4).trans rfl
            have y1_5 : W12.cell? ⟨w.heap.size, 5, none⟩ = some (.int .u64 y2) := (HR_1.out.c 5).trans rfl
            have yl1 := HR_1.out.lt
            have y2_0 : W12.cell? ⟨gx, 0, none⟩ = some (.bool v3) := (HX.out.c 0).trans rfl
            have y2_1 : W12.cell? ⟨gx, 1, none⟩ = some (.int .u64 h3) := (HX.out.c 1).trans rfl
            have y2_2 : W12.cell? ⟨gx, 2, none⟩ = some (.int .u64 l3) := (HX.out.c 2).trans rfl
            have y2_3 : W12.cell? ⟨gx, 3, none⟩ = some (.bool v4) := (HX.out.c 3).trans rfl
            have y2_4 : W12.cell? ⟨gx, 4, none⟩ = some (.int .u64 h4) := (HX.out.c 4).trans rfl
            have y2_5 : W12.cell? ⟨gx, 5, none⟩ = some (.int .u64 l4) := (HX.out.c 5).trans rfl
            have yl2 := HX.out.lt
            clear y1_0 y1_1 y1_2 y1_3 y1_4 y1_5 yl1 y2_0 y2_1 y2_2 y2_3 y2_4 y2_5 yl2
            refine (HT1.out _).mono ?_
            rintro e w12 ⟨rfl, hb⟩
            have HO_2 := Lib.hid (show OwnR w12 (w.heap.size + 1) A' n c' out from HO_1.out.kept hb)
            have HR_2 := Lib.hid (show RB w12 w.heap.size u1 x1 y1 u2 x2 y2 from HR_1.out.kept hb HR_1.out.lt)
            have HX_2 := Lib.hid (show RB w12 gx v3 h3 l3 v4 h4 l4 from HX.out.kept hb HX.out.lt)
            have HB_2 := Lib.hid (HB_1.out.trans (hb.mono HB_1.out.size))
            clear hb HO_1 HR_1 HX HB_1
            have y1_0 : w12.cell? ⟨w.heap.size, 0, none⟩ = some (.bool u1) := (HR_2.out.c 0).trans rfl
            have y1_1 : w12.cell? ⟨w.heap.size, 1, none⟩ = some (.int .u64 x1) := (HR_2.out.c 1).trans rfl
            have y1_2 : w12.cell? ⟨w.heap.size, 2, none⟩ = some (.int .u64 y1) := (HR_2.out.c 2).trans rfl
            have y1_3 : w12.cell? ⟨w.heap.size, 3, none⟩ = some (.bool u2) := (HR_2.out.c 3).trans rfl
            have y1_4 : w12.cell? ⟨w.heap.size, 4, none⟩ = some (.int .u64 x2) := (HR_2.out.c 4).trans rfl
            have y1_5 : w12.cell? ⟨w.heap.size, 5, none⟩ = some (.int .u64 y2) := (HR_2.out.c 5).trans rfl
            have yl1 := HR_2.out.lt
            have y2_0 : w12.cell? ⟨gx, 0, none⟩ = some (.bool v3) := (HX_2.out.c 0).trans rfl
            have y2_1 : w12.cell? ⟨gx, 1, none⟩ = some (.int .u64 h3) := (HX_2.out.c 1).trans rfl
            have y2_2 : w12.cell? ⟨gx, 2, none⟩ = some (.int .u64 l3) := (HX_2.out.c 2).trans rfl
            have y2_3 : w12.cell? ⟨gx, 3, none⟩ = some (.bool v4) := (HX_2.out.c 3).trans rfl
            have y2_4 : w12.cell? ⟨gx, 4, none⟩ = some (.int .u64 h4) := (HX_2.out.c 4).trans rfl
            have y2_5 : w12.cell? ⟨gx, 5, none⟩ = some (.int .u64 l4) := (HX_2.out.c 5).trans rfl
            have yl2 := HX_2.out.lt
            go_wp2_with fail
            clear y1_0 y1_1 y1_2 y1_3 y1_4 y1_5 yl1 y2_0 y2_1 y2_2 y2_3 y2_4 y2_5 yl2
            refine (HJ1.out _).mono ?_
            rintro e wq ⟨rfl, hb⟩
            have HO_3 := Lib.hid (show OwnR wq (w.heap.size + 1) A' n c' out from HO_2.out.kept hb)
            have HR_3 := Lib.hid (show RB wq w.heap.size u1 x1 y1 u2 x2 y2 from HR_2.out.kept hb HR_2.out.lt)
            have HX_3 := Lib.hid (show RB wq gx v3 h3 l3 v4 h4 l4 from HX_2.out.kept hb HX_2.out.lt)
            have HB_3 := Lib.hid (HB_2.out.trans (hb.mono HB_2.out.size))
            clear hb HO_2 HR_2 HX_2 HB_2
            have y1_0 : wq.cell? ⟨w.heap.size, 0, none⟩ = some (.bool u1) := (HR_3.out.c 0).trans rfl
            have y1_1 : wq.cell? ⟨w.heap.size, 1, none⟩ = some (.int .u64 x1) := (HR_3.out.c 1).trans rfl
            have y1_2 : wq.cell? ⟨w.heap.size, 2, none⟩ = some (.int .u64 y1) := (HR_3.out.c 2).trans rfl
            have y1_3 : wq.cell? ⟨w.heap.size, 3, none⟩ = some (.bool u2) := (HR_3.out.c 3).trans rfl
            have y1_4 : wq.cell? ⟨w.heap.size, 4, none⟩ = some (.int .u64 x2) := (HR_3.out.c 4).trans rfl
            have y1_5 : wq.cell? ⟨w.heap.size, 5, none⟩ = some (.int .u64 y2) := (HR_3.out.c 5).trans rfl
            have yl1 := HR_3.out.lt
            have y2_0 : wq.cell? ⟨gx, 0, none⟩ = some (.bool v3) := (HX_3.out.c 0).trans rfl
            have y2_1 : wq.cell? ⟨gx, 1, none⟩ = some (.int .u64 h3) := (HX_3.out.c 1).trans rfl
            have y2_2 : wq.cell? ⟨gx, 2, none⟩ = some (.int .u64 l3) := (HX_3.out.c 2).trans rfl
            have y2_3 : wq.cell? ⟨gx, 3, none⟩ = some (.bool v4) := (HX_3.out.c 3).trans rfl
            have y2_4 : wq.cell? ⟨gx, 4, none⟩ = some (.int .u64 h4) := (HX_3.out.c 4).trans rfl
            have y2_5 : wq.cell? ⟨gx, 5, none⟩ = some (.int .u64 l4) := (HX_3.out.c 5).trans rfl
            have yl2 := HX_3.out.lt
            have hszq : w.heap.size + 1 ≤ wq.heap.size := yl1
            go_wp2_with (at_builtin; refine wpList_push (E := ER) rgTy (by rfl) _ _ (by rfl) (w.heap.size + 1) _ n out [⟨⟨v3, h3, l3⟩, ⟨v4, h4, l4⟩⟩] (by rfl) (HO_3.out.al _).2 _ 1 1 #[.bool v3, .int .u64 h3, .int .u64 l3, .bool v4, .int .u64 h4, .int .u64 l4] (0, 0) (by rfl) (heap_alloc_new _ _) rfl rfl (by omega) (by omega) (by decide) ?hb ?_)
            case hb => simp; omega
            intro g2 cap2 wz hown hgrow hat hlt2
            have HO9 := Lib.hid (HO_3.out.push rfl hown)
            have HB9 := Lib.hid (HO_3.out.below HB_3.out (HB_3.out).size (HB_3.out).size (Nat.le_succ _) hgrow)
            have HR9 := Lib.hid (show RB wz w.heap.size u1 x1 y1 u2 x2 y2 from (HO_3.out.far hgrow (b := w.heap.size) (by omega) (by simp; omega)).trans (HR_3.out.al _))
            have HI9 := Lib.hid (addI_keep HI.out HG.out HGT.out (fun _ => hap))
            clear hown hgrow hat hlt2
            go_wp2_with fail
            go_roundw
            case rel => exact ⟨k + 1, n + 1, cap2, some ⟨g2, 0, none⟩, out ++ [⟨⟨v3, h3, l3⟩, ⟨v4, h4, l4⟩⟩], false, u1, x1, y1, u2, x2, y2, by omega, by omega, by go_num, rfl, rfl, Lib.hid (fun _ => by omega), HI9, HB9, HO9, HR9⟩
            case measure => simp [intOf]; omega
          | true =>
            rw [j1] at HJ1
            have hp1 := @joined_tests ⟨v4, h4, l4⟩ ⟨u1, x1, y1⟩ j1
            have hp2 : kA ⟨v3, h3, l3⟩ ≤ kA ⟨u2, x2, y2⟩ + 1 := by omega
            have b0 : ¬ kA ⟨u2, x2, y2⟩ < kA ⟨v3, h3, l3⟩ := by omega
            rw [decide_eq_false b0] at HT2
            have b1 : kA ⟨v3, h3, l3⟩ < kA ⟨u1, x1, y1⟩ := by omega
            rw [decide_eq_true b1] at HT3
            have b2 : ¬ kA ⟨u2, x2, y2⟩ < kA ⟨v4, h4, l4⟩ := by omega
            rw [decide_eq_false b2] at HT4
            clear j1 b0
            have hB1 := Lib.hid b1; have hB2 := Lib.hid b2; have hP1 := Lib.hid hp1; have hP2 := Lib.hid hp2
            clear t1 hx4 hr4 HAP1 HAP2 b1 b2 hp1 hp2
            have y1_0 : wr.cell? ⟨w.heap.size, 0, none⟩ = some (.bool u1) := (HR.out.c 0).trans rfl
            have y1_1 : wr.cell? ⟨w.heap.size, 1, none⟩ = some (.int .u64 x1) := (HR.out.c 1).trans rfl
            have y1_2 : wr.cell? ⟨w.heap.size, 2, none⟩ = some (.int .u64 y1) := (HR.out.c 2).trans rfl
            have y1_3 : wr.cell? ⟨w.heap.size, 3, none⟩ = some (.bool u2) := (HR.out.c 3).trans rfl
            have y1_4 : wr.cell? ⟨w.heap.size, 4, none⟩ = some (.int .u64 x2) := (HR.out.c 4).trans rfl
            have y1_5 : wr.cell? ⟨w.heap.size, 5, none⟩ = some (.int .u64 y2) := (HR.out.c 5).trans rfl
            have yl1 := HR.out.lt
            go_wp2_with fail
            clear y1_0 y1_1 y1_2 y1_3 y1_4 y1_5 yl1 c0 c1 c2 c3 c4 c5
            obtain ⟨W12, hW12⟩ : ∃ W, W = wr.alloc (.cells #[.bool v3, .int .u64 h3, .int .u64 l3, .bool v4, .int .u64 h4, .int .u64 l4] 43) := ⟨_, rfl⟩
            obtain ⟨gx, hgx⟩ : ∃ g, g = wr.heap.size := ⟨_, rfl⟩
            have HO_1 := Lib.hid (show OwnR W12 (w.heap.size + 1) A' n c' out from by rw [hW12]; exact HO.out.al _)
            have HR_1 := Lib.hid (show RB W12 w.heap.size u1 x1 y1 u2 x2 y2 from by rw [hW12]; exact HR.out.al _)
            have Lgx := Lib.hid (show w.heap.size < gx ∧ w.heap.size ≤ gx from by rw [hgx]; exact ⟨HR.out.lt, HB.out.size⟩)
            have HX := Lib.hid (show RB W12 gx v3 h3 l3 v4 h4 l4 from by rw [hW12, hgx]; exact rb_new wr v3 h3 l3 v4 h4 l4)
            have HB_1 := Lib.hid (show Below w.heap.size w W12 by rw [hW12]; exact HB.out.alloc HB.out.size _)
            clear HO HR HB
            rw [← hW12, ← hgx]
            clear hW12 hgx
            have y1_0 : W12.cell? ⟨w.heap.size, 0, none⟩ = some (.bool u1) := (HR_1.out.c 0).trans rfl
            have y1_1 : W12.cell? ⟨w.heap.size, 1, none⟩ = some (.int .u64 x1) := (HR_1.out.c 1).trans rfl
            have y1_2 : W12.cell? ⟨w.heap.size, 2, none⟩ = some (.int .u64 y1) := (HR_1.out.c 2).trans rfl
            have y1_3 : W12.cell? ⟨w.heap.size, 3, none⟩ = some (.bool u2) := (HR_1.out.c 3).trans rfl
            have y1_4 : W12.cell? ⟨w.heap.size, 4, none⟩ = some (.int .u64 x2) := (HR_1.out.c 4).trans rfl
            have y1_5 : W12.cell? ⟨w.heap.size, 5, none⟩ = some (.int .u64 y2) := (HR_1.out.c 5).trans rfl
            have yl1 := HR_1.out.lt
            have y2_0 : W12.cell? ⟨gx, 0, none⟩ = some (.bool v3) := (HX.out.c 0).trans rfl
            have y2_1 : W12.cell? ⟨gx, 1, none⟩ = some (.int .u64 h3) := (HX.out.c 1).trans rfl
            have y2_2 : W12.cell? ⟨gx, 2, none⟩ = some (.int .u64 l3) := (HX.out.c 2).trans rfl
            have y2_3 : W12.cell? ⟨gx, 3, none⟩ = some (.bool v4) := (HX.out.c 3).trans rfl
            have y2_4 : W12.cell? ⟨gx, 4, none⟩ = some (.int .u64 h4) := (HX.out.c 4).trans rfl
            have y2_5 : W12.cell? ⟨gx, 5, none⟩ = some (.int .u64 l4) := (HX.out.c 5).trans rfl
            have yl2 := HX.out.lt
            clear y1_0 y1_1 y1_2 y1_3 y1_4 y1_5 yl1 y2_0 y2_1 y2_2 y2_3 y2_4 y2_5 yl2
            refine (HT1.out _).mono ?_
            rintro e w12 ⟨rfl, hb⟩
            have HO_2 := Lib.hid (show OwnR w12 (w.heap.size + 1) A' n c' out from HO_1.out.kept hb)
            have HR_2 := Lib.hid (show RB w12 w.heap.size u1 x1 y1 u2 x2 y2 from HR_1.out.kept hb HR_1.out.lt)
            have HX_2 := Lib.hid (show RB w12 gx v3 h3 l3 v4 h4 l4 from HX.out.kept hb HX.out.lt)
            have HB_2 := Lib.hid (HB_1.out.trans (hb.mono HB_1.out.size))
            clear hb HO_1 HR_1 HX HB_1
            have y1_0 : w12.cell? ⟨w.heap.size, 0, none⟩ = some (.bool u1) := (HR_2.out.c 0).trans rfl
            have y1_1 : w12.cell? ⟨w.heap.size, 1, none⟩ = some (.int .u64 x1) := (HR_2.out.c 1).trans rfl
            have y1_2 : w12.cell? ⟨w.heap.size, 2, none⟩ = some (.int .u64 y1) := (HR_2.out.c 2).trans rfl
            have y1_3 : w12.cell? ⟨w.heap.size, 3, none⟩ = some (.bool u2) := (HR_2.out.c 3).trans rfl
            have y1_4 : w12.cell? ⟨w.heap.size, 4, none⟩ = some (.int .u64 x2) := (HR_2.out.c 4).trans rfl
            have y1_5 : w12.cell? ⟨w.heap.size, 5, none⟩ = some (.int .u64 y2) := (HR_2.out.c 5).trans rfl
            have yl1 := HR_2.out.lt
            have y2_0 : w12.cell? ⟨gx, 0, none⟩ = some (.bool v3) := (HX_2.out.c 0).trans rfl
            have y2_1 : w12.cell? ⟨gx, 1, none⟩ = some (.int .u64 h3) := (HX_2.out.c 1).trans rfl
            have y2_2 : w12.cell? ⟨gx, 2, none⟩ = some (.int .u64 l3) := (HX_2.out.c 2).trans rfl
            have y2_3 : w12.cell? ⟨gx, 3, none⟩ = some (.bool v4) := (HX_2.out.c 3).trans rfl
            have y2_4 : w12.cell? ⟨gx, 4, none⟩ = some (.int .u64 h4) := (HX_2.out.c 4).trans rfl
            have y2_5 : w12.cell? ⟨gx, 5, none⟩ = some (.int .u64 l4) := (HX_2.out.c 5).trans rfl
            have yl2 := HX_2.out.lt
            go_wp2_with fail
            clear y1_0 y1_1 y1_2 y1_3 y1_4 y1_5 yl1 y2_0 y2_1 y2_2 y2_3 y2_4 y2_5 yl2
            refine (HJ1.out _).mono ?_
            rintro e w13 ⟨rfl, hb⟩
            have HO_3 := Lib.hid (show OwnR w13 (w.heap.size + 1) A' n c' out from HO_2.out.kept hb)
            have HR_3 := Lib.hid (show RB w13 w.heap.size u1 x1 y1 u2 x2 y2 from HR_2.out.kept hb HR_2.out.lt)
            have HX_3 := Lib.hid (show RB w13 gx v3 h3 l3 v4 h4 l4 from HX_2.out.kept hb HX_2.out.lt)
            have HB_3 := Lib.hid (HB_2.out.trans (hb.mono HB_2.out.size))
            clear hb HO_2 HR_2 HX_2 HB_2
            have y1_0 : w13.cell? ⟨w.heap.size, 0, none⟩ = some (.bool u1) := (HR_3.out.c 0).trans rfl
            have y1_1 : w13.cell? ⟨w.heap.size, 1, none⟩ = some (.int .u64 x1) := (HR_3.out.c 1).trans rfl
            have y1_2 : w13.cell? ⟨w.heap.size, 2, none⟩ = some (.int .u64 y1) := (HR_3.out.c 2).trans rfl
            have y1_3 : w13.cell? ⟨w.heap.size, 3, none⟩ = some (.bool u2) := (HR_3.out.c 3).trans rfl
            have y1_4 : w13.cell? ⟨w.heap.size, 4, none⟩ = some (.int .u64 x2) := (HR_3.out.c 4).trans rfl
            have y1_5 : w13.cell? ⟨w.heap.size, 5, none⟩ = some (.int .u64 y2) := (HR_3.out.c 5).trans rfl
            have yl1 := HR_3.out.lt
            have y2_0 : w13.cell? ⟨gx, 0, none⟩ = some (.bool v3) := (HX_3.out.c 0).trans rfl
            have y2_1 : w13.cell? ⟨gx, 1, none⟩ = some (.int .u64 h3) := (HX_3.out.c 1).trans rfl
            have y2_2 : w13.cell? ⟨gx, 2, none⟩ = some (.int .u64 l3) := (HX_3.out.c 2).trans rfl
            have y2_3 : w13.cell? ⟨gx, 3, none⟩ = some (.bool v4) := (HX_3.out.c 3).trans rfl
            have y2_4 : w13.cell? ⟨gx, 4, none⟩ = some (.int .u64 h4) := (HX_3.out.c 4).trans rfl
            have y2_5 : w13.cell? ⟨gx, 5, none⟩ = some (.int .u64 l4) := (HX_3.out.c 5).trans rfl
            have yl2 := HX_3.out.lt
            go_wp2_with fail
            clear y1_0 y1_1 y1_2 y1_3 y1_4 y1_5 yl1 y2_0 y2_1 y2_2 y2_3 y2_4 y2_5 yl2
            refine (HT2.out _).mono ?_
            rintro e w14 ⟨rfl, hb⟩
            have HO_4 := Lib.hid (show OwnR w14 (w.heap.size + 1) A' n c' out from HO_3.out.kept hb)
            have HR_4 := Lib.hid (show RB w14 w.heap.size u1 x1 y1 u2 x2 y2 from HR_3.out.kept hb HR_3.out.lt)
            have HX_4 := Lib.hid (show RB w14 gx v3 h3 l3 v4 h4 l4 from HX_3.out.kept hb HX_3.out.lt)
            have HB_4 := Lib.hid (HB_3.out.trans (hb.mono HB_3.out.size))
            clear hb HO_3 HR_3 HX_3 HB_3
            have y1_0 : w14.cell? ⟨w.heap.size, 0, none⟩ = some (.bool u1) := (HR_4.out.c 0).trans rfl
            have y1_1 : w14.cell? ⟨w.heap.size, 1, none⟩ = some (.int .u64 x1) := (HR_4.out.c 1).trans rfl
            have y1_2 : w14.cell? ⟨w.heap.size, 2, none⟩ = some (.int .u64 y1) := (HR_4.out.c 2).trans rfl
            have y1_3 : w14.cell? ⟨w.heap.size, 3, none⟩ = some (.bool u2) := (HR_4.out.c 3).trans rfl
            have y1_4 : w14.cell? ⟨w.heap.size, 4, none⟩ = some (.int .u64 x2) := (HR_4.out.c 4).trans rfl
            have y1_5 : w14.cell? ⟨w.heap.size, 5, none⟩ = some (.int .u64 y2) := (HR_4.out.c 5).trans rfl
            have yl1 := HR_4.out.lt
            have y2_0 : w14.cell? ⟨gx, 0, none⟩ = some (.bool v3) := (HX_4.out.c 0).trans rfl
            have y2_1 : w14.cell? ⟨gx, 1, none⟩ = some (.int .u64 h3) := (HX_4.out.c 1).trans rfl
            have y2_2 : w14.cell? ⟨gx, 2, none⟩ = some (.int .u64 l3) := (HX_4.out.c 2).trans rfl
            have y2_3 : w14.cell? ⟨gx, 3, none⟩ = some (.bool v4) := (HX_4.out.c 3).trans rfl
            have y2_4 : w14.cell? ⟨gx, 4, none⟩ = some (.int .u64 h4) := (HX_4.out.c 4).trans rfl
            have y2_5 : w14.cell? ⟨gx, 5, none⟩ = some (.int .u64 l4) := (HX_4.out.c 5).trans rfl
            have yl2 := HX_4.out.lt
            go_wp2_with fail
            clear y1_0 y1_1 y1_2 y1_3 y1_4 y1_5 yl1 y2_0 y2_1 y2_2 y2_3 y2_4 y2_5 yl2
            refine (HT3.out _).mono ?_
            rintro e w15 ⟨rfl, hb⟩
            have HO_5 := Lib.hid (show OwnR w15 (w.heap.size + 1) A' n c' out from HO_4.out.kept hb)
            have HR_5 := Lib.hid (show RB w15 w.heap.size u1 x1 y1 u2 x2 y2 from HR_4.out.kept hb HR_4.out.lt)
            have HX_5 := Lib.hid (show RB w15 gx v3 h3 l3 v4 h4 l4 from HX_4.out.kept hb HX_4.out.lt)
            have HB_5 := Lib.hid (HB_4.out.trans (hb.mono HB_4.out.size))
            clear hb HO_4 HR_4 HX_4 HB_4
            have y1_0 : w15.cell? ⟨w.heap.size, 0, none⟩ = some (.bool u1) := (HR_5.out.c 0).trans rfl
            have y1_1 : w15.cell? ⟨w.heap.size, 1, none⟩ = some (.int .u64 x1) := (HR_5.out.c 1).trans rfl
            have y1_2 : w15.cell? ⟨w.heap.size, 2, none⟩ = some (.int .u64 y1) := (HR_5.out.c 2).trans rfl
            have y1_3 : w15.cell? ⟨w.heap.size, 3, none⟩ = some (.bool u2) := (HR_5.out.c 3).trans rfl
            have y1_4 : w15.cell? ⟨w.heap.size, 4, none⟩ = some (.int .u64 x2) := (HR_5.out.c 4).trans rfl
            have y1_5 : w15.cell? ⟨w.heap.size, 5, none⟩ = some (.int .u64 y2) := (HR_5.out.c 5).trans rfl
            have yl1 := HR_5.out.lt
            have y2_0 : w15.cell? ⟨gx, 0, none⟩ = some (.bool v3) := (HX_5.out.c 0).trans rfl
            have y2_1 : w15.cell? ⟨gx, 1, none⟩ = some (.int .u64 h3) := (HX_5.out.c 1).trans rfl
            have y2_2 : w15.cell? ⟨gx, 2, none⟩ = some (.int .u64 l3) := (HX_5.out.c 2).trans rfl
            have y2_3 : w15.cell? ⟨gx, 3, none⟩ = some (.bool v4) := (HX_5.out.c 3).trans rfl
            have y2_4 : w15.cell? ⟨gx, 4, none⟩ = some (.int .u64 h4) := (HX_5.out.c 4).trans rfl
            have y2_5 : w15.cell? ⟨gx, 5, none⟩ = some (.int .u64 l4) := (HX_5.out.c 5).trans rfl
            have yl2 := HX_5.out.lt
            clear y1_0 y1_1 y1_2 y1_3 y1_4 y1_5 yl1 y2_0 y2_1 y2_2 y2_3 y2_4 y2_5 yl2
            obtain ⟨W17, hW17⟩ : ∃ W, W = ((w15.setCell ⟨w.heap.size, 0, none⟩ (.bool v3)).setCell ⟨w.heap.size, 1, none⟩ (.int .u64 h3)).setCell ⟨w.heap.size, 2, none⟩ (.int .u64 l3) := ⟨_, rfl⟩
            have y1_0 : w15.cell? ⟨w.heap.size, 0, none⟩ = some (.bool u1) := (HR_5.out.c 0).trans rfl
            have z1_0 := HR_5.out.f 0
            have y1_1 : w15.cell? ⟨w.heap.size, 1, none⟩ = some (.int .u64 x1) := (HR_5.out.c 1).trans rfl
            have z1_1 := HR_5.out.f 1
            have y1_2 : w15.cell? ⟨w.heap.size, 2, none⟩ = some (.int .u64 y1) := (HR_5.out.c 2).trans rfl
            have z1_2 := HR_5.out.f 2
            have y1_3 : w15.cell? ⟨w.heap.size, 3, none⟩ = some (.bool u2) := (HR_5.out.c 3).trans rfl
            have z1_3 := HR_5.out.f 3
            have y1_4 : w15.cell? ⟨w.heap.size, 4, none⟩ = some (.int .u64 x2) := (HR_5.out.c 4).trans rfl
            have z1_4 := HR_5.out.f 4
            have y1_5 : w15.cell? ⟨w.heap.size, 5, none⟩ = some (.int .u64 y2) := (HR_5.out.c 5).trans rfl
            have z1_5 := HR_5.out.f 5
            have yl1 := HR_5.out.lt
            have y2_0 : w15.cell? ⟨gx, 0, none⟩ = some (.bool v3) := (HX_5.out.c 0).trans rfl
            have y2_1 : w15.cell? ⟨gx, 1, none⟩ = some (.int .u64 h3) := (HX_5.out.c 1).trans rfl
            have y2_2 : w15.cell? ⟨gx, 2, none⟩ = some (.int .u64 l3) := (HX_5.out.c 2).trans rfl
            have y2_3 : w15.cell? ⟨gx, 3, none⟩ = some (.bool v4) := (HX_5.out.c 3).trans rfl
            have y2_4 : w15.cell? ⟨gx, 4, none⟩ = some (.int .u64 h4) := (HX_5.out.c 4).trans rfl
            have y2_5 : w15.cell? ⟨gx, 5, none⟩ = some (.int .u64 l4) := (HX_5.out.c 5).trans rfl
            have yl2 := HX_5.out.lt
            have HO_6 := Lib.hid (show OwnR W17 (w.heap.size + 1) A' n c' out from by rw [hW17]; exact ((HO_5.out.far1 (Nat.lt_succ_self _) _).far1 (Nat.lt_succ_self _) _).far1 (Nat.lt_succ_self _) _)
            have HR_6 := Lib.hid (show RB W17 w.heap.size v3 h3 l3 u2 x2 y2 from by rw [hW17]; exact HR_5.out.setLo v3 h3 l3)
            have hne := Nat.ne_of_gt Lgx.out.1
            have HX_6 := Lib.hid (show RB W17 gx v3 h3 l3 v4 h4 l4 from by rw [hW17]; exact ((HX_5.out.far hne _).far hne _).far hne _)
            have HB_6 := Lib.hid (show Below w.heap.size w W17 from by rw [hW17]; exact ((HB_5.out.setCell (p := ⟨w.heap.size, 0, none⟩) (Nat.le_refl _) _).setCell (p := ⟨w.heap.size, 1, none⟩) (Nat.le_refl _) _).setCell (p := ⟨w.heap.size, 2, none⟩) (Nat.le_refl _) _)
            have q0_0 : W17.cell? ⟨w.heap.size, 0, none⟩ = some (.bool v3) := (HR_6.out.c 0).trans rfl
            rw [hW17] at q0_0
            have q0_1 : W17.cell? ⟨w.heap.size, 1, none⟩ = some (.int .u64 h3) := (HR_6.out.c 1).trans rfl
            rw [hW17] at q0_1
            have q0_2 : W17.cell? ⟨w.heap.size, 2, none⟩ = some (.int .u64 l3) := (HR_6.out.c 2).trans rfl
            rw [hW17] at q0_2
            have q0_3 : W17.cell? ⟨w.heap.size, 3, none⟩ = some (.bool u2) := (HR_6.out.c 3).trans rfl
            rw [hW17] at q0_3
            have q0_4 : W17.cell? ⟨w.heap.size, 4, none⟩ = some (.int .u64 x2) := (HR_6.out.c 4).trans rfl
            rw [hW17] at q0_4
            have q0_5 : W17.cell? ⟨w.heap.size, 5, none⟩ = some (.int .u64 y2) := (HR_6.out.c 5).trans rfl
            rw [hW17] at q0_5
            have q1_0 : W17.cell? ⟨gx, 0, none⟩ = some (.bool v3) := (HX_6.out.c 0).trans rfl
            rw [hW17] at q1_0
            have q1_1 : W17.cell? ⟨gx, 1, none⟩ = some (.int .u64 h3) := (HX_6.out.c 1).trans rfl
            rw [hW17] at q1_1
            have q1_2 : W17.cell? ⟨gx, 2, none⟩ = some (.int .u64 l3) := (HX_6.out.c 2).trans rfl
            rw [hW17] at q1_2
            have q1_3 : W17.cell? ⟨gx, 3, none⟩ = some (.bool v4) := (HX_6.out.c 3).trans rfl
            rw [hW17] at q1_3
            have q1_4 : W17.cell? ⟨gx, 4, none⟩ = some (.int .u64 h4) := (HX_6.out.c 4).trans rfl
            rw [hW17] at q1_4
            have q1_5 : W17.cell? ⟨gx, 5, none⟩ = some (.int .u64 l4) := (HX_6.out.c 5).trans rfl
            rw [hW17] at q1_5
            go_wp2_with fail
            rw [← hW17]
            clear hW17 HO_5 HR_5 HX_5 HB_5
            clear y1_0 z1_0 y1_1 z1_1 y1_2 z1_2 y1_3 z1_3 y1_4 z1_4 y1_5 z1_5 yl1 y2_0 y2_1 y2_2 y2_3 y2_4 y2_5 yl2 q0_0 q0_1 q0_2 q0_3 q0_4 q0_5 q1_0 q1_1 q1_2 q1_3 q1_4 q1_5 hne
            refine (HT4.out _).mono ?_
            rintro e w17 ⟨rfl, hb⟩
            have HO_7 := Lib.hid (show OwnR w17 (w.heap.size + 1) A' n c' out from HO_6.out.kept hb)
            have HR_7 := Lib.hid (show RB w17 w.heap.size v3 h3 l3 u2 x2 y2 from HR_6.out.kept hb HR_6.out.lt)
            have HX_7 := Lib.hid (show RB w17 gx v3 h3 l3 v4 h4 l4 from HX_6.out.kept hb HX_6.out.lt)
            have HB_7 := Lib.hid (HB_6.out.trans (hb.mono HB_6.out.size))
            clear hb HO_6 HR_6 HX_6 HB_6
            have y1_0 : w17.cell? ⟨w.heap.size, 0, none⟩ = some (.bool v3) := (HR_7.out.c 0).trans rfl
            have y1_1 : w17.cell? ⟨w.heap.size, 1, none⟩ = some (.int .u64 h3) := (HR_7.out.c 1).trans rfl
            have y1_2 : w17.cell? ⟨w.heap.size, 2, none⟩ = some (.int .u64 l3) := (HR_7.out.c 2).trans rfl
            have y1_3 : w17.cell? ⟨w.heap.size, 3, none⟩ = some (.bool u2) := (HR_7.out.c 3).trans rfl
            have y1_4 : w17.cell? ⟨w.heap.size, 4, none⟩ = some (.int .u64 x2) := (HR_7.out.c 4).trans rfl
            have y1_5 : w17.cell? ⟨w.heap.size, 5, none⟩ = some (.int .u64 y2) := (HR_7.out.c 5).trans rfl
            have yl1 := HR_7.out.lt
            have y2_0 : w17.cell? ⟨gx, 0, none⟩ = some (.bool v3) := (HX_7.out.c 0).trans rfl
            have y2_1 : w17.cell? ⟨gx, 1, none⟩ = some (.int .u64 h3) := (HX_7.out.c 1).trans rfl
            have y2_2 : w17.cell? ⟨gx, 2, none⟩ = some (.int .u64 l3) := (HX_7.out.c 2).trans rfl
            have y2_3 : w17.cell? ⟨gx, 3, none⟩ = some (.bool v4) := (HX_7.out.c 3).trans rfl
            have y2_4 : w17.cell? ⟨gx, 4, none⟩ = some (.int .u64 h4) := (HX_7.out.c 4).trans rfl
            have y2_5 : w17.cell? ⟨gx, 5, none⟩ = some (.int .u64 l4) := (HX_7.out.c 5).trans rfl
            have yl2 := HX_7.out.lt
            go_wp2_with fail
            clear y1_0 y1_1 y1_2 y1_3 y1_4 y1_5 yl1 y2_0 y2_1 y2_2 y2_3 y2_4 y2_5 yl2
            go_roundw
            case rel => exact ⟨k + 1, n, c', A', out, false, v3, h3, l3, u2, x2, y2, by omega, by omega, by go_num, rfl, rfl, Lib.hid (fun _ => by omega), Lib.hid (HMG.out hP1.out hP2.out ⟨v3, h3, l3⟩ ⟨u2, x2, y2⟩ (by rw [if_pos (by have := hB1.out; omega)]) (by rw [if_neg (by have := hB2.out; omega)])), HB_7, HO_7, HR_7⟩
            case measure => simp [intOf]; omega
        · rw [decide_eq_false t1] at HT1
          by_cases t2 : kA ⟨u2, x2, y2⟩ < kA ⟨v3, h3, l3⟩
          · rw [decide_eq_true t2] at HT2
            cases j2 : (u2 == v3 && decide (kA ⟨v3, h3, l3⟩ ≤ kA ⟨u2, x2, y2⟩ + 1)) with
            | false =>
              rw [j2] at HJ2
              have hap := HAP2.out t2 j2
              clear t1 t2 j2 hx4 hr4 HT3 HT4 HJ1 HAP1 HAP2 HMG
              have y1_0 : wr.cell? ⟨w.heap.size, 0, none⟩ = some (.bool u1) := (HR.out.c 0).trans rfl
              have y1_1 : wr.cell? ⟨w.heap.size, 1, none⟩ = some (.int .u64 x1) := (HR.out.c 1).trans rfl
              have y1_2 : wr.cell? ⟨w.heap.size, 2, none⟩ = some (.int .u64 y1) := (HR.out.c 2).trans rfl
              have y1_3 : wr.cell? ⟨w.heap.size, 3, none⟩ = some (.bool u2) := (HR.out.c 3).trans rfl
              have y1_4 : wr.cell? ⟨w.heap.size, 4, none⟩ = some (.int .u64 x2) := (HR.out.c 4).trans rfl
              have y1_5 : wr.cell? ⟨w.heap.size, 5, none⟩ = some (.int .u64 y2) := (HR.out.c 5).trans rfl
              have yl1 := HR.out.lt
              go_wp2_with fail
              clear y1_0 y1_1 y1_2 y1_3 y1_4 y1_5 yl1 c0 c1 c2 c3 c4 c5
              obtain ⟨W12, hW12⟩ : ∃ W, W = wr.alloc (.cells #[.bool v3, .int .u64 h3, .int .u64 l3, .bool v4, .int .u64 h4, .int .u64 l4] 43) := ⟨_, rfl⟩
              obtain ⟨gx, hgx⟩ : ∃ g, g = wr.heap.size := ⟨_, rfl⟩
              have HO_1 := Lib.hid (show OwnR W12 (w.heap.size + 1) A' n c' out from by rw [hW12]; exact HO.out.al _)
              have HR_1 := Lib.hid (show RB W12 w.heap.size u1 x1 y1 u2 x2 y2 from by rw [hW12]; exact HR.out.al _)
              have Lgx := Lib.hid (show w.heap.size < gx ∧ w.heap.size ≤ gx from by rw [hgx]; exact ⟨HR.out.lt, HB.out.size⟩)
              have HX := Lib.hid (show RB W12 gx v3 h3 l3 v4 h4 l4 from by rw [hW12, hgx]; exact rb_new wr v3 h3 l3 v4 h4 l4)
              have HB_1 := Lib.hid (show Below w.heap.size w W12 by rw [hW12]; exact HB.out.alloc HB.out.size _)
              clear HO HR HB
              rw [← hW12, ← hgx]
              clear hW12 hgx
              have y1_0 : W12.cell? ⟨w.heap.size, 0, none⟩ = some (.bool u1) := (HR_1.out.c 0).trans rfl
              have y1_1 : W12.cell? ⟨w.heap.size, 1, none⟩ = some (.int .u64 x1) := (HR_1.out.c 1).trans rfl
              have y1_2 : W12.cell? ⟨w.heap.size, 2, none⟩ = some (.int .u64 y1) := (HR_1.out.c 2).trans rfl
              have y1_3 : W12.cell? ⟨w.heap.size, 3, none⟩ = some (.bool u2) := (HR_1.out.c 3).trans rfl
              have y1_4 : W12.cell? ⟨w.heap.size, 4, none⟩ = some (.int .u64 x2) := (HR_1.out.c 4).trans rfl
              have y1_5 : W12.cell? ⟨w.heap.size, 5, none⟩ = some (.int .u64 y2) := (HR_1.out.c 5).trans rfl
              have yl1 := HR_1.out.lt
              have y2_0 : W12.cell? ⟨gx, 0, none⟩ = some (.bool v3) := (HX.out.c 0).trans rfl
              have y2_1 : W12.cell? ⟨gx, 1, none⟩ = some (.int .u64 h3) := (HX.out.c 1).trans rfl
              have y2_2 : W12.cell? ⟨gx, 2, none⟩ = some (.int .u64 l3) := (HX.out.c 2).trans rfl
              have y2_3 : W12.cell? ⟨gx, 3, none⟩ = some (.bool v4) := (HX.out.c 3).trans rfl
              have y2_4 : W12.cell? ⟨gx, 4, none⟩ = some (.int .u64 h4) := (HX.out.c 4).trans rfl
              have y2_5 : W12.cell? ⟨gx, 5, none⟩ = some (.int .u64 l4) := (HX.out.c 5).trans rfl
              have yl2 := HX.out.lt
              clear y1_0 y1_1 y1_2 y1_3 y1_4 y1_5 yl1 y2_0 y2_1 y2_2 y2_3 y2_4 y2_5 yl2
              refine (HT1.out _).mono ?_
              rintro e w12 ⟨rfl, hb⟩
              have HO_2 := Lib.hid (show OwnR w12 (w.heap.size + 1) A' n c' out from HO_1.out.kept hb)
              have HR_2 := Lib.hid (show RB w12 w.heap.size u1 x1 y1 u2 x2 y2 from HR_1.out.kept hb HR_1.out.lt)
              have HX_2 := Lib.hid (show RB w12 gx v3 h3 l3 v4 h4 l4 from HX.out.kept hb HX.out.lt)
              have HB_2 := Lib.hid (HB_1.out.trans (hb.mono HB_1.out.size))
              clear hb HO_1 HR_1 HX HB_1
              have y1_0 : w12.cell? ⟨w.heap.size, 0, none⟩ = some (.bool u1) := (HR_2.out.c 0).trans rfl
              have y1_1 : w12.cell? ⟨w.heap.size, 1, none⟩ = some (.int .u64 x1) := (HR_2.out.c 1).trans rfl
              have y1_2 : w12.cell? ⟨w.heap.size, 2, none⟩ = some (.int .u64 y1) := (HR_2.out.c 2).trans rfl
              have y1_3 : w12.cell? ⟨w.heap.size, 3, none⟩ = some (.bool u2) := (HR_2.out.c 3).trans rfl
              have y1_4 : w12.cell? ⟨w.heap.size, 4, none⟩ = some (.int .u64 x2) := (HR_2.out.c 4).trans rfl
              have y1_5 : w12.cell? ⟨w.heap.size, 5, none⟩ = some (.int .u64 y2) := (HR_2.out.c 5).trans rfl
              have yl1 := HR_2.out.lt
              have y2_0 : w12.cell? ⟨gx, 0, none⟩ = some (.bool v3) := (HX_2.out.c 0).trans rfl
              have y2_1 : w12.cell? ⟨gx, 1, none⟩ = some (.int .u64 h3) := (HX_2.out.c 1).trans rfl
              have y2_2 : w12.cell? ⟨gx, 2, none⟩ = some (.int .u64 l3) := (HX_2.out.c 2).trans rfl
              have y2_3 : w12.cell? ⟨gx, 3, none⟩ = some (.bool v4) := (HX_2.out.c 3).trans rfl
              have y2_4 : w12.cell? ⟨gx, 4, none⟩ = some (.int .u64 h4) := (HX_2.out.c 4).trans rfl
              have y2_5 : w12.cell? ⟨gx, 5, none⟩ = some (.int .u64 l4) := (HX_2.out.c 5).trans rfl
              have yl2 := HX_2.out.lt
              go_wp2_with fail
              clear y1_0 y1_1 y1_2 y1_3 y1_4 y1_5 yl1 y2_0 y2_1 y2_2 y2_3 y2_4 y2_5 yl2
              refine (HT2.out _).mono ?_
              rintro e w13 ⟨rfl, hb⟩
              have HO_3 := Lib.hid (show OwnR w13 (w.heap.size + 1) A' n c' out from HO_2.out.kept hb)
              have HR_3 := Lib.hid (show RB w13 w.heap.size u1 x1 y1 u2 x2 y2 from HR_2.out.kept hb HR_2.out.lt)
              have HX_3 := Lib.hid (show RB w13 gx v3 h3 l3 v4 h4 l4 from HX_2.out.kept hb HX_2.out.lt)
              have HB_3 := Lib.hid (HB_2.out.trans (hb.mono HB_2.out.size))
              clear hb HO_2 HR_2 HX_2 HB_2
              have y1_0 : w13.cell? ⟨w.heap.size, 0, none⟩ = some (.bool u1) := (HR_3.out.c 0).trans rfl
              have y1_1 : w13.cell? ⟨w.heap.size, 1, none⟩ = some (.int .u64 x1) := (HR_3.out.c 1).trans rfl
              have y1_2 : w13.cell? ⟨w.heap.size, 2, none⟩ = some (.int .u64 y1) := (HR_3.out.c 2).trans rfl
              have y1_3 : w13.cell? ⟨w.heap.size, 3, none⟩ = some (.bool u2) := (HR_3.out.c 3).trans rfl
              have y1_4 : w13.cell? ⟨w.heap.size, 4, none⟩ = some (.int .u64 x2) := (HR_3.out.c 4).trans rfl
              have y1_5 : w13.cell? ⟨w.heap.size, 5, none⟩ = some (.int .u64 y2) := (HR_3.out.c 5).trans rfl
              have yl1 := HR_3.out.lt
              have y2_0 : w13.cell? ⟨gx, 0, none⟩ = some (.bool v3) := (HX_3.out.c 0).trans rfl
              have y2_1 : w13.cell? ⟨gx, 1, none⟩ = some (.int .u64 h3) := (HX_3.out.c 1).trans rfl
              have y2_2 : w13.cell? ⟨gx, 2, none⟩ = some (.int .u64 l3) := (HX_3.out.c 2).trans rfl
              have y2_3 : w13.cell? ⟨gx, 3, none⟩ = some (.bool v4) := (HX_3.out.c 3).trans rfl
              have y2_4 : w13.cell? ⟨gx, 4, none⟩ = some (.int .u64 h4) := (HX_3.out.c 4).trans rfl
              have y2_5 : w13.cell? ⟨gx, 5, none⟩ = some (.int .u64 l4) := (HX_3.out.c 5).trans rfl
              have yl2 := HX_3.out.lt
              go_wp2_with fail
              clear y1_0 y1_1 y1_2 y1_3 y1_4 y1_5 yl1 y2_0 y2_1 y2_2 y2_3 y2_4 y2_5 yl2
              refine (HJ2.out _).mono ?_
              rintro e wq ⟨rfl, hb⟩
              have HO_4 := Lib.hid (show OwnR wq (w.heap.size + 1) A' n c' out from HO_3.out.kept hb)
              have HR_4 := Lib.hid (show RB wq w.heap.size u1 x1 y1 u2 x2 y2 from HR_3.out.kept hb HR_3.out.lt)
              have HX_4 := Lib.hid (show RB wq gx v3 h3 l3 v4 h4 l4 from HX_3.out.kept hb HX_3.out.lt)
              have HB_4 := Lib.hid (HB_3.out.trans (hb.mono HB_3.out.size))
              clear hb HO_3 HR_3 HX_3 HB_3
              have y1_0 : wq.cell? ⟨w.heap.size, 0, none⟩ = some (.bool u1) := (HR_4.out.c 0).trans rfl
              have y1_1 : wq.cell? ⟨w.heap.size, 1, none⟩ = some (.int .u64 x1) := (HR_4.out.c 1).trans rfl
              have y1_2 : wq.cell? ⟨w.heap.size, 2, none⟩ = some (.int .u64 y1) := (HR_4.out.c 2).trans rfl
              have y1_3 : wq.cell? ⟨w.heap.size, 3, none⟩ = some (.bool u2) := (HR_4.out.c 3).trans rfl
              have y1_4 : wq.cell? ⟨w.heap.size, 4, none⟩ = some (.int .u64 x2) := (HR_4.out.c 4).trans rfl
              have y1_5 : wq.cell? ⟨w.heap.size, 5, none⟩ = some (.int .u64 y2) := (HR_4.out.c 5).trans rfl
              have yl1 := HR_4.out.lt
              have y2_0 : wq.cell? ⟨gx, 0, none⟩ = some (.bool v3) := (HX_4.out.c 0).trans rfl
              have y2_1 : wq.cell? ⟨gx, 1, none⟩ = some (.int .u64 h3) := (HX_4.out.c 1).trans rfl
              have y2_2 : wq.cell? ⟨gx, 2, none⟩ = some (.int .u64 l3) := (HX_4.out.c 2).trans rfl
              have y2_3 : wq.cell? ⟨gx, 3, none⟩ = some (.bool v4) := (HX_4.out.c 3).trans rfl
              have y2_4 : wq.cell? ⟨gx, 4, none⟩ = some (.int .u64 h4) := (HX_4.out.c 4).trans rfl
              have y2_5 : wq.cell? ⟨gx, 5, none⟩ = some (.int .u64 l4) := (HX_4.out.c 5).trans rfl
              have yl2 := HX_4.out.lt
              have hszq : w.heap.size + 1 ≤ wq.heap.size := yl1
              go_wp2_with (at_builtin; refine wpList_push (E := ER) rgTy (by rfl) _ _ (by rfl) (w.heap.size + 1) _ n out [⟨⟨u1, x1, y1⟩, ⟨u2, x2, y2⟩⟩, ⟨⟨v3, h3, l3⟩, ⟨v4, h4, l4⟩⟩] (by rfl) (HO_4.out.al _).2 _ 2 2 #[.bool u1, .int .u64 x1, .int .u64 y1, .bool u2, .int .u64 x2, .int .u64 y2, .bool v3, .int .u64 h3, .int .u64 l3, .bool v4, .int .u64 h4, .int .u64 l4] (0, 0) (by rfl) (heap_alloc_new _ _) rfl rfl (by omega) (by omega) (by decide) ?hb ?_)
              case hb => simp; omega
              intro g2 cap2 wz hown hgrow hat hlt2
              have HO9 := Lib.hid (HO_4.out.push rfl hown)
              have HB9 := Lib.hid (HO_4.out.below HB_4.out (HB_4.out).size (HB_4.out).size (Nat.le_succ _) hgrow)
              have HR9 := Lib.hid (show RB wz w.heap.size u1 x1 y1 u2 x2 y2 from (HO_4.out.far hgrow (b := w.heap.size) (by omega) (by simp; omega)).trans (HR_4.out.al _))
              have HI9 := Lib.hid (addI_insert HI.out HG.out HGT.out hap)
              clear hown hgrow hat hlt2
              go_wp2_with fail
              go_roundw
              case rel => exact ⟨k + 1, n + 2, cap2, some ⟨g2, 0, none⟩, out ++ [⟨⟨u1, x1, y1⟩, ⟨u2, x2, y2⟩⟩, ⟨⟨v3, h3, l3⟩, ⟨v4, h4, l4⟩⟩], true, u1, x1, y1, u2, x2, y2, by omega, by omega, by go_num, rfl, rfl, Lib.hid (fun e => Bool.noConfusion e), HI9, HB9, HO9, HR9⟩
              case measure => simp [intOf]; omega
            | true =>
              rw [j2] at HJ2
              have hp2 := @joined_tests ⟨u2, x2, y2⟩ ⟨v3, h3, l3⟩ j2
              have hp1 : kA ⟨u1, x1, y1⟩ ≤ kA ⟨v4, h4, l4⟩ + 1 := by omega
              have b1 : ¬ kA ⟨v3, h3, l3⟩ < kA ⟨u1, x1, y1⟩ := by omega
              rw [decide_eq_false b1] at HT3
              have b2 : kA ⟨u2, x2, y2⟩ < kA ⟨v4, h4, l4⟩ := by omega
              rw [decide_eq_true b2] at HT4
              clear j2 t2
              have hB1 := Lib.hid b1; have hB2 := Lib.hid b2; have hP1 := Lib.hid hp1; have hP2 := Lib.hid hp2
              clear t1 hx4 hr4 HAP1 HAP2 b1 b2 hp1 hp2
              have y1_0 : wr.cell? ⟨w.heap.size, 0, none⟩ = some (.bool u1) := (HR.out.c 0).trans rfl
              have y1_1 : wr.cell? ⟨w.heap.size, 1, none⟩ = some (.int .u64 x1) := (HR.out.c 1).trans rfl
              have y1_2 : wr.cell? ⟨w.heap.size, 2, none⟩ = some (.int .u64 y1) := (HR.out.c 2).trans rfl
              have y1_3 : wr.cell? ⟨w.heap.size, 3, none⟩ = some (.bool u2) := (HR.out.c 3).trans rfl
              have y1_4 : wr.cell? ⟨w.heap.size, 4, none⟩ = some (.int .u64 x2) := (HR.out.c 4).trans rfl
              have y1_5 : wr.cell? ⟨w.heap.size, 5, none⟩ = some (.int .u64 y2) := (HR.out.c 5).trans rfl
              have yl1 := HR.out.lt
              go_wp2_with fail
              clear y1_0 y1_1 y1_2 y1_3 y1_4 y1_5 yl1 c0 c1 c2 c3 c4 c5
              obtain ⟨W12, hW12⟩ : ∃ W, W = wr.alloc (.cells #[.bool v3, .int .u64 h3, .int .u64 l3, .bool v4, .int .u64 h4, .int .u64 l4] 43) := ⟨_, rfl⟩
              obtain ⟨gx, hgx⟩ : ∃ g, g = wr.heap.size := ⟨_, rfl⟩
              have HO_1 := Lib.hid (show OwnR W12 (w.heap.size + 1) A' n c' out from by rw [hW12]; exact HO.out.al _)
              have HR_1 := Lib.hid (show RB W12 w.heap.size u1 x1 y1 u2 x2 y2 from by rw [hW12]; exact HR.out.al _)
              have Lgx := Lib.hid (show w.heap.size < gx ∧ w.heap.size ≤ gx from by rw [hgx]; exact ⟨HR.out.lt, HB.out.size⟩)
              have HX := Lib.hid (show RB W12 gx v3 h3 l3 v4 h4 l4 from by rw [hW12, hgx]; exact rb_new wr v3 h3 l3 v4 h4 l4)
              have HB_1 := Lib.hid (show Below w.heap.size w W12 by rw [hW12]; exact HB.out.alloc HB.out.size _)
              clear HO HR HB
              rw [← hW12, ← hgx]
              clear hW12 hgx
              have y1_0 : W12.cell? ⟨w.heap.size, 0, none⟩ = some (.bool u1) := (HR_1.out.c 0).trans rfl
              have y1_1 : W12.cell? ⟨w.heap.size, 1, none⟩ = some (.int .u64 x1) := (HR_1.out.c 1).trans rfl
              have y1_2 : W12.cell? ⟨w.heap.size, 2, none⟩ = some (.int .u64 y1) := (HR_1.out.c 2).trans rfl
              have y1_3 : W12.cell? ⟨w.heap.size, 3, none⟩ = some (.bool u2) := (HR_1.out.c 3).trans rfl
              have y1_4 : W12.cell? ⟨w.heap.size, 4, none⟩ = some (.int .u64 x2) := (HR_1.out.c 4).trans rfl
              have y1_5 : W12.cell? ⟨w.heap.size, 5, none⟩ = some (.int .u64 y2) := (HR_1.out.c 5).trans rfl
              have yl1 := HR_1.out.lt
              have y2_0 : W12.cell? ⟨gx, 0, none⟩ = some (.bool v3) := (HX.out.c 0).trans rfl
              have y2_1 : W12.cell? ⟨gx, 1, none⟩ = some (.int .u64 h3) := (HX.out.c 1).trans rfl
              have y2_2 : W12.cell? ⟨gx, 2, none⟩ = some (.int .u64 l3) := (HX.out.c 2).trans rfl
              have y2_3 : W12.cell? ⟨gx, 3, none⟩ = some (.bool v4) := (HX.out.c 3).trans rfl
              have y2_4 : W12.cell? ⟨gx, 4, none⟩ = some (.int .u64 h4) := (HX.out.c 4).trans rfl
              have y2_5 : W12.cell? ⟨gx, 5, none⟩ = some (.int .u64 l4) := (HX.out.c 5).trans rfl
              have yl2 := HX.out.lt
              clear y1_0 y1_1 y1_2 y1_3 y1_4 y1_5 yl1 y2_0 y2_1 y2_2 y2_3 y2_4 y2_5 yl2
              refine (HT1.out _).mono ?_
              rintro e w12 ⟨rfl, hb⟩
              have HO_2 := Lib.hid (show OwnR w12 (w.heap.size + 1) A' n c' out from HO_1.out.kept hb)
              have HR_2 := Lib.hid (show RB w12 w.heap.size u1 x1 y1 u2 x2 y2 from HR_1.out.kept hb HR_1.out.lt)
              have HX_2 := Lib.hid (show RB w12 gx v3 h3 l3 v4 h4 l4 from HX.out.kept hb HX.out.lt)
              have HB_2 := Lib.hid (HB_1.out.trans (hb.mono HB_1.out.size))
              clear hb HO_1 HR_1 HX HB_1
              have y1_0 : w12.cell? ⟨w.heap.size, 0, none⟩ = some (.bool u1) := (HR_2.out.c 0).trans rfl
              have y1_1 : w12.cell? ⟨w.heap.size, 1, none⟩ = some (.int .u64 x1) := (HR_2.out.c 1).trans rfl
              have y1_2 : w12.cell? ⟨w.heap.size, 2, none⟩ = some (.int .u64 y1) := (HR_2.out.c 2).trans rfl
              have y1_3 : w12.cell? ⟨w.heap.size, 3, none⟩ = some (.bool u2) := (HR_2.out.c 3).trans rfl
              have y1_4 : w12.cell? ⟨w.heap.size, 4, none⟩ = some (.int .u64 x2) := (HR_2.out.c 4).trans rfl
              have y1_5 : w12.cell? ⟨w.heap.size, 5, none⟩ = some (.int .u64 y2) := (HR_2.out.c 5).trans rfl
              have yl1 := HR_2.out.lt
              have y2_0 : w12.cell? ⟨gx, 0, none⟩ = some (.bool v3) := (HX_2.out.c 0).trans rfl
              have y2_1 : w12.cell? ⟨gx, 1, none⟩ = some (.int .u64 h3) := (HX_2.out.c 1).trans rfl
              have y2_2 : w12.cell? ⟨gx, 2, none⟩ = some (.int .u64 l3) := (HX_2.out.c 2).trans rfl
              have y2_3 : w12.cell? ⟨gx, 3, none⟩ = some (.bool v4) := (HX_2.out.c 3).trans rfl
              have y2_4 : w12.cell? ⟨gx, 4, none⟩ = some (.int .u64 h4) := (HX_2.out.c 4).trans rfl
              have y2_5 : w12.cell? ⟨gx, 5, none⟩ = some (.int .u64 l4) := (HX_2.out.c 5).trans rfl
              have yl2 := HX_2.out.lt
              go_wp2_with fail
              clear y1_0 y1_1 y1_2 y1_3 y1_4 y1_5 yl1 y2_0 y2_1 y2_2 y2_3 y2_4 y2_5 yl2
              refine (HT2.out _).mono ?_
              rintro e w13 ⟨rfl, hb⟩
              have HO_3 := Lib.hid (show OwnR w13 (w.heap.size + 1) A' n c' out from HO_2.out.kept hb)
              have HR_3 := Lib.hid (show RB w13 w.heap.size u1 x1 y1 u2 x2 y2 from HR_2.out.kept hb HR_2.out.lt)
              have HX_3 := Lib.hid (show RB w13 gx v3 h3 l3 v4 h4 l4 from HX_2.out.kept hb HX_2.out.lt)
              have HB_3 := Lib.hid (HB_2.out.trans (hb.mono HB_2.out.size))
              clear hb HO_2 HR_2 HX_2 HB_2
              have y1_0 : w13.cell? ⟨w.heap.size, 0, none⟩ = some (.bool u1) := (HR_3.out.c 0).trans rfl
              have y1_1 : w13.cell? ⟨w.heap.size, 1, none⟩ = some (.int .u64 x1) := (HR_3.out.c 1).trans rfl
              have y1_2 : w13.cell? ⟨w.heap.size, 2, none⟩ = some (.int .u64 y1) := (HR_3.out.c 2).trans rfl
              have y1_3 : w13.cell? ⟨w.heap.size, 3, none⟩ = some (.bool u2) := (HR_3.out.c 3).trans rfl
              have y1_4 : w13.cell? ⟨w.heap.size, 4, none⟩ = some (.int .u64 x2) := (HR_3.out.c 4).trans rfl
              have y1_5 : w13.cell? ⟨w.heap.size, 5, none⟩ = some (.int .u64 y2) := (HR_3.out.c 5).trans rfl
              have yl1 := HR_3.out.lt
              have y2_0 : w13.cell? ⟨gx, 0, none⟩ = some (.bool v3) := (HX_3.out.c 0).trans rfl
              have y2_1 : w13.cell? ⟨gx, 1, none⟩ = some (.int .u64 h3) := (HX_3.out.c 1).trans rfl
              have y2_2 : w13.cell? ⟨gx, 2, none⟩ = some (.int .u64 l3) := (HX_3.out.c 2).trans rfl
              have y2_3 : w13.cell? ⟨gx, 3, none⟩ = some (.bool v4) := (HX_3.out.c 3).trans rfl
              have y2_4 : w13.cell? ⟨gx, 4, none⟩ = some (.int .u64 h4) := (HX_3.out.c 4).trans rfl
              have y2_5 : w13.cell? ⟨gx, 5, none⟩ = some (.int .u64 l4) := (HX_3.out.c 5).trans rfl
              have yl2 := HX_3.out.lt
              go_wp2_with fail
              clear y1_0 y1_1 y1_2 y1_3 y1_4 y1_5 yl1 y2_0 y2_1 y2_2 y2_3 y2_4 y2_5 yl2
              refine (HJ2.out _).mono ?_
              rintro e w14 ⟨rfl, hb⟩
              have HO_4 := Lib.hid (show OwnR w14 (w.heap.size + 1) A' n c' out from HO_3.out.kept hb)
              have HR_4 := Lib.hid (show RB w14 w.heap.size u1 x1 y1 u2 x2 y2 from HR_3.out.kept hb HR_3.out.lt)
              have HX_4 := Lib.hid (show RB w14 gx v3 h3 l3 v4 h4 l4 from HX_3.out.kept hb HX_3.out.lt)
              have HB_4 := Lib.hid (HB_3.out.trans (hb.mono HB_3.out.size))
              clear hb HO_3 HR_3 HX_3 HB_3
              have y1_0 : w14.cell? ⟨w.heap.size, 0, none⟩ = some (.bool u1) := (HR_4.out.c 0).trans rfl
              have y1_1 : w14.cell? ⟨w.heap.size, 1, none⟩ = some (.int .u64 x1) := (HR_4.out.c 1).trans rfl
              have y1_2 : w14.cell? ⟨w.heap.size, 2, none⟩ = some (.int .u64 y1) := (HR_4.out.c 2).trans rfl
              have y1_3 : w14.cell? ⟨w.heap.size, 3, none⟩ = some (.bool u2) := (HR_4.out.c 3).trans rfl
              have y1_4 : w14.cell? ⟨w.heap.size, 4, none⟩ = some (.int .u64 x2) := (HR_4.out.c 4).trans rfl
              have y1_5 : w14.cell? ⟨w.heap.size, 5, none⟩ = some (.int .u64 y2) := (HR_4.out.c 5).trans rfl
              have yl1 := HR_4.out.lt
              have y2_0 : w14.cell? ⟨gx, 0, none⟩ = some (.bool v3) := (HX_4.out.c 0).trans rfl
              have y2_1 : w14.cell? ⟨gx, 1, none⟩ = some (.int .u64 h3) := (HX_4.out.c 1).trans rfl
              have y2_2 : w14.cell? ⟨gx, 2, none⟩ = some (.int .u64 l3) := (HX_4.out.c 2).trans rfl
              have y2_3 : w14.cell? ⟨gx, 3, none⟩ = some (.bool v4) := (HX_4.out.c 3).trans rfl
              have y2_4 : w14.cell? ⟨gx, 4, none⟩ = some (.int .u64 h4) := (HX_4.out.c 4).trans rfl
              have y2_5 : w14.cell? ⟨gx, 5, none⟩ = some (.int .u64 l4) := (HX_4.out.c 5).trans rfl
              have yl2 := HX_4.out.lt
              go_wp2_with fail
              clear y1_0 y1_1 y1_2 y1_3 y1_4 y1_5 yl1 y2_0 y2_1 y2_2 y2_3 y2_4 y2_5 yl2
              refine (HT3.out _).mono ?_
              rintro e w15 ⟨rfl, hb⟩
              have HO_5 := Lib.hid (show OwnR w15 (w.heap.size + 1) A' n c' out from HO_4.out.kept hb)
              have HR_5 := Lib.hid (show RB w15 w.heap.size u1 x1 y1 u2 x2 y2 from HR_4.out.kept hb HR_4.out.lt)
              have HX_5 := Lib.hid (show RB w15 gx v3 h3 l3 v4 h4 l4 from HX_4.out.kept hb HX_4.out.lt)
              have HB_5 := Lib.hid (HB_4.out.trans (hb.mono HB_4.out.size))
              clear hb HO_4 HR_4 HX_4 HB_4
              have y1_0 : w15.cell? ⟨w.heap.size, 0, none⟩ = some (.bool u1) := (HR_5.out.c 0).trans rfl
              have y1_1 : w15.cell? ⟨w.heap.size, 1, none⟩ = some (.int .u64 x1) := (HR_5.out.c 1).trans rfl
              have y1_2 : w15.cell? ⟨w.heap.size, 2, none⟩ = some (.int .u64 y1) := (HR_5.out.c 2).trans rfl
              have y1_3 : w15.cell? ⟨w.heap.size, 3, none⟩ = some (.bool u2) := (HR_5.out.c 3).trans rfl
              have y1_4 : w15.cell? ⟨w.heap.size, 4, none⟩ = some (.int .u64 x2) := (HR_5.out.c 4).trans rfl
              have y1_5 : w15.cell? ⟨w.heap.size, 5, none⟩ = some (.int .u64 y2) := (HR_5.out.c 5).trans rfl
              have yl1 := HR_5.out.lt
              have y2_0 : w15.cell? ⟨gx, 0, none⟩ = some (.bool v3) := (HX_5.out.c 0).trans rfl
              have y2_1 : w15.cell? ⟨gx, 1, none⟩ = some (.int .u64 h3) := (HX_5.out.c 1).trans rfl
              have y2_2 : w15.cell? ⟨gx, 2, none⟩ = some (.int .u64 l3) := (HX_5.out.c 2).trans rfl
              have y2_3 : w15.cell? ⟨gx, 3, none⟩ = some (.bool v4) := (HX_5.out.c 3).trans rfl
              have y2_4 : w15.cell? ⟨gx, 4, none⟩ = some (.int .u64 h4) := (HX_5.out.c 4).trans rfl
              have y2_5 : w15.cell? ⟨gx, 5, none⟩ = some (.int .u64 l4) := (HX_5.out.c 5).trans rfl
              have yl2 := HX_5.out.lt
              go_wp2_with fail
              clear y1_0 y1_1 y1_2 y1_3 y1_4 y1_5 yl1 y2_0 y2_1 y2_2 y2_3 y2_4 y2_5 yl2
              refine (HT4.out _).mono ?_
              rintro e w16 ⟨rfl, hb⟩
              have HO_6 := Lib.hid (show OwnR w16 (w.heap.size + 1) A' n c' out from HO_5.out.kept hb)
              have HR_6 := Lib.hid (show RB w16 w.heap.size u1 x1 y1 u2 x2 y2 from HR_5.out.kept hb HR_5.out.lt)
              have HX_6 := Lib.hid (show RB w16 gx v3 h3 l3 v4 h4 l4 from HX_5.out.kept hb HX_5.out.lt)
              have HB_6 := Lib.hid (HB_5.out.trans (hb.mono HB_5.out.size))
              clear hb HO_5 HR_5 HX_5 HB_5
              have y1_0 : w16.cell? ⟨w.heap.size, 0, none⟩ = some (.bool u1) := (HR_6.out.c 0).trans rfl
              have y1_1 : w16.cell? ⟨w.heap.size, 1, none⟩ = some (.int .u64 x1) := (HR_6.out.c 1).trans rfl
              have y1_2 : w16.cell? ⟨w.heap.size, 2, none⟩ = some (.int .u64 y1) := (HR_6.out.c 2).trans rfl
              have y1_3 : w16.cell? ⟨w.heap.size, 3, none⟩ = some (.bool u2) := (HR_6.out.c 3).trans rfl
              have y1_4 : w16.cell? ⟨w.heap.size, 4, none⟩ = some (.int .u64 x2) := (HR_6.out.c 4).trans rfl
              have y1_5 : w16.cell? ⟨w.heap.size, 5, none⟩ = some (.int .u64 y2) := (HR_6.out.c 5).trans rfl
              have yl1 := HR_6.out.lt
              have y2_0 : w16.cell? ⟨gx, 0, none⟩ = some (.bool v3) := (HX_6.out.c 0).trans rfl
              have y2_1 : w16.cell? ⟨gx, 1, none⟩ = some (.int .u64 h3) := (HX_6.out.c 1).trans rfl
              have y2_2 : w16.cell? ⟨gx, 2, none⟩ = some (.int .u64 l3) := (HX_6.out.c 2).trans rfl
              have y2_3 : w16.cell? ⟨gx, 3, none⟩ = some (.bool v4) := (HX_6.out.c 3).trans rfl
              have y2_4 : w16.cell? ⟨gx, 4, none⟩ = some (.int .u64 h4) := (HX_6.out.c 4).trans rfl
              have y2_5 : w16.cell? ⟨gx, 5, none⟩ = some (.int .u64 l4) := (HX_6.out.c 5).trans rfl
              have yl2 := HX_6.out.lt
              clear y1_0 y1_1 y1_2 y1_3 y1_4 y1_5 yl1 y2_0 y2_1 y2_2 y2_3 y2_4 y2_5 yl2
              obtain ⟨W18, hW18⟩ : ∃ W, W = ((w16.setCell ⟨w.heap.size, 3, none⟩ (.bool v4)).setCell ⟨w.heap.size, 4, none⟩ (.int .u64 h4)).setCell ⟨w.heap.size, 5, none⟩ (.int .u64 l4) := ⟨_, rfl⟩
              have y1_0 : w16.cell? ⟨w.heap.size, 0, none⟩ = some (.bool u1) := (HR_6.out.c 0).trans rfl
              have z1_0 := HR_6.out.f 0
              have y1_1 : w16.cell? ⟨w.heap.size, 1, none⟩ = some (.int .u64 x1) := (HR_6.out.c 1).trans rfl
              have z1_1 := HR_6.out.f 1
              have y1_2 : w16.cell? ⟨w.heap.size, 2, none⟩ = some (.int .u64 y1) := (HR_6.out.c 2).trans rfl
              have z1_2 := HR_6.out.f 2
              have y1_3 : w16.cell? ⟨w.heap.size, 3, none⟩ = some (.bool u2) := (HR_6.out.c 3).trans rfl
              have z1_3 := HR_6.out.f 3
              have y1_4 : w16.cell? ⟨w.heap.size, 4, none⟩ = some (.int .u64 x2) := (HR_6.out.c 4).trans rfl
              have z1_4 := HR_6.out.f 4
              have y1_5 : w16.cell? ⟨w.heap.size, 5, none⟩ = some (.int .u64 y2) := (HR_6.out.c 5).trans rfl
              have z1_5 := HR_6.out.f 5
              have yl1 := HR_6.out.lt
              have y2_0 : w16.cell? ⟨gx, 0, none⟩ = some (.bool v3) := (HX_6.out.c 0).trans rfl
              have y2_1 : w16.cell? ⟨gx, 1, none⟩ = some (.int .u64 h3) := (HX_6.out.c 1).trans rfl
              have y2_2 : w16.cell? ⟨gx, 2, none⟩ = some (.int .u64 l3) := (HX_6.out.c 2).trans rfl
              have y2_3 : w16.cell? ⟨gx, 3, none⟩ = some (.bool v4) := (HX_6.out.c 3).trans rfl
              have y2_4 : w16.cell? ⟨gx, 4, none⟩ = some (.int .u64 h4) := (HX_6.out.c 4).trans rfl
              have y2_5 : w16.cell? ⟨gx, 5, none⟩ = some (.int .u64 l4) := (HX_6.out.c 5).trans rfl
              have yl2 := HX_6.out.lt
              have HO_7 := Lib.hid (show OwnR W18 (w.heap.size + 1) A' n c' out from by rw [hW18]; exact ((HO_6.out.far1 (Nat.lt_succ_self _) _).far1 (Nat.lt_succ_self _) _).far1 (Nat.lt_succ_self _) _)
              have HR_7 := Lib.hid (show RB W18 w.heap.size u1 x1 y1 v4 h4 l4 from by rw [hW18]; exact HR_6.out.setHi v4 h4 l4)
              have hne := Nat.ne_of_gt Lgx.out.1
              have HX_7 := Lib.hid (show RB W18 gx v3 h3 l3 v4 h4 l4 from by rw [hW18]; exact ((HX_6.out.far hne _).far hne _).far hne _)
              have HB_7 := Lib.hid (show Below w.heap.size w W18 from by rw [hW18]; exact ((HB_6.out.setCell (p := ⟨w.heap.size, 3, none⟩) (Nat.le_refl _) _).setCell (p := ⟨w.heap.size, 4, none⟩) (Nat.le_refl _) _).setCell (p := ⟨w.heap.size, 5, none⟩) (Nat.le_refl _) _)
              have q0_0 : W18.cell? ⟨w.heap.size, 0, none⟩ = some (.bool u1) := (HR_7.out.c 0).trans rfl
              rw [hW18] at q0_0
              have q0_1 : W18.cell? ⟨w.heap.size, 1, none⟩ = some (.int .u64 x1) := (HR_7.out.c 1).trans rfl
              rw [hW18] at q0_1
              have q0_2 : W18.cell? ⟨w.heap.size, 2, none⟩ = some (.int .u64 y1) := (HR_7.out.c 2).trans rfl
              rw [hW18] at q0_2
              have q0_3 : W18.cell? ⟨w.heap.size, 3, none⟩ = some (.bool v4) := (HR_7.out.c 3).trans rfl
              rw [hW18] at q0_3
              have q0_4 : W18.cell? ⟨w.heap.size, 4, none⟩ = some (.int .u64 h4) := (HR_7.out.c 4).trans rfl
              rw [hW18] at q0_4
              have q0_5 : W18.cell? ⟨w.heap.size, 5, none⟩ = some (.int .u64 l4) := (HR_7.out.c 5).trans rfl
              rw [hW18] at q0_5
              have q1_0 : W18.cell? ⟨gx, 0, none⟩ = some (.bool v3) := (HX_7.out.c 0).trans rfl
              rw [hW18] at q1_0
              have q1_1 : W18.cell? ⟨gx, 1, none⟩ = some (.int .u64 h3) := (HX_7.out.c 1).trans rfl
              rw [hW18] at q1_1
              have q1_2 : W18.cell? ⟨gx, 2, none⟩ = some (.int .u64 l3) := (HX_7.out.c 2).trans rfl
              rw [hW18] at q1_2
              have q1_3 : W18.cell? ⟨gx, 3, none⟩ = some (.bool v4) := (HX_7.out.c 3).trans rfl
              rw [hW18] at q1_3
              have q1_4 : W18.cell? ⟨gx, 4, none⟩ = some (.int .u64 h4) := (HX_7.out.c 4).trans rfl
              rw [hW18] at q1_4
              have q1_5 : W18.cell? ⟨gx, 5, none⟩ = some (.int .u64 l4) := (HX_7.out.c 5).trans rfl
              rw [hW18] at q1_5
              go_wp2_with fail
              rw [← hW18]
              clear hW18 HO_6 HR_6 HX_6 HB_6
              clear y1_0 z1_0 y1_1 z1_1 y1_2 z1_2 y1_3 z1_3 y1_4 z1_4 y1_5 z1_5 yl1 y2_0 y2_1 y2_2 y2_3 y2_4 y2_5 yl2 q0_0 q0_1 q0_2 q0_3 q0_4 q0_5 q1_0 q1_1 q1_2 q1_3 q1_4 q1_5 hne
              go_roundw
              case rel => exact ⟨k + 1, n, c', A', out, false, u1, x1, y1, v4, h4, l4, by omega, by omega, by go_num, rfl, rfl, Lib.hid (fun _ => by omega), Lib.hid (HMG.out hP1.out hP2.out ⟨u1, x1, y1⟩ ⟨v4, h4, l4⟩ (by rw [if_neg (by have := hB1.out; omega)]) (by rw [if_pos (by have := hB2.out; omega)])), HB_7, HO_7, HR_7⟩
              case measure => simp [intOf]; omega
          · rw [decide_eq_false t2] at HT2
            have hp1 : kA ⟨u1, x1, y1⟩ ≤ kA ⟨v4, h4, l4⟩ + 1 := by omega
            have hp2 : kA ⟨v3, h3, l3⟩ ≤ kA ⟨u2, x2, y2⟩ + 1 := by omega
            by_cases b1 : kA ⟨v3, h3, l3⟩ < kA ⟨u1, x1, y1⟩
            · rw [decide_eq_true b1] at HT3
              by_cases b2 : kA ⟨u2, x2, y2⟩ < kA ⟨v4, h4, l4⟩
              · rw [decide_eq_true b2] at HT4
                clear t2
                have hB1 := Lib.hid b1; have hB2 := Lib.hid b2; have hP1 := Lib.hid hp1; have hP2 := Lib.hid hp2
                clear t1 hx4 hr4 HAP1 HAP2 b1 b2 hp1 hp2
                have y1_0 : wr.cell? ⟨w.heap.size, 0, none⟩ = some (.bool u1) := (HR.out.c 0).trans rfl
                have y1_1 : wr.cell? ⟨w.heap.size, 1, none⟩ = some (.int .u64 x1) := (HR.out.c 1).trans rfl
                have y1_2 : wr.cell? ⟨w.heap.size, 2, none⟩ = some (.int .u64 y1) := (HR.out.c 2).trans rfl
                have y1_3 : wr.cell? ⟨w.heap.size, 3, none⟩ = some (.bool u2) := (HR.out.c 3).trans rfl
                have y1_4 : wr.cell? ⟨w.heap.size, 4, none⟩ = some (.int .u64 x2) := (HR.out.c 4).trans rfl
                have y1_5 : wr.cell? ⟨w.heap.size, 5, none⟩ = some (.int .u64 y2) := (HR.out.c 5).trans rfl
                have yl1 := HR.out.lt
                go_wp2_with fail
                clear y1_0 y1_1 y1_2 y1_3 y1_4 y1_5 yl1 c0 c1 c2 c3 c4 c5
                obtain ⟨W12, hW12⟩ : ∃ W, W = wr.alloc (.cells #[.bool v3, .int .u64 h3, .int .u64 l3, .bool v4, .int .u64 h4, .int .u64 l4] 43) := ⟨_, rfl⟩
                obtain ⟨gx, hgx⟩ : ∃ g, g = wr.heap.size := ⟨_, rfl⟩
                have HO_1 := Lib.hid (show OwnR W12 (w.heap.size + 1) A' n c' out from by rw [hW12]; exact HO.out.al _)
                have HR_1 := Lib.hid (show RB W12 w.heap.size u1 x1 y1 u2 x2 y2 from by rw [hW12]; exact HR.out.al _)
                have Lgx := Lib.hid (show w.heap.size < gx ∧ w.heap.size ≤ gx from by rw [hgx]; exact ⟨HR.out.lt, HB.out.size⟩)
                have HX := Lib.hid (show RB W12 gx v3 h3 l3 v4 h4 l4 from by rw [hW12, hgx]; exact rb_new wr v3 h3 l3 v4 h4 l4)
                have HB_1 := Lib.hid (show Below w.heap.size w W12 by rw [hW12]; exact HB.out.alloc HB.out.size _)
                clear HO HR HB
                rw [← hW12, ← hgx]
                clear hW12 hgx
                have y1_0 : W12.cell? ⟨w.heap.size, 0, none⟩ = some (.bool u1) := (HR_1.out.c 0).trans rfl
                have y1_1 : W12.cell? ⟨w.heap.size, 1, none⟩ = some (.int .u64 x1) := (HR_1.out.c 1).trans rfl
                have y1_2 : W12.cell? ⟨w.heap.size, 2, none⟩ = some (.int .u64 y1) := (HR_1.out.c 2).trans rfl
                have y1_3 : W12.cell? ⟨w.heap.size, 3, none⟩ = some (.bool u2) := (HR_1.out.c 3).trans rfl
                have y1_4 : W12.cell? ⟨w.heap.size, 4, none⟩ = some (.int .u64 x2) := (HR_1.out.c 4).trans rfl
                have y1_5 : W12.cell? ⟨w.heap.size, 5, none⟩ = some (.int .u64 y2) := (HR_1.out.c 5).trans rfl
                have yl1 := HR_1.out.lt
                have y2_0 : W12.cell? ⟨gx, 0, none⟩ = some (.bool v3) := (HX.out.c 0).trans rfl
                have y2_1 : W12.cell? ⟨gx, 1, none⟩ = some (.int .u64 h3) := (HX.out.c 1).trans rfl
                have y2_2 : W12.cell? ⟨gx, 2, none⟩ = some (.int .u64 l3) := (HX.out.c 2).trans rfl
                have y2_3 : W12.cell? ⟨gx, 3, none⟩ = some (.bool v4) := (HX.out.c 3).trans rfl
                have y2_4 : W12.cell? ⟨gx, 4, none⟩ = some (.int .u64 h4) := (HX.out.c 4).trans rfl
                have y2_5 : W12.cell? ⟨gx, 5, none⟩ = some (.int .u64 l4) := (HX.out.c 5).trans rfl
                have yl2 := HX.out.lt
                clear y1_0 y1_1 y1_2 y1_3 y1_4 y1_5 yl1 y2_0 y2_1 y2_2 y2_3 y2_4 y2_5 yl2
                refine (HT1.out _).mono ?_
                rintro e w12 ⟨rfl, hb⟩
                have HO_2 := Lib.hid (show OwnR w12 (w.heap.size + 1) A' n c' out from HO_1.out.kept hb)
                have HR_2 := Lib.hid (show RB w12 w.heap.size u1 x1 y1 u2 x2 y2 from HR_1.out.kept hb HR_1.out.lt)
                have HX_2 := Lib.hid (show RB w12 gx v3 h3 l3 v4 h4 l4 from HX.out.kept hb HX.out.lt)
                have HB_2 := Lib.hid (HB_1.out.trans (hb.mono HB_1.out.size))
                clear hb HO_1 HR_1 HX HB_1
                have y1_0 : w12.cell? ⟨w.heap.size, 0, none⟩ = some (.bool u1) := (HR_2.out.c 0).trans rfl
                have y1_1 : w12.cell? ⟨w.heap.size, 1, none⟩ = some (.int .u64 x1) := (HR_2.out.c 1).trans rfl
                have y1_2 : w12.cell? ⟨w.heap.size, 2, none⟩ = some (.int .u64 y1) := (HR_2.out.c 2).trans rfl
                have y1_3 : w12.cell? ⟨w.heap.size, 3, none⟩ = some (.bool u2) := (HR_2.out.c 3).trans rfl
                have y1_4 : w12.cell? ⟨w.heap.size, 4, none⟩ = some (.int .u64 x2) := (HR_2.out.c 4).trans rfl
                have y1_5 : w12.cell? ⟨w.heap.size, 5, none⟩ = some (.int .u64 y2) := (HR_2.out.c 5).trans rfl
                have yl1 := HR_2.out.lt
                have y2_0 : w12.cell? ⟨gx, 0, none⟩ = some (.bool v3) := (HX_2.out.c 0).trans rfl
                have y2_1 : w12.cell? ⟨gx, 1, none⟩ = some (.int .u64 h3) := (HX_2.out.c 1).trans rfl
                have y2_2 : w12.cell? ⟨gx, 2, none⟩ = some (.int .u64 l3) := (HX_2.out.c 2).trans rfl
                have y2_3 : w12.cell? ⟨gx, 3, none⟩ = some (.bool v4) := (HX_2.out.c 3).trans rfl
                have y2_4 : w12.cell? ⟨gx, 4, none⟩ = some (.int .u64 h4) := (HX_2.out.c 4).trans rfl
                have y2_5 : w12.cell? ⟨gx, 5, none⟩ = some (.int .u64 l4) := (HX_2.out.c 5).trans rfl
                have yl2 := HX_2.out.lt
                go_wp2_with fail
                clear y1_0 y1_1 y1_2 y1_3 y1_4 y1_5 yl1 y2_0 y2_1 y2_2 y2_3 y2_4 y2_5 yl2
                refine (HT2.out _).mono ?_
                rintro e w13 ⟨rfl, hb⟩
                have HO_3 := Lib.hid (show OwnR w13 (w.heap.size + 1) A' n c' out from HO_2.out.kept hb)
                have HR_3 := Lib.hid (show RB w13 w.heap.size u1 x1 y1 u2 x2 y2 from HR_2.out.kept hb HR_2.out.lt)
                have HX_3 := Lib.hid (show RB w13 gx v3 h3 l3 v4 h4 l4 from HX_2.out.kept hb HX_2.out.lt)
                have HB_3 := Lib.hid (HB_2.out.trans (hb.mono HB_2.out.size))
                clear hb HO_2 HR_2 HX_2 HB_2
                have y1_0 : w13.cell? ⟨w.heap.size, 0, none⟩ = some (.bool u1) := (HR_3.out.c 0).trans rfl
                have y1_1 : w13.cell? ⟨w.heap.size, 1, none⟩ = some (.int .u64 x1) := (HR_3.out.c 1).trans rfl
                have y1_2 : w13.cell? ⟨w.heap.size, 2, none⟩ = some (.int .u64 y1) := (HR_3.out.c 2).trans rfl
                have y1_3 : w13.cell? ⟨w.heap.size, 3, none⟩ = some (.bool u2) := (HR_3.out.c 3).trans rfl
                have y1_4 : w13.cell? ⟨w.heap.size, 4, none⟩ = some (.int .u64 x2) := (HR_3.out.c 4).trans rfl
                have y1_5 : w13.cell? ⟨w.heap.size, 5, none⟩ = some (.int .u64 y2) := (HR_3.out.c 5).trans rfl
                have yl1 := HR_3.out.lt
                have y2_0 : w13.cell? ⟨gx, 0, none⟩ = some (.bool v3) := (HX_3.out.c 0).trans rfl
                have y2_1 : w13.cell? ⟨gx, 1, none⟩ = some (.int .u64 h3) := (HX_3.out.c 1).trans rfl
                have y2_2 : w13.cell? ⟨gx, 2, none⟩ = some (.int .u64 l3) := (HX_3.out.c 2).trans rfl
                have y2_3 : w13.cell? ⟨gx, 3, none⟩ = some (.bool v4) := (HX_3.out.c 3).trans rfl
                have y2_4 : w13.cell? ⟨gx, 4, none⟩ = some (.int .u64 h4) := (HX_3.out.c 4).trans rfl
                have y2_5 : w13.cell? ⟨gx, 5, none⟩ = some (.int .u64 l4) := (HX_3.out.c 5).trans rfl
                have yl2 := HX_3.out.lt
                go_wp2_with fail
                clear y1_0 y1_1 y1_2 y1_3 y1_4 y1_5 yl1 y2_0 y2_1 y2_2 y2_3 y2_4 y2_5 yl2
                refine (HT3.out _).mono ?_
                rintro e w14 ⟨rfl, hb⟩
                have HO_4 := Lib.hid (show OwnR w14 (w.heap.size + 1) A' n c' out from HO_3.out.kept hb)
                have HR_4 := Lib.hid (show RB w14 w.heap.size u1 x1 y1 u2 x2 y2 from HR_3.out.kept hb HR_3.out.lt)
                have HX_4 := Lib.hid (show RB w14 gx v3 h3 l3 v4 h4 l4 from HX_3.out.kept hb HX_3.out.lt)
                have HB_4 := Lib.hid (HB_3.out.trans (hb.mono HB_3.out.size))
                clear hb HO_3 HR_3 HX_3 HB_3
                have y1_0 : w14.cell? ⟨w.heap.size, 0, none⟩ = some (.bool u1) := (HR_4.out.c 0).trans rfl
                have y1_1 : w14.cell? ⟨w.heap.size, 1, none⟩ = some (.int .u64 x1) := (HR_4.out.c 1).trans rfl
                have y1_2 : w14.cell? ⟨w.heap.size, 2, none⟩ = some (.int .u64 y1) := (HR_4.out.c 2).trans rfl
                have y1_3 : w14.cell? ⟨w.heap.size, 3, none⟩ = some (.bool u2) := (HR_4.out.c 3).trans rfl
                have y1_4 : w14.cell? ⟨w.heap.size, 4, none⟩ = some (.int .u64 x2) := (HR_4.out.c 4).trans rfl
                have y1_5 : w14.cell? ⟨w.heap.size, 5, none⟩ = some (.int .u64 y2) := (HR_4.out.c 5).trans rfl
                have yl1 := HR_4.out.lt
                have y2_0 : w14.cell? ⟨gx, 0, none⟩ = some (.bool v3) := (HX_4.out.c 0).trans rfl
                have y2_1 : w14.cell? ⟨gx, 1, none⟩ = some (.int .u64 h3) := (HX_4.out.c 1).trans rfl
                have y2_2 : w14.cell? ⟨gx, 2, none⟩ = some (.int .u64 l3) := (HX_4.out.c 2).trans rfl
                have y2_3 : w14.cell? ⟨gx, 3, none⟩ = some (.bool v4) := (HX_4.out.c 3).trans rfl
                have y2_4 : w14.cell? ⟨gx, 4, none⟩ = some (.int .u64 h4) := (HX_4.out.c 4).trans rfl
                have y2_5 : w14.cell? ⟨gx, 5, none⟩ = some (.int .u64 l4) := (HX_4.out.c 5).trans rfl
                have yl2 := HX_4.out.lt
                clear y1_0 y1_1 y1_2 y1_3 y1_4 y1_5 yl1 y2_0 y2_1 y2_2 y2_3 y2_4 y2_5 yl2
                obtain ⟨W16, hW16⟩ : ∃ W, W = ((w14.setCell ⟨w.heap.size, 0, none⟩ (.bool v3)).setCell ⟨w.heap.size, 1, none⟩ (.int .u64 h3)).setCell ⟨w.heap.size, 2, none⟩ (.int .u64 l3) := ⟨_, rfl⟩
                have y1_0 : w14.cell? ⟨w.heap.size, 0, none⟩ = some (.bool u1) := (HR_4.out.c 0).trans rfl
                have z1_0 := HR_4.out.f 0
                have y1_1 : w14.cell? ⟨w.heap.size, 1, none⟩ = some (.int .u64 x1) := (HR_4.out.c 1).trans rfl
                have z1_1 := HR_4.out.f 1
                have y1_2 : w14.cell? ⟨w.heap.size, 2, none⟩ = some (.int .u64 y1) := (HR_4.out.c 2).trans rfl
                have z1_2 := HR_4.out.f 2
                have y1_3 : w14.cell? ⟨w.heap.size, 3, none⟩ = some (.bool u2) := (HR_4.out.c 3).trans rfl
                have z1_3 := HR_4.out.f 3
                have y1_4 : w14.cell? ⟨w.heap.size, 4, none⟩ = some (.int .u64 x2) := (HR_4.out.c 4).trans rfl
                have z1_4 := HR_4.out.f 4
                have y1_5 : w14.cell? ⟨w.heap.size, 5, none⟩ = some (.int .u64 y2) := (HR_4.out.c 5).trans rfl
                have z1_5 := HR_4.out.f 5
                have yl1 := HR_4.out.lt
                have y2_0 : w14.cell? ⟨gx, 0, none⟩ = some (.bool v3) := (HX_4.out.c 0).trans rfl
                have y2_1 : w14.cell? ⟨gx, 1, none⟩ = some (.int .u64 h3) := (HX_4.out.c 1).trans rfl
                have y2_2 : w14.cell? ⟨gx, 2, none⟩ = some (.int .u64 l3) := (HX_4.out.c 2).trans rfl
                have y2_3 : w14.cell? ⟨gx, 3, none⟩ = some (.bool v4) := (HX_4.out.c 3).trans rfl
                have y2_4 : w14.cell? ⟨gx, 4, none⟩ = some (.int .u64 h4) := (HX_4.out.c 4).trans rfl
                have y2_5 : w14.cell? ⟨gx, 5, none⟩ = some (.int .u64 l4) := (HX_4.out.c 5).trans rfl
                have yl2 := HX_4.out.lt
                have HO_5 := Lib.hid (show OwnR W16 (w.heap.size + 1) A' n c' out from by rw [hW16]; exact ((HO_4.out.far1 (Nat.lt_succ_self _) _).far1 (Nat.lt_succ_self _) _).far1 (Nat.lt_succ_self _) _)
                have HR_5 := Lib.hid (show RB W16 w.heap.size v3 h3 l3 u2 x2 y2 from by rw [hW16]; exact HR_4.out.setLo v3 h3 l3)
                have hne := Nat.ne_of_gt Lgx.out.1
                have HX_5 := Lib.hid (show RB W16 gx v3 h3 l3 v4 h4 l4 from by rw [hW16]; exact ((HX_4.out.far hne _).far hne _).far hne _)
                have HB_5 := Lib.hid (show Below w.heap.size w W16 from by rw [hW16]; exact ((HB_4.out.setCell (p := ⟨w.heap.size, 0, none⟩) (Nat.le_refl _) _).setCell (p := ⟨w.heap.size, 1, none⟩) (Nat.le_refl _) _).setCell (p := ⟨w.heap.size, 2, none⟩) (Nat.le_refl _) _)
                have q0_0 : W16.cell? ⟨w.heap.size, 0, none⟩ = some (.bool v3) := (HR_5.out.c 0).trans rfl
                rw [hW16] at q0_0
                have q0_1 : W16.cell? ⟨w.heap.size, 1, none⟩ = some (.int .u64 h3) := (HR_5.out.c 1).trans rfl
                rw [hW16] at q0_1
                have q0_2 : W16.cell? ⟨w.heap.size, 2, none⟩ = some (.int .u64 l3) := (HR_5.out.c 2).trans rfl
                rw [hW16] at q0_2
                have q0_3 : W16.cell? ⟨w.heap.size, 3, none⟩ = some (.bool u2) := (HR_5.out.c 3).trans rfl
                rw [hW16] at q0_3
                have q0_4 : W16.cell? ⟨w.heap.size, 4, none⟩ = some (.int .u64 x2) := (HR_5.out.c 4).trans rfl
                rw [hW16] at q0_4
                have q0_5 : W16.cell? ⟨w.heap.size, 5, none⟩ = some (.int .u64 y2) := (HR_5.out.c 5).trans rfl
                rw [hW16] at q0_5
                have q1_0 : W16.cell? ⟨gx, 0, none⟩ = some (.bool v3) := (HX_5.out.c 0).trans rfl
                rw [hW16] at q1_0
                have q1_1 : W16.cell? ⟨gx, 1, none⟩ = some (.int .u64 h3) := (HX_5.out.c 1).trans rfl
                rw [hW16] at q1_1
                have q1_2 : W16.cell? ⟨gx, 2, none⟩ = some (.int .u64 l3) := (HX_5.out.c 2).trans rfl
                rw [hW16] at q1_2
                have q1_3 : W16.cell? ⟨gx, 3, none⟩ = some (.bool v4) := (HX_5.out.c 3).trans rfl
                rw [hW16] at q1_3
                have q1_4 : W16.cell? ⟨gx, 4, none⟩ = some (.int .u64 h4) := (HX_5.out.c 4).trans rfl
                rw [hW16] at q1_4
                have q1_5 : W16.cell? ⟨gx, 5, none⟩ = some (.int .u64 l4) := (HX_5.out.c 5).trans rfl
                rw [hW16] at q1_5
                go_wp2_with fail
                rw [← hW16]
                clear hW16 HO_4 HR_4 HX_4 HB_4
                clear y1_0 z1_0 y1_1 z1_1 y1_2 z1_2 y1_3 z1_3 y1_4 z1_4 y1_5 z1_5 yl1 y2_0 y2_1 y2_2 y2_3 y2_4 y2_5 yl2 q0_0 q0_1 q0_2 q0_3 q0_4 q0_5 q1_0 q1_1 q1_2 q1_3 q1_4 q1_5 hne
                refine (HT4.out _).mono ?_
                rintro e w16 ⟨rfl, hb⟩
                have HO_6 := Lib.hid (show OwnR w16 (w.heap.size + 1) A' n c' out from HO_5.out.kept hb)
                have HR_6 := Lib.hid (show RB w16 w.heap.size v3 h3 l3 u2 x2 y2 from HR_5.out.kept hb HR_5.out.lt)
                have HX_6 := Lib.hid (show RB w16 gx v3 h3 l3 v4 h4 l4 from HX_5.out.kept hb HX_5.out.lt)
                have HB_6 := Lib.hid (HB_5.out.trans (hb.mono HB_5.out.size))
                clear hb HO_5 HR_5 HX_5 HB_5
                have y1_0 : w16.cell? ⟨w.heap.size, 0, none⟩ = some (.bool v3) := (HR_6.out.c 0).trans rfl
                have y1_1 : w16.cell? ⟨w.heap.size, 1, none⟩ = some (.int .u64 h3) := (HR_6.out.c 1).trans rfl
                have y1_2 : w16.cell? ⟨w.heap.size, 2, none⟩ = some (.int .u64 l3) := (HR_6.out.c 2).trans rfl
                have y1_3 : w16.cell? ⟨w.heap.size, 3, none⟩ = some (.bool u2) := (HR_6.out.c 3).trans rfl
                have y1_4 : w16.cell? ⟨w.heap.size, 4, none⟩ = some (.int .u64 x2) := (HR_6.out.c 4).trans rfl
                have y1_5 : w16.cell? ⟨w.heap.size, 5, none⟩ = some (.int .u64 y2) := (HR_6.out.c 5).trans rfl
                have yl1 := HR_6.out.lt
                have y2_0 : w16.cell? ⟨gx, 0, none⟩ = some (.bool v3) := (HX_6.out.c 0).trans rfl
                have y2_1 : w16.cell? ⟨gx, 1, none⟩ = some (.int .u64 h3) := (HX_6.out.c 1).trans rfl
                have y2_2 : w16.cell? ⟨gx, 2, none⟩ = some (.int .u64 l3) := (HX_6.out.c 2).trans rfl
                have y2_3 : w16.cell? ⟨gx, 3, none⟩ = some (.bool v4) := (HX_6.out.c 3).trans rfl
                have y2_4 : w16.cell? ⟨gx, 4, none⟩ = some (.int .u64 h4) := (HX_6.out.c 4).trans rfl
                have y2_5 : w16.cell? ⟨gx, 5, none⟩ = some (.int .u64 l4) := (HX_6.out.c 5).trans rfl
                have yl2 := HX_6.out.lt
                clear y1_0 y1_1 y1_2 y1_3 y1_4 y1_5 yl1 y2_0 y2_1 y2_2 y2_3 y2_4 y2_5 yl2
                obtain ⟨W18, hW18⟩ : ∃ W, W = ((w16.setCell ⟨w.heap.size, 3, none⟩ (.bool v4)).setCell ⟨w.heap.size, 4, none⟩ (.int .u64 h4)).setCell ⟨w.heap.size, 5, none⟩ (.int .u64 l4) := ⟨_, rfl⟩
                have y1_0 : w16.cell? ⟨w.heap.size, 0, none⟩ = some (.bool v3) := (HR_6.out.c 0).trans rfl
                have z1_0 := HR_6.out.f 0
                have y1_1 : w16.cell? ⟨w.heap.size, 1, none⟩ = some (.int .u64 h3) := (HR_6.out.c 1).trans rfl
                have z1_1 := HR_6.out.f 1
                have y1_2 : w16.cell? ⟨w.heap.size, 2, none⟩ = some (.int .u64 l3) := (HR_6.out.c 2).trans rfl
                have z1_2 := HR_6.out.f 2
                have y1_3 : w16.cell? ⟨w.heap.size, 3, none⟩ = some (.bool u2) := (HR_6.out.c 3).trans rfl
                have z1_3 := HR_6.out.f 3
                have y1_4 : w16.cell? ⟨w.heap.size, 4, none⟩ = some (.int .u64 x2) := (HR_6.out.c 4).trans rfl
                have z1_4 := HR_6.out.f 4
                have y1_5 : w16.cell? ⟨w.heap.size, 5, none⟩ = some (.int .u64 y2) := (HR_6.out.c 5).trans rfl
                have z1_5 := HR_6.out.f 5
                have yl1 := HR_6.out.lt
                have y2_0 : w16.cell? ⟨gx, 0, none⟩ = some (.bool v3) := (HX_6.out.c 0).trans rfl
                have y2_1 : w16.cell? ⟨gx, 1, none⟩ = some (.int .u64 h3) := (HX_6.out.c 1).trans rfl
                have y2_2 : w16.cell? ⟨gx, 2, none⟩ = some (.int .u64 l3) := (HX_6.out.c 2).trans rfl
                have y2_3 : w16.cell? ⟨gx, 3, none⟩ = some (.bool v4) := (HX_6.out.c 3).trans rfl
                have y2_4 : w16.cell? ⟨gx, 4, none⟩ = some (.int .u64 h4) := (HX_6.out.c 4).trans rfl
                have y2_5 : w16.cell? ⟨gx, 5, none⟩ = some (.int .u64 l4) := (HX_6.out.c 5).trans rfl
                have yl2 := HX_6.out.lt
                have HO_7 := Lib.hid (show OwnR W18 (w.heap.size + 1) A' n c' out from by rw [hW18]; exact ((HO_6.out.far1 (Nat.lt_succ_self _) _).far1 (Nat.lt_succ_self _) _).far1 (Nat.lt_succ_self _) _)
                have HR_7 := Lib.hid (show RB W18 w.heap.size v3 h3 l3 v4 h4 l4 from by rw [hW18]; exact HR_6.out.setHi v4 h4 l4)
                have hne := Nat.ne_of_gt Lgx.out.1
                have HX_7 := Lib.hid (show RB W18 gx v3 h3 l3 v4 h4 l4 from by rw [hW18]; exact ((HX_6.out.far hne _).far hne _).far hne _)
                have HB_7 := Lib.hid (show Below w.heap.size w W18 from by rw [hW18]; exact ((HB_6.out.setCell (p := ⟨w.heap.size, 3, none⟩) (Nat.le_refl _) _).setCell (p := ⟨w.heap.size, 4, none⟩) (Nat.le_refl _) _).setCell (p := ⟨w.heap.size, 5, none⟩) (Nat.le_refl _) _)
                have q0_0 : W18.cell? ⟨w.heap.size, 0, none⟩ = some (.bool v3) := (HR_7.out.c 0).trans rfl
                rw [hW18] at q0_0
                have q0_1 : W18.cell? ⟨w.heap.size, 1, none⟩ = some (.int .u64 h3) := (HR_7.out.c 1).trans rfl
                rw [hW18] at q0_1
                have q0_2 : W18.cell? ⟨w.heap.size, 2, none⟩ = some (.int .u64 l3) := (HR_7.out.c 2).trans rfl
                rw [hW18] at q0_2
                have q0_3 : W18.cell? ⟨w.heap.size, 3, none⟩ = some (.bool v4) := (HR_7.out.c 3).trans rfl
                rw [hW18] at q0_3
                have q0_4 : W18.cell? ⟨w.heap.size, 4, none⟩ = some (.int .u64 h4) := (HR_7.out.c 4).trans rfl
                rw [hW18] at q0_4
                have q0_5 : W18.cell? ⟨w.heap.size, 5, none⟩ = some (.int .u64 l4) := (HR_7.out.c 5).trans rfl
                rw [hW18] at q0_5
                have q1_0 : W18.cell? ⟨gx, 0, none⟩ = some (.bool v3) := (HX_7.out.c 0).trans rfl
                rw [hW18] at q1_0
                have q1_1 : W18.cell? ⟨gx, 1, none⟩ = some (.int .u64 h3) := (HX_7.out.c 1).trans rfl
                rw [hW18] at q1_1
                have q1_2 : W18.cell? ⟨gx, 2, none⟩ = some (.int .u64 l3) := (HX_7.out.c 2).trans rfl
                rw [hW18] at q1_2
                have q1_3 : W18.cell? ⟨gx, 3, none⟩ = some (.bool v4) := (HX_7.out.c 3).trans rfl
                rw [hW18] at q1_3
                have q1_4 : W18.cell? ⟨gx, 4, none⟩ = some (.int .u64 h4) := (HX_7.out.c 4).trans rfl
                rw [hW18] at q1_4
                have q1_5 : W18.cell? ⟨gx, 5, none⟩ = some (.int .u64 l4) := (HX_7.out.c 5).trans rfl
                rw [hW18] at q1_5
                go_wp2_with fail
                rw [← hW18]
                clear hW18 HO_6 HR_6 HX_6 HB_6
                clear y1_0 z1_0 y1_1 z1_1 y1_2 z1_2 y1_3 z1_3 y1_4 z1_4 y1_5 z1_5 yl1 y2_0 y2_1 y2_2 y2_3 y2_4 y2_5 yl2 q0_0 q0_1 q0_2 q0_3 q0_4 q0_5 q1_0 q1_1 q1_2 q1_3 q1_4 q1_5 hne
                go_roundw
                case rel => exact ⟨k + 1, n, c', A', out, false, v3, h3, l3, v4, h4, l4, by omega, by omega, by go_num, rfl, rfl, Lib.hid (fun _ => by omega), Lib.hid (HMG.out hP1.out hP2.out ⟨v3, h3, l3⟩ ⟨v4, h4, l4⟩ (by rw [if_pos (by have := hB1.out; omega)]) (by rw [if_pos (by have := hB2.out; omega)])), HB_7, HO_7, HR_7⟩
                case measure => simp [intOf]; omega
              · rw [decide_eq_false b2] at HT4
                clear t2
                have hB1 := Lib.hid b1; have hB2 := Lib.hid b2; have hP1 := Lib.hid hp1; have hP2 := Lib.hid hp2
                clear t1 hx4 hr4 HAP1 HAP2 b1 b2 hp1 hp2
                have y1_0 : wr.cell? ⟨w.heap.size, 0, none⟩ = some (.bool u1) := (HR.out.c 0).trans rfl
                have y1_1 : wr.cell? ⟨w.heap.size, 1, none⟩ = some (.int .u64 x1) := (HR.out.c 1).trans rfl
                have y1_2 : wr.cell? ⟨w.heap.size, 2, none⟩ = some (.int .u64 y1) := (HR.out.c 2).trans rfl
                have y1_3 : wr.cell? ⟨w.heap.size, 3, none⟩ = some (.bool u2) := (HR.out.c 3).trans rfl
                have y1_4 : wr.cell? ⟨w.heap.size, 4, none⟩ = some (.int .u64 x2) := (HR.out.c 4).trans rfl
                have y1_5 : wr.cell? ⟨w.heap.size, 5, none⟩ = some (.int .u64 y2) := (HR.out.c 5).trans rfl
                have yl1 := HR.out.lt
                go_wp2_with fail
                clear y1_0 y1_1 y1_2 y1_3 y1_4 y1_5 yl1 c0 c1 c2 c3 c4 c5
                obtain ⟨W12, hW12⟩ : ∃ W, W = wr.alloc (.cells #[.bool v3, .int .u64 h3, .int .u64 l3, .bool v4, .int .u64 h4, .int .u64 l4] 43) := ⟨_, rfl⟩
                obtain ⟨gx, hgx⟩ : ∃ g, g = wr.heap.size := ⟨_, rfl⟩
                have HO_1 := Lib.hid (show OwnR W12 (w.heap.size + 1) A' n c' out from by rw [hW12]; exact HO.out.al _)
                have HR_1 := Lib.hid (show RB W12 w.heap.size u1 x1 y1 u2 x2 y2 from by rw [hW12]; exact HR.out.al _)
                have Lgx := Lib.hid (show w.heap.size < gx ∧ w.heap.size ≤ gx from by rw [hgx]; exact ⟨HR.out.lt, HB.out.size⟩)
                have HX := Lib.hid (show RB W12 gx v3 h3 l3 v4 h4 l4 from by rw [hW12, hgx]; exact rb_new wr v3 h3 l3 v4 h4 l4)
                have HB_1 := Lib.hid (show Below w.heap.size w W12 by rw [hW12]; exact HB.out.alloc HB.out.size _)
                clear HO HR HB
                rw [← hW12, ← hgx]
                clear hW12 hgx
                have y1_0 : W12.cell? ⟨w.heap.size, 0, none⟩ = some (.bool u1) := (HR_1.out.c 0).trans rfl
                have y1_1 : W12.cell? ⟨w.heap.size, 1, none⟩ = some (.int .u64 x1) := (HR_1.out.c 1).trans rfl
                have y1_2 : W12.cell? ⟨w.heap.size, 2, none⟩ = some (.int .u64 y1) := (HR_1.out.c 2).trans rfl
                have y1_3 : W12.cell? ⟨w.heap.size, 3, none⟩ = some (.bool u2) := (HR_1.out.c 3).trans rfl
                have y1_4 : W12.cell? ⟨w.heap.size, 4, none⟩ = some (.int .u64 x2) := (HR_1.out.c 4).trans rfl
                have y1_5 : W12.cell? ⟨w.heap.size, 5, none⟩ = some (.int .u64 y2) := (HR_1.out.c 5).trans rfl
                have yl1 := HR_1.out.lt
                have y2_0 : W12.cell? ⟨gx, 0, none⟩ = some (.bool v3) := (HX.out.c 0).trans rfl
                have y2_1 : W12.cell? ⟨gx, 1, none⟩ = some (.int .u64 h3) := (HX.out.c 1).trans rfl
                have y2_2 : W12.cell? ⟨gx, 2, none⟩ = some (.int .u64 l3) := (HX.out.c 2).trans rfl
                have y2_3 : W12.cell? ⟨gx, 3, none⟩ = some (.bool v4) := (HX.out.c 3).trans rfl
                have y2_4 : W12.cell? ⟨gx, 4, none⟩ = some (.int .u64 h4) := (HX.out.c 4).trans rfl
                have y2_5 : W12.cell? ⟨gx, 5, none⟩ = some (.int .u64 l4) := (HX.out.c 5).trans rfl
                have yl2 := HX.out.lt
                clear y1_0 y1_1 y1_2 y1_3 y1_4 y1_5 yl1 y2_0 y2_1 y2_2 y2_3 y2_4 y2_5 yl2
                refine (HT1.out _).mono ?_
                rintro e w12 ⟨rfl, hb⟩
                have HO_2 := Lib.hid (show OwnR w12 (w.heap.size + 1) A' n c' out from HO_1.out.kept hb)
                have HR_2 := Lib.hid (show RB w12 w.heap.size u1 x1 y1 u2 x2 y2 from HR_1.out.kept hb HR_1.out.lt)
                have HX_2 := Lib.hid (show RB w12 gx v3 h3 l3 v4 h4 l4 from HX.out.kept hb HX.out.lt)
                have HB_2 := Lib.hid (HB_1.out.trans (hb.mono HB_1.out.size))
                clear hb HO_1 HR_1 HX HB_1
                have y1_0 : w12.cell? ⟨w.heap.size, 0, none⟩ = some (.bool u1) := (HR_2.out.c 0).trans rfl
                have y1_1 : w12.cell? ⟨w.heap.size, 1, none⟩ = some (.int .u64 x1) := (HR_2.out.c 1).trans rfl
                have y1_2 : w12.cell? ⟨w.heap.size, 2, none⟩ = some (.int .u64 y1) := (HR_2.out.c 2).trans rfl
                have y1_3 : w12.cell? ⟨w.heap.size, 3, none⟩ = some (.bool u2) := (HR_2.out.c 3).trans rfl
                have y1_4 : w12.cell? ⟨w.heap.size, 4, none⟩ = some (.int .u64 x2) := (HR_2.out.c 4).trans rfl
                have y1_5 : w12.cell? ⟨w.heap.size, 5, none⟩ = some (.int .u64 y2) := (HR_2.out.c 5).trans rfl
                have yl1 := HR_2.out.lt
                have y2_0 : w12.cell? ⟨gx, 0, none⟩ = some (.bool v3) := (HX_2.out.c 0).trans rfl
                have y2_1 : w12.cell? ⟨gx, 1, none⟩ = some (.int .u64 h3) := (HX_2.out.c 1).trans rfl
                have y2_2 : w12.cell? ⟨gx, 2, none⟩ = some (.int .u64 l3) := (HX_2.out.c 2).trans rfl
                have y2_3 : w12.cell? ⟨gx, 3, none⟩ = some (.bool v4) := (HX_2.out.c 3).trans rfl
                have y2_4 : w12.cell? ⟨gx, 4, none⟩ = some (.int .u64 h4) := (HX_2.out.c 4).trans rfl
                have y2_5 : w12.cell? ⟨gx, 5, none⟩ = some (.int .u64 l4) := (HX_2.out.c 5).trans rfl
                have yl2 := HX_2.out.lt
                go_wp2_with fail
                clear y1_0 y1_1 y1_2 y1_3 y1_4 y1_5 yl1 y2_0 y2_1 y2_2 y2_3 y2_4 y2_5 yl2
                refine (HT2.out _).mono ?_
                rintro e w13 ⟨rfl, hb⟩
                have HO_3 := Lib.hid (show OwnR w13 (w.heap.size + 1) A' n c' out from HO_2.out.kept hb)
                have HR_3 := Lib.hid (show RB w13 w.heap.size u1 x1 y1 u2 x2 y2 from HR_2.out.kept hb HR_2.out.lt)
                have HX_3 := Lib.hid (show RB w13 gx v3 h3 l3 v4 h4 l4 from HX_2.out.kept hb HX_2.out.lt)
                have HB_3 := Lib.hid (HB_2.out.trans (hb.mono HB_2.out.size))
                clear hb HO_2 HR_2 HX_2 HB_2
                have y1_0 : w13.cell? ⟨w.heap.size, 0, none⟩ = some (.bool u1) := (HR_3.out.c 0).trans rfl
                have y1_1 : w13.cell? ⟨w.heap.size, 1, none⟩ = some (.int .u64 x1) := (HR_3.out.c 1).trans rfl
                have y1_2 : w13.cell? ⟨w.heap.size, 2, none⟩ = some (.int .u64 y1) := (HR_3.out.c 2).trans rfl
                have y1_3 : w13.cell? ⟨w.heap.size, 3, none⟩ = some (.bool u2) := (HR_3.out.c 3).trans rfl
                have y1_4 : w13.cell? ⟨w.heap.size, 4, none⟩ = some (.int .u64 x2) := (HR_3.out.c 4).trans rfl
                have y1_5 : w13.cell? ⟨w.heap.size, 5, none⟩ = some (.int .u64 y2) := (HR_3.out.c 5).trans rfl
                have yl1 := HR_3.out.lt
                have y2_0 : w13.cell? ⟨gx, 0, none⟩ = some (.bool v3) := (HX_3.out.c 0).trans rfl
                have y2_1 : w13.cell? ⟨gx, 1, none⟩ = some (.int .u64 h3) := (HX_3.out.c 1).trans rfl
                have y2_2 : w13.cell? ⟨gx, 2, none⟩ = some (.int .u64 l3) := (HX_3.out.c 2).trans rfl
                have y2_3 : w13.cell? ⟨gx, 3, none⟩ = some (.bool v4) := (HX_3.out.c 3).trans rfl
                have y2_4 : w13.cell? ⟨gx, 4, none⟩ = some (.int .u64 h4) := (HX_3.out.c 4).trans rfl
                have y2_5 : w13.cell? ⟨gx, 5, none⟩ = some (.int .u64 l4) := (HX_3.out.c 5).trans rfl
                have yl2 := HX_3.out.lt
                go_wp2_with fail
                clear y1_0 y1_1 y1_2 y1_3 y1_4 y1_5 yl1 y2_0 y2_1 y2_2 y2_3 y2_4 y2_5 yl2
                refine (HT3.out _).mono ?_
                rintro e w14 ⟨rfl, hb⟩
                have HO_4 := Lib.hid (show OwnR w14 (w.heap.size + 1) A' n c' out from HO_3.out.kept hb)
                have HR_4 := Lib.hid (show RB w14 w.heap.size u1 x1 y1 u2 x2 y2 from HR_3.out.kept hb HR_3.out.lt)
                have HX_4 := Lib.hid (show RB w14 gx v3 h3 l3 v4 h4 l4 from HX_3.out.kept hb HX_3.out.lt)
                have HB_4 := Lib.hid (HB_3.out.trans (hb.mono HB_3.out.size))
                clear hb HO_3 HR_3 HX_3 HB_3
                have y1_0 : w14.cell? ⟨w.heap.size, 0, none⟩ = some (.bool u1) := (HR_4.out.c 0).trans rfl
                have y1_1 : w14.cell? ⟨w.heap.size, 1, none⟩ = some (.int .u64 x1) := (HR_4.out.c 1).trans rfl
                have y1_2 : w14.cell? ⟨w.heap.size, 2, none⟩ = some (.int .u64 y1) := (HR_4.out.c 2).trans rfl
                have y1_3 : w14.cell? ⟨w.heap.size, 3, none⟩ = some (.bool u2) := (HR_4.out.c 3).trans rfl
                have y1_4 : w14.cell? ⟨w.heap.size, 4, none⟩ = some (.int .u64 x2) := (HR_4.out.c 4).trans rfl
                have y1_5 : w14.cell? ⟨w.heap.size, 5, none⟩ = some (.int .u64 y2) := (HR_4.out.c 5).trans rfl
                have yl1 := HR_4.out.lt
                have y2_0 : w14.cell? ⟨gx, 0, none⟩ = some (.bool v3) := (HX_4.out.c 0).trans rfl
                have y2_1 : w14.cell? ⟨gx, 1, none⟩ = some (.int .u64 h3) := (HX_4.out.c 1).trans rfl
                have y2_2 : w14.cell? ⟨gx, 2, none⟩ = some (.int .u64 l3) := (HX_4.out.c 2).trans rfl
                have y2_3 : w14.cell? ⟨gx, 3, none⟩ = some (.bool v4) := (HX_4.out.c 3).trans rfl
                have y2_4 : w14.cell? ⟨gx, 4, none⟩ = some (.int .u64 h4) := (HX_4.out.c 4).trans rfl
                have y2_5 : w14.cell? ⟨gx, 5, none⟩ = some (.int .u64 l4) := (HX_4.out.c 5).trans rfl
                have yl2 := HX_4.out.lt
                clear y1_0 y1_1 y1_2 y1_3 y1_4 y1_5 yl1 y2_0 y2_1 y2_2 y2_3 y2_4 y2_5 yl2
                obtain ⟨W16, hW16⟩ : ∃ W, W = ((w14.setCell ⟨w.heap.size, 0, none⟩ (.bool v3)).setCell ⟨w.heap.size, 1, none⟩ (.int .u64 h3)).setCell ⟨w.heap.size, 2, none⟩ (.int .u64 l3) := ⟨_, rfl⟩
                have y1_0 : w14.cell? ⟨w.heap.size, 0, none⟩ = some (.bool u1) := (HR_4.out.c 0).trans rfl
                have z1_0 := HR_4.out.f 0
                have y1_1 : w14.cell? ⟨w.heap.size, 1, none⟩ = some (.int .u64 x1) := (HR_4.out.c 1).trans rfl
                have z1_1 := HR_4.out.f 1
                have y1_2 : w14.cell? ⟨w.heap.size, 2, none⟩ = some (.int .u64 y1) := (HR_4.out.c 2).trans rfl
                have z1_2 := HR_4.out.f 2
                have y1_3 : w14.cell? ⟨w.heap.size, 3, none⟩ = some (.bool u2) := (HR_4.out.c 3).trans rfl
                have z1_3 := HR_4.out.f 3
                have y1_4 : w14.cell? ⟨w.heap.size, 4, none⟩ = some (.int .u64 x2) := (HR_4.out.c 4).trans rfl
                have z1_4 := HR_4.out.f 4
                have y1_5 : w14.cell? ⟨w.heap.size, 5, none⟩ = some (.int .u64 y2) := (HR_4.out.c 5).trans rfl
                have z1_5 := HR_4.out.f 5
                have yl1 := HR_4.out.lt
                have y2_0 : w14.cell? ⟨gx, 0, none⟩ = some (.bool v3) := (HX_4.out.c 0).trans rfl
                have y2_1 : w14.cell? ⟨gx, 1, none⟩ = some (.int .u64 h3) := (HX_4.out.c 1).trans rfl
                have y2_2 : w14.cell? ⟨gx, 2, none⟩ = some (.int .u64 l3) := (HX_4.out.c 2).trans rfl
                have y2_3 : w14.cell? ⟨gx, 3, none⟩ = some (.bool v4) := (HX_4.out.c 3).trans rfl
                have y2_4 : w14.cell? ⟨gx, 4, none⟩ = some (.int .u64 h4) := (HX_4.out.c 4).trans rfl
                have y2_5 : w14.cell? ⟨gx, 5, none⟩ = some (.int .u64 l4) := (HX_4.out.c 5).trans rfl
                have yl2 := HX_4.out.lt
                have HO_5 := Lib.hid (show OwnR W16 (w.heap.size + 1) A' n c' out from by rw [hW16]; exact ((HO_4.out.far1 (Nat.lt_succ_self _) _).far1 (Nat.lt_succ_self _) _).far1 (Nat.lt_succ_self _) _)
                have HR_5 := Lib.hid (show RB W16 w.heap.size v3 h3 l3 u2 x2 y2 from by rw [hW16]; exact HR_4.out.setLo v3 h3 l3)
                have hne := Nat.ne_of_gt Lgx.out.1
                have HX_5 := Lib.hid (show RB W16 gx v3 h3 l3 v4 h4 l4 from by rw [hW16]; exact ((HX_4.out.far hne _).far hne _).far hne _)
                have HB_5 := Lib.hid (show Below w.heap.size w W16 from by rw [hW16]; exact ((HB_4.out.setCell (p := ⟨w.heap.size, 0, none⟩) (Nat.le_refl _) _).setCell (p := ⟨w.heap.size, 1, none⟩) (Nat.le_refl _) _).setCell (p := ⟨w.heap.size, 2, none⟩) (Nat.le_refl _) _)
                have q0_0 : W16.cell? ⟨w.heap.size, 0, none⟩ = some (.bool v3) := (HR_5.out.c 0).trans rfl
                rw [hW16] at q0_0
                have q0_1 : W16.cell? ⟨w.heap.size, 1, none⟩ = some (.int .u64 h3) := (HR_5.out.c 1).trans rfl
                rw [hW16] at q0_1
                have q0_2 : W16.cell? ⟨w.heap.size, 2, none⟩ = some (.int .u64 l3) := (HR_5.out.c 2).trans rfl
                rw [hW16] at q0_2
                have q0_3 : W16.cell? ⟨w.heap.size, 3, none⟩ = some (.bool u2) := (HR_5.out.c 3).trans rfl
                rw [hW16] at q0_3
                have q0_4 : W16.cell? ⟨w.heap.size, 4, none⟩ = some (.int .u64 x2) := (HR_5.out.c 4).trans rfl
                rw [hW16] at q0_4
                have q0_5 : W16.cell? ⟨w.heap.size, 5, none⟩ = some (.int .u64 y2) := (HR_5.out.c 5).trans rfl
                rw [hW16] at q0_5
                have q1_0 : W16.cell? ⟨gx, 0, none⟩ = some (.bool v3) := (HX_5.out.c 0).trans rfl
                rw [hW16] at q1_0
                have q1_1 : W16.cell? ⟨gx, 1, none⟩ = some (.int .u64 h3) := (HX_5.out.c 1).trans rfl
                rw [hW16] at q1_1
                have q1_2 : W16.cell? ⟨gx, 2, none⟩ = some (.int .u64 l3) := (HX_5.out.c 2).trans rfl
                rw [hW16] at q1_2
                have q1_3 : W16.cell? ⟨gx, 3, none⟩ = some (.bool v4) := (HX_5.out.c 3).trans rfl
                rw [hW16] at q1_3
                have q1_4 : W16.cell? ⟨gx, 4, none⟩ = some (.int .u64 h4) := (HX_5.out.c 4).trans rfl
                rw [hW16] at q1_4
                have q1_5 : W16.cell? ⟨gx, 5, none⟩ = some (.int .u64 l4) := (HX_5.out.c 5).trans rfl
                rw [hW16] at q1_5
                go_wp2_with fail
                rw [← hW16]
                clear hW16 HO_4 HR_4 HX_4 HB_4
                clear y1_0 z1_0 y1_1 z1_1 y1_2 z1_2 y1_3 z1_3 y1_4 z1_4 y1_5 z1_5 yl1 y2_0 y2_1 y2_2 y2_3 y2_4 y2_5 yl2 q0_0 q0_1 q0_2 q0_3 q0_4 q0_5 q1_0 q1_1 q1_2 q1_3 q1_4 q1_5 hne
                refine (HT4.out _).mono ?_
                rintro e w16 ⟨rfl, hb⟩
                have HO_6 := Lib.hid (show OwnR w16 (w.heap.size + 1) A' n c' out from HO_5.out.kept hb)
                have HR_6 := Lib.hid (show RB w16 w.heap.size v3 h3 l3 u2 x2 y2 from HR_5.out.kept hb HR_5.out.lt)
                have HX_6 := Lib.hid (show RB w16 gx v3 h3 l3 v4 h4 l4 from HX_5.out.kept hb HX_5.out.lt)
                have HB_6 := Lib.hid (HB_5.out.trans (hb.mono HB_5.out.size))
                clear hb HO_5 HR_5 HX_5 HB_5
                have y1_0 : w16.cell? ⟨w.heap.size, 0, none⟩ = some (.bool v3) := (HR_6.out.c 0).trans rfl
                have y1_1 : w16.cell? ⟨w.heap.size, 1, none⟩ = some (.int .u64 h3) := (HR_6.out.c 1).trans rfl
                have y1_2 : w16.cell? ⟨w.heap.size, 2, none⟩ = some (.int .u64 l3) := (HR_6.out.c 2).trans rfl
                have y1_3 : w16.cell? ⟨w.heap.size, 3, none⟩ = some (.bool u2) := (HR_6.out.c 3).trans rfl
                have y1_4 : w16.cell? ⟨w.heap.size, 4, none⟩ = some (.int .u64 x2) := (HR_6.out.c 4).trans rfl
                have y1_5 : w16.cell? ⟨w.heap.size, 5, none⟩ = some (.int .u64 y2) := (HR_6.out.c 5).trans rfl
                have yl1 := HR_6.out.lt
                have y2_0 : w16.cell? ⟨gx, 0, none⟩ = some (.bool v3) := (HX_6.out.c 0).trans rfl
                have y2_1 : w16.cell? ⟨gx, 1, none⟩ = some (.int .u64 h3) := (HX_6.out.c 1).trans rfl
                have y2_2 : w16.cell? ⟨gx, 2, none⟩ = some (.int .u64 l3) := (HX_6.out.c 2).trans rfl
                have y2_3 : w16.cell? ⟨gx, 3, none⟩ = some (.bool v4) := (HX_6.out.c 3).trans rfl
                have y2_4 : w16.cell? ⟨gx, 4, none⟩ = some (.int .u64 h4) := (HX_6.out.c 4).trans rfl
                have y2_5 : w16.cell? ⟨gx, 5, none⟩ = some (.int .u64 l4) := (HX_6.out.c 5).trans rfl
                have yl2 := HX_6.out.lt
                go_wp2_with fail
                clear y1_0 y1_1 y1_2 y1_3 y1_4 y1_5 yl1 y2_0 y2_1 y2_2 y2_3 y2_4 y2_5 yl2
                go_roundw
                case rel => exact ⟨k + 1, n, c', A', out, false, v3, h3, l3, u2, x2, y2, by omega, by omega, by go_num, rfl, rfl, Lib.hid (fun _ => by omega), Lib.hid (HMG.out hP1.out hP2.out ⟨v3, h3, l3⟩ ⟨u2, x2, y2⟩ (by rw [if_pos (by have := hB1.out; omega)]) (by rw [if_neg (by have := hB2.out; omega)])), HB_6, HO_6, HR_6⟩
                case measure => simp [intOf]; omega
            · rw [decide_eq_false b1] at HT3
              by_cases b2 : kA ⟨u2, x2, y2⟩ < kA ⟨v4, h4, l4⟩
              · rw [decide_eq_true b2] at HT4
                clear t2
                have hB1 := Lib.hid b1; have hB2 := Lib.hid b2; have hP1 := Lib.hid hp1; have hP2 := Lib.hid hp2
                clear t1 hx4 hr4 HAP1 HAP2 b1 b2 hp1 hp2
                have y1_0 : wr.cell? ⟨w.heap.size, 0, none⟩ = some (.bool u1) := (HR.out.c 0).trans rfl
                have y1_1 : wr.cell? ⟨w.heap.size, 1, none⟩ = some (.int .u64 x1) := (HR.out.c 1).trans rfl
                have y1_2 : wr.cell? ⟨w.heap.size, 2, none⟩ = some (.int .u64 y1) := (HR.out.c 2).trans rfl
                have y1_3 : wr.cell? ⟨w.heap.size, 3, none⟩ = some (.bool u2) := (HR.out.c 3).trans rfl
                have y1_4 : wr.cell? ⟨w.heap.size, 4, none⟩ = some (.int .u64 x2) := (HR.out.c 4).trans rfl
                have y1_5 : wr.cell? ⟨w.heap.size, 5, none⟩ = some (.int .u64 y2) := (HR.out.c 5).trans rfl
                have yl1 := HR.out.lt
                go_wp2_with fail
                clear y1_0 y1_1 y1_2 y1_3 y1_4 y1_5 yl1 c0 c1 c2 c3 c4 c5
                obtain ⟨W12, hW12⟩ : ∃ W, W = wr.alloc (.cells #[.bool v3, .int .u64 h3, .int .u64 l3, .bool v4, .int .u64 h4, .int .u64 l4] 43) := ⟨_, rfl⟩
                obtain ⟨gx, hgx⟩ : ∃ g, g = wr.heap.size := ⟨_, rfl⟩
                have HO_1 := Lib.hid (show OwnR W12 (w.heap.size + 1) A' n c' out from by rw [hW12]; exact HO.out.al _)
                have HR_1 := Lib.hid (show RB W12 w.heap.size u1 x1 y1 u2 x2 y2 from by rw [hW12]; exact HR.out.al _)
                have Lgx := Lib.hid (show w.heap.size < gx ∧ w.heap.size ≤ gx from by rw [hgx]; exact ⟨HR.out.lt, HB.out.size⟩)
                have HX := Lib.hid (show RB W12 gx v3 h3 l3 v4 h4 l4 from by rw [hW12, hgx]; exact rb_new wr v3 h3 l3 v4 h4 l4)
                have HB_1 := Lib.hid (show Below w.heap.size w W12 by rw [hW12]; exact HB.out.alloc HB.out.size _)
                clear HO HR HB
                rw [← hW12, ← hgx]
                clear hW12 hgx
                have y1_0 : W12.cell? ⟨w.heap.size, 0, none⟩ = some (.bool u1) := (HR_1.out.c 0).trans rfl
                have y1_1 : W12.cell? ⟨w.heap.size, 1, none⟩ = some (.int .u64 x1) := (HR_1.out.c 1).trans rfl
                have y1_2 : W12.cell? ⟨w.heap.size, 2, none⟩ = some (.int .u64 y1) := (HR_1.out.c 2).trans rfl
                have y1_3 : W12.cell? ⟨w.heap.size, 3, none⟩ = some (.bool u2) := (HR_1.out.c 3).trans rfl
                have y1_4 : W12.cell? ⟨w.heap.size, 4, none⟩ = some (.int .u64 x2) := (HR_1.out.c 4).trans rfl
                have y1_5 : W12.cell? ⟨w.heap.size, 5, none⟩ = some (.int .u64 y2) := (HR_1.out.c 5).trans rfl
                have yl1 := HR_1.out.lt
                have y2_0 : W12.cell? ⟨gx, 0, none⟩ = some (.bool v3) := (HX.out.c 0).trans rfl
                have y2_1 : W12.cell? ⟨gx, 1, none⟩ = some (.int .u64 h3) := (HX.out.c 1).trans rfl
                have y2_2 : W12.cell? ⟨gx, 2, none⟩ = some (.int .u64 l3) := (HX.out.c 2).trans rfl
                have y2_3 : W12.cell? ⟨gx, 3, none⟩ = some (.bool v4) := (HX.out.c 3).trans rfl
                have y2_4 : W12.cell? ⟨gx, 4, none⟩ = some (.int .u64 h4) := (HX.out.c 4).trans rfl
                have y2_5 : W12.cell? ⟨gx, 5, none⟩ = some (.int .u64 l4) := (HX.out.c 5).trans rfl
                have yl2 := HX.out.lt
                clear y1_0 y1_1 y1_2 y1_3 y1_4 y1_5 yl1 y2_0 y2_1 y2_2 y2_3 y2_4 y2_5 yl2
                refine (HT1.out _).mono ?_
                rintro e w12 ⟨rfl, hb⟩
                have HO_2 := Lib.hid (show OwnR w12 (w.heap.size + 1) A' n c' out from HO_1.out.kept hb)
                have HR_2 := Lib.hid (show RB w12 w.heap.size u1 x1 y1 u2 x2 y2 from HR_1.out.kept hb HR_1.out.lt)
                have HX_2 := Lib.hid (show RB w12 gx v3 h3 l3 v4 h4 l4 from HX.out.kept hb HX.out.lt)
                have HB_2 := Lib.hid (HB_1.out.trans (hb.mono HB_1.out.size))
                clear hb HO_1 HR_1 HX HB_1
                have y1_0 : w12.cell? ⟨w.heap.size, 0, none⟩ = some (.bool u1) := (HR_2.out.c 0).trans rfl
                have y1_1 : w12.cell? ⟨w.heap.size, 1, none⟩ = some (.int .u64 x1) := (HR_2.out.c 1).trans rfl
                have y1_2 : w12.cell? ⟨w.heap.size, 2, none⟩ = some (.int .u64 y1) := (HR_2.out.c 2).trans rfl
                have y1_3 : w12.cell? ⟨w.heap.size, 3, none⟩ = some (.bool u2) := (HR_2.out.c 3).trans rfl
                have y1_4 : w12.cell? ⟨w.heap.size, 4, none⟩ = some (.int .u64 x2) := (HR_2.out.c 4).trans rfl
                have y1_5 : w12.cell? ⟨w.heap.size, 5, none⟩ = some (.int .u64 y2) := (HR_2.out.c 5).trans rfl
                have yl1 := HR_2.out.lt
                have y2_0 : w12.cell? ⟨gx, 0, none⟩ = some (.bool v3) := (HX_2.out.c 0).trans rfl
                have y2_1 : w12.cell? ⟨gx, 1, none⟩ = some (.int .u64 h3) := (HX_2.out.c 1).trans rfl
                have y2_2 : w12.cell? ⟨gx, 2, none⟩ = some (.int .u64 l3) := (HX_2.out.c 2).trans rfl
                have y2_3 : w12.cell? ⟨gx, 3, none⟩ = some (.bool v4) := (HX_2.out.c 3).trans rfl
                have y2_4 : w12.cell? ⟨gx, 4, none⟩ = some (.int .u64 h4) := (HX_2.out.c 4).trans rfl
                have y2_5 : w12.cell? ⟨gx, 5, none⟩ = some (.int .u64 l4) := (HX_2.out.c 5).trans rfl
                have yl2 := HX_2.out.lt
                go_wp2_with fail
                clear y1_0 y1_1 y1_2 y1_3 y1_4 y1_5 yl1 y2_0 y2_1 y2_2 y2_3 y2_4 y2_5 yl2
                refine (HT2.out _).mono ?_
                rintro e w13 ⟨rfl, hb⟩
                have HO_3 := Lib.hid (show OwnR w13 (w.heap.size + 1) A' n c' out from HO_2.out.kept hb)
                have HR_3 := Lib.hid (show RB w13 w.heap.size u1 x1 y1 u2 x2 y2 from HR_2.out.kept hb HR_2.out.lt)
                have HX_3 := Lib.hid (show RB w13 gx v3 h3 l3 v4 h4 l4 from HX_2.out.kept hb HX_2.out.lt)
                have HB_3 := Lib.hid (HB_2.out.trans (hb.mono HB_2.out.size))
                clear hb HO_2 HR_2 HX_2 HB_2
                have y1_0 : w13.cell? ⟨w.heap.size, 0, none⟩ = some (.bool u1) := (HR_3.out.c 0).trans rfl
                have y1_1 : w13.cell? ⟨w.heap.size, 1, none⟩ = some (.int .u64 x1) := (HR_3.out.c 1).trans rfl
                have y1_2 : w13.cell? ⟨w.heap.size, 2, none⟩ = some (.int .u64 y1) := (HR_3.out.c 2).trans rfl
                have y1_3 : w13.cell? ⟨w.heap.size, 3, none⟩ = some (.bool u2) := (HR_3.out.c 3).trans rfl
                have y1_4 : w13.cell? ⟨w.heap.size, 4, none⟩ = some (.int .u64 x2) := (HR_3.out.c 4).trans rfl
                have y1_5 : w13.cell? ⟨w.heap.size, 5, none⟩ = some (.int .u64 y2) := (HR_3.out.c 5).trans rfl
                have yl1 := HR_3.out.lt
                have y2_0 : w13.cell? ⟨gx, 0, none⟩ = some (.bool v3) := (HX_3.out.c 0).trans rfl
                have y2_1 : w13.cell? ⟨gx, 1, none⟩ = some (.int .u64 h3) := (HX_3.out.c 1).trans rfl
                have y2_2 : w13.cell? ⟨gx, 2, none⟩ = some (.int .u64 l3) := (HX_3.out.c 2).trans rfl
                have y2_3 : w13.cell? ⟨gx, 3, none⟩ = some (.bool v4) := (HX_3.out.c 3).trans rfl
                have y2_4 : w13.cell? ⟨gx, 4, none⟩ = some (.int .u64 h4) := (HX_3.out.c 4).trans rfl
                have y2_5 : w13.cell? ⟨gx, 5, none⟩ = some (.int .u64 l4) := (HX_3.out.c 5).trans rfl
                have yl2 := HX_3.out.lt
                go_wp2_with fail
                clear y1_0 y1_1 y1_2 y1_3 y1_4 y1_5 yl1 y2_0 y2_1 y2_2 y2_3 y2_4 y2_5 yl2
                refine (HT3.out _).mono ?_
                rintro e w14 ⟨rfl, hb⟩
                have HO_4 := Lib.hid (show OwnR w14 (w.heap.size + 1) A' n c' out from HO_3.out.kept hb)
                have HR_4 := Lib.hid (show RB w14 w.heap.size u1 x1 y1 u2 x2 y2 from HR_3.out.kept hb HR_3.out.lt)
                have HX_4 := Lib.hid (show RB w14 gx v3 h3 l3 v4 h4 l4 from HX_3.out.kept hb HX_3.out.lt)
                have HB_4 := Lib.hid (HB_3.out.trans (hb.mono HB_3.out.size))
                clear hb HO_3 HR_3 HX_3 HB_3
                have y1_0 : w14.cell? ⟨w.heap.size, 0, none⟩ = some (.bool u1) := (HR_4.out.c 0).trans rfl
                have y1_1 : w14.cell? ⟨w.heap.size, 1, none⟩ = some (.int .u64 x1) := (HR_4.out.c 1).trans rfl
                have y1_2 : w14.cell? ⟨w.heap.size, 2, none⟩ = some (.int .u64 y1) := (HR_4.out.c 2).trans rfl
                have y1_3 : w14.cell? ⟨w.heap.size, 3, none⟩ = some (.bool u2) := (HR_4.out.c 3).trans rfl
                have y1_4 : w14.cell? ⟨w.heap.size, 4, none⟩ = some (.int .u64 x2) := (HR_4.out.c 4).trans rfl
                have y1_5 : w14.cell? ⟨w.heap.size, 5, none⟩ = some (.int .u64 y2) := (HR_4.out.c 5).trans rfl
                have yl1 := HR_4.out.lt
                have y2_0 : w14.cell? ⟨gx, 0, none⟩ = some (.bool v3) := (HX_4.out.c 0).trans rfl
                have y2_1 : w14.cell? ⟨gx, 1, none⟩ = some (.int .u64 h3) := (HX_4.out.c 1).trans rfl
                have y2_2 : w14.cell? ⟨gx, 2, none⟩ = some (.int .u64 l3) := (HX_4.out.c 2).trans rfl
                have y2_3 : w14.cell? ⟨gx, 3, none⟩ = some (.bool v4) := (HX_4.out.c 3).trans rfl
                have y2_4 : w14.cell? ⟨gx, 4, none⟩ = some (.int .u64 h4) := (HX_4.out.c 4).trans rfl
                have y2_5 : w14.cell? ⟨gx, 5, none⟩ = some (.int .u64 l4) := (HX_4.out.c 5).trans rfl
                have yl2 := HX_4.out.lt
                go_wp2_with fail
                clear y1_0 y1_1 y1_2 y1_3 y1_4 y1_5 yl1 y2_0 y2_1 y2_2 y2_3 y2_4 y2_5 yl2
                refine (HT4.out _).mono ?_
                rintro e w15 ⟨rfl, hb⟩
                have HO_5 := Lib.hid (show OwnR w15 (w.heap.size + 1) A' n c' out from HO_4.out.kept hb)
                have HR_5 := Lib.hid (show RB w15 w.heap.size u1 x1 y1 u2 x2 y2 from HR_4.out.kept hb HR_4.out.lt)
                have HX_5 := Lib.hid (show RB w15 gx v3 h3 l3 v4 h4 l4 from HX_4.out.kept hb HX_4.out.lt)
                have HB_5 := Lib.hid (HB_4.out.trans (hb.mono HB_4.out.size))
                clear hb HO_4 HR_4 HX_4 HB_4
                have y1_0 : w15.cell? ⟨w.heap.size, 0, none⟩ = some (.bool u1) := (HR_5.out.c 0).trans rfl
                have y1_1 : w15.cell? ⟨w.heap.size, 1, none⟩ = some (.int .u64 x1) := (HR_5.out.c 1).trans rfl
                have y1_2 : w15.cell? ⟨w.heap.size, 2, none⟩ = some (.int .u64 y1) := (HR_5.out.c 2).trans rfl
                have y1_3 : w15.cell? ⟨w.heap.size, 3, none⟩ = some (.bool u2) := (HR_5.out.c 3).trans rfl
                have y1_4 : w15.cell? ⟨w.heap.size, 4, none⟩ = some (.int .u64 x2) := (HR_5.out.c 4).trans rfl
                have y1_5 : w15.cell? ⟨w.heap.size, 5, none⟩ = some (.int .u64 y2) := (HR_5.out.c 5).trans rfl
                have yl1 := HR_5.out.lt
                have y2_0 : w15.cell? ⟨gx, 0, none⟩ = some (.bool v3) := (HX_5.out.c 0).trans rfl
                have y2_1 : w15.cell? ⟨gx, 1, none⟩ = some (.int .u64 h3) := (HX_5.out.c 1).trans rfl
                have y2_2 : w15.cell? ⟨gx, 2, none⟩ = some (.int .u64 l3) := (HX_5.out.c 2).trans rfl
                have y2_3 : w15.cell? ⟨gx, 3, none⟩ = some (.bool v4) := (HX_5.out.c 3).trans rfl
                have y2_4 : w15.cell? ⟨gx, 4, none⟩ = some (.int .u64 h4) := (HX_5.out.c 4).trans rfl
                have y2_5 : w15.cell? ⟨gx, 5, none⟩ = some (.int .u64 l4) := (HX_5.out.c 5).trans rfl
                have yl2 := HX_5.out.lt
                clear y1_0 y1_1 y1_2 y1_3 y1_4 y1_5 yl1 y2_0 y2_1 y2_2 y2_3 y2_4 y2_5 yl2
                obtain ⟨W17, hW17⟩ : ∃ W, W = ((w15.setCell ⟨w.heap.size, 3, none⟩ (.bool v4)).setCell ⟨w.heap.size, 4, none⟩ (.int .u64 h4)).setCell ⟨w.heap.size, 5, none⟩ (.int .u64 l4) := ⟨_, rfl⟩
                have y1_0 : w15.cell? ⟨w.heap.size, 0, none⟩ = some (.bool u1) := (HR_5.out.c 0).trans rfl
                have z1_0 := HR_5.out.f 0
                have y1_1 : w15.cell? ⟨w.heap.size, 1, none⟩ = some (.int .u64 x1) := (HR_5.out.c 1).trans rfl
                have z1_1 := HR_5.out.f 1
                have y1_2 : w15.cell? ⟨w.heap.size, 2, none⟩ = some (.int .u64 y1) := (HR_5.out.c 2).trans rfl
                have z1_2 := HR_5.out.f 2
                have y1_3 : w15.cell? ⟨w.heap.size, 3, none⟩ = some (.bool u2) := (HR_5.out.c 3).trans rfl
                have z1_3 := HR_5.out.f 3
                have y1_4 : w15.cell? ⟨w.heap.size, 4, none⟩ = some (.int .u64 x2) := (HR_5.out.c 4).trans rfl
                have z1_4 := HR_5.out.f 4
                have y1_5 : w15.cell? ⟨w.heap.size, 5, none⟩ = some (.int .u64 y2) := (HR_5.out.c 5).trans rfl
                have z1_5 := HR_5.out.f 5
                have yl1 := HR_5.out.lt
                have y2_0 : w15.cell? ⟨gx, 0, none⟩ = some (.bool v3) := (HX_5.out.c 0).trans rfl
                have y2_1 : w15.cell? ⟨gx, 1, none⟩ = some (.int .u64 h3) := (HX_5.out.c 1).trans rfl
                have y2_2 : w15.cell? ⟨gx, 2, none⟩ = some (.int .u64 l3) := (HX_5.out.c 2).trans rfl
                have y2_3 : w15.cell? ⟨gx, 3, none⟩ = some (.bool v4) := (HX_5.out.c 3).trans rfl
                have y2_4 : w15.cell? ⟨gx, 4, none⟩ = some (.int .u64 h4) := (HX_5.out.c 4).trans rfl
                have y2_5 : w15.cell? ⟨gx, 5, none⟩ = some (.int .u64 l4) := (HX_5.out.c 5).trans rfl
                have yl2 := HX_5.out.lt
                have HO_6 := Lib.hid (show OwnR W17 (w.heap.size + 1) A' n c' out from by rw [hW17]; exact ((HO_5.out.far1 (Nat.lt_succ_self _) _).far1 (Nat.lt_succ_self _) _).far1 (Nat.lt_succ_self _) _)
                have HR_6 := Lib.hid (show RB W17 w.heap.size u1 x1 y1 v4 h4 l4 from by rw [hW17]; exact HR_5.out.setHi v4 h4 l4)
                have hne := Nat.ne_of_gt Lgx.out.1
                have HX_6 := Lib.hid (show RB W17 gx v3 h3 l3 v4 h4 l4 from by rw [hW17]; exact ((HX_5.out.far hne _).far hne _).far hne _)
                have HB_6 := Lib.hid (show Below w.heap.size w W17 from by rw [hW17]; exact ((HB_5.out.setCell (p := ⟨w.heap.size, 3, none⟩) (Nat.le_refl _) _).setCell (p := ⟨w.heap.size, 4, none⟩) (Nat.le_refl _) _).setCell (p := ⟨w.heap.size, 5, none⟩) (Nat.le_refl _) _)
                have q0_0 : W17.cell? ⟨w.heap.size, 0, none⟩ = some (.bool u1) := (HR_6.out.c 0).trans rfl
                rw [hW17] at q0_0
                have q0_1 : W17.cell? ⟨w.heap.size, 1, none⟩ = some (.int .u64 x1) := (HR_6.out.c 1).trans rfl
                rw [hW17] at q0_1
                have q0_2 : W17.cell? ⟨w.heap.size, 2, none⟩ = some (.int .u64 y1) := (HR_6.out.c 2).trans rfl
                rw [hW17] at q0_2
                have q0_3 : W17.cell? ⟨w.heap.size, 3, none⟩ = some (.bool v4) := (HR_6.out.c 3).trans rfl
                rw [hW17] at q0_3
                have q0_4 : W17.cell? ⟨w.heap.size, 4, none⟩ = some (.int .u64 h4) := (HR_6.out.c 4).trans rfl
                rw [hW17] at q0_4
                have q0_5 : W17.cell? ⟨w.heap.size, 5, none⟩ = some (.int .u64 l4) := (HR_6.out.c 5).trans rfl
                rw [hW17] at q0_5
                have q1_0 : W17.cell? ⟨gx, 0, none⟩ = some (.bool v3) := (HX_6.out.c 0).trans rfl
                rw [hW17] at q1_0
                have q1_1 : W17.cell? ⟨gx, 1, none⟩ = some (.int .u64 h3) := (HX_6.out.c 1).trans rfl
                rw [hW17] at q1_1
                have q1_2 : W17.cell? ⟨gx, 2, none⟩ = some (.int .u64 l3) := (HX_6.out.c 2).trans rfl
                rw [hW17] at q1_2
                have q1_3 : W17.cell? ⟨gx, 3, none⟩ = some (.bool v4) := (HX_6.out.c 3).trans rfl
                rw [hW17] at q1_3
                have q1_4 : W17.cell? ⟨gx, 4, none⟩ = some (.int .u64 h4) := (HX_6.out.c 4).trans rfl
                rw [hW17] at q1_4
                have q1_5 : W17.cell? ⟨gx, 5, none⟩ = some (.int .u64 l4) := (HX_6.out.c 5).trans rfl
                rw [hW17] at q1_5
                go_wp2_with fail
                rw [← hW17]
                clear hW17 HO_5 HR_5 HX_5 HB_5
                clear y1_0 z1_0 y1_1 z1_1 y1_2 z1_2 y1_3 z1_3 y1_4 z1_4 y1_5 z1_5 yl1 y2_0 y2_1 y2_2 y2_3 y2_4 y2_5 yl2 q0_0 q0_1 q0_2 q0_3 q0_4 q0_5 q1_0 q1_1 q1_2 q1_3 q1_4 q1_5 hne
                go_roundw
                case rel => exact ⟨k + 1, n, c', A', out, false, u1, x1, y1, v4, h4, l4, by omega, by omega, by go_num, rfl, rfl, Lib.hid (fun _ => by omega), Lib.hid (HMG.out hP1.out hP2.out ⟨u1, x1, y1⟩ ⟨v4, h4, l4⟩ (by rw [if_neg (by have := hB1.out; omega)]) (by rw [if_pos (by have := hB2.out; omega)])), HB_6, HO_6, HR_6⟩
                case measure => simp [intOf]; omega
              · rw [decide_eq_false b2] at HT4
                clear t2
                have hB1 := Lib.hid b1; have hB2 := Lib.hid b2; have hP1 := Lib.hid hp1; have hP2 := Lib.hid hp2
                clear t1 hx4 hr4 HAP1 HAP2 b1 b2 hp1 hp2
                have y1_0 : wr.cell? ⟨w.heap.size, 0, none⟩ = some (.bool u1) := (HR.out.c 0).trans rfl
                have y1_1 : wr.cell? ⟨w.heap.size, 1, none⟩ = some (.int .u64 x1) := (HR.out.c 1).trans rfl
                have y1_2 : wr.cell? ⟨w.heap.size, 2, none⟩ = some (.int .u64 y1) := (HR.out.c 2).trans rfl
                have y1_3 : wr.cell? ⟨w.heap.size, 3, none⟩ = some (.bool u2) := (HR.out.c 3).trans rfl
                have y1_4 : wr.cell? ⟨w.heap.size, 4, none⟩ = some (.int .u64 x2) := (HR.out.c 4).trans rfl
                have y1_5 : wr.cell? ⟨w.heap.size, 5, none⟩ = some (.int .u64 y2) := (HR.out.c 5).trans rfl
                have yl1 := HR.out.lt
                go_wp2_with fail
                clear y1_0 y1_1 y1_2 y1_3 y1_4 y1_5 yl1 c0 c1 c2 c3 c4 c5
                obtain ⟨W12, hW12⟩ : ∃ W, W = wr.alloc (.cells #[.bool v3, .int .u64 h3, .int .u64 l3, .bool v4, .int .u64 h4, .int .u64 l4] 43) := ⟨_, rfl⟩
                obtain ⟨gx, hgx⟩ : ∃ g, g = wr.heap.size := ⟨_, rfl⟩
                have HO_1 := Lib.hid (show OwnR W12 (w.heap.size + 1) A' n c' out from by rw [hW12]; exact HO.out.al _)
                have HR_1 := Lib.hid (show RB W12 w.heap.size u1 x1 y1 u2 x2 y2 from by rw [hW12]; exact HR.out.al _)
                have Lgx := Lib.hid (show w.heap.size < gx ∧ w.heap.size ≤ gx from by rw [hgx]; exact ⟨HR.out.lt, HB.out.size⟩)
                have HX := Lib.hid (show RB W12 gx v3 h3 l3 v4 h4 l4 from by rw [hW12, hgx]; exact rb_new wr v3 h3 l3 v4 h4 l4)
                have HB_1 := Lib.hid (show Below w.heap.size w W12 by rw [hW12]; exact HB.out.alloc HB.out.size _)
                clear HO HR HB
                rw [← hW12, ← hgx]
                clear hW12 hgx
                have y1_0 : W12.cell? ⟨w.heap.size, 0, none⟩ = some (.bool u1) := (HR_1.out.c 0).trans rfl
                have y1_1 : W12.cell? ⟨w.heap.size, 1, none⟩ = some (.int .u64 x1) := (HR_1.out.c 1).trans rfl
                have y1_2 : W12.cell? ⟨w.heap.size, 2, none⟩ = some (.int .u64 y1) := (HR_1.out.c 2).trans rfl
                have y1_3 : W12.cell? ⟨w.heap.size, 3, none⟩ = some (.bool u2) := (HR_1.out.c 3).trans rfl
                have y1_4 : W12.cell? ⟨w.heap.size, 4, none⟩ = some (.int .u64 x2) := (HR_1.out.c 4).trans rfl
                have y1_5 : W12.cell? ⟨w.heap.size, 5, none⟩ = some (.int .u64 y2) := (HR_1.out.c 5).trans rfl
                have yl1 := HR_1.out.lt
                have y2_0 : W12.cell? ⟨gx, 0, none⟩ = some (.bool v3) := (HX.out.c 0).trans rfl
                have y2_1 : W12.cell? ⟨gx, 1, none⟩ = some (.int .u64 h3) := (HX.out.c 1).trans rfl
                have y2_2 : W12.cell? ⟨gx, 2, none⟩ = some (.int .u64 l3) := (HX.out.c 2).trans rfl
                have y2_3 : W12.cell? ⟨gx, 3, none⟩ = some (.bool v4) := (HX.out.c 3).trans rfl
                have y2_4 : W12.cell? ⟨gx, 4, none⟩ = some (.int .u64 h4) := (HX.out.c 4).trans rfl
                have y2_5 : W12.cell? ⟨gx, 5, none⟩ = some (.int .u64 l4) := (HX.out.c 5).trans rfl
                have yl2 := HX.out.lt
                clear y1_0 y1_1 y1_2 y1_3 y1_4 y1_5 yl1 y2_0 y2_1 y2_2 y2_3 y2_4 y2_5 yl2
                refine (HT1.out _).mono ?_
                rintro e w12 ⟨rfl, hb⟩
                have HO_2 := Lib.hid (show OwnR w12 (w.heap.size + 1) A' n c' out from HO_1.out.kept hb)
                have HR_2 := Lib.hid (show RB w12 w.heap.size u1 x1 y1 u2 x2 y2 from HR_1.out.kept hb HR_1.out.lt)
                have HX_2 := Lib.hid (show RB w12 gx v3 h3 l3 v4 h4 l4 from HX.out.kept hb HX.out.lt)
                have HB_2 := Lib.hid (HB_1.out.trans (hb.mono HB_1.out.size))
                clear hb HO_1 HR_1 HX HB_1
                have y1_0 : w12.cell? ⟨w.heap.size, 0, none⟩ = some (.bool u1) := (HR_2.out.c 0).trans rfl
                have y1_1 : w12.cell? ⟨w.heap.size, 1, none⟩ = some (.int .u64 x1) := (HR_2.out.c 1).trans rfl
                have y1_2 : w12.cell? ⟨w.heap.size, 2, none⟩ = some (.int .u64 y1) := (HR_2.out.c 2).trans rfl
                have y1_3 : w12.cell? ⟨w.heap.size, 3, none⟩ = some (.bool u2) := (HR_2.out.c 3).trans rfl
                have y1_4 : w12.cell? ⟨w.heap.size, 4, none⟩ = some (.int .u64 x2) := (HR_2.out.c 4).trans rfl
                have y1_5 : w12.cell? ⟨w.heap.size, 5, none⟩ = some (.int .u64 y2) := (HR_2.out.c 5).trans rfl
                have yl1 := HR_2.out.lt
                have y2_0 : w12.cell? ⟨gx, 0, none⟩ = some (.bool v3) := (HX_2.out.c 0).trans rfl
                have y2_1 : w12.cell? ⟨gx, 1, none⟩ = some (.int .u64 h3) := (HX_2.out.c 1).trans rfl
                have y2_2 : w12.cell? ⟨gx, 2, none⟩ = some (.int .u64 l3) := (HX_2.out.c 2).trans rfl
                have y2_3 : w12.cell? ⟨gx, 3, none⟩ = some (.bool v4) := (HX_2.out.c 3).trans rfl
                have y2_4 : w12.cell? ⟨gx, 4, none⟩ = some (.int .u64 h4) := (HX_2.out.c 4).trans rfl
                have y2_5 : w12.cell? ⟨gx, 5, none⟩ = some (.int .u64 l4) := (HX_2.out.c 5).trans rfl
                have yl2 := HX_2.out.lt
                go_wp2_with fail
                clear y1_0 y1_1 y1_2 y1_3 y1_4 y1_5 yl1 y2_0 y2_1 y2_2 y2_3 y2_4 y2_5 yl2
                refine (HT2.out _).mono ?_
                rintro e w13 ⟨rfl, hb⟩
                have HO_3 := Lib.hid (show OwnR w13 (w.heap.size + 1) A' n c' out from HO_2.out.kept hb)
                have HR_3 := Lib.hid (show RB w13 w.heap.size u1 x1 y1 u2 x2 y2 from HR_2.out.kept hb HR_2.out.lt)
                have HX_3 := Lib.hid (show RB w13 gx v3 h3 l3 v4 h4 l4 from HX_2.out.kept hb HX_2.out.lt)
                have HB_3 := Lib.hid (HB_2.out.trans (hb.mono HB_2.out.size))
                clear hb HO_2 HR_2 HX_2 HB_2
                have y1_0 : w13.cell? ⟨w.heap.size, 0, none⟩ = some (.bool u1) := (HR_3.out.c 0).trans rfl
                have y1_1 : w13.cell? ⟨w.heap.size, 1, none⟩ = some (.int .u64 x1) := (HR_3.out.c 1).trans rfl
                have y1_2 : w13.cell? ⟨w.heap.size, 2, none⟩ = some (.int .u64 y1) := (HR_3.out.c 2).trans rfl
                have y1_3 : w13.cell? ⟨w.heap.size, 3, none⟩ = some (.bool u2) := (HR_3.out.c 3).trans rfl
                have y1_4 : w13.cell? ⟨w.heap.size, 4, none⟩ = some (.int .u64 x2) := (HR_3.out.c 4).trans rfl
                have y1_5 : w13.cell? ⟨w.heap.size, 5, none⟩ = some (.int .u64 y2) := (HR_3.out.c 5).trans rfl
                have yl1 := HR_3.out.lt
                have y2_0 : w13.cell? ⟨gx, 0, none⟩ = some (.bool v3) := (HX_3.out.c 0).trans rfl
                have y2_1 : w13.cell? ⟨gx, 1, none⟩ = some (.int .u64 h3) := (HX_3.out.c 1).trans rfl
                have y2_2 : w13.cell? ⟨gx, 2, none⟩ = some (.int .u64 l3) := (HX_3.out.c 2).trans rfl
                have y2_3 : w13.cell? ⟨gx, 3, none⟩ = some (.bool v4) := (HX_3.out.c 3).trans rfl
                have y2_4 : w13.cell? ⟨gx, 4, none⟩ = some (.int .u64 h4) := (HX_3.out.c 4).trans rfl
                have y2_5 : w13.cell? ⟨gx, 5, none⟩ = some (.int .u64 l4) := (HX_3.out.c 5).trans rfl
                have yl2 := HX_3.out.lt
                go_wp2_with fail
                clear y1_0 y1_1 y1_2 y1_3 y1_4 y1_5 yl1 y2_0 y2_1 y2_2 y2_3 y2_4 y2_5 yl2
                refine (HT3.out _).mono ?_
                rintro e w14 ⟨rfl, hb⟩
                have HO_4 := Lib.hid (show OwnR w14 (w.heap.size + 1) A' n c' out from HO_3.out.kept hb)
                have HR_4 := Lib.hid (show RB w14 w.heap.size u1 x1 y1 u2 x2 y2 from HR_3.out.kept hb HR_3.out.lt)
                have HX_4 := Lib.hid (show RB w14 gx v3 h3 l3 v4 h4 l4 from HX_3.out.kept hb HX_3.out.lt)
                have HB_4 := Lib.hid (HB_3.out.trans (hb.mono HB_3.out.size))
                clear hb HO_3 HR_3 HX_3 HB_3
                have y1_0 : w14.cell? ⟨w.heap.size, 0, none⟩ = some (.bool u1) := (HR_4.out.c 0).trans rfl
                have y1_1 : w14.cell? ⟨w.heap.size, 1, none⟩ = some (.int .u64 x1) := (HR_4.out.c 1).trans rfl
                have y1_2 : w14.cell? ⟨w.heap.size, 2, none⟩ = some (.int .u64 y1) := (HR_4.out.c 2).trans rfl
                have y1_3 : w14.cell? ⟨w.heap.size, 3, none⟩ = some (.bool u2) := (HR_4.out.c 3).trans rfl
                have y1_4 : w14.cell? ⟨w.heap.size, 4, none⟩ = some (.int .u64 x2) := (HR_4.out.c 4).trans rfl
                have y1_5 : w14.cell? ⟨w.heap.size, 5, none⟩ = some (.int .u64 y2) := (HR_4.out.c 5).trans rfl
                have yl1 := HR_4.out.lt
                have y2_0 : w14.cell? ⟨gx, 0, none⟩ = some (.bool v3) := (HX_4.out.c 0).trans rfl
                have y2_1 : w14.cell? ⟨gx, 1, none⟩ = some (.int .u64 h3) := (HX_4.out.c 1).trans rfl
                have y2_2 : w14.cell? ⟨gx, 2, none⟩ = some (.int .u64 l3) := (HX_4.out.c 2).trans rfl
                have y2_3 : w14.cell? ⟨gx, 3, none⟩ = some (.bool v4) := (HX_4.out.c 3).trans rfl
                have y2_4 : w14.cell? ⟨gx, 4, none⟩ = some (.int .u64 h4) := (HX_4.out.c 4).trans rfl
                have y2_5 : w14.cell? ⟨gx, 5, none⟩ = some (.int .u64 l4) := (HX_4.out.c 5).trans rfl
                have yl2 := HX_4.out.lt
                go_wp2_with fail
                clear y1_0 y1_1 y1_2 y1_3 y1_4 y1_5 yl1 y2_0 y2_1 y2_2 y2_3 y2_4 y2_5 yl2
                refine (HT4.out _).mono ?_
                rintro e w15 ⟨rfl, hb⟩
                have HO_5 := Lib.hid (show OwnR w15 (w.heap.size + 1) A' n c' out from HO_4.out.kept hb)
                have HR_5 := Lib.hid (show RB w15 w.heap.size u1 x1 y1 u2 x2 y2 from HR_4.out.kept hb HR_4.out.lt)
                have HX_5 := Lib.hid (show RB w15 gx v3 h3 l3 v4 h4 l4 from HX_4.out.kept hb HX_4.out.lt)
                have HB_5 := Lib.hid (HB_4.out.trans (hb.mono HB_4.out.size))
                clear hb HO_4 HR_4 HX_4 HB_4
                have y1_0 : w15.cell? ⟨w.heap.size, 0, none⟩ = some (.bool u1) := (HR_5.out.c 0).trans rfl
                have y1_1 : w15.cell? ⟨w.heap.size, 1, none⟩ = some (.int .u64 x1) := (HR_5.out.c 1).trans rfl
                have y1_2 : w15.cell? ⟨w.heap.size, 2, none⟩ = some (.int .u64 y1) := (HR_5.out.c 2).trans rfl
                have y1_3 : w15.cell? ⟨w.heap.size, 3, none⟩ = some (.bool u2) := (HR_5.out.c 3).trans rfl
                have y1_4 : w15.cell? ⟨w.heap.size, 4, none⟩ = some (.int .u64 x2) := (HR_5.out.c 4).trans rfl
                have y1_5 : w15.cell? ⟨w.heap.size, 5, none⟩ = some (.int .u64 y2) := (HR_5.out.c 5).trans rfl
                have yl1 := HR_5.out.lt
                have y2_0 : w15.cell? ⟨gx, 0, none⟩ = some (.bool v3) := (HX_5.out.c 0).trans rfl
                have y2_1 : w15.cell? ⟨gx, 1, none⟩ = some (.int .u64 h3) := (HX_5.out.c 1).trans rfl
                have y2_2 : w15.cell? ⟨gx, 2, none⟩ = some (.int .u64 l3) := (HX_5.out.c 2).trans rfl
                have y2_3 : w15.cell? ⟨gx, 3, none⟩ = some (.bool v4) := (HX_5.out.c 3).trans rfl
                have y2_4 : w15.cell? ⟨gx, 4, none⟩ = some (.int .u64 h4) := (HX_5.out.c 4).trans rfl
                have y2_5 : w15.cell? ⟨gx, 5, none⟩ = some (.int .u64 l4) := (HX_5.out.c 5).trans rfl
                have yl2 := HX_5.out.lt
                go_wp2_with fail
                clear y1_0 y1_1 y1_2 y1_3 y1_4 y1_5 yl1 y2_0 y2_1 y2_2 y2_3 y2_4 y2_5 yl2
                go_roundw
                case rel => exact ⟨k + 1, n, c', A', out, false, u1, x1, y1, u2, x2, y2, by omega, by omega, by go_num, rfl, rfl, Lib.hid (fun _ => by omega), Lib.hid (HMG.out hP1.out hP2.out ⟨u1, x1, y1⟩ ⟨u2, x2, y2⟩ (by rw [if_neg (by have := hB1.out; omega)]) (by rw [if_neg (by have := hB2.out; omega)])), HB_5, HO_5, HR_5⟩
                case measure => simp [intOf]; omega
    · have hkn : k = l.length := by have := HN.out; omega
      have HE := Lib.hid (show AddI l R l.length d ⟨⟨u1, x1, y1⟩, ⟨u2, x2, y2⟩⟩ out by rw [← hkn]; exact HI.out)
      have hd : decide ((k : Int) < (N : Int)) = false := by simp; omega
      cases d with
      | true =>
        have he := addI_end HE.out
        rw [if_pos rfl] at he
        have HF := Lib.hid he
        have HNN := Lib.hid (show n ≤ N + 1 by omega)
        clear he hkn HE HI HD
        go_wp2_with fail
        go_ret
        exact ⟨out, A', c', HF.out.1, HF.out.2, Nat.le_trans (Nat.le_of_eq HO.out.1.symm) HNN.out, congrArg (fun n => Ending.returned (.slice A' n c')) HO.out.1, by rw [← HO.out.1]; exact own_mono HO.out.2 (Nat.le_succ _), HB.out⟩
      | false =>
        have he := addI_end HE.out
        rw [if_neg (by decide)] at he
        have HF := Lib.hid he
        have HNN := Lib.hid (show n + 1 ≤ N + 1 by have := HD.out rfl; omega)
        clear he hkn HE HI HD
        have r0 : wr.cell? ⟨w.heap.size, 0, none⟩ = some (.bool u1) := (HR.out.c 0).trans rfl
        have r1 : wr.cell? ⟨w.heap.size, 1, none⟩ = some (.int .u64 x1) := (HR.out.c 1).trans rfl
        have r2 : wr.cell? ⟨w.heap.size, 2, none⟩ = some (.int .u64 y1) := (HR.out.c 2).trans rfl
        have r3 : wr.cell? ⟨w.heap.size, 3, none⟩ = some (.bool u2) := (HR.out.c 3).trans rfl
        have r4 : wr.cell? ⟨w.heap.size, 4, none⟩ = some (.int .u64 x2) := (HR.out.c 4).trans rfl
        have r5 : wr.cell? ⟨w.heap.size, 5, none⟩ = some (.int .u64 y2) := (HR.out.c 5).trans rfl
        have hsz : w.heap.size + 1 ≤ wr.heap.size := HR.out.lt
        go_wp2_with (at_builtin; refine wpList_push (E := ER) rgTy (by rfl) _ _ (by rfl) (w.heap.size + 1) _ n out [⟨⟨u1, x1, y1⟩, ⟨u2, x2, y2⟩⟩] (by rfl) (HO.out.al _).2 _ 1 1 #[.bool u1, .int .u64 x1, .int .u64 y1, .bool u2, .int .u64 x2, .int .u64 y2] (0, 0) (by rfl) (heap_alloc_new _ _) rfl rfl (by omega) (by omega) (by decide) ?hb ?_)
        case hb => simp; omega
        intro g2 cap2 wz hown hgrow hat hlt2
        have HO9 := Lib.hid (HO.out.push rfl hown)
        have HB9 := Lib.hid (HO.out.below HB.out HB.out.size HB.out.size (Nat.le_succ _) hgrow)
        clear hown hgrow hat hlt2 HO HB HR r0 r1 r2 r3 r4 r5
        go_wp2_with fail
        go_ret
        exact ⟨out ++ [⟨⟨u1, x1, y1⟩, ⟨u2, x2, y2⟩⟩], some ⟨g2, 0, none⟩, cap2, HF.out.1, HF.out.2, Nat.le_trans (Nat.le_of_eq HO9.out.1.symm) HNN.out, congrArg (fun n => Ending.returned (.slice (some ⟨g2, 0, none⟩) n cap2)) HO9.out.1, by rw [← HO9.out.1]; exact own_mono HO9.out.2 (Nat.le_succ _), HB9.out⟩
end Go.Proofs.Ytmcelgnifpfjpaa

/- Contracts of the reference of layer 7: Normal, Union. -/
namespace Go.Proofs.Ytmcelgnifpfjpaa
open Go.ChangeShapes Go.WideShapes Go.ChangeAt Go.RowKit
set_option linter.unusedVariables false

set_option maxHeartbeats 2000000 in
set_option maxRecDepth 20000 in
theorem rnormal_any (A : Option Addr) (cap : Nat) (l : List Rg) (w : World) (h : RowL ER w A l) (hf : ∀ r ∈ l, r.fits) (hl : l.length ≤ 100000) :
    Calls Try.prog 12 #[.slice A l.length cap] w (SetO w w.heap.size (fun m => anyS (spnL l) m) l.length) := by
  obtain ⟨N, hN⟩ : ∃ n, n = l.length := ⟨_, rfl⟩
  have hn6 : N ≤ 100000 := by omega
  rw [← hN]
  have H := Lib.hid h
  have HF := Lib.hid hf
  have HN := Lib.hid hN
  have HB0 := Lib.hid (Below.refl w.heap.size w)
  have HO0 := Lib.hid (OwnR.nil w w.heap.size)
  have HA0 := Lib.hid (show ∀ m, anyS (([] : List Rg).map spn) m = anyS (spnL (l.take 0)) m from fun m => by simp [spnL, anyS])
  clear h hf hl hN
  go_enter Try.func12, Try.ntmps12
  go_wp2_with fail
  go_loopw [3, 4] (fun s3 s4 wr => ∃ k n c' : Nat, ∃ A' : Option Addr, ∃ out : List Rg, k ≤ N ∧ n ≤ k ∧ s4 = .int .i64 k ∧ s3 = .slice A' n c' ∧ Hid (GoodL out) ∧ Hid (∀ m, anyS (out.map spn) m = anyS (spnL (l.take k)) m) ∧ Hid (Below w.heap.size w wr) ∧ Hid (OwnR wr w.heap.size A' n c' out)) (fun _ s4 _ => N - (intOf s4).toNat)
  case atStart => exact ⟨0, 0, 0, none, [], by omega, by omega, rfl, rfl, Lib.hid good_nil, HA0, HB0, HO0⟩
  case round =>
    clear HA0 HB0 HO0
    obtain ⟨k, n, c', A', out, hk, hnk, rfl, rfl, HG, HA, HB, HO⟩ := hrel
    by_cases hlt : k < N
    · have hkl : k < l.length := by rw [← HN.out]; exact hlt
      obtain ⟨g, o, rfl, hg⟩ := H.out.shape (by omega)
      obtain ⟨⟨⟨v3, h3, l3⟩, ⟨v4, h4, l4⟩⟩, hget⟩ : ∃ s, l[k]? = some s := ⟨l[k], List.getElem?_eq_getElem hkl⟩
      obtain ⟨c0, c1, c2, c3, c4, c5⟩ := rg_at H.out hget HB.out
      have hki : (k : Int) < (N : Int) := by omega
      have hki0 : (0 : Int) ≤ (k : Int) := by omega
      have hxf := HF.out _ (List.mem_of_getElem? hget)
      have HS := Lib.hid (fun W => rsome_any v3 h3 l3 v4 h4 l4 W hxf.1 hxf.2)
      have HT := Lib.hid (spnL_take hget)
      cases hs : someR ⟨⟨v3, h3, l3⟩, ⟨v4, h4, l4⟩⟩ with
      | false =>
        rw [hs] at HS
        have HA2 := Lib.hid (show ∀ m, anyS (out.map spn) m = anyS (spnL (l.take (k + 1))) m from fun m => by rw [HT.out, hs, HA.out]; simp)
        clear hs hget hg hkl hxf HT
        go_wp2_with fail
        refine (HS.out _).mono ?_
        rintro e w2 ⟨rfl, hb⟩
        have HB2 := Lib.hid (HB.out.trans (hb.mono HB.out.size))
        have HO2 := Lib.hid (HO.out.kept hb)
        clear hb HB HO c0 c1 c2 c3 c4 c5
        go_wp2_with fail
        go_roundw
        case rel => exact ⟨k + 1, n, c', A', out, by omega, by omega, by go_num, rfl, HG, HA2, HB2, HO2⟩
        case measure => simp [intOf]; omega
      | true =>
        rw [hs] at HS
        have HADD := Lib.hid (fun W (hW : OwnR W w.heap.size A' n c' out) (hsz : w.heap.size ≤ W.heap.size) => show Calls Try.prog 41 #[.slice A' n c', .agg #[.bool v3, .int .u64 h3, .int .u64 l3, .bool v4, .int .u64 h4, .int .u64 l4]] W (SetO W w.heap.size (fun m => anyS (out.map spn) m || inS (spn ⟨⟨v3, h3, l3⟩, ⟨v4, h4, l4⟩⟩) m) (n + 1)) from by
          rw [hW.1]
          exact (radd_any A' c' out v3 h3 l3 v4 h4 l4 W hW.row HG.out hs hxf (by rw [← hW.1]; omega)).mono fun _ _ hh => hh.own hsz)
        have HA2 := Lib.hid (show ∀ m, (anyS (out.map spn) m || inS (spn ⟨⟨v3, h3, l3⟩, ⟨v4, h4, l4⟩⟩) m) = anyS (spnL (l.take (k + 1))) m from fun m => by rw [HT.out, hs, HA.out]; simp)
        have hgw : g < wr.heap.size := Nat.lt_of_lt_of_le hg HB.out.size
        clear hs hget hg hkl hxf HT
        go_wp2_with fail
        refine (HS.out _).mono ?_
        rintro e w2 ⟨rfl, hb⟩
        have HB2 := Lib.hid (HB.out.trans (hb.mono HB.out.size))
        have HO2 := Lib.hid (HO.out.kept hb)
        have d0 := (hb.cell (p := ⟨g, o + k * 6, none⟩) hgw).trans c0
        have d1 := (hb.cell (p := ⟨g, o + k * 6 + 1, none⟩) hgw).trans c1
        have d2 := (hb.cell (p := ⟨g, o + k * 6 + 2, none⟩) hgw).trans c2
        have d3 := (hb.cell (p := ⟨g, o + k * 6 + 3, none⟩) hgw).trans c3
        have d4 := (hb.cell (p := ⟨g, o + k * 6 + 4, none⟩) hgw).trans c4
        have d5 := (hb.cell (p := ⟨g, o + k * 6 + 5, none⟩) hgw).trans c5
        clear hb HB HO c0 c1 c2 c3 c4 c5 hgw
        go_wp2_with fail
        refine (HADD.out _ HO2.out HB2.out.size).mono ?_
        rintro e w3 ⟨L, A5, n5, c5, g1, g2, g3, rfl, g5, hb⟩
        have HB3 := Lib.hid (HB2.out.trans (hb.mono HB2.out.size))
        have HO3 := Lib.hid g5
        have HG3 := Lib.hid g1
        have HA3 := Lib.hid (fun m => (g2 m).trans (HA2.out m))
        clear hb g1 g2 g5 HB2 HO2 d0 d1 d2 d3 d4 d5
        go_wp2_with fail
        go_roundw
        case rel => exact ⟨k + 1, n5, c5, A5, L, by omega, by omega, by go_num, rfl, HG3, HA3, HB3, HO3⟩
        case measure => simp [intOf]; omega
    · have hkn : k = l.length := by have := HN.out; omega
      have HA2 := Lib.hid (show ∀ m, anyS (out.map spn) m = anyS (spnL l) m from fun m => by rw [HA.out, hkn, List.take_length])
      have HNN := Lib.hid (show n ≤ N by omega)
      have hd : decide ((k : Int) < (N : Int)) = false := by simp; omega
      clear hkn HA
      go_wp2_with fail
      go_ret
      exact ⟨out, A', n, c', HG.out, HA2.out, HNN.out, rfl, HO.out, HB.out⟩
/-- With the length as a letter. -/
theorem rnormal_own (base : Nat) (A : Option Addr) (n cap : Nat) (l : List Rg) (w : World) (h : OwnR w base A n cap l) (hf : ∀ r ∈ l, r.fits) (hl : n ≤ 100000) :
    Calls Try.prog 12 #[.slice A n cap] w (SetO w w.heap.size (fun m => anyS (spnL l) m) n) := by
  rw [h.1]
  exact rnormal_any A cap l w h.row hf (by rw [← h.1]; exact hl)
set_option maxRecDepth 20000 in
theorem runion_any (A1 A2 : Option Addr) (c1 c2 : Nat) (a b : List Rg) (w : World) (h1 : RowL ER w A1 a) (h2 : RowL ER w A2 b) (n1 : A1 = none → c1 = 0) (n2 : A2 = none → c2 = 0) (f1 : ∀ r ∈ a, r.fits) (f2 : ∀ r ∈ b, r.fits) (hl1 : a.length ≤ 900) (hl2 : b.length ≤ 900) :
    Calls Try.prog 20 #[.slice A1 a.length c1, .slice A2 b.length c2] w (SetO w w.heap.size (fun m => anyS (spnL a) m || anyS (spnL b) m) (a.length + b.length)) := by
  obtain ⟨la, hla⟩ : ∃ n, n = a.length := ⟨_, rfl⟩
  obtain ⟨lb, hlb⟩ : ∃ n, n = b.length := ⟨_, rfl⟩
  rw [← hla, ← hlb]
  have H1 := Lib.hid h1
  have H2 := Lib.hid h2
  have N1 := Lib.hid n1
  have N2 := Lib.hid n2
  have HLA := Lib.hid hla
  have HLB := Lib.hid hlb
  have HO0 := Lib.hid (OwnR.nil w w.heap.size)
  have HFF := Lib.hid (show ∀ r ∈ a ++ b, r.fits from fun r hr => by rcases List.mem_append.1 hr with hr | hr; exact f1 r hr; exact f2 r hr)
  have b1 : la ≤ 900 := by omega
  have b2 : lb ≤ 900 := by omega
  clear h1 h2 n1 n2 hla hlb f1 f2 hl1 hl2
  go_enter Try.func20, Try.ntmps20
  go_wp2_with (at_builtin; refine wpList_cat (E := ER) rgTy (by rfl) _ _ (by rfl) w.heap.size _ 0 [] a (by rfl) HO0.out.2 A1 la c1 (by rfl) HLA.out N1.out H1.out (by omega) (by decide) (Nat.le_refl _) ?_)
  intro A' c' w2 hown hgrow
  have hb2 : Below w.heap.size w w2 := (Below.refl w.heap.size w).grown hgrow (Nat.le_refl _) (fun j hj => (HO0.out.2.lt j hj).1)
  have HO2 := Lib.hid (show OwnR w2 w.heap.size A' la c' a from ⟨HLA.out, hown⟩)
  have HH2 := Lib.hid (H2.out.kept hb2)
  have HB2 := Lib.hid hb2
  clear hown hgrow hb2 HO0
  go_wp2_with (at_builtin; refine wpList_cat (E := ER) rgTy (by rfl) _ _ (by rfl) w.heap.size _ la a b (by rfl) HO2.out.2 A2 lb c2 (by rfl) HLB.out N2.out HH2.out (by omega) (by decide) HB2.out.size ?_)
  intro A3 c3 w3 hown hgrow
  have hb3 : Below w.heap.size w w3 := HB2.out.grown hgrow HB2.out.size (fun j hj => (HO2.out.2.lt j hj).1)
  have HO3 := Lib.hid (show OwnR w3 w.heap.size A3 (la + lb) c3 (a ++ b) from ⟨by rw [HLA.out, HLB.out]; simp, hown⟩)
  have HB3 := Lib.hid hb3
  have HC := Lib.hid (rnormal_own w.heap.size A3 (la + lb) c3 (a ++ b) w3 HO3.out HFF.out (by omega))
  obtain ⟨q, hq⟩ : ∃ q, q = la + lb := ⟨_, rfl⟩
  rw [← hq] at HC ⊢
  have hqi : (la : Int) + (lb : Int) = (q : Int) := by omega
  have HQ := Lib.hid hq
  clear hown hgrow hb3 HO2 HH2 HB2 hq
  go_wp2_with fail
  refine HC.out.mono ?_
  rintro e w5 ⟨L, A5, n5, c5, g1, g2, g3, rfl, g5, hb⟩
  have HE := Lib.hid (show SetO w w.heap.size (fun m => anyS (spnL a) m || anyS (spnL b) m) (la + lb) (.returned (.slice A5 n5 c5)) w5 from ⟨L, A5, n5, c5, g1, fun m => (g2 m).trans (by simp only [spnL_append, anyS_append]), Nat.le_trans g3 (Nat.le_of_eq HQ.out), rfl, ⟨g5.1, own_mono g5.2 HB3.out.size⟩, HB3.out.trans (hb.mono HB3.out.size)⟩)
  clear g1 g2 g3 g5 hb
  go_wp2_with fail
  go_ret
  exact HE.out
end Go.Proofs.Ytmcelgnifpfjpaa

/- Contracts of the reference of layer 7: All, Complement. -/
namespace Go.Proofs.Ytmcelgnifpfjpaa
open Go.ChangeShapes Go.WideShapes Go.ChangeAt Go.RowKit
set_option linter.unusedVariables false

/-- The set of all addresses. -/
def allR : List Rg := [⟨⟨false, 0, 0⟩, ⟨false, 0, 4294967295⟩⟩, ⟨⟨true, 0, 0⟩, ⟨true, 18446744073709551615, 18446744073709551615⟩⟩]
theorem allR_good : GoodL allR := by
  refine ⟨fun r hr => ?_, ?_⟩
  · simp only [allR, List.mem_cons, List.not_mem_nil, or_false] at hr
    rcases hr with rfl | rfl
    · exact ⟨by decide +kernel, ⟨by decide, by decide⟩, by decide, by decide⟩
    · exact ⟨by decide +kernel, ⟨by decide, by decide⟩, by decide, by decide⟩
  · have : okB top7 0 (allR.map spn) = true := by decide +kernel
    exact (okB_iff _ _).1 this
theorem allR_any (m : Int) : anyS (allR.map spn) m = isU m := by
  have e : allR.map spn = [⟨0, 4294967295⟩, ⟨340282366920938463463374607431768211456, top7⟩] := rfl
  rw [e]
  simp [anyS, inS, isU]
theorem row_al {α : Type} {E : Enc α} {w : World} {A : Option Addr} {l : List α} (h : RowL E w A l) (o : Obj) : RowL E (w.alloc o) A l := h.kept (below_alloc6 w o)
set_option maxRecDepth 20000 in
theorem rall_any (w : World) : Calls Try.prog 18 #[] w fun e w' => e = .returned (.slice (some ⟨w.heap.size, 0, none⟩) 2 2) ∧ OwnR w' w.heap.size (some ⟨w.heap.size, 0, none⟩) 2 2 allR ∧ Below w.heap.size w w' := by
  have HO := Lib.hid (show OwnR (w.alloc (.cells #[.bool false, .int .u64 0, .int .u64 0, .bool false, .int .u64 0, .int .u64 4294967295, .bool true, .int .u64 0, .int .u64 0, .bool true, .int .u64 18446744073709551615, .int .u64 18446744073709551615] 43)) w.heap.size (some ⟨w.heap.size, 0, none⟩) 2 2 allR from
    ⟨rfl, World.ownsRow_lit w _ 2 (Nat.le_refl _) (by unfold maxLen; omega) rfl⟩)
  go_enter Try.func18, Try.ntmps18
  go_wp2_with fail
  go_ret
  exact ⟨rfl, HO.out, below_alloc6 w _⟩
/-- w1 is past, nothing older has turned. -/
def Past (w1 W : World) : Prop := Below w1.heap.size w1 W
set_option maxHeartbeats 16000000 in
set_option maxRecDepth 20000 in
theorem rcompl_any (A : Option Addr) (cap : Nat) (l : List Rg) (w : World) (h : RowL ER w A l) (hf : ∀ r ∈ l, r.fits) (hl : l.length ≤ 100000) :
    Calls Try.prog 54 #[.slice A l.length cap] w (SetO w w.heap.size (fun m => isU m && !anyS (spnL l) m) (2 * l.length + 2)) := by
  have HNOR := Lib.hid (fun W (hb : Below w.heap.size w W) => rnormal_any A cap l W (h.kept hb) hf hl)
  obtain ⟨N, hN⟩ : ∃ n, n = l.length := ⟨_, rfl⟩
  have hn6 : N ≤ 100000 := by omega
  rw [← hN] at HNOR ⊢
  have HALL := Lib.hid (rall_any w)
  clear h hf hl hN
  go_enter Try.func54, Try.ntmps54
  go_wp2_with fail
  refine HALL.out.mono ?_
  rintro e w0 ⟨rfl, hall, hb0⟩
  have HAL := Lib.hid hall
  have HB0 := Lib.hid hb0
  obtain ⟨ga, hga⟩ : ∃ g, g = w.heap.size := ⟨_, rfl⟩
  rw [← hga] at HAL ⊢
  have HNO := Lib.hid (HNOR.out w0 hb0)
  clear hall hb0 hga HNOR HALL
  go_wp2_with fail
  refine HNO.out.mono ?_
  rintro e w1 ⟨S, As, ns, cs, g1, g2, g3, rfl, g5, hb⟩
  have HS := Lib.hid g1
  have HSA := Lib.hid g2
  have HSR := Lib.hid (show RowL ER w1 As S from g5.row)
  have HNS := Lib.hid g5.1
  have HAR := Lib.hid (show RowL ER w1 (some ⟨ga, 0, none⟩) allR from HAL.out.row.kept hb)
  have HB1 := Lib.hid (HB0.out.trans (hb.mono HB0.out.size))
  have HGA := Lib.hid (show ga < w1.heap.size from by obtain ⟨g, o, e, hg⟩ := HAR.out.shape (by decide); simp only [Option.some.injEq, Addr.mk.injEq] at e; omega)
  have hns : ns ≤ 100000 := by omega
  have HNSN := Lib.hid g3
  clear g1 g2 g3 g5 hb HNO HB0 HAL
  go_wp2_with fail
  have HOa := Lib.hid (OwnR.nil w1 w1.heap.size)
  have HBa := Lib.hid (Below.refl w1.heap.size w1)
  have HTa := Lib.hid (show (([] : List Rg).map spn) = compT S 0 from rfl)
  go_loopw [3, 6] (fun s3 s6 wr => ∃ k n c' : Nat, ∃ A' : Option Addr, ∃ out : List Rg, k ≤ 2 ∧ s6 = .int .i64 k ∧ s3 = .slice A' n c' ∧ Hid (n ≤ k * ns + k) ∧ Hid (out.map spn = compT S k) ∧ Hid (∀ r ∈ out, someR r = true ∧ r.fits) ∧ Hid (Below w1.heap.size w1 wr) ∧ Hid (OwnR wr w1.heap.size A' n c' out)) (fun _ s6 _ => 2 - (intOf s6).toNat)
  case atStart => exact ⟨0, 0, 0, none, [], by omega, rfl, rfl, Lib.hid (Nat.zero_le _), HTa, Lib.hid (fun r hr => by simp at hr), HBa, HOa⟩
  case round =>
    clear HOa HBa HTa
    obtain ⟨k, n, c', A', out, hk, rfl, rfl, HNK, HT, HG, HB, HO⟩ := hrel
    by_cases hlt : k < 2
    · have hki : (k : Int) < 2 := by omega
      have hki0 : (0 : Int) ≤ (k : Int) := by omega
      obtain ⟨fv, fh, fl, zh, zl, hal, hkv, hff, hfz, hfa, hfe, hza, hze⟩ : ∃ fv : Bool, ∃ fh fl zh zl : Nat, allR[k]? = some ⟨⟨fv, fh, fl⟩, ⟨fv, zh, zl⟩⟩ ∧ ((k = 0 ∧ fv = false) ∨ (k = 1 ∧ fv = true)) ∧ (⟨fv, fh, fl⟩ : Ad).fits ∧ (⟨fv, zh, zl⟩ : Ad).fits ∧ vA ⟨fv, fh, fl⟩ = true ∧ kA ⟨fv, fh, fl⟩ = firstF fv ∧ vA ⟨fv, zh, zl⟩ = true ∧ kA ⟨fv, zh, zl⟩ = lastF fv := by
        rcases (show k = 0 ∨ k = 1 by omega) with rfl | rfl
        · exact ⟨false, 0, 0, 0, 4294967295, rfl, .inl ⟨rfl, rfl⟩, ⟨by decide, by decide⟩, ⟨by decide, by decide⟩, rfl, rfl, rfl, rfl⟩
        · exact ⟨true, 0, 0, 18446744073709551615, 18446744073709551615, rfl, .inr ⟨rfl, rfl⟩, ⟨by decide, by decide⟩, ⟨by decide, by decide⟩, rfl, rfl, rfl, rfl⟩
      obtain ⟨a0, a1, a2, a3, a4, a5⟩ := rg_at HAR.out hal HB.out
      simp only [Nat.zero_add] at a0 a1 a2 a3 a4 a5
      have HCI := Lib.hid (compI_start HS.out hkv hff hfa rfl hfe HT.out HG.out)
      have HEN := Lib.hid (fun (d : Bool) (a : Ad) (o : List Rg) (hh : CompI S fv (compT S (k + 1)) S.length d a o) => compI_end hh hfz hza rfl hze)
      have HALK := Lib.hid hal
      have HZF := Lib.hid (And.intro hfz (And.intro hza hze))
      have HNE := Lib.hid (fun j (hj : (Value.slice A' n c').ownBlock = some j) => show j ≠ wr.heap.size from by have := (HO.out.2.lt j hj).2; omega)
      have HXF := Lib.hid (ab_new wr fv fh fl)
      have HOF := Lib.hid (HO.out.al (.cells #[.bool fv, .int .u64 fh, .int .u64 fl] 25))
      have HBF := Lib.hid (HB.out.alloc HB.out.size (.cells #[.bool fv, .int .u64 fh, .int .u64 fl] 25))
      have hgf1 := HB.out.size
      have HFF := Lib.hid hff
      clear hal hkv hfa hfe hfz hza hze HT HG hff
      go_wp2_with fail
      obtain ⟨gf, hgf⟩ : ∃ g, g = wr.heap.size := ⟨_, rfl⟩
      have HGF := Lib.hid (show w1.heap.size ≤ gf from by omega)
      rw [← hgf] at HXF HNE ⊢
      generalize wr.alloc (.cells #[.bool fv, .int .u64 fh, .int .u64 fl] 25) = W0 at *
      have HNK0 := Lib.hid (show n ≤ k * ns + k + 0 from HNK.out)
      clear hgf a0 a1 a2 a3 a4 a5 HB HO hgf1 HNK
      go_loopw [3, 8, 9] (fun s3 s8 s9 w2 => ∃ i n c' : Nat, ∃ A' : Option Addr, ∃ out : List Rg, ∃ d : Bool, ∃ xh xl : Nat, i ≤ ns ∧ s9 = .int .i64 i ∧ s8 = .bool d ∧ s3 = .slice A' n c' ∧ Hid (n ≤ k * ns + k + i) ∧ Hid (CompI S fv (compT S (k + 1)) i d ⟨fv, xh, xl⟩ out) ∧ Hid ((⟨fv, xh, xl⟩ : Ad).fits) ∧ Hid (∀ j, (Value.slice A' n c').ownBlock = some j → j ≠ gf) ∧ Hid (Below w1.heap.size w1 w2) ∧ Hid (OwnR w2 w1.heap.size A' n c' out) ∧ Hid (AB w2 gf fv xh xl)) (fun _ _ s9 _ => ns - (intOf s9).toNat)
      case atStart => exact ⟨0, n, c', A', out, false, fh, fl, by omega, rfl, rfl, rfl, HNK0, HCI, HFF, HNE, HBF, HOF, HXF⟩
      case round =>
        clear HCI HFF HNE HBF HOF HXF HNK0
        obtain ⟨i, n, c', A', out, d, xh, xl, hi, rfl, rfl, rfl, HNK, HCI, HFI, HNE, HB, HO, HX⟩ := hrel
        by_cases hil : i < ns
        · obtain ⟨⟨⟨v3, h3, l3⟩, ⟨v4, h4, l4⟩⟩, hget⟩ : ∃ s, S[i]? = some s := ⟨S[i]'(by have := HNS.out; omega), List.getElem?_eq_getElem _⟩
          obtain ⟨g, o, rfl, hg⟩ := HSR.out.shape (by have := HNS.out; omega)
          have hxm := good_mem HS.out hget
          have hxv := someR_iff.1 hxm.1
          have hii : (i : Int) < (ns : Int) := by omega
          have hii0 : (0 : Int) ≤ (i : Int) := by omega
          have HGT := Lib.hid hget
          have hgw : g < wr.heap.size := Nat.lt_of_lt_of_le hg HB.out.size
          obtain ⟨c0, c1, c2, c3, c4, c5⟩ := rg_at HSR.out hget HB.out
          clear hget
          rcases Bool.eq_false_or_eq_true (v3 == fv) with t3 | t3
          · have hne : (!(v3 == fv)) = false := by rw [t3]; rfl
            obtain rfl : d = false := compI_open HCI.out HS.out HGT.out t3
            have hev : v3 = fv := by simpa using t3
            have hfr := HCI.out.here rfl
            have HT := Lib.hid (fun W => rbef_key hfr.1 hxm.2.1 W)
            simp only at HT
            have HLA := Lib.hid (fun W => rlast_any v4 h4 l4 W hxm.2.2.1 hxm.2.2.2)
            have hlr := lastR_nxt hxm.2.2 hxv.2.1
            simp only at hlr
            rw [hlr] at HLA
            have HAF := Lib.hid (fun W => raft_any v4 h4 l4 W hxm.2.2.1 hxm.2.2.2)
            have hnb : n + 1 ≤ 1000000 := by
              have h1 := HNK.out
              have : k * ns ≤ 1 * ns := Nat.mul_le_mul_right _ (by omega)
              omega
            have HTK := Lib.hid (fun (out' : List Rg) (d' : Bool) (b : Ad) (ho) (hd) => compI_take (out' := out') (d := d') (b := b) HCI.out HS.out HGT.out t3 ho hd)
            have hgal0 : g < w1.heap.size := hg
            by_cases hb1 : kA ⟨fv, xh, xl⟩ < kA ⟨v3, h3, l3⟩
            · rw [decide_eq_true hb1] at HT
              obtain ⟨cv, ch, cl, hp, hcf, hca, hcv, hck⟩ : ∃ cv : Bool, ∃ ch cl : Nat, prvA v3 h3 l3 = some (cv, ch, cl) ∧ (⟨cv, ch, cl⟩ : Ad).fits ∧ vA ⟨cv, ch, cl⟩ = true ∧ cv = v3 ∧ kA ⟨cv, ch, cl⟩ = kA ⟨v3, h3, l3⟩ - 1 := by
                rcases prv_key hxm.2.1 hxv.1 with ⟨_, h0 | h0⟩ | ⟨⟨cv, ch, cl⟩, h1, h2, h3', h4', h5⟩
                · simp only at h0; have := kA_pos ⟨fv, xh, xl⟩; omega
                · simp only at h0
                  cases fv with
                  | true => have := (kA_v6 hfr.1 rfl).1; omega
                  | false => have := kA_low hxm.2.1 hev; simp only at this; omega
                · exact ⟨cv, ch, cl, h1, h3', h4', h2, h5⟩
              have HAH := Lib.hid (fun W => rahe_any v3 h3 l3 ⟨cv, ch, cl⟩ W hxm.2.1.1 hxm.2.1.2 hp)
              simp only at HAH
              clear hp
              rcases nxt_key hxm.2.2 hxv.2.1 with ⟨hn, hl⟩ | ⟨⟨bv, bh, bl⟩, hn, hbv, hbf, hba, hbk⟩
              · skip
                simp only at hn
                rw [hn] at HLA
                simp only [Option.isNone_none] at HLA
                have hlast : kA ⟨v4, h4, l4⟩ = lastF fv := by
                  have h0 := kA_last hxm.2.2 hxv.2.1 (hxv.2.2.1.symm.trans hev)
                  simp only at h0 hl
                  unfold lastF firstF at *
                  have htop : top7 = 680564733841876926926749214863536422911 := rfl
                  cases fv <;> simp only [Bool.false_eq_true, if_false, if_true] at * <;> omega
                obtain ⟨⟨bv, bh, bl⟩, hbb⟩ : ∃ b, aftR ⟨v4, h4, l4⟩ = b := ⟨_, rfl⟩
                rw [hbb] at HAF
                simp only at HAF
                have hd : (true = true → kA ⟨v4, h4, l4⟩ = lastF fv) ∧ (true = false → (⟨fv, zh, zl⟩ : Ad).fits ∧ vA ⟨fv, zh, zl⟩ = true ∧ (⟨fv, zh, zl⟩ : Ad).v = fv ∧ kA ⟨fv, zh, zl⟩ = kA ⟨v4, h4, l4⟩ + 1) := ⟨fun _ => hlast, fun e => Bool.noConfusion e⟩
                have HCI2 := Lib.hid (HTK.out (out ++ [⟨⟨fv, xh, xl⟩, ⟨cv, ch, cl⟩⟩]) true ⟨fv, zh, zl⟩ ⟨fun _ => ⟨⟨cv, ch, cl⟩, hcf, hca, hcv.trans hev, hck, rfl⟩, fun e => absurd hb1 e⟩ hd)
                have HNK2 := Lib.hid (show n + 1 ≤ k * ns + k + (i + 1) from Nat.succ_le_succ HNK.out)
                clear hxm hxv HCI HNK HTK t3 hev hfr hlr hn hd hb1 hl hlast hbb hcf hca hck hcv
                clear c0 c1 c2 c3 c4 c5 hgw
                have y1_0 : wr.cell? ⟨gf, 0, none⟩ = some (.bool fv) := HX.out.c0
                have y1_1 : wr.cell? ⟨gf, 1, none⟩ = some (.int .u64 xh) := HX.out.c1
                have y1_2 : wr.cell? ⟨gf, 2, none⟩ = some (.int .u64 xl) := HX.out.c2
                have yl1 := HX.out.lt
                obtain ⟨c0, c1, c2, c3, c4, c5⟩ := rg_at HSR.out HGT.out HB.out
                have hgw : g < wr.heap.size := Nat.lt_of_lt_of_le hg HB.out.size
                go_wp2_with fail
                refine wp_region_pick (fun w' => Below wr.heap.size wr w') (by kernel_rfl) (by kernel_rfl) (Below.refl _ _) ⟨rfl, rfl, rfl, Nat.le_refl _, fun _ _ => rfl⟩ (fun p hp hq => ?_)
                have pp0 : ∀ u, (p u).cell? ⟨gf, 0, none⟩ = some (.bool fv) := fun u => (HX.out.kept (hp u) HX.out.lt).c0
                have pp1 : ∀ u, (p u).cell? ⟨gf, 1, none⟩ = some (.int .u64 xh) := fun u => (HX.out.kept (hp u) HX.out.lt).c1
                have pp2 : ∀ u, (p u).cell? ⟨gf, 2, none⟩ = some (.int .u64 xl) := fun u => (HX.out.kept (hp u) HX.out.lt).c2
                have pp3 : ∀ u, (p u).cell? ⟨g, o + i * 6, none⟩ = some (.bool v3) := fun u => ((hp u).cell (p := ⟨g, o + i * 6, none⟩) hgw).trans c0
                have pp4 : ∀ u, (p u).cell? ⟨g, o + i * 6 + 1, none⟩ = some (.int .u64 h3) := fun u => ((hp u).cell (p := ⟨g, o + i * 6 + 1, none⟩) hgw).trans c1
                have pp5 : ∀ u, (p u).cell? ⟨g, o + i * 6 + 2, none⟩ = some (.int .u64 l3) := fun u => ((hp u).cell (p := ⟨g, o + i * 6 + 2, none⟩) hgw).trans c2
                have pp6 : ∀ u, (p u).cell? ⟨g, o + i * 6 + 3, none⟩ = some (.bool v4) := fun u => ((hp u).cell (p := ⟨g, o + i * 6 + 3, none⟩) hgw).trans c3
                have pp7 : ∀ u, (p u).cell? ⟨g, o + i * 6 + 4, none⟩ = some (.int .u64 h4) := fun u => ((hp u).cell (p := ⟨g, o + i * 6 + 4, none⟩) hgw).trans c4
                have pp8 : ∀ u, (p u).cell? ⟨g, o + i * 6 + 5, none⟩ = some (.int .u64 l4) := fun u => ((hp u).cell (p := ⟨g, o + i * 6 + 5, none⟩) hgw).trans c5
                have HP := Lib.hid hp
                have HQ := Lib.hid hq
                clear hp hq
                repeat (go_big_quiet_step (fail))
                refine wpQuiet_nil ?_
                rintro _ ⟨u, rfl⟩
                have hbp := HP.out u
                generalize p u = wp1 at *
                clear HP HQ pp0 pp1 pp2 pp3 pp4 pp5 pp6 pp7 pp8
                clear y1_0 y1_1 y1_2 yl1 c0 c1 c2 c3 c4 c5 hgw
                have HO_1 := Lib.hid (show OwnR wp1 w1.heap.size A' n c' out from HO.out.kept hbp)
                have HX_1 := Lib.hid (show AB wp1 gf fv xh xl from HX.out.kept hbp HX.out.lt)
                have HB_1 := Lib.hid (HB.out.trans (hbp.mono HB.out.size))
                clear hbp HO HX HB
                have y1_0 : wp1.cell? ⟨gf, 0, none⟩ = some (.bool fv) := HX_1.out.c0
                have y1_1 : wp1.cell? ⟨gf, 1, none⟩ = some (.int .u64 xh) := HX_1.out.c1
                have y1_2 : wp1.cell? ⟨gf, 2, none⟩ = some (.int .u64 xl) := HX_1.out.c2
                have yl1 := HX_1.out.lt
                obtain ⟨c0, c1, c2, c3, c4, c5⟩ := rg_at HSR.out HGT.out HB_1.out
                have hgw : g < wp1.heap.size := Nat.lt_of_lt_of_le hg HB_1.out.size
                go_wp2_with fail
                refine wp_region_pick (fun w' => Below wp1.heap.size wp1 w') (by kernel_rfl) (by kernel_rfl) (Below.refl _ _) ⟨rfl, rfl, rfl, Nat.le_refl _, fun _ _ => rfl⟩ (fun p hp hq => ?_)
                have pp0 : ∀ u, (p u).cell? ⟨gf, 0, none⟩ = some (.bool fv) := fun u => (HX_1.out.kept (hp u) HX_1.out.lt).c0
                have pp1 : ∀ u, (p u).cell? ⟨gf, 1, none⟩ = some (.int .u64 xh) := fun u => (HX_1.out.kept (hp u) HX_1.out.lt).c1
                have pp2 : ∀ u, (p u).cell? ⟨gf, 2, none⟩ = some (.int .u64 xl) := fun u => (HX_1.out.kept (hp u) HX_1.out.lt).c2
                have pp3 : ∀ u, (p u).cell? ⟨g, o + i * 6, none⟩ = some (.bool v3) := fun u => ((hp u).cell (p := ⟨g, o + i * 6, none⟩) hgw).trans c0
                have pp4 : ∀ u, (p u).cell? ⟨g, o + i * 6 + 1, none⟩ = some (.int .u64 h3) := fun u => ((hp u).cell (p := ⟨g, o + i * 6 + 1, none⟩) hgw).trans c1
                have pp5 : ∀ u, (p u).cell? ⟨g, o + i * 6 + 2, none⟩ = some (.int .u64 l3) := fun u => ((hp u).cell (p := ⟨g, o + i * 6 + 2, none⟩) hgw).trans c2
                have pp6 : ∀ u, (p u).cell? ⟨g, o + i * 6 + 3, none⟩ = some (.bool v4) := fun u => ((hp u).cell (p := ⟨g, o + i * 6 + 3, none⟩) hgw).trans c3
                have pp7 : ∀ u, (p u).cell? ⟨g, o + i * 6 + 4, none⟩ = some (.int .u64 h4) := fun u => ((hp u).cell (p := ⟨g, o + i * 6 + 4, none⟩) hgw).trans c4
                have pp8 : ∀ u, (p u).cell? ⟨g, o + i * 6 + 5, none⟩ = some (.int .u64 l4) := fun u => ((hp u).cell (p := ⟨g, o + i * 6 + 5, none⟩) hgw).trans c5
                have HP := Lib.hid hp
                have HQ := Lib.hid hq
                clear hp hq
                repeat (go_big_quiet_step ((first | with_reducible exact Calls.pick_of HQ.out (fun W' hb => (HP.out _).trans (hb.mono (HP.out _).size)) (HT.out _))))
                refine wpQuiet_nil ?_
                rintro _ ⟨u, rfl⟩
                have hbp := HP.out u
                generalize p u = wp2 at *
                clear HP HQ pp0 pp1 pp2 pp3 pp4 pp5 pp6 pp7 pp8
                clear y1_0 y1_1 y1_2 yl1 c0 c1 c2 c3 c4 c5 hgw
                have HO_2 := Lib.hid (show OwnR wp2 w1.heap.size A' n c' out from HO_1.out.kept hbp)
                have HX_2 := Lib.hid (show AB wp2 gf fv xh xl from HX_1.out.kept hbp HX_1.out.lt)
                have HB_2 := Lib.hid (HB_1.out.trans (hbp.mono HB_1.out.size))
                clear hbp HO_1 HX_1 HB_1
                have y1_0 : wp2.cell? ⟨gf, 0, none⟩ = some (.bool fv) := HX_2.out.c0
                have y1_1 : wp2.cell? ⟨gf, 1, none⟩ = some (.int .u64 xh) := HX_2.out.c1
                have y1_2 : wp2.cell? ⟨gf, 2, none⟩ = some (.int .u64 xl) := HX_2.out.c2
                have yl1 := HX_2.out.lt
                obtain ⟨c0, c1, c2, c3, c4, c5⟩ := rg_at HSR.out HGT.out HB_2.out
                have hgw : g < wp2.heap.size := Nat.lt_of_lt_of_le hg HB_2.out.size
                go_wp2_with fail
                have hgfl : gf < wp2.heap.size := HX_2.out.lt
                have hszq : w1.heap.size ≤ wp2.heap.size := HB_2.out.size
                go_region_held3 (fun w' => w'.cell? ⟨gf, 0, none⟩ = some (.bool fv) ∧ w'.cell? ⟨gf, 1, none⟩ = some (.int .u64 xh) ∧ w'.cell? ⟨gf, 2, none⟩ = some (.int .u64 xl) ∧ w'.cell? ⟨g, o + i * 6, none⟩ = some (.bool v3) ∧ w'.cell? ⟨g, o + i * 6 + 1, none⟩ = some (.int .u64 h3) ∧ w'.cell? ⟨g, o + i * 6 + 2, none⟩ = some (.int .u64 l3)) (go_keep) (first | (go_at_call 69; refine (HAH.out _).mono ?_; rintro e w5 ⟨rfl, hb3d⟩; have hb5 : Below wp2.heap.size wp2 w5 := ⟨hb3d.os, hb3d.tape, hb3d.output, hb3d.size, hb3d.block⟩; have hx5 := HX_2.out.kept hb5 HX_2.out.lt; have ho5 := HO_2.out.kept hb5; have hB5 := HB_2.out.trans (hb5.mono HB_2.out.size); have hz5 := hb5.size; have hg5 : g < w5.heap.size := Nat.lt_of_lt_of_le hgw hb5.size; have hf5 : gf < w5.heap.size := hx5.lt; have j0 := hx5.c0; have j1 := hx5.c1; have j2 := hx5.c2; have j3 := (hb5.cell (p := ⟨g, o + i * 6, none⟩) hgw).trans c0; have j4 := (hb5.cell (p := ⟨g, o + i * 6 + 1, none⟩) hgw).trans c1; have j5 := (hb5.cell (p := ⟨g, o + i * 6 + 2, none⟩) hgw).trans c2) | (refine step_push (E := ER) rgTy (by rfl) _ _ (by rfl) w1.heap.size (.slice A' n c') n out [⟨⟨fv, xh, xl⟩, ⟨cv, ch, cl⟩⟩] (by rfl) (ho5.al _).2 w5.heap.size 1 1 #[.bool fv, .int .u64 xh, .int .u64 xl, .bool cv, .int .u64 ch, .int .u64 cl] (0, 0) (by rfl) (heap_alloc_new w5 _) rfl rfl (by omega) (by omega) (by decide) (by simp; omega) ?_; intro g2 cap2 wz hown hgrow hat hlt2; have hfz : ∀ j, wz.cell? ⟨gf, j, none⟩ = w5.cell? ⟨gf, j, none⟩ := fun j => (hgrow.cell_far ⟨gf, j, none⟩ (by simp; omega) (fun e => HNE.out _ e.symm rfl)).trans ((below_alloc6 w5 (.cells #[.bool fv, .int .u64 xh, .int .u64 xl, .bool cv, .int .u64 ch, .int .u64 cl] 43)).cell (p := ⟨gf, j, none⟩) hf5); have hfa : ∀ j, wz.cell? ⟨g, j, none⟩ = w5.cell? ⟨g, j, none⟩ := fun j => (hgrow.cell_far ⟨g, j, none⟩ (show g < (w5.alloc _).heap.size from by simp; omega) (fun e => by have h7 := (ho5.2.lt _ e.symm).1; have h8 := hgal0; simp only at h7; omega)).trans ((below_alloc6 w5 (.cells #[.bool fv, .int .u64 xh, .int .u64 xl, .bool cv, .int .u64 ch, .int .u64 cl] 43)).cell (p := ⟨g, j, none⟩) hg5); have i0 := (hfz 0).trans j0; have i1 := (hfz 1).trans j1; have i2 := (hfz 2).trans j2; have i3 := (hfa (o + i * 6)).trans j3; have i4 := (hfa (o + i * 6 + 1)).trans j4; have i5 := (hfa (o + i * 6 + 2)).trans j5))
                clear y1_0 y1_1 y1_2 yl1 c0 c1 c2 c3 c4 c5 hgw
                have HOz := Lib.hid (show OwnR wz w1.heap.size (some ⟨g2, 0, none⟩) (n + 1) cap2 (out ++ [⟨⟨fv, xh, xl⟩, ⟨cv, ch, cl⟩⟩]) from ho5.push rfl hown)
                have HXz := Lib.hid (show AB wz gf fv xh xl from (hgrow.block gf (by simp; omega) (fun e => HNE.out _ e.symm rfl)).trans (hx5.al _))
                have HBz := Lib.hid (ho5.below hB5 hB5.size hB5.size (Nat.le_refl _) hgrow)
                have HNEz := Lib.hid (show ∀ j, (Value.slice (some ⟨g2, 0, none⟩) (n + 1) cap2).ownBlock = some j → j ≠ gf from fun j hj => by
                  have hj2 : j = g2 := by simpa [Value.ownBlock] using hj.symm
                  rcases hat with hat | hat
                  · rw [hj2]; exact HNE.out g2 hat
                  · rw [hj2, hat]; have : (w5.alloc (.cells #[.bool fv, .int .u64 xh, .int .u64 xl, .bool cv, .int .u64 ch, .int .u64 cl] 43)).heap.size = w5.heap.size + 1 := by simp
                    omega)
                clear hown hgrow hat hlt2 hb3d hb5 hx5 ho5 hB5 hz5 hg5 hf5 j0 j1 j2 j3 j4 j5 hfz hfa i0 i1 i2 i3 i4 i5 hgfl hszq HO_2 HX_2 HB_2 HNE
                have y1_0 : wz.cell? ⟨gf, 0, none⟩ = some (.bool fv) := HXz.out.c0
                have y1_1 : wz.cell? ⟨gf, 1, none⟩ = some (.int .u64 xh) := HXz.out.c1
                have y1_2 : wz.cell? ⟨gf, 2, none⟩ = some (.int .u64 xl) := HXz.out.c2
                have yl1 := HXz.out.lt
                obtain ⟨c0, c1, c2, c3, c4, c5⟩ := rg_at HSR.out HGT.out HBz.out
                have hgw : g < wz.heap.size := Nat.lt_of_lt_of_le hg HBz.out.size
                go_wp2_with fail
                clear y1_0 y1_1 y1_2 yl1 c0 c1 c2 c3 c4 c5 hgw
                refine (HLA.out _).mono ?_
                rintro e wl ⟨rfl, hb⟩
                have HOz_3 := Lib.hid (show OwnR wl w1.heap.size (some ⟨g2, 0, none⟩) (n + 1) cap2 (out ++ [⟨⟨fv, xh, xl⟩, ⟨cv, ch, cl⟩⟩]) from HOz.out.kept hb)
                have HXz_3 := Lib.hid (show AB wl gf fv xh xl from HXz.out.kept hb HXz.out.lt)
                have HBz_3 := Lib.hid (HBz.out.trans (hb.mono HBz.out.size))
                clear hb HOz HXz HBz
                have y1_0 : wl.cell? ⟨gf, 0, none⟩ = some (.bool fv) := HXz_3.out.c0
                have y1_1 : wl.cell? ⟨gf, 1, none⟩ = some (.int .u64 xh) := HXz_3.out.c1
                have y1_2 : wl.cell? ⟨gf, 2, none⟩ = some (.int .u64 xl) := HXz_3.out.c2
                have yl1 := HXz_3.out.lt
                obtain ⟨c0, c1, c2, c3, c4, c5⟩ := rg_at HSR.out HGT.out HBz_3.out
                have hgw : g < wl.heap.size := Nat.lt_of_lt_of_le hg HBz_3.out.size
                go_wp2_with fail
                clear y1_0 y1_1 y1_2 yl1 c0 c1 c2 c3 c4 c5 hgw
                refine (HAF.out _).mono ?_
                rintro e wa ⟨rfl, hb⟩
                have HOz_4 := Lib.hid (show OwnR wa w1.heap.size (some ⟨g2, 0, none⟩) (n + 1) cap2 (out ++ [⟨⟨fv, xh, xl⟩, ⟨cv, ch, cl⟩⟩]) from HOz_3.out.kept hb)
                have HXz_4 := Lib.hid (show AB wa gf fv xh xl from HXz_3.out.kept hb HXz_3.out.lt)
                have HBz_4 := Lib.hid (HBz_3.out.trans (hb.mono HBz_3.out.size))
                clear hb HOz_3 HXz_3 HBz_3
                obtain ⟨W16, hW16⟩ : ∃ W, W = ((wa.setCell ⟨gf, 0, none⟩ (.bool bv)).setCell ⟨gf, 1, none⟩ (.int .u64 bh)).setCell ⟨gf, 2, none⟩ (.int .u64 bl) := ⟨_, rfl⟩
                have y1_0 : wa.cell? ⟨gf, 0, none⟩ = some (.bool fv) := HXz_4.out.c0
                have z1_0 := HXz_4.out.f 0
                have y1_1 : wa.cell? ⟨gf, 1, none⟩ = some (.int .u64 xh) := HXz_4.out.c1
                have z1_1 := HXz_4.out.f 1
                have y1_2 : wa.cell? ⟨gf, 2, none⟩ = some (.int .u64 xl) := HXz_4.out.c2
                have z1_2 := HXz_4.out.f 2
                have yl1 := HXz_4.out.lt
                have HOz_5 := Lib.hid (show OwnR W16 w1.heap.size (some ⟨g2, 0, none⟩) (n + 1) cap2 (out ++ [⟨⟨fv, xh, xl⟩, ⟨cv, ch, cl⟩⟩]) from by rw [hW16]; exact ((HOz_4.out.far2 HNEz.out _).far2 HNEz.out _).far2 HNEz.out _)
                have HXz_5 := Lib.hid (show AB W16 gf bv bh bl from by rw [hW16]; exact HXz_4.out.set bv bh bl)
                have HBz_5 := Lib.hid (show Below w1.heap.size w1 W16 from by rw [hW16]; exact ((HBz_4.out.setCell (p := ⟨gf, 0, none⟩) HGF.out _).setCell (p := ⟨gf, 1, none⟩) HGF.out _).setCell (p := ⟨gf, 2, none⟩) HGF.out _)
                have q1_0 : W16.cell? ⟨gf, 0, none⟩ = some (.bool bv) := HXz_5.out.c0
                rw [hW16] at q1_0
                have q1_1 : W16.cell? ⟨gf, 1, none⟩ = some (.int .u64 bh) := HXz_5.out.c1
                rw [hW16] at q1_1
                have q1_2 : W16.cell? ⟨gf, 2, none⟩ = some (.int .u64 bl) := HXz_5.out.c2
                rw [hW16] at q1_2
                obtain ⟨_, _, _, a3, a4, a5⟩ := rg_at HAR.out HALK.out HBz_5.out
                simp only [Nat.zero_add] at a3 a4 a5
                rw [hW16] at a3 a4 a5
                have zf0 := HXz_5.out.f 0
                rw [hW16] at zf0
                have zf1 := HXz_5.out.f 1
                rw [hW16] at zf1
                have zf2 := HXz_5.out.f 2
                rw [hW16] at zf2
                obtain ⟨W77, hW77⟩ : ∃ W, W = ((W16.setCell ⟨gf, 0, none⟩ (.bool fv)).setCell ⟨gf, 1, none⟩ (.int .u64 zh)).setCell ⟨gf, 2, none⟩ (.int .u64 zl) := ⟨_, rfl⟩
                have HO7 := Lib.hid (show OwnR W77 w1.heap.size (some ⟨g2, 0, none⟩) (n + 1) cap2 (out ++ [⟨⟨fv, xh, xl⟩, ⟨cv, ch, cl⟩⟩]) from by rw [hW77]; exact ((HOz_5.out.far2 HNEz.out _).far2 HNEz.out _).far2 HNEz.out _)
                have HX7 := Lib.hid (show AB W77 gf fv zh zl from by rw [hW77]; exact HXz_5.out.set fv zh zl)
                have HB7 := Lib.hid (show Below w1.heap.size w1 W77 from by rw [hW77]; exact ((HBz_5.out.setCell (p := ⟨gf, 0, none⟩) HGF.out _).setCell (p := ⟨gf, 1, none⟩) HGF.out _).setCell (p := ⟨gf, 2, none⟩) HGF.out _)
                go_wp2_with fail
                rw [← hW16, ← hW77]
                clear y1_0 z1_0 y1_1 z1_1 y1_2 z1_2 yl1 q1_0 q1_1 q1_2 a3 a4 a5 zf0 zf1 zf2
                go_roundw
                case rel => exact ⟨i + 1, n + 1, cap2, some ⟨g2, 0, none⟩, out ++ [⟨⟨fv, xh, xl⟩, ⟨cv, ch, cl⟩⟩], true, zh, zl, by omega, by go_num, rfl, rfl, HNK2, HCI2, Lib.hid HZF.out.1, HNEz, HB7, HO7, HX7⟩
                case measure => simp [intOf]; omega
              · skip
                simp only at hn
                rw [hn] at HLA
                simp only [Option.isNone_some] at HLA
                rw [aftR_nxt (b := ⟨bv, bh, bl⟩) hxm.2.2 hxv.2.1 hn] at HAF
                simp only at HAF hbv hbk
                obtain rfl : bv = fv := hbv.trans (hxv.2.2.1.symm.trans hev)
                have HBF2 := Lib.hid hbf
                have hd : (false = true → kA ⟨v4, h4, l4⟩ = lastF bv) ∧ (false = false → (⟨bv, bh, bl⟩ : Ad).fits ∧ vA ⟨bv, bh, bl⟩ = true ∧ (⟨bv, bh, bl⟩ : Ad).v = bv ∧ kA ⟨bv, bh, bl⟩ = kA ⟨v4, h4, l4⟩ + 1) := ⟨fun e => Bool.noConfusion e, fun _ => ⟨hbf, hba, rfl, hbk⟩⟩
                have HCI2 := Lib.hid (HTK.out (out ++ [⟨⟨bv, xh, xl⟩, ⟨cv, ch, cl⟩⟩]) false ⟨bv, bh, bl⟩ ⟨fun _ => ⟨⟨cv, ch, cl⟩, hcf, hca, hcv.trans hev, hck, rfl⟩, fun e => absurd hb1 e⟩ hd)
                have HNK2 := Lib.hid (show n + 1 ≤ k * ns + k + (i + 1) from Nat.succ_le_succ HNK.out)
                clear hxm hxv HCI HNK HTK t3 hev hfr hlr hn hd hb1 hbv hbf hba hbk hcf hca hck hcv
                clear c0 c1 c2 c3 c4 c5 hgw
                have y1_0 : wr.cell? ⟨gf, 0, none⟩ = some (.bool bv) := HX.out.c0
                have y1_1 : wr.cell? ⟨gf, 1, none⟩ = some (.int .u64 xh) := HX.out.c1
                have y1_2 : wr.cell? ⟨gf, 2, none⟩ = some (.int .u64 xl) := HX.out.c2
                have yl1 := HX.out.lt
                obtain ⟨c0, c1, c2, c3, c4, c5⟩ := rg_at HSR.out HGT.out HB.out
                have hgw : g < wr.heap.size := Nat.lt_of_lt_of_le hg HB.out.size
                go_wp2_with fail
                refine wp_region_pick (fun w' => Below wr.heap.size wr w') (by kernel_rfl) (by kernel_rfl) (Below.refl _ _) ⟨rfl, rfl, rfl, Nat.le_refl _, fun _ _ => rfl⟩ (fun p hp hq => ?_)
                have pp0 : ∀ u, (p u).cell? ⟨gf, 0, none⟩ = some (.bool bv) := fun u => (HX.out.kept (hp u) HX.out.lt).c0
                have pp1 : ∀ u, (p u).cell? ⟨gf, 1, none⟩ = some (.int .u64 xh) := fun u => (HX.out.kept (hp u) HX.out.lt).c1
                have pp2 : ∀ u, (p u).cell? ⟨gf, 2, none⟩ = some (.int .u64 xl) := fun u => (HX.out.kept (hp u) HX.out.lt).c2
                have pp3 : ∀ u, (p u).cell? ⟨g, o + i * 6, none⟩ = some (.bool v3) := fun u => ((hp u).cell (p := ⟨g, o + i * 6, none⟩) hgw).trans c0
                have pp4 : ∀ u, (p u).cell? ⟨g, o + i * 6 + 1, none⟩ = some (.int .u64 h3) := fun u => ((hp u).cell (p := ⟨g, o + i * 6 + 1, none⟩) hgw).trans c1
                have pp5 : ∀ u, (p u).cell? ⟨g, o + i * 6 + 2, none⟩ = some (.int .u64 l3) := fun u => ((hp u).cell (p := ⟨g, o + i * 6 + 2, none⟩) hgw).trans c2
                have pp6 : ∀ u, (p u).cell? ⟨g, o + i * 6 + 3, none⟩ = some (.bool v4) := fun u => ((hp u).cell (p := ⟨g, o + i * 6 + 3, none⟩) hgw).trans c3
                have pp7 : ∀ u, (p u).cell? ⟨g, o + i * 6 + 4, none⟩ = some (.int .u64 h4) := fun u => ((hp u).cell (p := ⟨g, o + i * 6 + 4, none⟩) hgw).trans c4
                have pp8 : ∀ u, (p u).cell? ⟨g, o + i * 6 + 5, none⟩ = some (.int .u64 l4) := fun u => ((hp u).cell (p := ⟨g, o + i * 6 + 5, none⟩) hgw).trans c5
                have HP := Lib.hid hp
                have HQ := Lib.hid hq
                clear hp hq
                repeat (go_big_quiet_step (fail))
                refine wpQuiet_nil ?_
                rintro _ ⟨u, rfl⟩
                have hbp := HP.out u
                generalize p u = wp1 at *
                clear HP HQ pp0 pp1 pp2 pp3 pp4 pp5 pp6 pp7 pp8
                clear y1_0 y1_1 y1_2 yl1 c0 c1 c2 c3 c4 c5 hgw
                have HO_1 := Lib.hid (show OwnR wp1 w1.heap.size A' n c' out from HO.out.kept hbp)
                have HX_1 := Lib.hid (show AB wp1 gf bv xh xl from HX.out.kept hbp HX.out.lt)
                have HB_1 := Lib.hid (HB.out.trans (hbp.mono HB.out.size))
                clear hbp HO HX HB
                have y1_0 : wp1.cell? ⟨gf, 0, none⟩ = some (.bool bv) := HX_1.out.c0
                have y1_1 : wp1.cell? ⟨gf, 1, none⟩ = some (.int .u64 xh) := HX_1.out.c1
                have y1_2 : wp1.cell? ⟨gf, 2, none⟩ = some (.int .u64 xl) := HX_1.out.c2
                have yl1 := HX_1.out.lt
                obtain ⟨c0, c1, c2, c3, c4, c5⟩ := rg_at HSR.out HGT.out HB_1.out
                have hgw : g < wp1.heap.size := Nat.lt_of_lt_of_le hg HB_1.out.size
                go_wp2_with fail
                refine wp_region_pick (fun w' => Below wp1.heap.size wp1 w') (by kernel_rfl) (by kernel_rfl) (Below.refl _ _) ⟨rfl, rfl, rfl, Nat.le_refl _, fun _ _ => rfl⟩ (fun p hp hq => ?_)
                have pp0 : ∀ u, (p u).cell? ⟨gf, 0, none⟩ = some (.bool bv) := fun u => (HX_1.out.kept (hp u) HX_1.out.lt).c0
                have pp1 : ∀ u, (p u).cell? ⟨gf, 1, none⟩ = some (.int .u64 xh) := fun u => (HX_1.out.kept (hp u) HX_1.out.lt).c1
                have pp2 : ∀ u, (p u).cell? ⟨gf, 2, none⟩ = some (.int .u64 xl) := fun u => (HX_1.out.kept (hp u) HX_1.out.lt).c2
                have pp3 : ∀ u, (p u).cell? ⟨g, o + i * 6, none⟩ = some (.bool v3) := fun u => ((hp u).cell (p := ⟨g, o + i * 6, none⟩) hgw).trans c0
                have pp4 : ∀ u, (p u).cell? ⟨g, o + i * 6 + 1, none⟩ = some (.int .u64 h3) := fun u => ((hp u).cell (p := ⟨g, o + i * 6 + 1, none⟩) hgw).trans c1
                have pp5 : ∀ u, (p u).cell? ⟨g, o + i * 6 + 2, none⟩ = some (.int .u64 l3) := fun u => ((hp u).cell (p := ⟨g, o + i * 6 + 2, none⟩) hgw).trans c2
                have pp6 : ∀ u, (p u).cell? ⟨g, o + i * 6 + 3, none⟩ = some (.bool v4) := fun u => ((hp u).cell (p := ⟨g, o + i * 6 + 3, none⟩) hgw).trans c3
                have pp7 : ∀ u, (p u).cell? ⟨g, o + i * 6 + 4, none⟩ = some (.int .u64 h4) := fun u => ((hp u).cell (p := ⟨g, o + i * 6 + 4, none⟩) hgw).trans c4
                have pp8 : ∀ u, (p u).cell? ⟨g, o + i * 6 + 5, none⟩ = some (.int .u64 l4) := fun u => ((hp u).cell (p := ⟨g, o + i * 6 + 5, none⟩) hgw).trans c5
                have HP := Lib.hid hp
                have HQ := Lib.hid hq
                clear hp hq
                repeat (go_big_quiet_step ((first | with_reducible exact Calls.pick_of HQ.out (fun W' hb => (HP.out _).trans (hb.mono (HP.out _).size)) (HT.out _))))
                refine wpQuiet_nil ?_
                rintro _ ⟨u, rfl⟩
                have hbp := HP.out u
                generalize p u = wp2 at *
                clear HP HQ pp0 pp1 pp2 pp3 pp4 pp5 pp6 pp7 pp8
                clear y1_0 y1_1 y1_2 yl1 c0 c1 c2 c3 c4 c5 hgw
                have HO_2 := Lib.hid (show OwnR wp2 w1.heap.size A' n c' out from HO_1.out.kept hbp)
                have HX_2 := Lib.hid (show AB wp2 gf bv xh xl from HX_1.out.kept hbp HX_1.out.lt)
                have HB_2 := Lib.hid (HB_1.out.trans (hbp.mono HB_1.out.size))
                clear hbp HO_1 HX_1 HB_1
                have y1_0 : wp2.cell? ⟨gf, 0, none⟩ = some (.bool bv) := HX_2.out.c0
                have y1_1 : wp2.cell? ⟨gf, 1, none⟩ = some (.int .u64 xh) := HX_2.out.c1
                have y1_2 : wp2.cell? ⟨gf, 2, none⟩ = some (.int .u64 xl) := HX_2.out.c2
                have yl1 := HX_2.out.lt
                obtain ⟨c0, c1, c2, c3, c4, c5⟩ := rg_at HSR.out HGT.out HB_2.out
                have hgw : g < wp2.heap.size := Nat.lt_of_lt_of_le hg HB_2.out.size
                go_wp2_with fail
                have hgfl : gf < wp2.heap.size := HX_2.out.lt
                have hszq : w1.heap.size ≤ wp2.heap.size := HB_2.out.size
                go_region_held3 (fun w' => w'.cell? ⟨gf, 0, none⟩ = some (.bool bv) ∧ w'.cell? ⟨gf, 1, none⟩ = some (.int .u64 xh) ∧ w'.cell? ⟨gf, 2, none⟩ = some (.int .u64 xl) ∧ w'.cell? ⟨g, o + i * 6, none⟩ = some (.bool v3) ∧ w'.cell? ⟨g, o + i * 6 + 1, none⟩ = some (.int .u64 h3) ∧ w'.cell? ⟨g, o + i * 6 + 2, none⟩ = some (.int .u64 l3)) (go_keep) (first | (go_at_call 69; refine (HAH.out _).mono ?_; rintro e w5 ⟨rfl, hb3d⟩; have hb5 : Below wp2.heap.size wp2 w5 := ⟨hb3d.os, hb3d.tape, hb3d.output, hb3d.size, hb3d.block⟩; have hx5 := HX_2.out.kept hb5 HX_2.out.lt; have ho5 := HO_2.out.kept hb5; have hB5 := HB_2.out.trans (hb5.mono HB_2.out.size); have hz5 := hb5.size; have hg5 : g < w5.heap.size := Nat.lt_of_lt_of_le hgw hb5.size; have hf5 : gf < w5.heap.size := hx5.lt; have j0 := hx5.c0; have j1 := hx5.c1; have j2 := hx5.c2; have j3 := (hb5.cell (p := ⟨g, o + i * 6, none⟩) hgw).trans c0; have j4 := (hb5.cell (p := ⟨g, o + i * 6 + 1, none⟩) hgw).trans c1; have j5 := (hb5.cell (p := ⟨g, o + i * 6 + 2, none⟩) hgw).trans c2) | (refine step_push (E := ER) rgTy (by rfl) _ _ (by rfl) w1.heap.size (.slice A' n c') n out [⟨⟨bv, xh, xl⟩, ⟨cv, ch, cl⟩⟩] (by rfl) (ho5.al _).2 w5.heap.size 1 1 #[.bool bv, .int .u64 xh, .int .u64 xl, .bool cv, .int .u64 ch, .int .u64 cl] (0, 0) (by rfl) (heap_alloc_new w5 _) rfl rfl (by omega) (by omega) (by decide) (by simp; omega) ?_; intro g2 cap2 wz hown hgrow hat hlt2; have hfz : ∀ j, wz.cell? ⟨gf, j, none⟩ = w5.cell? ⟨gf, j, none⟩ := fun j => (hgrow.cell_far ⟨gf, j, none⟩ (by simp; omega) (fun e => HNE.out _ e.symm rfl)).trans ((below_alloc6 w5 (.cells #[.bool bv, .int .u64 xh, .int .u64 xl, .bool cv, .int .u64 ch, .int .u64 cl] 43)).cell (p := ⟨gf, j, none⟩) hf5); have hfa : ∀ j, wz.cell? ⟨g, j, none⟩ = w5.cell? ⟨g, j, none⟩ := fun j => (hgrow.cell_far ⟨g, j, none⟩ (show g < (w5.alloc _).heap.size from by simp; omega) (fun e => by have h7 := (ho5.2.lt _ e.symm).1; have h8 := hgal0; simp only at h7; omega)).trans ((below_alloc6 w5 (.cells #[.bool bv, .int .u64 xh, .int .u64 xl, .bool cv, .int .u64 ch, .int .u64 cl] 43)).cell (p := ⟨g, j, none⟩) hg5); have i0 := (hfz 0).trans j0; have i1 := (hfz 1).trans j1; have i2 := (hfz 2).trans j2; have i3 := (hfa (o + i * 6)).trans j3; have i4 := (hfa (o + i * 6 + 1)).trans j4; have i5 := (hfa (o + i * 6 + 2)).trans j5))
                clear y1_0 y1_1 y1_2 yl1 c0 c1 c2 c3 c4 c5 hgw
                have HOz := Lib.hid (show OwnR wz w1.heap.size (some ⟨g2, 0, none⟩) (n + 1) cap2 (out ++ [⟨⟨bv, xh, xl⟩, ⟨cv, ch, cl⟩⟩]) from ho5.push rfl hown)
                have HXz := Lib.hid (show AB wz gf bv xh xl from (hgrow.block gf (by simp; omega) (fun e => HNE.out _ e.symm rfl)).trans (hx5.al _))
                have HBz := Lib.hid (ho5.below hB5 hB5.size hB5.size (Nat.le_refl _) hgrow)
                have HNEz := Lib.hid (show ∀ j, (Value.slice (some ⟨g2, 0, none⟩) (n + 1) cap2).ownBlock = some j → j ≠ gf from fun j hj => by
                  have hj2 : j = g2 := by simpa [Value.ownBlock] using hj.symm
                  rcases hat with hat | hat
                  · rw [hj2]; exact HNE.out g2 hat
                  · rw [hj2, hat]; have : (w5.alloc (.cells #[.bool bv, .int .u64 xh, .int .u64 xl, .bool cv, .int .u64 ch, .int .u64 cl] 43)).heap.size = w5.heap.size + 1 := by simp
                    omega)
                clear hown hgrow hat hlt2 hb3d hb5 hx5 ho5 hB5 hz5 hg5 hf5 j0 j1 j2 j3 j4 j5 hfz hfa i0 i1 i2 i3 i4 i5 hgfl hszq HO_2 HX_2 HB_2 HNE
                have y1_0 : wz.cell? ⟨gf, 0, none⟩ = some (.bool bv) := HXz.out.c0
                have y1_1 : wz.cell? ⟨gf, 1, none⟩ = some (.int .u64 xh) := HXz.out.c1
                have y1_2 : wz.cell? ⟨gf, 2, none⟩ = some (.int .u64 xl) := HXz.out.c2
                have yl1 := HXz.out.lt
                obtain ⟨c0, c1, c2, c3, c4, c5⟩ := rg_at HSR.out HGT.out HBz.out
                have hgw : g < wz.heap.size := Nat.lt_of_lt_of_le hg HBz.out.size
                go_wp2_with fail
                clear y1_0 y1_1 y1_2 yl1 c0 c1 c2 c3 c4 c5 hgw
                refine (HLA.out _).mono ?_
                rintro e wl ⟨rfl, hb⟩
                have HOz_3 := Lib.hid (show OwnR wl w1.heap.size (some ⟨g2, 0, none⟩) (n + 1) cap2 (out ++ [⟨⟨bv, xh, xl⟩, ⟨cv, ch, cl⟩⟩]) from HOz.out.kept hb)
                have HXz_3 := Lib.hid (show AB wl gf bv xh xl from HXz.out.kept hb HXz.out.lt)
                have HBz_3 := Lib.hid (HBz.out.trans (hb.mono HBz.out.size))
                clear hb HOz HXz HBz
                have y1_0 : wl.cell? ⟨gf, 0, none⟩ = some (.bool bv) := HXz_3.out.c0
                have y1_1 : wl.cell? ⟨gf, 1, none⟩ = some (.int .u64 xh) := HXz_3.out.c1
                have y1_2 : wl.cell? ⟨gf, 2, none⟩ = some (.int .u64 xl) := HXz_3.out.c2
                have yl1 := HXz_3.out.lt
                obtain ⟨c0, c1, c2, c3, c4, c5⟩ := rg_at HSR.out HGT.out HBz_3.out
                have hgw : g < wl.heap.size := Nat.lt_of_lt_of_le hg HBz_3.out.size
                go_wp2_with fail
                clear y1_0 y1_1 y1_2 yl1 c0 c1 c2 c3 c4 c5 hgw
                refine (HAF.out _).mono ?_
                rintro e wa ⟨rfl, hb⟩
                have HOz_4 := Lib.hid (show OwnR wa w1.heap.size (some ⟨g2, 0, none⟩) (n + 1) cap2 (out ++ [⟨⟨bv, xh, xl⟩, ⟨cv, ch, cl⟩⟩]) from HOz_3.out.kept hb)
                have HXz_4 := Lib.hid (show AB wa gf bv xh xl from HXz_3.out.kept hb HXz_3.out.lt)
                have HBz_4 := Lib.hid (HBz_3.out.trans (hb.mono HBz_3.out.size))
                clear hb HOz_3 HXz_3 HBz_3
                obtain ⟨W16, hW16⟩ : ∃ W, W = ((wa.setCell ⟨gf, 0, none⟩ (.bool bv)).setCell ⟨gf, 1, none⟩ (.int .u64 bh)).setCell ⟨gf, 2, none⟩ (.int .u64 bl) := ⟨_, rfl⟩
                have y1_0 : wa.cell? ⟨gf, 0, none⟩ = some (.bool bv) := HXz_4.out.c0
                have z1_0 := HXz_4.out.f 0
                have y1_1 : wa.cell? ⟨gf, 1, none⟩ = some (.int .u64 xh) := HXz_4.out.c1
                have z1_1 := HXz_4.out.f 1
                have y1_2 : wa.cell? ⟨gf, 2, none⟩ = some (.int .u64 xl) := HXz_4.out.c2
                have z1_2 := HXz_4.out.f 2
                have yl1 := HXz_4.out.lt
                have HOz_5 := Lib.hid (show OwnR W16 w1.heap.size (some ⟨g2, 0, none⟩) (n + 1) cap2 (out ++ [⟨⟨bv, xh, xl⟩, ⟨cv, ch, cl⟩⟩]) from by rw [hW16]; exact ((HOz_4.out.far2 HNEz.out _).far2 HNEz.out _).far2 HNEz.out _)
                have HXz_5 := Lib.hid (show AB W16 gf bv bh bl from by rw [hW16]; exact HXz_4.out.set bv bh bl)
                have HBz_5 := Lib.hid (show Below w1.heap.size w1 W16 from by rw [hW16]; exact ((HBz_4.out.setCell (p := ⟨gf, 0, none⟩) HGF.out _).setCell (p := ⟨gf, 1, none⟩) HGF.out _).setCell (p := ⟨gf, 2, none⟩) HGF.out _)
                have q1_0 : W16.cell? ⟨gf, 0, none⟩ = some (.bool bv) := HXz_5.out.c0
                rw [hW16] at q1_0
                have q1_1 : W16.cell? ⟨gf, 1, none⟩ = some (.int .u64 bh) := HXz_5.out.c1
                rw [hW16] at q1_1
                have q1_2 : W16.cell? ⟨gf, 2, none⟩ = some (.int .u64 bl) := HXz_5.out.c2
                rw [hW16] at q1_2
                go_wp2_with fail
                rw [← hW16]
                clear hW16 HOz_4 HXz_4 HBz_4
                clear y1_0 z1_0 y1_1 z1_1 y1_2 z1_2 yl1 q1_0 q1_1 q1_2
                go_roundw
                case rel => exact ⟨i + 1, n + 1, cap2, some ⟨g2, 0, none⟩, out ++ [⟨⟨bv, xh, xl⟩, ⟨cv, ch, cl⟩⟩], false, bh, bl, by omega, by go_num, rfl, rfl, HNK2, HCI2, HBF2, HNEz, HBz_5, HOz_5, HXz_5⟩
                case measure => simp [intOf]; omega
            · rw [decide_eq_false hb1] at HT
              rcases nxt_key hxm.2.2 hxv.2.1 with ⟨hn, hl⟩ | ⟨⟨bv, bh, bl⟩, hn, hbv, hbf, hba, hbk⟩
              · skip
                simp only at hn
                rw [hn] at HLA
                simp only [Option.isNone_none] at HLA
                have hlast : kA ⟨v4, h4, l4⟩ = lastF fv := by
                  have h0 := kA_last hxm.2.2 hxv.2.1 (hxv.2.2.1.symm.trans hev)
                  simp only at h0 hl
                  unfold lastF firstF at *
                  have htop : top7 = 680564733841876926926749214863536422911 := rfl
                  cases fv <;> simp only [Bool.false_eq_true, if_false, if_true] at * <;> omega
                obtain ⟨⟨bv, bh, bl⟩, hbb⟩ : ∃ b, aftR ⟨v4, h4, l4⟩ = b := ⟨_, rfl⟩
                rw [hbb] at HAF
                simp only at HAF
                have hd : (true = true → kA ⟨v4, h4, l4⟩ = lastF fv) ∧ (true = false → (⟨fv, zh, zl⟩ : Ad).fits ∧ vA ⟨fv, zh, zl⟩ = true ∧ (⟨fv, zh, zl⟩ : Ad).v = fv ∧ kA ⟨fv, zh, zl⟩ = kA ⟨v4, h4, l4⟩ + 1) := ⟨fun _ => hlast, fun e => Bool.noConfusion e⟩
                have HCI2 := Lib.hid (HTK.out (out) true ⟨fv, zh, zl⟩ ⟨fun e => absurd e hb1, fun _ => rfl⟩ hd)
                have HNK2 := Lib.hid (show n ≤ k * ns + k + (i + 1) from Nat.le_succ_of_le HNK.out)
                clear hxm hxv HCI HNK HTK t3 hev hfr hlr hn hd hb1 hl hlast hbb
                clear c0 c1 c2 c3 c4 c5 hgw
                have y1_0 : wr.cell? ⟨gf, 0, none⟩ = some (.bool fv) := HX.out.c0
                have y1_1 : wr.cell? ⟨gf, 1, none⟩ = some (.int .u64 xh) := HX.out.c1
                have y1_2 : wr.cell? ⟨gf, 2, none⟩ = some (.int .u64 xl) := HX.out.c2
                have yl1 := HX.out.lt
                obtain ⟨c0, c1, c2, c3, c4, c5⟩ := rg_at HSR.out HGT.out HB.out
                have hgw : g < wr.heap.size := Nat.lt_of_lt_of_le hg HB.out.size
                go_wp2_with fail
                refine wp_region_pick (fun w' => Below wr.heap.size wr w') (by kernel_rfl) (by kernel_rfl) (Below.refl _ _) ⟨rfl, rfl, rfl, Nat.le_refl _, fun _ _ => rfl⟩ (fun p hp hq => ?_)
                have pp0 : ∀ u, (p u).cell? ⟨gf, 0, none⟩ = some (.bool fv) := fun u => (HX.out.kept (hp u) HX.out.lt).c0
                have pp1 : ∀ u, (p u).cell? ⟨gf, 1, none⟩ = some (.int .u64 xh) := fun u => (HX.out.kept (hp u) HX.out.lt).c1
                have pp2 : ∀ u, (p u).cell? ⟨gf, 2, none⟩ = some (.int .u64 xl) := fun u => (HX.out.kept (hp u) HX.out.lt).c2
                have pp3 : ∀ u, (p u).cell? ⟨g, o + i * 6, none⟩ = some (.bool v3) := fun u => ((hp u).cell (p := ⟨g, o + i * 6, none⟩) hgw).trans c0
                have pp4 : ∀ u, (p u).cell? ⟨g, o + i * 6 + 1, none⟩ = some (.int .u64 h3) := fun u => ((hp u).cell (p := ⟨g, o + i * 6 + 1, none⟩) hgw).trans c1
                have pp5 : ∀ u, (p u).cell? ⟨g, o + i * 6 + 2, none⟩ = some (.int .u64 l3) := fun u => ((hp u).cell (p := ⟨g, o + i * 6 + 2, none⟩) hgw).trans c2
                have pp6 : ∀ u, (p u).cell? ⟨g, o + i * 6 + 3, none⟩ = some (.bool v4) := fun u => ((hp u).cell (p := ⟨g, o + i * 6 + 3, none⟩) hgw).trans c3
                have pp7 : ∀ u, (p u).cell? ⟨g, o + i * 6 + 4, none⟩ = some (.int .u64 h4) := fun u => ((hp u).cell (p := ⟨g, o + i * 6 + 4, none⟩) hgw).trans c4
                have pp8 : ∀ u, (p u).cell? ⟨g, o + i * 6 + 5, none⟩ = some (.int .u64 l4) := fun u => ((hp u).cell (p := ⟨g, o + i * 6 + 5, none⟩) hgw).trans c5
                have HP := Lib.hid hp
                have HQ := Lib.hid hq
                clear hp hq
                repeat (go_big_quiet_step (fail))
                refine wpQuiet_nil ?_
                rintro _ ⟨u, rfl⟩
                have hbp := HP.out u
                generalize p u = wp1 at *
                clear HP HQ pp0 pp1 pp2 pp3 pp4 pp5 pp6 pp7 pp8
                clear y1_0 y1_1 y1_2 yl1 c0 c1 c2 c3 c4 c5 hgw
                have HO_1 := Lib.hid (show OwnR wp1 w1.heap.size A' n c' out from HO.out.kept hbp)
                have HX_1 := Lib.hid (show AB wp1 gf fv xh xl from HX.out.kept hbp HX.out.lt)
                have HB_1 := Lib.hid (HB.out.trans (hbp.mono HB.out.size))
                clear hbp HO HX HB
                have y1_0 : wp1.cell? ⟨gf, 0, none⟩ = some (.bool fv) := HX_1.out.c0
                have y1_1 : wp1.cell? ⟨gf, 1, none⟩ = some (.int .u64 xh) := HX_1.out.c1
                have y1_2 : wp1.cell? ⟨gf, 2, none⟩ = some (.int .u64 xl) := HX_1.out.c2
                have yl1 := HX_1.out.lt
                obtain ⟨c0, c1, c2, c3, c4, c5⟩ := rg_at HSR.out HGT.out HB_1.out
                have hgw : g < wp1.heap.size := Nat.lt_of_lt_of_le hg HB_1.out.size
                go_wp2_with fail
                refine wp_region_pick (fun w' => Below wp1.heap.size wp1 w') (by kernel_rfl) (by kernel_rfl) (Below.refl _ _) ⟨rfl, rfl, rfl, Nat.le_refl _, fun _ _ => rfl⟩ (fun p hp hq => ?_)
                have pp0 : ∀ u, (p u).cell? ⟨gf, 0, none⟩ = some (.bool fv) := fun u => (HX_1.out.kept (hp u) HX_1.out.lt).c0
                have pp1 : ∀ u, (p u).cell? ⟨gf, 1, none⟩ = some (.int .u64 xh) := fun u => (HX_1.out.kept (hp u) HX_1.out.lt).c1
                have pp2 : ∀ u, (p u).cell? ⟨gf, 2, none⟩ = some (.int .u64 xl) := fun u => (HX_1.out.kept (hp u) HX_1.out.lt).c2
                have pp3 : ∀ u, (p u).cell? ⟨g, o + i * 6, none⟩ = some (.bool v3) := fun u => ((hp u).cell (p := ⟨g, o + i * 6, none⟩) hgw).trans c0
                have pp4 : ∀ u, (p u).cell? ⟨g, o + i * 6 + 1, none⟩ = some (.int .u64 h3) := fun u => ((hp u).cell (p := ⟨g, o + i * 6 + 1, none⟩) hgw).trans c1
                have pp5 : ∀ u, (p u).cell? ⟨g, o + i * 6 + 2, none⟩ = some (.int .u64 l3) := fun u => ((hp u).cell (p := ⟨g, o + i * 6 + 2, none⟩) hgw).trans c2
                have pp6 : ∀ u, (p u).cell? ⟨g, o + i * 6 + 3, none⟩ = some (.bool v4) := fun u => ((hp u).cell (p := ⟨g, o + i * 6 + 3, none⟩) hgw).trans c3
                have pp7 : ∀ u, (p u).cell? ⟨g, o + i * 6 + 4, none⟩ = some (.int .u64 h4) := fun u => ((hp u).cell (p := ⟨g, o + i * 6 + 4, none⟩) hgw).trans c4
                have pp8 : ∀ u, (p u).cell? ⟨g, o + i * 6 + 5, none⟩ = some (.int .u64 l4) := fun u => ((hp u).cell (p := ⟨g, o + i * 6 + 5, none⟩) hgw).trans c5
                have HP := Lib.hid hp
                have HQ := Lib.hid hq
                clear hp hq
                repeat (go_big_quiet_step ((first | with_reducible exact Calls.pick_of HQ.out (fun W' hb => (HP.out _).trans (hb.mono (HP.out _).size)) (HT.out _))))
                refine wpQuiet_nil ?_
                rintro _ ⟨u, rfl⟩
                have hbp := HP.out u
                generalize p u = wp2 at *
                clear HP HQ pp0 pp1 pp2 pp3 pp4 pp5 pp6 pp7 pp8
                clear y1_0 y1_1 y1_2 yl1 c0 c1 c2 c3 c4 c5 hgw
                have HO_2 := Lib.hid (show OwnR wp2 w1.heap.size A' n c' out from HO_1.out.kept hbp)
                have HX_2 := Lib.hid (show AB wp2 gf fv xh xl from HX_1.out.kept hbp HX_1.out.lt)
                have HB_2 := Lib.hid (HB_1.out.trans (hbp.mono HB_1.out.size))
                clear hbp HO_1 HX_1 HB_1
                have y1_0 : wp2.cell? ⟨gf, 0, none⟩ = some (.bool fv) := HX_2.out.c0
                have y1_1 : wp2.cell? ⟨gf, 1, none⟩ = some (.int .u64 xh) := HX_2.out.c1
                have y1_2 : wp2.cell? ⟨gf, 2, none⟩ = some (.int .u64 xl) := HX_2.out.c2
                have yl1 := HX_2.out.lt
                obtain ⟨c0, c1, c2, c3, c4, c5⟩ := rg_at HSR.out HGT.out HB_2.out
                have hgw : g < wp2.heap.size := Nat.lt_of_lt_of_le hg HB_2.out.size
                go_wp2_with fail
                clear y1_0 y1_1 y1_2 yl1 c0 c1 c2 c3 c4 c5 hgw
                refine (HLA.out _).mono ?_
                rintro e wl ⟨rfl, hb⟩
                have HO_3 := Lib.hid (show OwnR wl w1.heap.size A' n c' out from HO_2.out.kept hb)
                have HX_3 := Lib.hid (show AB wl gf fv xh xl from HX_2.out.kept hb HX_2.out.lt)
                have HB_3 := Lib.hid (HB_2.out.trans (hb.mono HB_2.out.size))
                clear hb HO_2 HX_2 HB_2
                have y1_0 : wl.cell? ⟨gf, 0, none⟩ = some (.bool fv) := HX_3.out.c0
                have y1_1 : wl.cell? ⟨gf, 1, none⟩ = some (.int .u64 xh) := HX_3.out.c1
                have y1_2 : wl.cell? ⟨gf, 2, none⟩ = some (.int .u64 xl) := HX_3.out.c2
                have yl1 := HX_3.out.lt
                obtain ⟨c0, c1, c2, c3, c4, c5⟩ := rg_at HSR.out HGT.out HB_3.out
                have hgw : g < wl.heap.size := Nat.lt_of_lt_of_le hg HB_3.out.size
                go_wp2_with fail
                clear y1_0 y1_1 y1_2 yl1 c0 c1 c2 c3 c4 c5 hgw
                refine (HAF.out _).mono ?_
                rintro e wa ⟨rfl, hb⟩
                have HO_4 := Lib.hid (show OwnR wa w1.heap.size A' n c' out from HO_3.out.kept hb)
                have HX_4 := Lib.hid (show AB wa gf fv xh xl from HX_3.out.kept hb HX_3.out.lt)
                have HB_4 := Lib.hid (HB_3.out.trans (hb.mono HB_3.out.size))
                clear hb HO_3 HX_3 HB_3
                obtain ⟨W16, hW16⟩ : ∃ W, W = ((wa.setCell ⟨gf, 0, none⟩ (.bool bv)).setCell ⟨gf, 1, none⟩ (.int .u64 bh)).setCell ⟨gf, 2, none⟩ (.int .u64 bl) := ⟨_, rfl⟩
                have y1_0 : wa.cell? ⟨gf, 0, none⟩ = some (.bool fv) := HX_4.out.c0
                have z1_0 := HX_4.out.f 0
                have y1_1 : wa.cell? ⟨gf, 1, none⟩ = some (.int .u64 xh) := HX_4.out.c1
                have z1_1 := HX_4.out.f 1
                have y1_2 : wa.cell? ⟨gf, 2, none⟩ = some (.int .u64 xl) := HX_4.out.c2
                have z1_2 := HX_4.out.f 2
                have yl1 := HX_4.out.lt
                have HO_5 := Lib.hid (show OwnR W16 w1.heap.size A' n c' out from by rw [hW16]; exact ((HO_4.out.far2 HNE.out _).far2 HNE.out _).far2 HNE.out _)
                have HX_5 := Lib.hid (show AB W16 gf bv bh bl from by rw [hW16]; exact HX_4.out.set bv bh bl)
                have HB_5 := Lib.hid (show Below w1.heap.size w1 W16 from by rw [hW16]; exact ((HB_4.out.setCell (p := ⟨gf, 0, none⟩) HGF.out _).setCell (p := ⟨gf, 1, none⟩) HGF.out _).setCell (p := ⟨gf, 2, none⟩) HGF.out _)
                have q1_0 : W16.cell? ⟨gf, 0, none⟩ = some (.bool bv) := HX_5.out.c0
                rw [hW16] at q1_0
                have q1_1 : W16.cell? ⟨gf, 1, none⟩ = some (.int .u64 bh) := HX_5.out.c1
                rw [hW16] at q1_1
                have q1_2 : W16.cell? ⟨gf, 2, none⟩ = some (.int .u64 bl) := HX_5.out.c2
                rw [hW16] at q1_2
                obtain ⟨_, _, _, a3, a4, a5⟩ := rg_at HAR.out HALK.out HB_5.out
                simp only [Nat.zero_add] at a3 a4 a5
                rw [hW16] at a3 a4 a5
                have zf0 := HX_5.out.f 0
                rw [hW16] at zf0
                have zf1 := HX_5.out.f 1
                rw [hW16] at zf1
                have zf2 := HX_5.out.f 2
                rw [hW16] at zf2
                obtain ⟨W77, hW77⟩ : ∃ W, W = ((W16.setCell ⟨gf, 0, none⟩ (.bool fv)).setCell ⟨gf, 1, none⟩ (.int .u64 zh)).setCell ⟨gf, 2, none⟩ (.int .u64 zl) := ⟨_, rfl⟩
                have HO7 := Lib.hid (show OwnR W77 w1.heap.size A' n c' out from by rw [hW77]; exact ((HO_5.out.far2 HNE.out _).far2 HNE.out _).far2 HNE.out _)
                have HX7 := Lib.hid (show AB W77 gf fv zh zl from by rw [hW77]; exact HX_5.out.set fv zh zl)
                have HB7 := Lib.hid (show Below w1.heap.size w1 W77 from by rw [hW77]; exact ((HB_5.out.setCell (p := ⟨gf, 0, none⟩) HGF.out _).setCell (p := ⟨gf, 1, none⟩) HGF.out _).setCell (p := ⟨gf, 2, none⟩) HGF.out _)
                go_wp2_with fail
                rw [← hW16, ← hW77]
                clear y1_0 z1_0 y1_1 z1_1 y1_2 z1_2 yl1 q1_0 q1_1 q1_2 a3 a4 a5 zf0 zf1 zf2
                go_roundw
                case rel => exact ⟨i + 1, n, c', A', out, true, zh, zl, by omega, by go_num, rfl, rfl, HNK2, HCI2, Lib.hid HZF.out.1, HNE, HB7, HO7, HX7⟩
                case measure => simp [intOf]; omega
              · skip
                simp only at hn
                rw [hn] at HLA
                simp only [Option.isNone_some] at HLA
                rw [aftR_nxt (b := ⟨bv, bh, bl⟩) hxm.2.2 hxv.2.1 hn] at HAF
                simp only at HAF hbv hbk
                obtain rfl : bv = fv := hbv.trans (hxv.2.2.1.symm.trans hev)
                have HBF2 := Lib.hid hbf
                have hd : (false = true → kA ⟨v4, h4, l4⟩ = lastF bv) ∧ (false = false → (⟨bv, bh, bl⟩ : Ad).fits ∧ vA ⟨bv, bh, bl⟩ = true ∧ (⟨bv, bh, bl⟩ : Ad).v = bv ∧ kA ⟨bv, bh, bl⟩ = kA ⟨v4, h4, l4⟩ + 1) := ⟨fun e => Bool.noConfusion e, fun _ => ⟨hbf, hba, rfl, hbk⟩⟩
                have HCI2 := Lib.hid (HTK.out (out) false ⟨bv, bh, bl⟩ ⟨fun e => absurd e hb1, fun _ => rfl⟩ hd)
                have HNK2 := Lib.hid (show n ≤ k * ns + k + (i + 1) from Nat.le_succ_of_le HNK.out)
                clear hxm hxv HCI HNK HTK t3 hev hfr hlr hn hd hb1 hbv hbf hba hbk
                clear c0 c1 c2 c3 c4 c5 hgw
                have y1_0 : wr.cell? ⟨gf, 0, none⟩ = some (.bool bv) := HX.out.c0
                have y1_1 : wr.cell? ⟨gf, 1, none⟩ = some (.int .u64 xh) := HX.out.c1
                have y1_2 : wr.cell? ⟨gf, 2, none⟩ = some (.int .u64 xl) := HX.out.c2
                have yl1 := HX.out.lt
                obtain ⟨c0, c1, c2, c3, c4, c5⟩ := rg_at HSR.out HGT.out HB.out
                have hgw : g < wr.heap.size := Nat.lt_of_lt_of_le hg HB.out.size
                go_wp2_with fail
                refine wp_region_pick (fun w' => Below wr.heap.size wr w') (by kernel_rfl) (by kernel_rfl) (Below.refl _ _) ⟨rfl, rfl, rfl, Nat.le_refl _, fun _ _ => rfl⟩ (fun p hp hq => ?_)
                have pp0 : ∀ u, (p u).cell? ⟨gf, 0, none⟩ = some (.bool bv) := fun u => (HX.out.kept (hp u) HX.out.lt).c0
                have pp1 : ∀ u, (p u).cell? ⟨gf, 1, none⟩ = some (.int .u64 xh) := fun u => (HX.out.kept (hp u) HX.out.lt).c1
                have pp2 : ∀ u, (p u).cell? ⟨gf, 2, none⟩ = some (.int .u64 xl) := fun u => (HX.out.kept (hp u) HX.out.lt).c2
                have pp3 : ∀ u, (p u).cell? ⟨g, o + i * 6, none⟩ = some (.bool v3) := fun u => ((hp u).cell (p := ⟨g, o + i * 6, none⟩) hgw).trans c0
                have pp4 : ∀ u, (p u).cell? ⟨g, o + i * 6 + 1, none⟩ = some (.int .u64 h3) := fun u => ((hp u).cell (p := ⟨g, o + i * 6 + 1, none⟩) hgw).trans c1
                have pp5 : ∀ u, (p u).cell? ⟨g, o + i * 6 + 2, none⟩ = some (.int .u64 l3) := fun u => ((hp u).cell (p := ⟨g, o + i * 6 + 2, none⟩) hgw).trans c2
                have pp6 : ∀ u, (p u).cell? ⟨g, o + i * 6 + 3, none⟩ = some (.bool v4) := fun u => ((hp u).cell (p := ⟨g, o + i * 6 + 3, none⟩) hgw).trans c3
                have pp7 : ∀ u, (p u).cell? ⟨g, o + i * 6 + 4, none⟩ = some (.int .u64 h4) := fun u => ((hp u).cell (p := ⟨g, o + i * 6 + 4, none⟩) hgw).trans c4
                have pp8 : ∀ u, (p u).cell? ⟨g, o + i * 6 + 5, none⟩ = some (.int .u64 l4) := fun u => ((hp u).cell (p := ⟨g, o + i * 6 + 5, none⟩) hgw).trans c5
                have HP := Lib.hid hp
                have HQ := Lib.hid hq
                clear hp hq
                repeat (go_big_quiet_step (fail))
                refine wpQuiet_nil ?_
                rintro _ ⟨u, rfl⟩
                have hbp := HP.out u
                generalize p u = wp1 at *
                clear HP HQ pp0 pp1 pp2 pp3 pp4 pp5 pp6 pp7 pp8
                clear y1_0 y1_1 y1_2 yl1 c0 c1 c2 c3 c4 c5 hgw
                have HO_1 := Lib.hid (show OwnR wp1 w1.heap.size A' n c' out from HO.out.kept hbp)
                have HX_1 := Lib.hid (show AB wp1 gf bv xh xl from HX.out.kept hbp HX.out.lt)
                have HB_1 := Lib.hid (HB.out.trans (hbp.mono HB.out.size))
                clear hbp HO HX HB
                have y1_0 : wp1.cell? ⟨gf, 0, none⟩ = some (.bool bv) := HX_1.out.c0
                have y1_1 : wp1.cell? ⟨gf, 1, none⟩ = some (.int .u64 xh) := HX_1.out.c1
                have y1_2 : wp1.cell? ⟨gf, 2, none⟩ = some (.int .u64 xl) := HX_1.out.c2
                have yl1 := HX_1.out.lt
                obtain ⟨c0, c1, c2, c3, c4, c5⟩ := rg_at HSR.out HGT.out HB_1.out
                have hgw : g < wp1.heap.size := Nat.lt_of_lt_of_le hg HB_1.out.size
                go_wp2_with fail
                refine wp_region_pick (fun w' => Below wp1.heap.size wp1 w') (by kernel_rfl) (by kernel_rfl) (Below.refl _ _) ⟨rfl, rfl, rfl, Nat.le_refl _, fun _ _ => rfl⟩ (fun p hp hq => ?_)
                have pp0 : ∀ u, (p u).cell? ⟨gf, 0, none⟩ = some (.bool bv) := fun u => (HX_1.out.kept (hp u) HX_1.out.lt).c0
                have pp1 : ∀ u, (p u).cell? ⟨gf, 1, none⟩ = some (.int .u64 xh) := fun u => (HX_1.out.kept (hp u) HX_1.out.lt).c1
                have pp2 : ∀ u, (p u).cell? ⟨gf, 2, none⟩ = some (.int .u64 xl) := fun u => (HX_1.out.kept (hp u) HX_1.out.lt).c2
                have pp3 : ∀ u, (p u).cell? ⟨g, o + i * 6, none⟩ = some (.bool v3) := fun u => ((hp u).cell (p := ⟨g, o + i * 6, none⟩) hgw).trans c0
                have pp4 : ∀ u, (p u).cell? ⟨g, o + i * 6 + 1, none⟩ = some (.int .u64 h3) := fun u => ((hp u).cell (p := ⟨g, o + i * 6 + 1, none⟩) hgw).trans c1
                have pp5 : ∀ u, (p u).cell? ⟨g, o + i * 6 + 2, none⟩ = some (.int .u64 l3) := fun u => ((hp u).cell (p := ⟨g, o + i * 6 + 2, none⟩) hgw).trans c2
                have pp6 : ∀ u, (p u).cell? ⟨g, o + i * 6 + 3, none⟩ = some (.bool v4) := fun u => ((hp u).cell (p := ⟨g, o + i * 6 + 3, none⟩) hgw).trans c3
                have pp7 : ∀ u, (p u).cell? ⟨g, o + i * 6 + 4, none⟩ = some (.int .u64 h4) := fun u => ((hp u).cell (p := ⟨g, o + i * 6 + 4, none⟩) hgw).trans c4
                have pp8 : ∀ u, (p u).cell? ⟨g, o + i * 6 + 5, none⟩ = some (.int .u64 l4) := fun u => ((hp u).cell (p := ⟨g, o + i * 6 + 5, none⟩) hgw).trans c5
                have HP := Lib.hid hp
                have HQ := Lib.hid hq
                clear hp hq
                repeat (go_big_quiet_step ((first | with_reducible exact Calls.pick_of HQ.out (fun W' hb => (HP.out _).trans (hb.mono (HP.out _).size)) (HT.out _))))
                refine wpQuiet_nil ?_
                rintro _ ⟨u, rfl⟩
                have hbp := HP.out u
                generalize p u = wp2 at *
                clear HP HQ pp0 pp1 pp2 pp3 pp4 pp5 pp6 pp7 pp8
                clear y1_0 y1_1 y1_2 yl1 c0 c1 c2 c3 c4 c5 hgw
                have HO_2 := Lib.hid (show OwnR wp2 w1.heap.size A' n c' out from HO_1.out.kept hbp)
                have HX_2 := Lib.hid (show AB wp2 gf bv xh xl from HX_1.out.kept hbp HX_1.out.lt)
                have HB_2 := Lib.hid (HB_1.out.trans (hbp.mono HB_1.out.size))
                clear hbp HO_1 HX_1 HB_1
                have y1_0 : wp2.cell? ⟨gf, 0, none⟩ = some (.bool bv) := HX_2.out.c0
                have y1_1 : wp2.cell? ⟨gf, 1, none⟩ = some (.int .u64 xh) := HX_2.out.c1
                have y1_2 : wp2.cell? ⟨gf, 2, none⟩ = some (.int .u64 xl) := HX_2.out.c2
                have yl1 := HX_2.out.lt
                obtain ⟨c0, c1, c2, c3, c4, c5⟩ := rg_at HSR.out HGT.out HB_2.out
                have hgw : g < wp2.heap.size := Nat.lt_of_lt_of_le hg HB_2.out.size
                go_wp2_with fail
                clear y1_0 y1_1 y1_2 yl1 c0 c1 c2 c3 c4 c5 hgw
                refine (HLA.out _).mono ?_
                rintro e wl ⟨rfl, hb⟩
                have HO_3 := Lib.hid (show OwnR wl w1.heap.size A' n c' out from HO_2.out.kept hb)
                have HX_3 := Lib.hid (show AB wl gf bv xh xl from HX_2.out.kept hb HX_2.out.lt)
                have HB_3 := Lib.hid (HB_2.out.trans (hb.mono HB_2.out.size))
                clear hb HO_2 HX_2 HB_2
                have y1_0 : wl.cell? ⟨gf, 0, none⟩ = some (.bool bv) := HX_3.out.c0
                have y1_1 : wl.cell? ⟨gf, 1, none⟩ = some (.int .u64 xh) := HX_3.out.c1
                have y1_2 : wl.cell? ⟨gf, 2, none⟩ = some (.int .u64 xl) := HX_3.out.c2
                have yl1 := HX_3.out.lt
                obtain ⟨c0, c1, c2, c3, c4, c5⟩ := rg_at HSR.out HGT.out HB_3.out
                have hgw : g < wl.heap.size := Nat.lt_of_lt_of_le hg HB_3.out.size
                go_wp2_with fail
                clear y1_0 y1_1 y1_2 yl1 c0 c1 c2 c3 c4 c5 hgw
                refine (HAF.out _).mono ?_
                rintro e wa ⟨rfl, hb⟩
                have HO_4 := Lib.hid (show OwnR wa w1.heap.size A' n c' out from HO_3.out.kept hb)
                have HX_4 := Lib.hid (show AB wa gf bv xh xl from HX_3.out.kept hb HX_3.out.lt)
                have HB_4 := Lib.hid (HB_3.out.trans (hb.mono HB_3.out.size))
                clear hb HO_3 HX_3 HB_3
                obtain ⟨W16, hW16⟩ : ∃ W, W = ((wa.setCell ⟨gf, 0, none⟩ (.bool bv)).setCell ⟨gf, 1, none⟩ (.int .u64 bh)).setCell ⟨gf, 2, none⟩ (.int .u64 bl) := ⟨_, rfl⟩
                have y1_0 : wa.cell? ⟨gf, 0, none⟩ = some (.bool bv) := HX_4.out.c0
                have z1_0 := HX_4.out.f 0
                have y1_1 : wa.cell? ⟨gf, 1, none⟩ = some (.int .u64 xh) := HX_4.out.c1
                have z1_1 := HX_4.out.f 1
                have y1_2 : wa.cell? ⟨gf, 2, none⟩ = some (.int .u64 xl) := HX_4.out.c2
                have z1_2 := HX_4.out.f 2
                have yl1 := HX_4.out.lt
                have HO_5 := Lib.hid (show OwnR W16 w1.heap.size A' n c' out from by rw [hW16]; exact ((HO_4.out.far2 HNE.out _).far2 HNE.out _).far2 HNE.out _)
                have HX_5 := Lib.hid (show AB W16 gf bv bh bl from by rw [hW16]; exact HX_4.out.set bv bh bl)
                have HB_5 := Lib.hid (show Below w1.heap.size w1 W16 from by rw [hW16]; exact ((HB_4.out.setCell (p := ⟨gf, 0, none⟩) HGF.out _).setCell (p := ⟨gf, 1, none⟩) HGF.out _).setCell (p := ⟨gf, 2, none⟩) HGF.out _)
                have q1_0 : W16.cell? ⟨gf, 0, none⟩ = some (.bool bv) := HX_5.out.c0
                rw [hW16] at q1_0
                have q1_1 : W16.cell? ⟨gf, 1, none⟩ = some (.int .u64 bh) := HX_5.out.c1
                rw [hW16] at q1_1
                have q1_2 : W16.cell? ⟨gf, 2, none⟩ = some (.int .u64 bl) := HX_5.out.c2
                rw [hW16] at q1_2
                go_wp2_with fail
                rw [← hW16]
                clear hW16 HO_4 HX_4 HB_4
                clear y1_0 z1_0 y1_1 z1_1 y1_2 z1_2 yl1 q1_0 q1_1 q1_2
                go_roundw
                case rel => exact ⟨i + 1, n, c', A', out, false, bh, bl, by omega, by go_num, rfl, rfl, HNK2, HCI2, HBF2, HNE, HB_5, HO_5, HX_5⟩
                case measure => simp [intOf]; omega
          · have hne : (!(v3 == fv)) = true := by rw [t3]; rfl
            have HCI2 := Lib.hid (compI_skip HCI.out HGT.out t3)
            have HNK2 := Lib.hid (show n ≤ k * ns + k + (i + 1) from Nat.le_succ_of_le HNK.out)
            clear hxm hxv HCI HNK t3
            have y1_0 : wr.cell? ⟨gf, 0, none⟩ = some (.bool fv) := HX.out.c0
            have y1_1 : wr.cell? ⟨gf, 1, none⟩ = some (.int .u64 xh) := HX.out.c1
            have y1_2 : wr.cell? ⟨gf, 2, none⟩ = some (.int .u64 xl) := HX.out.c2
            have yl1 := HX.out.lt
            go_wp2_with fail
            refine wp_region_pick (fun w' => Below wr.heap.size wr w') (by kernel_rfl) (by kernel_rfl) (Below.refl _ _) ⟨rfl, rfl, rfl, Nat.le_refl _, fun _ _ => rfl⟩ (fun p hp hq => ?_)
            have pp0 : ∀ u, (p u).cell? ⟨gf, 0, none⟩ = some (.bool fv) := fun u => (HX.out.kept (hp u) HX.out.lt).c0
            have pp1 : ∀ u, (p u).cell? ⟨gf, 1, none⟩ = some (.int .u64 xh) := fun u => (HX.out.kept (hp u) HX.out.lt).c1
            have pp2 : ∀ u, (p u).cell? ⟨gf, 2, none⟩ = some (.int .u64 xl) := fun u => (HX.out.kept (hp u) HX.out.lt).c2
            have pp3 : ∀ u, (p u).cell? ⟨g, o + i * 6, none⟩ = some (.bool v3) := fun u => ((hp u).cell (p := ⟨g, o + i * 6, none⟩) hgw).trans c0
            have pp4 : ∀ u, (p u).cell? ⟨g, o + i * 6 + 1, none⟩ = some (.int .u64 h3) := fun u => ((hp u).cell (p := ⟨g, o + i * 6 + 1, none⟩) hgw).trans c1
            have pp5 : ∀ u, (p u).cell? ⟨g, o + i * 6 + 2, none⟩ = some (.int .u64 l3) := fun u => ((hp u).cell (p := ⟨g, o + i * 6 + 2, none⟩) hgw).trans c2
            have pp6 : ∀ u, (p u).cell? ⟨g, o + i * 6 + 3, none⟩ = some (.bool v4) := fun u => ((hp u).cell (p := ⟨g, o + i * 6 + 3, none⟩) hgw).trans c3
            have pp7 : ∀ u, (p u).cell? ⟨g, o + i * 6 + 4, none⟩ = some (.int .u64 h4) := fun u => ((hp u).cell (p := ⟨g, o + i * 6 + 4, none⟩) hgw).trans c4
            have pp8 : ∀ u, (p u).cell? ⟨g, o + i * 6 + 5, none⟩ = some (.int .u64 l4) := fun u => ((hp u).cell (p := ⟨g, o + i * 6 + 5, none⟩) hgw).trans c5
            have HP := Lib.hid hp
            have HQ := Lib.hid hq
            clear hp hq
            repeat (go_big_quiet_step (fail))
            refine wpQuiet_nil ?_
            rintro _ ⟨u, rfl⟩
            have hbp := HP.out u
            generalize p u = wp0 at *
            clear HP HQ pp0 pp1 pp2 pp3 pp4 pp5 pp6 pp7 pp8
            clear y1_0 y1_1 y1_2 yl1 c0 c1 c2 c3 c4 c5 hgw
            have HO_1 := Lib.hid (show OwnR wp0 w1.heap.size A' n c' out from HO.out.kept hbp)
            have HX_1 := Lib.hid (show AB wp0 gf fv xh xl from HX.out.kept hbp HX.out.lt)
            have HB_1 := Lib.hid (HB.out.trans (hbp.mono HB.out.size))
            clear hbp HO HX HB
            have y1_0 : wp0.cell? ⟨gf, 0, none⟩ = some (.bool fv) := HX_1.out.c0
            have y1_1 : wp0.cell? ⟨gf, 1, none⟩ = some (.int .u64 xh) := HX_1.out.c1
            have y1_2 : wp0.cell? ⟨gf, 2, none⟩ = some (.int .u64 xl) := HX_1.out.c2
            have yl1 := HX_1.out.lt
            go_wp2_with fail
            clear y1_0 y1_1 y1_2 yl1
            go_roundw
            case rel => exact ⟨i + 1, n, c', A', out, d, xh, xl, by omega, by go_num, rfl, rfl, HNK2, HCI2, HFI, HNE, HB_1, HO_1, HX_1⟩
            case measure => simp [intOf]; omega
        · have hin : i = S.length := by have := HNS.out; omega
          have he := HEN.out d ⟨fv, xh, xl⟩ out (by rw [← hin]; exact HCI.out)
          have hd : decide ((i : Int) < (ns : Int)) = false := by simp; omega
          have HNM := Lib.hid (show n + 1 ≤ (k + 1) * ns + (k + 1) from by have := HNK.out; rw [Nat.add_mul]; omega)
          have hnb : n + 1 ≤ 1000000 := by
            have h1 := HNM.out
            have : (k + 1) * ns ≤ 2 * ns := Nat.mul_le_mul_right _ (by omega)
            omega
          obtain ⟨a0, a1, a2, a3, a4, a5⟩ := rg_at HAR.out HALK.out HB.out
          simp only [Nat.zero_add] at a0 a1 a2 a3 a4 a5
          cases d with
          | true =>
            rw [if_pos rfl] at he
            have HE := Lib.hid he
            have HNM2 := Lib.hid (show n ≤ (k + 1) * ns + (k + 1) from by have := HNM.out; omega)
            clear hin he HCI HNK hnb a0 a1 a2 a3 a4 a5
            go_wp2_with fail
            go_roundw
            case rel => exact ⟨k + 1, n, c', A', out, by omega, by go_num, rfl, HNM2, Lib.hid HE.out.1, Lib.hid HE.out.2, HB, HO⟩
            case measure => simp [intOf]; omega
          | false =>
            rw [if_neg (by decide)] at he
            have HE := Lib.hid he
            have x0 := HX.out.c0
            have x1 := HX.out.c1
            have x2 := HX.out.c2
            have hsz : w1.heap.size ≤ wr.heap.size := HB.out.size
            have hgfl : gf < wr.heap.size := HX.out.lt
            have hgal0 : ga < w1.heap.size := HGA.out
            have hgal : ga < wr.heap.size := by omega
            clear hin he HCI HNK
            go_wp2_with fail
            go_region_held3 (fun w' => w'.cell? ⟨gf, 0, none⟩ = some (.bool fv) ∧ w'.cell? ⟨gf, 1, none⟩ = some (.int .u64 xh) ∧ w'.cell? ⟨gf, 2, none⟩ = some (.int .u64 xl) ∧ w'.cell? ⟨ga, k * 6 + 3, none⟩ = some (.bool fv) ∧ w'.cell? ⟨ga, k * 6 + 4, none⟩ = some (.int .u64 zh) ∧ w'.cell? ⟨ga, k * 6 + 5, none⟩ = some (.int .u64 zl)) (go_keep) ((refine step_push (E := ER) rgTy (by rfl) _ _ (by rfl) w1.heap.size (.slice A' n c') n out [⟨⟨fv, xh, xl⟩, ⟨fv, zh, zl⟩⟩] (by rfl) ((HO.out.al _).drew 1).2 wr.heap.size 1 1 #[.bool fv, .int .u64 xh, .int .u64 xl, .bool fv, .int .u64 zh, .int .u64 zl] (0, 0) (by rfl) (heap_alloc_new wr _) rfl rfl (by omega) (by omega) (by decide) (by simp; omega) ?_; intro g2 cap2 wz hown hgrow hat hlt2; have hfz : ∀ j, wz.cell? ⟨gf, j, none⟩ = wr.cell? ⟨gf, j, none⟩ := fun j => (hgrow.cell_far ⟨gf, j, none⟩ (by simp; omega) (fun e => HNE.out _ e.symm rfl)).trans ((below_alloc6 wr (.cells #[.bool fv, .int .u64 xh, .int .u64 xl, .bool fv, .int .u64 zh, .int .u64 zl] 43)).cell (p := ⟨gf, j, none⟩) hgfl); have hfa : ∀ j, wz.cell? ⟨ga, j, none⟩ = wr.cell? ⟨ga, j, none⟩ := fun j => (hgrow.cell_far ⟨ga, j, none⟩ (show ga < (wr.alloc _).heap.size from by simp; omega) (fun e => by have h7 := (HO.out.2.lt _ e.symm).1; have h8 := hgal0; simp only at h7; omega)).trans ((below_alloc6 wr (.cells #[.bool fv, .int .u64 xh, .int .u64 xl, .bool fv, .int .u64 zh, .int .u64 zl] 43)).cell (p := ⟨ga, j, none⟩) hgal); have i0 := (hfz 0).trans x0; have i1 := (hfz 1).trans x1; have i2 := (hfz 2).trans x2; have i3 := (hfa (k * 6 + 3)).trans a3; have i4 := (hfa (k * 6 + 4)).trans a4; have i5 := (hfa (k * 6 + 5)).trans a5))
            all_goals
              have HO9 := Lib.hid (HO.out.push rfl hown)
              have HB9 := Lib.hid (show Below w1.heap.size w1 wz from ((HB.out.alloc HB.out.size _).drew).grown hgrow (by have := HB.out.size; simp; omega) (fun j hj => (HO.out.2.lt j hj).1))
              clear hown hgrow hat hlt2 HO HB HX x0 x1 x2 a0 a1 a2 a3 a4 a5 hfz hfa i0 i1 i2 i3 i4 i5
              go_wp2_with fail
              go_roundw
              case rel => exact ⟨k + 1, n + 1, cap2, some ⟨g2, 0, none⟩, out ++ [⟨⟨fv, xh, xl⟩, ⟨fv, zh, zl⟩⟩], by omega, by go_num, rfl, HNM, Lib.hid HE.out.1, Lib.hid HE.out.2, HB9, HO9⟩
              case measure => simp [intOf]; omega
    · have hk2 : k = 2 := by omega
      have HE := Lib.hid (compT_good HS.out (by rw [← hk2]; exact HT.out) HG.out)
      have HNM := Lib.hid (show n ≤ 2 * ns + 2 from by have := HNK.out; rw [hk2] at this; exact this)
      have hd : decide ((k : Int) < 2) = false := by simp; omega
      clear hk2 HT HG HNK
      go_wp2_with fail
      go_ret
      refine ⟨out, A', n, c', HE.out.1, fun m => (HE.out.2 m).trans (by rw [HSA.out m]), ?_, rfl, ⟨HO.out.1, own_mono HO.out.2 HB1.out.size⟩, HB1.out.trans (HB.out.mono HB1.out.size)⟩
      have h1 := HNM.out
      have h2 := HNSN.out
      omega
end Go.Proofs.Ytmcelgnifpfjpaa

/- awake of layer 7. -/
namespace Go.Proofs.Ytmcelgnifpfjpaa
open Go.ChangeShapes Go.WideShapes Go.ChangeAt Go.RowKit
set_option linter.unusedVariables false

theorem exL_fits : ∀ r ∈ exL, r.fits := fun r hr => by
  simp only [exL, List.mem_cons, List.not_mem_nil, or_false] at hr
  rcases hr with rfl | rfl
  · exact ⟨⟨by decide, by decide⟩, by decide, by decide⟩
  · exact ⟨⟨by decide, by decide⟩, by decide, by decide⟩
theorem ex4_fits : ∀ r ∈ ([⟨ipA 1, ipA 4⟩] : List Rg), r.fits := fun r hr => (ex4_good.1 r hr).2
theorem awN (A : Option Addr) (W : World) (h : RowL ER W A exL) : Calls Try.prog 11 #[.slice A 2 2] W fun e w' => ∃ A' c', e = .returned (.slice A' 1 c') ∧ RowL ER w' A' [⟨ipA 1, ipA 3⟩] ∧ Below W.heap.size W w' := by
  refine (pnormal_any A 2 exL W h exL_fits (by decide)).mono ?_
  rintro e w' ⟨L, A', n, c', g1, g2, g3, rfl, g5, hb⟩
  obtain rfl := good_uniq g1 ex3_good (fun m => (g2 m).trans (exL_any m))
  obtain rfl : n = 1 := g5.1
  exact ⟨A', c', rfl, g5.row, hb⟩
theorem awV (A : Option Addr) (W : World) (h : RowL ER W A exL) : Calls Try.prog 13 #[.slice A 2 2] W fun e w' => e = .returned (.bool false) ∧ Below W.heap.size W w' := by
  have h9 := pvalid_any A 2 exL W h exL_fits (by decide)
  rw [show okR exL = false by kernel_rfl] at h9
  exact h9
theorem awP (A : Option Addr) (W : World) (h : RowL ER W A [⟨ipA 1, ipA 4⟩]) : Calls Try.prog 27 #[.slice A 1 1] W fun e w' => ∃ g c', e = .returned (.slice (some ⟨g, 0, none⟩) 3 c') ∧ RowL EP w' (some ⟨g, 0, none⟩) [⟨false, 0, 167772161, 32⟩, ⟨false, 0, 167772162, 31⟩, ⟨false, 0, 167772164, 32⟩] ∧ Below W.heap.size W w' := by
  refine (pprefixes_any A 1 [⟨ipA 1, ipA 4⟩] W h ex4_fits (by decide)).mono ?_
  rintro e w' ⟨L, A', n, c', g1, g2, rfl, g4, hb⟩
  obtain rfl := good_uniq g1 ex4_good (fun m => by rw [g2 m, spnL_good ex4_good])
  rw [exP] at g4
  obtain rfl : n = 3 := g4.1
  obtain ⟨g, cg, hf, _⟩ := World.ownsRow.form g4.2 (by omega)
  simp only [Value.slice.injEq, true_and] at hf
  obtain ⟨rfl, rfl⟩ := hf
  exact ⟨g, _, rfl, g4.row, hb⟩
theorem awA (W : World) : Calls Try.prog 17 #[] W fun e w' => ∃ A' c', e = .returned (.slice A' 2 c') ∧ Below W.heap.size W w' := by
  refine (pall_any W).mono ?_
  rintro e w' ⟨L, A', n, c', g1, g2, g3, rfl, g5, hb⟩
  obtain rfl := good_uniq g1 allR_good (fun m => (g2 m).trans (allR_any m).symm)
  obtain rfl : n = 2 := g5.1
  exact ⟨A', c', rfl, hb⟩
theorem awS (A B : Option Addr) (c d : Nat) (W : World) (h : RowL ER W A [⟨ipA 1, ipA 3⟩]) (h2 : RowL ER W B [⟨ipA 1, ipA 3⟩]) : Calls Try.prog 10 #[.slice A 1 c, .slice B 1 d] W fun e w' => e = .returned (.bool true) ∧ Below W.heap.size W w' :=
  same7_any A B c d [⟨ipA 1, ipA 3⟩] W h h2 (by decide)
theorem eq0 (W : World) : (binOp .eql 37 (.agg #[.bool false, .int .u64 0, .int .u64 167772161, .int .i64 32]) (.agg #[.bool false, .int .u64 0, .int .u64 167772161, .int .i64 32])).run Try.prog W = .ok (.bool true) W := pfx_eql false false 0 0 167772161 167772161 32 32 W
theorem eq1 (W : World) : (binOp .eql 37 (.agg #[.bool false, .int .u64 0, .int .u64 167772162, .int .i64 31]) (.agg #[.bool false, .int .u64 0, .int .u64 167772162, .int .i64 31])).run Try.prog W = .ok (.bool true) W := pfx_eql false false 0 0 167772162 167772162 31 31 W
set_option maxHeartbeats 4000000 in
set_option maxRecDepth 20000 in
theorem awake_any (w : World) :
    Calls Try.prog 9 #[] w fun e w' => e = .returned (.bool true) ∧ Below w.heap.size w w' := by
  have hm := pfx_guard
  have q0 := fun W => eq0 W
  have q1 := fun W => eq1 W
  have I1 := Lib.hid (show ∀ W, Calls Try.prog 33 #[.int .u64 1] W fun e w' => e = .returned (.agg #[.bool false, .int .u64 0, .int .u64 167772161]) ∧ Below W.heap.size W w' from fun W => ip_any 1 W (by decide))
  have I2 := Lib.hid (show ∀ W, Calls Try.prog 33 #[.int .u64 2] W fun e w' => e = .returned (.agg #[.bool false, .int .u64 0, .int .u64 167772162]) ∧ Below W.heap.size W w' from fun W => ip_any 2 W (by decide))
  have I3 := Lib.hid (show ∀ W, Calls Try.prog 33 #[.int .u64 3] W fun e w' => e = .returned (.agg #[.bool false, .int .u64 0, .int .u64 167772163]) ∧ Below W.heap.size W w' from fun W => ip_any 3 W (by decide))
  have I4 := Lib.hid (show ∀ W, Calls Try.prog 33 #[.int .u64 4] W fun e w' => e = .returned (.agg #[.bool false, .int .u64 0, .int .u64 167772164]) ∧ Below W.heap.size W w' from fun W => ip_any 4 W (by decide))
  have HN := Lib.hid awN
  have HV := Lib.hid awV
  have HP := Lib.hid awP
  have HA := Lib.hid awA
  have HS := Lib.hid awS
  go_enter Try.func9, Try.ntmps9
  go_wp2_with fail
  refine (I2.out _).mono ?_
  rintro e w1 ⟨rfl, hb⟩
  have B1 := Lib.hid hb
  clear hb
  go_wp2_with fail
  refine (I3.out _).mono ?_
  rintro e w2 ⟨rfl, hb⟩
  have B2 := Lib.hid (B1.out.trans (hb.mono B1.out.size))
  clear hb B1
  go_wp2_with fail
  refine (I1.out _).mono ?_
  rintro e w3 ⟨rfl, hb⟩
  have B3 := Lib.hid (B2.out.trans (hb.mono B2.out.size))
  clear hb B2
  go_wp2_with fail
  refine (I1.out _).mono ?_
  rintro e w4 ⟨rfl, hb⟩
  have B4 := Lib.hid (B3.out.trans (hb.mono B3.out.size))
  clear hb B3
  have HL := Lib.hid (show RowL ER (w4.alloc (.cells #[.bool false, .int .u64 0, .int .u64 167772162, .bool false, .int .u64 0, .int .u64 167772163, .bool false, .int .u64 0, .int .u64 167772161, .bool false, .int .u64 0, .int .u64 167772161] 43)) (some ⟨w4.heap.size, 0, none⟩) exL from rowl_block (heap_alloc_new w4 _) (by rfl))
  have B5 := Lib.hid (B4.out.alloc B4.out.size (.cells #[.bool false, .int .u64 0, .int .u64 167772162, .bool false, .int .u64 0, .int .u64 167772163, .bool false, .int .u64 0, .int .u64 167772161, .bool false, .int .u64 0, .int .u64 167772161] 43))
  obtain ⟨w5, hw5⟩ : ∃ W, W = w4.alloc (.cells #[.bool false, .int .u64 0, .int .u64 167772162, .bool false, .int .u64 0, .int .u64 167772163, .bool false, .int .u64 0, .int .u64 167772161, .bool false, .int .u64 0, .int .u64 167772161] 43) := ⟨_, rfl⟩
  obtain ⟨gl, hgl⟩ : ∃ g, g = w4.heap.size := ⟨_, rfl⟩
  go_wp2_with fail
  rw [← hw5, ← hgl] at HL ⊢
  rw [← hw5] at B5
  clear hw5 hgl B4
  refine (I1.out _).mono ?_
  rintro e w6 ⟨rfl, hb⟩
  have B6 := Lib.hid (B5.out.trans (hb.mono B5.out.size))
  have HL6 := Lib.hid (HL.out.kept hb)
  clear hb B5 HL
  go_wp2_with fail
  refine (I4.out _).mono ?_
  rintro e w7 ⟨rfl, hb⟩
  have B7 := Lib.hid (B6.out.trans (hb.mono B6.out.size))
  have HL7 := Lib.hid (HL6.out.kept hb)
  clear hb B6 HL6
  go_wp2_with fail
  refine (HP.out _ _ (rowl_block (heap_alloc_new w7 _) (by rfl))).mono ?_
  rintro e w8 ⟨gp, cp, rfl, hp, hb⟩
  have hb8 : Below w7.heap.size w7 w8 := (below_alloc6 w7 _).trans (hb.mono (by simp))
  have B8 := Lib.hid (B7.out.trans (hb8.mono B7.out.size))
  have HL8 := Lib.hid (HL7.out.kept hb8)
  have HC := Lib.hid (show ∀ W, Below w8.heap.size w8 W → W.cell? ⟨gp, 0, none⟩ = some (.bool false) ∧ W.cell? ⟨gp, 1, none⟩ = some (.int .u64 0) ∧ W.cell? ⟨gp, 2, none⟩ = some (.int .u64 167772161) ∧ W.cell? ⟨gp, 3, none⟩ = some (.int .i64 32) ∧ W.cell? ⟨gp, 4, none⟩ = some (.bool false) ∧ W.cell? ⟨gp, 5, none⟩ = some (.int .u64 0) ∧ W.cell? ⟨gp, 6, none⟩ = some (.int .u64 167772162) ∧ W.cell? ⟨gp, 7, none⟩ = some (.int .i64 31) from fun W hW => by
    obtain ⟨p0, p1, p2, p3⟩ := pf_at (k := 0) hp rfl hW
    obtain ⟨k0, k1, k2, k3⟩ := pf_at (k := 1) hp rfl hW
    exact ⟨p0, p1, p2, p3, k0, k1, k2, k3⟩)
  have HGP := Lib.hid (show gp < w8.heap.size from by obtain ⟨g, o, e, h⟩ := hp.shape (by decide); simp only [Option.some.injEq, Addr.mk.injEq] at e; omega)
  clear hb hb8 B7 HL7 hp
  obtain ⟨j10, j11, j12, j13, j14, j15, j16, j17⟩ := HC.out w8 (Below.refl _ _)
  go_wp2_with fail
  go_region_held3 (fun w' => w'.cell? ⟨gp, 0, none⟩ = some (.bool false) ∧ w'.cell? ⟨gp, 1, none⟩ = some (.int .u64 0) ∧ w'.cell? ⟨gp, 2, none⟩ = some (.int .u64 167772161) ∧ w'.cell? ⟨gp, 3, none⟩ = some (.int .i64 32) ∧ w'.cell? ⟨gp, 4, none⟩ = some (.bool false) ∧ w'.cell? ⟨gp, 5, none⟩ = some (.int .u64 0) ∧ w'.cell? ⟨gp, 6, none⟩ = some (.int .u64 167772162) ∧ w'.cell? ⟨gp, 7, none⟩ = some (.int .i64 31)) (go_keep) (first
    | (have _hh := D8; go_at_call 17; refine (HA.out _).mono ?_; rintro e x9 ⟨A9, c9, rfl, hb3d⟩; have D9 : Below w8.heap.size w8 x9 := D8.trans ((show Below x8.heap.size x8 x9 from ⟨hb3d.os, hb3d.tape, hb3d.output, hb3d.size, hb3d.block⟩).mono D8.size); obtain ⟨j90, j91, j92, j93, j94, j95, j96, j97⟩ := HC.out x9 D9)
    | (have _hh := D7; go_at_call 33; refine (I2.out _).mono ?_; rintro e x8 ⟨rfl, hb3d⟩; have D8 : Below w8.heap.size w8 x8 := D7.trans ((show Below x7.heap.size x7 x8 from ⟨hb3d.os, hb3d.tape, hb3d.output, hb3d.size, hb3d.block⟩).mono D7.size); obtain ⟨j80, j81, j82, j83, j84, j85, j86, j87⟩ := HC.out x8 D8)
    | (have _hh := D6; go_at_call 33; refine (I1.out _).mono ?_; rintro e x7 ⟨rfl, hb3d⟩; have D7 : Below w8.heap.size w8 x7 := D6.trans ((show Below x6.heap.size x6 x7 from ⟨hb3d.os, hb3d.tape, hb3d.output, hb3d.size, hb3d.block⟩).mono D6.size); obtain ⟨j70, j71, j72, j73, j74, j75, j76, j77⟩ := HC.out x7 D7)
    | (have _hh := D5; go_at_call 13; refine (HV.out _ _ (RowL.kept HL8.out (show Below w8.heap.size w8 _ from ⟨D5.os, D5.tape, D5.output, D5.size, D5.block⟩))).mono ?_; rintro e x6 ⟨rfl, hb3d⟩; have D6 : Below w8.heap.size w8 x6 := D5.trans ((show Below x5.heap.size x5 x6 from ⟨hb3d.os, hb3d.tape, hb3d.output, hb3d.size, hb3d.block⟩).mono D5.size); obtain ⟨j60, j61, j62, j63, j64, j65, j66, j67⟩ := HC.out x6 D6)
    | (have _hh := D4; go_at_call 10; refine (HS.out _ _ _ _ _ (show RowL ER (x4.alloc (.cells #[.bool false, .int .u64 0, .int .u64 167772161, .bool false, .int .u64 0, .int .u64 167772163] 43)) _ _ from RowL.al HR4.out _) (show RowL ER (x4.alloc (.cells #[.bool false, .int .u64 0, .int .u64 167772161, .bool false, .int .u64 0, .int .u64 167772163] 43)) _ _ from rowl_block (heap_alloc_new x4 _) (by rfl))).mono ?_; rintro e x5 ⟨rfl, hb3d⟩; have D5 : Below w8.heap.size w8 x5 := D4.trans (((below_alloc6 x4 (.cells #[.bool false, .int .u64 0, .int .u64 167772161, .bool false, .int .u64 0, .int .u64 167772163] 43)).trans ((show Below (x4.alloc (.cells #[.bool false, .int .u64 0, .int .u64 167772161, .bool false, .int .u64 0, .int .u64 167772163] 43)).heap.size (x4.alloc (.cells #[.bool false, .int .u64 0, .int .u64 167772161, .bool false, .int .u64 0, .int .u64 167772163] 43)) x5 from ⟨hb3d.os, hb3d.tape, hb3d.output, hb3d.size, hb3d.block⟩).mono (below_alloc6 x4 _).size)).mono D4.size); obtain ⟨j50, j51, j52, j53, j54, j55, j56, j57⟩ := HC.out x5 D5)
    | (have _hh := D3; go_at_call 33; refine (I3.out _).mono ?_; rintro e x4 ⟨rfl, hb3d⟩; have hb4 : Below x3.heap.size x3 x4 := ⟨hb3d.os, hb3d.tape, hb3d.output, hb3d.size, hb3d.block⟩; have HR4 := Lib.hid (HR3.out.kept hb4); have D4 : Below w8.heap.size w8 x4 := D3.trans (hb4.mono D3.size); obtain ⟨j40, j41, j42, j43, j44, j45, j46, j47⟩ := HC.out x4 D4; obtain ⟨y40, y41, y42, y43, y44, y45, y46, y47⟩ := HC.out (x4.alloc (.cells #[.bool false, .int .u64 0, .int .u64 167772161, .bool false, .int .u64 0, .int .u64 167772163] 43)) (D4.alloc D4.size _))
    | (have _hh := D2; go_at_call 33; refine (I1.out _).mono ?_; rintro e x3 ⟨rfl, hb3d⟩; have hb3 : Below x2.heap.size x2 x3 := ⟨hb3d.os, hb3d.tape, hb3d.output, hb3d.size, hb3d.block⟩; have HR3 := Lib.hid (HR2.out.kept hb3); have D3 : Below w8.heap.size w8 x3 := D2.trans (hb3.mono D2.size); obtain ⟨j30, j31, j32, j33, j34, j35, j36, j37⟩ := HC.out x3 D3)
    | (go_at_call 11; refine (HN.out _ _ ?_).mono ?_; exact HL8.out; rintro e x2 ⟨A2, c2, rfl, hr2, hb3d⟩; have D2 : Below w8.heap.size w8 x2 := ⟨hb3d.os, hb3d.tape, hb3d.output, hb3d.size, hb3d.block⟩; have HR2 := Lib.hid hr2; obtain ⟨j20, j21, j22, j23, j24, j25, j26, j27⟩ := HC.out x2 D2))
  all_goals
    go_wp2_with fail
    go_ret
    exact ⟨rfl, B8.out.trans (D9.mono B8.out.size)⟩
end Go.Proofs.Ytmcelgnifpfjpaa

/- Slices of ranges and of prefixes as they come in. -/
namespace Go.Proofs.Ytmcelgnifpfjpaa
open Go.ChangeShapes Go.WideShapes Go.ChangeAt Go.RowKit
open Go.Joins
set_option linter.unusedVariables false

theorem choose7 {α : Type} [Inhabited α] {p : Nat → α → Prop} {m : Nat} (h : ∀ i, i < m → ∃ x, p i x) : ∃ f : Nat → α, ∀ i, i < m → p i (f i) := by
  classical
  exact ⟨fun i => if hi : i < m then (h i hi).choose else default, fun i hi => by simp only [dif_pos hi]; exact (h i hi).choose_spec⟩
theorem cellsRg7 : Try.prog.cellsOf 43 = 6 := by kernel_rfl
theorem cellsPf7 : Try.prog.cellsOf 37 = 4 := by kernel_rfl
theorem cellsAd7 : Try.prog.cellsOf 25 = 3 := by kernel_rfl
theorem offsR7 : ∃ f0 f1, Try.prog.underlying 43 = some (.struct #[f0, f1]) ∧ f0.type = 25 ∧ f0.offset = 0 ∧ f1.type = 25 ∧ f1.offset = 3 := ⟨_, _, Try.underlying43, rfl, rfl, rfl, rfl⟩
theorem offsP7 : ∃ f0 f1, Try.prog.underlying 37 = some (.struct #[f0, f1]) ∧ f0.type = 25 ∧ f0.offset = 0 ∧ f1.type = 3 ∧ f1.offset = 3 := ⟨_, _, Try.underlying37, rfl, rfl, rfl, rfl⟩
theorem offsA7 : ∃ f0 f1 f2, Try.prog.underlying 25 = some (.struct #[f0, f1, f2]) ∧ f0.type = 4 ∧ f0.offset = 0 ∧ f1.type = 23 ∧ f1.offset = 1 ∧ f2.type = 23 ∧ f2.offset = 2 := ⟨_, _, _, Try.underlying25, rfl, rfl, rfl, rfl, rfl, rfl⟩
theorem c1Bool7 : Try.prog.cellsOf 4 = 1 := by kernel_rfl
theorem c1U647 : Try.prog.cellsOf 23 = 1 := by kernel_rfl
theorem c1Int7 : Try.prog.cellsOf 3 = 1 := by kernel_rfl
theorem nat_of_wf7 {x : Int} (h : (Lit.int .u64 x).wf = true) : ∃ n : Nat, x = n ∧ n < 18446744073709551616 := by
  have h' : IntKind.u64.min ≤ x ∧ x ≤ IntKind.u64.max := by simpa [Lit.wf] using h
  have h0 : (0 : Int) ≤ x := h'.1
  have h1 : x ≤ 18446744073709551615 := h'.2
  obtain ⟨k, rfl⟩ := Int.eq_ofNat_of_zero_le h0
  exact ⟨k, rfl, by omega⟩
instance : Inhabited Rg := ⟨⟨⟨false, 0, 0⟩, ⟨false, 0, 0⟩⟩⟩
instance : Inhabited Pf := ⟨⟨false, 0, 0, 0⟩⟩
variable {H : Type} {enc : TypeId × Value → H}
theorem open_ad7 {w : World} {base : Nat} {sp : Nat → Bool} {held : Bool} {fuel : Nat} {v0 v1 v2 : Value} {x : DataW H × List MemPlace} (h : DataW.trod enc Try.prog w base sp held fuel 25 [v0, v1, v2] = some x) : ∃ a : Ad, a.fits ∧ v0 = .bool a.v ∧ v1 = .int .u64 a.h ∧ v2 = .int .u64 a.l := by
  obtain ⟨g0, g1, g2, hsA, u0, q0, u1, q1, u2, q2⟩ := offsA7
  obtain ⟨z0, z1, z2, m, hy, _, k0, k1, k2⟩ := Go.Deep.trod_struct3 hsA h
  rw [u0, q0, c1Bool7] at k0
  rw [u1, q1, c1U647] at k1
  rw [u2, q2, c1U647] at k2
  obtain ⟨b, e0, _⟩ := DataW.trod_bool Try.underlying4 k0
  obtain ⟨x, e1, _, wx⟩ := DataW.trod_int Try.underlying23 k1
  obtain ⟨z, e2, _, wz⟩ := DataW.trod_int Try.underlying23 k2
  simp at e0 e1 e2
  obtain ⟨X, rfl, hX⟩ := nat_of_wf7 wx
  obtain ⟨Z, rfl, hZ⟩ := nat_of_wf7 wz
  exact ⟨⟨b, X, Z⟩, ⟨hX, hZ⟩, e0, e1, e2⟩
theorem addr_twice7 (a : Addr) (x y : Nat) : (a.add x).add y = a.add (x + y) := by
  unfold Addr.add
  by_cases hx : x = 0 <;> by_cases hy : y = 0 <;> simp [hx, hy] <;> omega
/-- A slice that comes in, its elements opened one by one. -/
theorem in_row7 {α : Type} [Inhabited α] {E : Enc α} {P : α → Prop} {t e : TypeId} (ht : Try.prog.underlying t = some (.slice e)) (hk : Try.prog.cellsOf e = E.k)
    {W : World} {base : Nat} {sp : Nat → Bool} {held : Bool} (each : ∀ fuel (cs : List Value) (x : DataW H × List MemPlace), cs.length = E.k → DataW.trod enc Try.prog W base sp held fuel e cs = some x → ∃ q : α, P q ∧ cs = E.c q)
    {A : Option Addr} {n cap : Nat} {d : DataW H} {p : List MemPlace} (h : DataW.Trod enc Try.prog W base sp held t (.slice A n cap) d p) : ∃ l : List α, RowL E W A l ∧ n = l.length ∧ (A = none → cap = 0) ∧ n ≤ maxLen ∧ ∀ r ∈ l, P r := by
  obtain ⟨fuel, hf⟩ := h
  rcases Go.Deep.open_slice ht hf with ⟨hcs, _⟩ | ⟨a, l, c, m, k, D, Pl, hcs, _, hl, hm, hmm, _, hx⟩
  · simp [Value.cells] at hcs
    obtain ⟨rfl, rfl, rfl⟩ := hcs
    exact ⟨[], RowL.nil _ _, rfl, fun _ => rfl, by simp [maxLen], by simp⟩
  · simp [Value.cells] at hcs
    obtain ⟨rfl, rfl, rfl⟩ := hcs
    have hlm : n ≤ m := by rw [hmm]; split <;> omega
    have every : ∀ i, i < n → ∃ q : α, P q ∧ ∀ j v, (E.c q)[j]? = some v → W.cell? (a.add (i * E.k + j)) = some v := by
      intro i hi
      obtain ⟨cs', h1, h2⟩ := hx i (by omega)
      rw [hk] at h1
      obtain ⟨_, hlen, hcell⟩ := World.cells?_some h1
      obtain ⟨q, hq, rfl⟩ := each _ cs' _ hlen h2
      refine ⟨q, hq, fun j v hv => ?_⟩
      have hj : j < E.k := by rw [← E.len q]; exact (List.getElem?_eq_some_iff.1 hv).1
      have := hcell j hj
      rw [addr_twice7] at this
      rw [this]
      exact hv
    obtain ⟨q, hq⟩ := choose7 every
    refine ⟨(List.range n).map q, fun hp => ?_, by simp, (fun e => by simp at e), by omega, fun r hr => ?_⟩
    · simp only [List.length_map, List.length_range] at hp
      obtain ⟨b, off, spot⟩ := a
      have hpos := E.pos
      obtain ⟨u, hu⟩ : ∃ u, (E.c (q 0))[0]? = some u := ⟨_, List.getElem?_eq_getElem (by rw [E.len]; exact hpos)⟩
      have h0 := (hq 0 hp).2 0 u hu
      have hspot : spot = none := by simpa [Addr.add] using World.cell?_spot h0
      subst hspot
      have hlt := World.block_lt_of_cell? W _ h0
      refine ⟨b, off, rfl, by simpa [Addr.add] using hlt, fun i x hx j v hv => ?_⟩
      rw [List.getElem?_map] at hx
      by_cases hi : i < n
      · rw [List.getElem?_range hi] at hx
        simp only [Option.map_some, Option.some.injEq] at hx
        subst hx
        have := (hq i hi).2 j v hv
        rw [addr_add7] at this
        rw [Nat.add_assoc]
        exact this
      · rw [List.getElem?_eq_none (by simpa using hi)] at hx
        simp at hx
    · obtain ⟨i, hi, rfl⟩ := List.mem_map.1 hr
      exact (hq i (List.mem_range.1 hi)).1
theorem in_ranges {W : World} {base : Nat} {sp : Nat → Bool} {held : Bool} {A : Option Addr} {n cap : Nat} {d : DataW H} {p : List MemPlace}
    (h : DataW.Trod enc Try.prog W base sp held 22 (.slice A n cap) d p) : ∃ l : List Rg, RowL ER W A l ∧ n = l.length ∧ (A = none → cap = 0) ∧ n ≤ maxLen ∧ ∀ r ∈ l, r.fits := by
  refine in_row7 (E := ER) (P := Rg.fits) Try.underlying22 cellsRg7 (fun fuel cs x hl hx => ?_) h
  obtain ⟨f0, f1, hs, t0, o0, t1, o1⟩ := offsR7
  obtain ⟨y0, y1, m, _, _, h0, h1⟩ := trod_struct2 hs hx
  rw [t0, o0, cellsAd7] at h0
  rw [t1, o1, cellsAd7] at h1
  match cs, hl with
  | [v0, v1, v2, v3, v4, v5], _ =>
    obtain ⟨a, fa, rfl, rfl, rfl⟩ := open_ad7 h0
    obtain ⟨b, fb, rfl, rfl, rfl⟩ := open_ad7 h1
    exact ⟨⟨a, b⟩, ⟨fa, fb⟩, rfl⟩
theorem in_pfxs {W : World} {base : Nat} {sp : Nat → Bool} {held : Bool} {A : Option Addr} {n cap : Nat} {d : DataW H} {p : List MemPlace}
    (h : DataW.Trod enc Try.prog W base sp held 34 (.slice A n cap) d p) : ∃ l : List Pf, RowL EP W A l ∧ n = l.length ∧ (A = none → cap = 0) ∧ n ≤ maxLen ∧ ∀ r ∈ l, (r.fits ∧ (Lit.int .i64 r.k).wf = true) := by
  refine in_row7 (E := EP) (P := fun r => r.fits ∧ (Lit.int .i64 r.k).wf = true) Try.underlying34 cellsPf7 (fun fuel cs x hl hx => ?_) h
  obtain ⟨f0, f1, hs, t0, o0, t1, o1⟩ := offsP7
  obtain ⟨y0, y1, m, _, _, h0, h1⟩ := trod_struct2 hs hx
  rw [t0, o0, cellsAd7] at h0
  rw [t1, o1, c1Int7] at h1
  match cs, hl with
  | [v0, v1, v2, v3], _ =>
    obtain ⟨a, fa, rfl, rfl, rfl⟩ := open_ad7 h0
    obtain ⟨k, e3, _, wk⟩ := DataW.trod_int Try.underlying3 h1
    simp at e3
    subst e3
    exact ⟨⟨a.v, a.h, a.l, k⟩, ⟨fa, wk⟩, rfl⟩
end Go.Proofs.Ytmcelgnifpfjpaa

/- The fewest prefixes of a set denote the set: plain mathematics. -/
namespace Go.Proofs.Ytmcelgnifpfjpaa
set_option linter.unusedVariables false

theorem ofL_cons (p : Pf) (l : List Pf) : ofL (p :: l) = (if vP p = true then [blk p] else []) ++ ofL l := by
  unfold ofL
  rw [List.filter_cons]
  split <;> simp
theorem ofL_append (a b : List Pf) : ofL (a ++ b) = ofL a ++ ofL b := by
  unfold ofL
  rw [List.filter_append, List.map_append]
theorem ch_any {v : Bool} {lo hi : Nat} : ∀ {x : List (Nat × Nat)} {a b : Nat}, Ch (width v) lo hi a x b → b ≤ 2 ^ width v → ∀ m, anyS (spnL (ofL (x.map (pf v)))) m = (decide (offF v + a ≤ m) && decide (m < offF v + b))
  | [], a, b, h, hb, m => by
    have e : a = b := h
    subst e
    have : (decide (offF v + a ≤ m) && decide (m < offF v + a)) = false := by
      rw [Bool.and_eq_false_iff, decide_eq_false_iff_not, decide_eq_false_iff_not]
      omega
    rw [this]
    rfl
  | (n, e) :: r, a, b, h, hb, m => by
    obtain ⟨h1, h2, h3⟩ := h
    subst h1
    have hp := Nat.two_pow_pos e
    have hle := Ch.le h3
    obtain ⟨k1, k2⟩ := blk_pf (v := v) h2.le h2.al (Nat.le_trans hle hb)
    have f1 := (adN_fits (v := v) (n := n) (by omega)).2.2
    have f2 := (adN_fits (v := v) (n := n + 2 ^ e - 1) (by omega)).2.2
    have hs : someR ⟨adN v n, adN v (n + 2 ^ e - 1)⟩ = true := someR_iff.2 ⟨(adN_fits (by omega)).2.1, (adN_fits (by omega)).2.1, rfl, by simp only; rw [f1, f2]; omega⟩
    rw [List.map_cons, ofL_cons, if_pos k2, k1, List.singleton_append, spnL_cons, if_pos hs, List.singleton_append, anyS_cons, ch_any h3 hb m]
    unfold inS spn
    simp only
    rw [f1, f2, Bool.eq_iff_iff]
    simp only [Bool.or_eq_true, Bool.and_eq_true, decide_eq_true_eq]
    generalize 2 ^ e = q at *
    omega
theorem rawR_any {x : Rg} (hs : someR x = true) (hf : x.fits) (m : Int) : anyS (spnL (ofL (rawR x))) m = inS (spn x) m := by
  obtain ⟨x1, x2, x3, x4⟩ := someR_iff.1 hs
  have k1 := nA_key hf.1 x1
  have k2 := nA_key hf.2 x2
  rw [← x3] at k2
  have hlh : nA x.lo ≤ nA x.hi := by omega
  have h := ch_any (v := x.lo.v) (dec_all (W := width x.lo.v) hlh k2.2) (by have := k2.2; omega) m
  have e : rawR x = (dec (nA x.lo) (nA x.hi) (width x.lo.v) 0).map (pf x.lo.v) := rfl
  rw [e, h]
  unfold inS spn
  simp only
  rw [k1.1, k2.1, Bool.eq_iff_iff]
  simp only [Bool.and_eq_true, decide_eq_true_eq]
  omega
/-- THE FEWEST PREFIXES OF A SET DENOTE IT. -/
theorem rawL_any : ∀ {L : List Rg}, (∀ r ∈ L, someR r = true ∧ r.fits) → ∀ m, anyS (spnL (ofL (rawL L))) m = anyS (L.map spn) m
  | [], _, m => rfl
  | x :: r, h, m => by
    have hx := h x (by simp)
    have e : rawL (x :: r) = rawR x ++ rawL r := by simp [rawL]
    rw [e, ofL_append, spnL_append, anyS_append, rawR_any hx.1 hx.2, rawL_any (fun y hy => h y (by simp [hy])) m, List.map_cons, anyS_cons]
end Go.Proofs.Ytmcelgnifpfjpaa

/- When a prefix of a family is valid: plain mathematics for the reference's Prefixes. -/
namespace Go.Proofs.Ytmcelgnifpfjpaa
set_option linter.unusedVariables false

theorem al_fit {W e n : Nat} (he : e ≤ W) (hd : 2 ^ e ∣ n) (hn : n < 2 ^ W) : n + 2 ^ e ≤ 2 ^ W := by
  obtain ⟨a, rfl⟩ := hd
  have hW : 2 ^ W = 2 ^ e * 2 ^ (W - e) := by rw [← Nat.pow_add]; congr 1; omega
  rw [hW] at hn ⊢
  have ha : a < 2 ^ (W - e) := Nat.lt_of_mul_lt_mul_left hn
  have := Nat.mul_le_mul_left (2 ^ e) (show a + 1 ≤ 2 ^ (W - e) from ha)
  rw [Nat.mul_add, Nat.mul_one] at this
  exact this
theorem pf_inj {v : Bool} {n n' e e' : Nat} (he : e ≤ width v) (he' : e' ≤ width v) (h : pf v (n, e) = pf v (n', e')) : n = n' ∧ e = e' := by
  have h1 : n / 18446744073709551616 = n' / 18446744073709551616 := congrArg Pf.h h
  have h2 : n % 18446744073709551616 = n' % 18446744073709551616 := congrArg Pf.l h
  have h3 : ((width v - e : Nat) : Int) = ((width v - e' : Nat) : Int) := congrArg Pf.k h
  omega
theorem vP_al {v : Bool} {n e : Nat} (he : e ≤ width v) (hn : n < 2 ^ width v) : vP (pf v (n, e)) = decide (2 ^ e ∣ n) := by
  by_cases hd : 2 ^ e ∣ n
  · rw [decide_eq_true hd]
    exact (blk_pf he hd (al_fit he hd hn)).2
  · rw [decide_eq_false hd]
    cases hv : vP (pf v (n, e)) with
    | false => rfl
    | true =>
      exfalso
      have hf := (adN_fits hn).1
      obtain ⟨n', e', h1, h2, h3, h4⟩ := vP_block (p := pf v (n, e)) hf hv
      have h5 := pf_inj (v := v) he h1 h4
      rw [← h5.1, ← h5.2] at h2
      exact hd h2
end Go.Proofs.Ytmcelgnifpfjpaa
