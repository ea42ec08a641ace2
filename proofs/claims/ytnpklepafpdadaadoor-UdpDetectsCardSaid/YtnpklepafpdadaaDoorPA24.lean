/- Contracts of the functions, part 24: EthMem, UdpRSum. -/
import Derived.Deep.Cut
import Derived.BigQuiet
import Derived.Test.YtnpklepafpdadaaDoorPA3
import Derived.Test.YtnpklepafpdadaaDoorPA5
import Derived.Test.YtnpklepafpdadaaDoorPA7
import Derived.Test.YtnpklepafpdadaaDoorPA19
import Derived.Test.YtnpklepafpdadaaDoorPA22
import Derived.Test.YtnpklepafpdadaaDoorPA23
/- Frames in memory. -/
namespace Go.Proofs.YtnpklepafpdadaaDoor
open Go.ChangeShapes Go.WideShapes Go.ChangeAt Go.RowKit
set_option linter.unusedVariables false

theorem info_int10 : (Tryd.prog.info? 3).map (fun i => (i.zero, i.size, i.bytes)) = some (some (.int .i64 0), 1, 8) := by kernel_rfl
/-- A frame's cells. -/
def ethC (x : EthR) (A : Option Addr) (c : Nat) : Array Value := #[.int .u64 (x.dst : Int), .int .u64 (x.src : Int), .slice A x.vl.length c, .int .i64 x.ty, .string (str x.pay)]
/-- What Decode leaves. -/
def DecP (w : World) (R : EthR × Nat) (e : Ending) (w' : World) : Prop :=
  ∃ A cap, e = .returned (.tuple #[.agg #[.int .u64 (R.1.dst : Int), .int .u64 (R.1.src : Int), .slice A R.1.vl.length cap, .int .i64 R.1.ty, .string (str R.1.pay)], .int .i64 (R.2 : Int)]) ∧ RowL EInt w' A R.1.vl ∧ (A = none → cap = 0) ∧ Below w.heap.size w w'
/-- Value, met by text. -/
theorem val_any (s : ByteArray) (L : List UInt8) (h : s = str L) (hl : L.length ≤ 7) (w : World) :
    Calls Tryd.prog 16 #[.string s] w fun e w' => e = .returned (.int .i64 (num L : Nat)) ∧ w = w' := by
  subst h
  have := value_any (str L) w (by rw [str_size]; exact hl)
  rwa [str_toList] at this
/-- Put of a number that fits. -/
theorem putB_any (k n : Nat) (N Z : Int) (hN : (n : Int) = N) (hZ : (k : Int) = Z) (hk : 1 ≤ k) (hk7 : k ≤ 7) (hn : n < 256 ^ k) (w : World) :
    Calls Tryd.prog 20 #[.int .i64 N, .int .i64 Z] w fun e w' => e = .returned (.string (str (beL k n))) ∧ Below w.heap.size w w' := by
  subst hN hZ
  obtain ⟨j, rfl⟩ : ∃ j, k = j + 1 := ⟨k - 1, by omega⟩
  have := rput_yes j (n : Int) ((j + 1 : Nat) : Int) w (by omega) (by omega) (by omega) (by rw [Int.toNat_natCast]; exact hn)
  rwa [Int.toNat_natCast] at this
end Go.Proofs.YtnpklepafpdadaaDoor

/- Contracts of the reference of layer 13: Fit, Sum. -/
namespace Go.Proofs.YtnpklepafpdadaaDoor
open Go.ChangeShapes Go.WideShapes Go.ChangeAt Go.RowKit
set_option linter.unusedVariables false

theorem rfineU (v6 : Bool) (hi lo : Nat) (w : World) :
    Calls Tryd.prog 26 #[.agg #[.bool v6, .int .u64 (hi : Int), .int .u64 (lo : Int)]] w fun e w' => e = .returned (.bool (decide (fineU ⟨v6, hi, lo⟩))) ∧ Below w.heap.size w w' := by
  have := rfine_any v6 hi lo w
  rwa [vldA_fine ⟨v6, hi, lo⟩] at this
set_option maxHeartbeats 4000000 in
set_option maxRecDepth 40000 in
theorem rfit13_any (v1 v2 : Bool) (h1 l1 h2 l2 : Nat) (w : World) :
    Calls Tryd.prog 15 #[.agg #[.bool v1, .int .u64 (h1 : Int), .int .u64 (l1 : Int)], .agg #[.bool v2, .int .u64 (h2 : Int), .int .u64 (l2 : Int)]] w fun e w' => e = .returned (.bool (decide (fitU ⟨v1, h1, l1⟩ ⟨v2, h2, l2⟩))) ∧ Below w.heap.size w w' := by
  obtain ⟨R, hR⟩ : ∃ R, R = decide (fitU ⟨v1, h1, l1⟩ ⟨v2, h2, l2⟩) := ⟨_, rfl⟩
  rw [← hR]
  have c1 := fun W => rfineU v1 h1 l1 W
  have c2 := fun W => rfineU v2 h2 l2 W
  by_cases f1 : fineU ⟨v1, h1, l1⟩
  · rw [decide_eq_true f1] at c1
    have C1 := Lib.hid c1
    clear c1
    by_cases f2 : fineU ⟨v2, h2, l2⟩
    · rw [decide_eq_true f2] at c2
      have C2 := Lib.hid c2
      clear c2
      have hR2 := Lib.hid (show R = (v1 == v2) by
        rw [hR]
        by_cases hv : v1 = v2
        · rw [decide_eq_true (show fitU _ _ from ⟨f1, f2, hv⟩), beq_iff_eq.2 hv]
        · rw [decide_eq_false (show ¬ fitU _ _ from fun h => hv h.2.2), beq_eq_false_iff_ne.2 hv])
      clear hR f1 f2
      go_enter Tryd.func15, Tryd.ntmps15
      go_wp2_with fail
      obtain ⟨W0, hW⟩ : ∃ W0, W0 = (w.alloc (.cells #[.bool v1, .int .u64 h1, .int .u64 l1] 24)).alloc (.cells #[.bool v2, .int .u64 h2, .int .u64 l2] 24) := ⟨_, rfl⟩
      rw [← hW]
      have hT0 : Two W0 w.heap.size v1 h1 l1 v2 h2 l2 := by rw [hW]; exact two_new ..
      have hB0 : Below w.heap.size w W0 := by rw [hW]; exact ((Below.refl _ _).alloc (Nat.le_refl _) _).alloc (by simp) _
      clear hW
      refine (C1.out _).mono ?_
      rintro e w1 ⟨rfl, hb1⟩
      have hT1 := hT0.kept hb1
      have hB1 := hB0.trans (hb1.mono hB0.size)
      obtain ⟨q0, q1, q2, q3, q4, q5, q6⟩ := id hT1
      go_wp2_with fail
      refine (C2.out _).mono ?_
      rintro e w2 ⟨rfl, hb2⟩
      have hT2 := hT1.kept hb2
      have hB2 := hB1.trans (hb2.mono hB1.size)
      clear q0 q1 q2 q3 q4 q5 q6
      obtain ⟨q0, q1, q2, q3, q4, q5, q6⟩ := id hT2
      go_wp2_with fail
      go_ret
      exact ⟨by rw [hR2.out]; rfl, hB2⟩
    · rw [decide_eq_false f2] at c2
      have C2 := Lib.hid c2
      clear c2
      have hR2 := Lib.hid (show R = false by rw [hR]; exact decide_eq_false fun h => f2 h.2.1)
      clear hR f1 f2
      go_enter Tryd.func15, Tryd.ntmps15
      go_wp2_with fail
      obtain ⟨W0, hW⟩ : ∃ W0, W0 = (w.alloc (.cells #[.bool v1, .int .u64 h1, .int .u64 l1] 24)).alloc (.cells #[.bool v2, .int .u64 h2, .int .u64 l2] 24) := ⟨_, rfl⟩
      rw [← hW]
      have hT0 : Two W0 w.heap.size v1 h1 l1 v2 h2 l2 := by rw [hW]; exact two_new ..
      have hB0 : Below w.heap.size w W0 := by rw [hW]; exact ((Below.refl _ _).alloc (Nat.le_refl _) _).alloc (by simp) _
      clear hW
      refine (C1.out _).mono ?_
      rintro e w1 ⟨rfl, hb1⟩
      have hT1 := hT0.kept hb1
      have hB1 := hB0.trans (hb1.mono hB0.size)
      obtain ⟨q0, q1, q2, q3, q4, q5, q6⟩ := id hT1
      go_wp2_with fail
      refine (C2.out _).mono ?_
      rintro e w2 ⟨rfl, hb2⟩
      have hB2 := hB1.trans (hb2.mono hB1.size)
      clear q0 q1 q2 q3 q4 q5 q6
      go_wp2_with fail
      go_ret
      exact ⟨by rw [hR2.out]; rfl, hB2⟩
  · rw [decide_eq_false f1] at c1
    have C1 := Lib.hid c1
    clear c1 c2
    have hR2 := Lib.hid (show R = false by rw [hR]; exact decide_eq_false fun h => f1 h.1)
    clear hR f1
    go_enter Tryd.func15, Tryd.ntmps15
    go_wp2_with fail
    refine (C1.out _).mono ?_
    rintro e w1 ⟨rfl, hb1⟩
    go_wp2_with fail
    go_ret
    exact ⟨by rw [hR2.out]; rfl, (((Below.refl _ _).alloc (Nat.le_refl _) _).alloc (by simp) _).trans (hb1.mono (by simp; omega))⟩
set_option maxHeartbeats 4000000 in
set_option maxRecDepth 40000 in
theorem rsum13_any (v1 v2 : Bool) (h1 l1 h2 l2 : Nat) (L : List UInt8) (w : World) (hf : fitU ⟨v1, h1, l1⟩ ⟨v2, h2, l2⟩) (ha : fits13 ⟨v1, h1, l1⟩) (hb : fits13 ⟨v2, h2, l2⟩) (hL : L.length ≤ 65535) :
    Calls Tryd.prog 17 #[.agg #[.bool v1, .int .u64 (h1 : Int), .int .u64 (l1 : Int)], .agg #[.bool v2, .int .u64 (h2 : Int), .int .u64 (l2 : Int)], .string (str L)] w fun e w' => e = .returned (.int .i64 (sumU ⟨v1, h1, l1⟩ ⟨v2, h2, l2⟩ L : Nat)) ∧ Below w.heap.size w w' := by
  obtain ⟨R, hR⟩ : ∃ R, R = sumU ⟨v1, h1, l1⟩ ⟨v2, h2, l2⟩ L := ⟨_, rfl⟩
  rw [← hR]
  obtain ⟨S, hS⟩ : ∃ S, S = str L := ⟨_, rfl⟩
  have hSs : S.size = L.length := by rw [hS, str_size]
  rw [← hS]
  have c1 := fun W => rpseudoU _ _ S.size hf ha hb (by omega) W
  obtain ⟨K, hK⟩ : ∃ K, K = psU ⟨v1, h1, l1⟩ ⟨v2, h2, l2⟩ 17 L.length := ⟨_, rfl⟩
  have hKl : K.length ≤ 40 := by rw [hK]; exact psU_size ..
  rw [hSs, ← hK] at c1
  obtain ⟨T, hT⟩ : ∃ T, T = str K := ⟨_, rfl⟩
  have hTs : T.size = K.length := by rw [hT, str_size]
  rw [← hT, ← hSs] at c1
  have C1 := Lib.hid c1
  clear c1
  have hTS : T ++ S = str (K ++ L) := by rw [hT, hS, str_append]
  obtain ⟨C, hC⟩ : ∃ C, C = csum (K ++ L) := ⟨_, rfl⟩
  have hCl := csum_le (K ++ L)
  rw [← hC] at hCl
  have c2 := fun W => rsum_any (T ++ S) W (by rw [hTS, str_size, List.length_append]; omega)
  rw [show (T ++ S).data.toList = K ++ L by rw [hTS, str_toList], ← hC] at c2
  have C2 := Lib.hid c2
  clear c2
  have hR2 : R = if C = 0 then 65535 else C := by rw [hR]; unfold sumU; rw [← hK, ← hC]
  have hts : T.size ≤ 40 := by omega
  have hss : S.size ≤ 65535 := by omega
  have r1 : (9223372036854775807 < T.size + S.size) = False := by simp only [eq_iff_iff, iff_false]; omega
  clear hR hS hK hT hC hTS hTs hKl hSs hf ha hb hL
  obtain ⟨W0, hW⟩ : ∃ W0, W0 = (w.alloc (.cells #[.bool v1, .int .u64 h1, .int .u64 l1] 24)).alloc (.cells #[.bool v2, .int .u64 h2, .int .u64 l2] 24) := ⟨_, rfl⟩
  have hT0 : Two W0 w.heap.size v1 h1 l1 v2 h2 l2 := by rw [hW]; exact two_new ..
  have hB0 : Below w.heap.size w W0 := by rw [hW]; exact ((Below.refl _ _).alloc (Nat.le_refl _) _).alloc (by simp) _
  by_cases hz : C = 0
  · have d1 : ((C : Int) == 0) = true := by rw [hz]; rfl
    rw [if_pos hz] at hR2
    have HR := Lib.hid hR2
    clear hR2 hz
    go_enter Tryd.func17, Tryd.ntmps17
    go_upto_region 1 with fail
    rw [← hW]
    clear hW
    obtain ⟨q0, q1, q2, q3, q4, q5, q6⟩ := id hT0
    go_wp2_with fail
    refine (C1.out _).mono ?_
    rintro e w1 ⟨rfl, hb1⟩
    have hB6 := hB0.trans (hb1.mono hB0.size)
    clear q0 q1 q2 q3 q4 q5 q6
    go_wp2_with fail
    refine (C2.out _).mono ?_
    rintro e w2 ⟨rfl, rfl⟩
    go_wp2_with fail
    go_ret
    exact ⟨ret_int (by rw [HR.out]; rfl), hB6⟩
  · have d1 : ((C : Int) == 0) = false := by rw [beq_eq_false_iff_ne]; omega
    rw [if_neg hz] at hR2
    have HR := Lib.hid hR2
    clear hR2 hz
    go_enter Tryd.func17, Tryd.ntmps17
    go_upto_region 1 with fail
    rw [← hW]
    clear hW
    obtain ⟨q0, q1, q2, q3, q4, q5, q6⟩ := id hT0
    go_wp2_with fail
    refine (C1.out _).mono ?_
    rintro e w1 ⟨rfl, hb1⟩
    have hB6 := hB0.trans (hb1.mono hB0.size)
    clear q0 q1 q2 q3 q4 q5 q6
    go_wp2_with fail
    refine (C2.out _).mono ?_
    rintro e w2 ⟨rfl, rfl⟩
    go_wp2_with fail
    go_ret
    exact ⟨ret_int (by rw [HR.out]), hB6⟩
end Go.Proofs.YtnpklepafpdadaaDoor
