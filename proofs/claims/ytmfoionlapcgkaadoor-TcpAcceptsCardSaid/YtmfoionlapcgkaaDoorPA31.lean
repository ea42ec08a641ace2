/- Contracts of the functions, part 31: TcpPSm. -/
import Derived.Deep.Cut
import Derived.Test.YtmfoionlapcgkaaDoorPA13
import Derived.Test.YtmfoionlapcgkaaDoorPA19
import Derived.Test.YtmfoionlapcgkaaDoorPA20
import Derived.Test.YtmfoionlapcgkaaDoorPA24
import Derived.Test.YtmfoionlapcgkaaDoorPA28
import Derived.Test.YtmfoionlapcgkaaDoorPA30
/- Contracts of the program of layer 14: isUpTo, fit, sumOf, Diff, Before, Length, firstData, Scale, Stamps. -/
namespace Go.Proofs.YtmfoionlapcgkaaDoor
open Go.ChangeShapes Go.WideShapes Go.ChangeAt Go.RowKit
set_option linter.unusedVariables false
set_option maxRecDepth 100000

theorem pupto14_any (n l : Int) (w : World) : Calls Tryd.prog 63 #[.int .i64 n, .int .i64 l] w fun e w' => e = .returned (.bool (decide (0 ≤ n ∧ n ≤ l))) ∧ w = w' := by
  by_cases h1 : 0 ≤ n
  · by_cases h2 : n ≤ l
    · have d1 : decide (0 ≤ n) = true := by simp; omega
      have d2 : decide (n ≤ l) = true := by simp; omega
      rw [show decide (0 ≤ n ∧ n ≤ l) = true by simp; omega]
      go_enter Tryd.func63, Tryd.ntmps63
      go_wp2_with fail
      go_ret
      exact ⟨rfl, rfl⟩
    · have d1 : decide (0 ≤ n) = true := by simp; omega
      have d2 : decide (n ≤ l) = false := by simp; omega
      rw [show decide (0 ≤ n ∧ n ≤ l) = false by simp; omega]
      go_enter Tryd.func63, Tryd.ntmps63
      go_wp2_with fail
      go_ret
      exact ⟨rfl, rfl⟩
  · have d1 : decide (0 ≤ n) = false := by simp; omega
    rw [show decide (0 ≤ n ∧ n ≤ l) = false by simp; omega]
    go_enter Tryd.func63, Tryd.ntmps63
    go_wp2_with fail
    go_ret
    exact ⟨rfl, rfl⟩
theorem pfine14 (v6 : Bool) (hi lo : Nat) (w : World) :
    Calls Tryd.prog 54 #[.agg #[.bool v6, .int .u64 (hi : Int), .int .u64 (lo : Int)]] w fun e w' => e = .returned (.bool (decide (fineU ⟨v6, hi, lo⟩))) ∧ Below w.heap.size w w' := by
  have := qvalid_any v6 hi lo w
  rwa [vldA_fine ⟨v6, hi, lo⟩] at this
set_option maxHeartbeats 4000000 in
set_option maxRecDepth 40000 in
theorem pfit14_any (v1 v2 : Bool) (h1 l1 h2 l2 : Nat) (w : World) :
    Calls Tryd.prog 26 #[.agg #[.bool v1, .int .u64 (h1 : Int), .int .u64 (l1 : Int)], .agg #[.bool v2, .int .u64 (h2 : Int), .int .u64 (l2 : Int)]] w fun e w' => e = .returned (.bool (decide (fitU ⟨v1, h1, l1⟩ ⟨v2, h2, l2⟩))) ∧ Below w.heap.size w w' := by
  obtain ⟨R, hR⟩ : ∃ R, R = decide (fitU ⟨v1, h1, l1⟩ ⟨v2, h2, l2⟩) := ⟨_, rfl⟩
  rw [← hR]
  have c1 := fun W => pfine14 v1 h1 l1 W
  have c2 := fun W => pfine14 v2 h2 l2 W
  by_cases f1 : fineU ⟨v1, h1, l1⟩
  · rw [decide_eq_true f1] at c1
    have C1 := Lib.hid c1
    clear c1
    by_cases f2 : fineU ⟨v2, h2, l2⟩
    · rw [decide_eq_true f2] at c2
      have C2 := Lib.hid c2
      clear c2
      have hR2 := Lib.hid (show R = (v1 == v2) by
        rw [hR]
        by_cases hv : v1 = v2
        · rw [decide_eq_true (show fitU _ _ from ⟨f1, f2, hv⟩), beq_iff_eq.2 hv]
        · rw [decide_eq_false (show ¬ fitU _ _ from fun h => hv h.2.2), beq_eq_false_iff_ne.2 hv])
      clear hR f1 f2
      go_enter Tryd.func26, Tryd.ntmps26
      go_wp2_with fail
      obtain ⟨W0, hW⟩ : ∃ W0, W0 = (w.alloc (.cells #[.bool v1, .int .u64 h1, .int .u64 l1] 24)).alloc (.cells #[.bool v2, .int .u64 h2, .int .u64 l2] 24) := ⟨_, rfl⟩
      rw [← hW]
      have hT0 : Two W0 w.heap.size v1 h1 l1 v2 h2 l2 := by rw [hW]; exact two_new ..
      have hB0 : Below w.heap.size w W0 := by rw [hW]; exact ((Below.refl _ _).alloc (Nat.le_refl _) _).alloc (by simp) _
      clear hW
      refine (C1.out _).mono ?_
      rintro e w1 ⟨rfl, hb1⟩
      have hT1 := hT0.kept hb1
      have hB1 := hB0.trans (hb1.mono hB0.size)
      obtain ⟨q0, q1, q2, q3, q4, q5, q6⟩ := id hT1
      go_wp2_with fail
      refine (C2.out _).mono ?_
      rintro e w2 ⟨rfl, hb2⟩
      have hT2 := hT1.kept hb2
      have hB2 := hB1.trans (hb2.mono hB1.size)
      clear q0 q1 q2 q3 q4 q5 q6
      obtain ⟨q0, q1, q2, q3, q4, q5, q6⟩ := id hT2
      go_wp2_with fail
      go_ret
      exact ⟨by rw [hR2.out]; rfl, hB2⟩
    · rw [decide_eq_false f2] at c2
      have C2 := Lib.hid c2
      clear c2
      have hR2 := Lib.hid (show R = false by rw [hR]; exact decide_eq_false fun h => f2 h.2.1)
      clear hR f1 f2
      go_enter Tryd.func26, Tryd.ntmps26
      go_wp2_with fail
      obtain ⟨W0, hW⟩ : ∃ W0, W0 = (w.alloc (.cells #[.bool v1, .int .u64 h1, .int .u64 l1] 24)).alloc (.cells #[.bool v2, .int .u64 h2, .int .u64 l2] 24) := ⟨_, rfl⟩
      rw [← hW]
      have hT0 : Two W0 w.heap.size v1 h1 l1 v2 h2 l2 := by rw [hW]; exact two_new ..
      have hB0 : Below w.heap.size w W0 := by rw [hW]; exact ((Below.refl _ _).alloc (Nat.le_refl _) _).alloc (by simp) _
      clear hW
      refine (C1.out _).mono ?_
      rintro e w1 ⟨rfl, hb1⟩
      have hT1 := hT0.kept hb1
      have hB1 := hB0.trans (hb1.mono hB0.size)
      obtain ⟨q0, q1, q2, q3, q4, q5, q6⟩ := id hT1
      go_wp2_with fail
      refine (C2.out _).mono ?_
      rintro e w2 ⟨rfl, hb2⟩
      have hB2 := hB1.trans (hb2.mono hB1.size)
      clear q0 q1 q2 q3 q4 q5 q6
      go_wp2_with fail
      go_ret
      exact ⟨by rw [hR2.out]; rfl, hB2⟩
  · rw [decide_eq_false f1] at c1
    have C1 := Lib.hid c1
    clear c1 c2
    have hR2 := Lib.hid (show R = false by rw [hR]; exact decide_eq_false fun h => f1 h.1)
    clear hR f1
    go_enter Tryd.func26, Tryd.ntmps26
    go_wp2_with fail
    refine (C1.out _).mono ?_
    rintro e w1 ⟨rfl, hb1⟩
    go_wp2_with fail
    go_ret
    exact ⟨by rw [hR2.out]; rfl, (((Below.refl _ _).alloc (Nat.le_refl _) _).alloc (by simp) _).trans (hb1.mono (by simp; omega))⟩
set_option maxHeartbeats 8000000 in
set_option maxRecDepth 100000 in
theorem psum14_any (v1 v2 : Bool) (h1 l1 h2 l2 : Nat) (S : List UInt8) (w : World) (hf : fitU ⟨v1, h1, l1⟩ ⟨v2, h2, l2⟩) (ha : fits13 ⟨v1, h1, l1⟩) (hb : fits13 ⟨v2, h2, l2⟩) (hs : S.length ≤ 65535) (hsh : Sh w) :
    Calls Tryd.prog 28 #[.agg #[.bool v1, .int .u64 (h1 : Int), .int .u64 (l1 : Int)], .agg #[.bool v2, .int .u64 (h2 : Int), .int .u64 (l2 : Int)], .string (str S)] w fun e w' => e = .returned (.int .i64 (csum (psU ⟨v1, h1, l1⟩ ⟨v2, h2, l2⟩ 6 S.length ++ S) : Int)) ∧ Below w.heap.size w w' := by
  obtain ⟨P, hP⟩ : ∃ P, P = str S := ⟨_, rfl⟩
  have hPs : P.size = S.length := by rw [hP, str_size]
  obtain ⟨D, hD⟩ : ∃ D, D = str (psU ⟨v1, h1, l1⟩ ⟨v2, h2, l2⟩ 6 S.length) := ⟨_, rfl⟩
  have hDs : D.size ≤ 40 := by rw [hD, str_size]; exact psU_size _ _ _ _
  obtain ⟨q, hq⟩ : ∃ q, q = csum (psU ⟨v1, h1, l1⟩ ⟨v2, h2, l2⟩ 6 S.length ++ S) := ⟨_, rfl⟩
  have HPS := Lib.hid (fun (W : World) (h : Sh W) => show Calls Tryd.prog 23 #[.agg #[.bool v1, .int .u64 (h1 : Int), .int .u64 (l1 : Int)], .agg #[.bool v2, .int .u64 (h2 : Int), .int .u64 (l2 : Int)], .int .i64 6, .int .i64 (P.size : Int)] W fun e w' => e = .returned (.string D) ∧ Below W.heap.size W w' from by
    rw [hD, hPs]
    exact ppseudoT ⟨v1, h1, l1⟩ ⟨v2, h2, l2⟩ S.length hf ha hb hs W h)
  have HSUM := Lib.hid (fun (W : World) => show Calls Tryd.prog 22 #[.string (D ++ P)] W fun e w' => e = .returned (.int .i64 (q : Int)) ∧ W = w' from by
    have := sum_any (D ++ P) W (by rw [ByteArray.size_append]; omega)
    rw [hD, hP, str_append] at this ⊢
    rw [hq]
    simpa [str] using this)
  rw [← hP, ← hq]
  have hPl : P.size ≤ 65535 := by omega
  clear hP hD hq hPs hf ha hb hs
  have r0 : (9223372036854775807 < D.size + P.size) = False := by simp only [eq_iff_iff, iff_false]; omega
  clear hDs hPl
  obtain ⟨W1, hW1⟩ : ∃ W0, W0 = (w.alloc (.cells #[.bool v1, .int .u64 (h1 : Int), .int .u64 (l1 : Int)] 24)).alloc (.cells #[.bool v2, .int .u64 (h2 : Int), .int .u64 (l2 : Int)] 24) := ⟨_, rfl⟩
  have hT0 : Two W1 w.heap.size v1 h1 l1 v2 h2 l2 := by rw [hW1]; exact two_new ..
  have HB0 := Lib.hid (show Below w.heap.size w W1 by rw [hW1]; exact ((Below.refl _ _).alloc (Nat.le_refl _) _).alloc (by simp) _)
  have HS0 := Lib.hid (show Sh W1 by rw [hW1]; exact (hsh.alloc _).alloc _)
  obtain ⟨q0, q1, q2, q3, q4, q5, q6⟩ := id hT0
  clear hsh hT0
  go_enter Tryd.func28, Tryd.ntmps28
  go_upto_region 1 with fail
  rw [← hW1]
  clear hW1
  go_wp2_with fail
  refine (HPS.out _ HS0.out).mono ?_
  rintro e w2 ⟨rfl, hb2⟩
  go_wp2_with fail
  refine (HSUM.out _).mono ?_
  rintro e w3 ⟨rfl, rfl⟩
  go_wp2_with fail
  go_ret
  exact ⟨rfl, HB0.out.trans (hb2.mono HB0.out.size)⟩
/-- The distance between two sequence numbers. -/
def difT (a b : Nat) : Int := ((a : Int) - b + 2147483648) % 4294967296 - 2147483648
theorem wrap_dif (a b : Nat) : IntKind.i32.wrap (IntKind.u32.wrap ((a : Int) - b)) = difT a b := by
  rw [IntKind.wrap_u32, IntKind.wrap_i32]
  unfold difT
  omega
theorem pdiff14_any (a b : Nat) (w : World) (ha : a < 4294967296) (hb : b < 4294967296) :
    Calls Tryd.prog 24 #[.int .u32 (a : Int), .int .u32 (b : Int)] w fun e w' => e = .returned (.int .i64 (difT a b)) ∧ w = w' := by
  obtain ⟨d, hd⟩ : ∃ d, d = difT a b := ⟨_, rfl⟩
  have hr : -2147483648 ≤ d ∧ d ≤ 2147483647 := by rw [hd]; unfold difT; omega
  obtain ⟨c, hc⟩ : ∃ c, c = IntKind.u32.wrap ((a : Int) - b) := ⟨_, rfl⟩
  have e1 : IntKind.u32.wrap ((a : Int) - b) = c := hc.symm
  have e2 : IntKind.i32.wrap c = d := by rw [hc, hd, wrap_dif]
  have e3 : IntKind.i64.wrap d = d := by rw [IntKind.wrap_i64]; omega
  have e4 : ((a : Int) - (b : Int)) % 4294967296 = c := by rw [hc, IntKind.wrap_u32]
  have HR := Lib.hid hd
  rw [← hd]
  clear hd hc ha hb
  go_enter Tryd.func24, Tryd.ntmps24
  go_wp2_with fail
  go_ret
  exact ⟨rfl, rfl⟩
theorem pbefore14_any (a b : Nat) (w : World) (ha : a < 4294967296) (hb : b < 4294967296) :
    Calls Tryd.prog 25 #[.int .u32 (a : Int), .int .u32 (b : Int)] w fun e w' => e = .returned (.bool (decide (difT a b < 0))) ∧ w = w' := by
  have HD := Lib.hid (fun W => pdiff14_any a b W ha hb)
  clear ha hb
  generalize difT a b = d at *
  go_enter Tryd.func25, Tryd.ntmps25
  go_wp2_with fail
  refine (HD.out _).mono ?_
  rintro e w1 ⟨rfl, rfl⟩
  go_wp2_with fail
  go_ret
  exact ⟨rfl, rfl⟩
set_option maxHeartbeats 8000000 in
set_option maxRecDepth 100000 in
theorem plen14_any (t : TcpR) (A : Option Addr) (c : Nat) (D : ByteArray) (w : World) (hD : D = str t.pay) (hp : t.pay.length ≤ 9223372036854775800) :
    Calls Tryd.prog 20 #[.agg (tcC t A c D)] w fun e w' => e = .returned (.int .i64 (lenT t : Int)) ∧ Below w.heap.size w w' := by
  obtain ⟨Q, hQ⟩ : ∃ Q, Q = lenT t := ⟨_, rfl⟩
  rw [← hQ]
  unfold lenT at hQ
  have hz : D.size = t.pay.length := by rw [hD, str_size]
  rw [← hz] at hQ hp
  obtain ⟨W1, hW1⟩ : ∃ W, W = w.alloc (.cells (tcC t A c D) 31) := ⟨_, rfl⟩
  obtain ⟨g, hg⟩ : ∃ g, g = w.heap.size := ⟨_, rfl⟩
  have HX := Lib.hid (show Cells W1 g 31 (tcC t A c D) by rw [hW1, hg]; exact heap_alloc_new w _)
  have HB1 := Lib.hid (show Below w.heap.size w W1 by rw [hW1]; exact below_alloc6 w _)
  unfold tcC at hW1 HX
  unfold tcC
  have hc4 := (Cells.cell HX.out 4).trans (show _ = some (Value.int .i64 t.fl) from rfl)
  have hc8 := (Cells.cell HX.out 8).trans (show _ = some (Value.string D) from rfl)
  obtain ⟨b2, hb2⟩ : ∃ b, (bits .and .i64 t.fl 2 != 0) = b := ⟨_, rfl⟩
  obtain ⟨b1, hb1⟩ : ∃ b, (bits .and .i64 t.fl 1 != 0) = b := ⟨_, rfl⟩
  rw [hb1, hb2] at hQ
  obtain ⟨m1, hm1⟩ : ∃ m, m = D.size + 1 := ⟨_, rfl⟩
  obtain ⟨m2, hm2⟩ : ∃ m, m = D.size + 2 := ⟨_, rfl⟩
  have k1 : (D.size : Int) + 1 = (m1 : Int) := by omega
  have k2 : (m1 : Int) + 1 = (m2 : Int) := by omega
  have km1 : m1 ≤ 9223372036854775801 := by omega
  cases b2 <;> cases b1
  · have HQ := Lib.hid (show Q = D.size by rw [hQ]; simp; try omega)
    clear hQ hD hz hm1 hm2
    go_enter Tryd.func20, Tryd.ntmps20
    go_upto_region 1 with fail
    rw [← hW1, ← hg]
    clear hW1 hg
    go_wp2_with fail
    go_ret
    exact ⟨by rw [HQ.out]; try rfl, HB1.out⟩
  · have HQ := Lib.hid (show Q = m1 by rw [hQ]; simp; try omega)
    clear hQ hD hz hm1 hm2
    go_enter Tryd.func20, Tryd.ntmps20
    go_upto_region 1 with fail
    rw [← hW1, ← hg]
    clear hW1 hg
    go_wp2_with fail
    go_ret
    exact ⟨by rw [HQ.out]; try rfl, HB1.out⟩
  · have HQ := Lib.hid (show Q = m1 by rw [hQ]; simp; try omega)
    clear hQ hD hz hm1 hm2
    go_enter Tryd.func20, Tryd.ntmps20
    go_upto_region 1 with fail
    rw [← hW1, ← hg]
    clear hW1 hg
    go_wp2_with fail
    go_ret
    exact ⟨by rw [HQ.out]; try rfl, HB1.out⟩
  · have HQ := Lib.hid (show Q = m2 by rw [hQ]; simp; try omega)
    clear hQ hD hz hm1 hm2
    go_enter Tryd.func20, Tryd.ntmps20
    go_upto_region 1 with fail
    rw [← hW1, ← hg]
    clear hW1 hg
    go_wp2_with fail
    go_ret
    exact ⟨by rw [HQ.out]; try rfl, HB1.out⟩

set_option maxHeartbeats 8000000 in
set_option maxRecDepth 100000 in
theorem pkind14_any (k K : Int) (D : ByteArray) (gk : Nat) (w : World) (hg : gk < w.heap.size) (hk : w.cell? ⟨gk, 0, none⟩ = some (.int .i64 K)) :
    Calls Tryd.prog 69 #[.agg #[.int .i64 k, .string D], .pointer (some ⟨gk, 0, none⟩)] w fun e w' => e = .returned (.bool (k == K)) ∧ Below w.heap.size w w' := by
  have HB0 := Lib.hid (below_alloc6 w (.cells #[.int .i64 k, .string D] 51))
  have hk2 := (HB0.out.cell (p := ⟨gk, 0, none⟩) hg).trans hk
  go_enter Tryd.func69, Tryd.ntmps69
  go_wp2_with fail
  go_ret
  exact ⟨rfl, HB0.out⟩
/-- What IndexFunc answers: where the first option of a kind stands, or -1. -/
def IdxK (l : List OpR) (K : Int) (w : World) (e : Ending) (w' : World) : Prop :=
  ∃ i : Int, e = .returned (.int .i64 i) ∧ Hid ((i = -1 ∧ l.find? (fun x => x.kd == K) = none) ∨ ∃ (k : Nat) (x : OpR), i = (k : Int) ∧ l[k]? = some x ∧ optK l K = x.dat) ∧ Below w.heap.size w w'
set_option maxHeartbeats 8000000 in
set_option maxRecDepth 100000 in
theorem pidx14_any (A : Option Addr) (c : Nat) (l : List OpR) (K : Int) (gk : Nat) (w : World) (h : RowL EOpt w A l) (hl : l.length ≤ 1000000000) (hg : gk < w.heap.size) (hk : w.cell? ⟨gk, 0, none⟩ = some (.int .i64 K)) :
    Calls Tryd.prog 68 #[.slice A l.length c, .func (.func 69) #[] #[.pointer (some ⟨gk, 0, none⟩)]] w (IdxK l K w) := by
  obtain ⟨n, hn⟩ : ∃ n, n = l.length := ⟨_, rfl⟩
  rw [← hn] at hl ⊢
  have HN := Lib.hid hn
  have HS := Lib.hid h
  have HG := Lib.hid (And.intro hg hk)
  clear hn h hg hk
  go_enter Tryd.func68, Tryd.ntmps68
  go_wp2_with fail
  go_loopw [8] (fun i wr => ∃ k : Nat, i = .int .i64 (k : Int) ∧ k ≤ n ∧ Hid ((l.take k).find? (fun x => x.kd == K) = none) ∧ Hid (Below w.heap.size w wr)) (fun i _ => n - (intOf i).toNat)
  case atStart => exact ⟨0, rfl, Nat.zero_le _, Lib.hid (by simp), Lib.hid (Below.refl _ _)⟩
  case round =>
    obtain ⟨k, rfl, hk, HK, HB⟩ := hrel
    by_cases hlt : k < n
    · have hki : (k : Int) < (n : Int) := by omega
      have hki0 : (0 : Int) ≤ (k : Int) := by omega
      have dlt : decide ((k : Int) < (n : Int)) = true := by simp; omega
      obtain ⟨x, hget⟩ : ∃ x, l[k]? = some x := ⟨l[k]'(by have := HN.out; omega), List.getElem?_eq_getElem _⟩
      obtain ⟨g, ob, rfl, hg⟩ := HS.out.shapeA (by have := HN.out; omega)
      obtain ⟨c0, c1⟩ := opt_at HS.out hget HB.out
      have HF := Lib.hid (pkind14_any x.kd K (str x.dat) gk wr (Nat.lt_of_lt_of_le HG.out.1 HB.out.size) ((HB.out.cell (p := ⟨gk, 0, none⟩) HG.out.1).trans HG.out.2))
      have HK1 := Lib.hid (fun (hf : (x.kd == K) = false) => find_none HK.out hget hf)
      have HT := Lib.hid (fun (hf : (x.kd == K) = true) => find_some HK.out hget hf)
      have HGET := Lib.hid hget
      clear hget
      generalize (x.kd == K) = q at *
      generalize x.kd = kd at *
      generalize hD : str x.dat = D at *
      clear hD
      go_wp2_with fail
      refine HF.out.mono ?_
      rintro e w2 ⟨rfl, hb2⟩
      have HB2 := Lib.hid (HB.out.trans (hb2.mono HB.out.size))
      clear hb2 HB HF c0 c1
      cases q
      · go_wp2_with fail
        go_roundw
        case rel => exact ⟨k + 1, by go_num, by omega, Lib.hid (HK1.out (by first | rfl | trivial)), HB2⟩
        case measure => simp [intOf]; omega
      · go_wp2_with fail
        go_ret
        exact ⟨(k : Int), rfl, Lib.hid (.inr ⟨k, x, rfl, HGET.out, HT.out (by first | rfl | trivial)⟩), HB2.out⟩
    · obtain rfl : k = n := by omega
      have dlt : decide ((k : Int) < (k : Int)) = false := by simp
      have nlt : ¬ (k : Int) < (k : Int) := by omega
      have HT := Lib.hid (show l.find? (fun x => x.kd == K) = none by have := HK.out; rwa [HN.out, List.take_length] at this)
      go_wp2_with fail
      go_ret
      exact ⟨-1, rfl, Lib.hid (.inl ⟨rfl, HT.out⟩), HB.out⟩
/-- What firstData answers. -/
def fstD (l : List OpR) (K : Int) (z : Nat) : List UInt8 × Bool := if (optK l K).length = z then (optK l K, true) else ([], false)
set_option maxHeartbeats 8000000 in
set_option maxRecDepth 100000 in
theorem pfirst14_any (t : TcpR) (A : Option Addr) (c : Nat) (D : ByteArray) (K : Int) (z : Nat) (w : World) (h : RowL EOpt w A t.ops) (hl : t.ops.length ≤ 1000000000) (hz : 1 ≤ z) (hz9 : z ≤ 100) (hd : ∀ x ∈ t.ops, x.dat.length ≤ 281474976710656) :
    Calls Tryd.prog 45 #[.agg (tcC t A c D), .int .i64 K, .int .i64 (z : Int)] w fun e w' => e = .returned (.tuple #[.string (str (fstD t.ops K z).1), .bool (fstD t.ops K z).2]) ∧ Below w.heap.size w w' := by
  obtain ⟨l, hlo⟩ : ∃ l, l = t.ops := ⟨_, rfl⟩
  rw [← hlo] at h hl hd ⊢
  obtain ⟨R, hR⟩ : ∃ R, R = fstD l K z := ⟨_, rfl⟩
  rw [← hR]
  unfold fstD at hR
  unfold tcC
  rw [← hlo]
  obtain ⟨n, hn⟩ : ∃ n, n = l.length := ⟨_, rfl⟩
  rw [← hn] at hl ⊢
  obtain ⟨W1, hW1⟩ : ∃ W, W = w.alloc (.cells #[.int .i64 t.src, .int .i64 t.dst, .int .u32 (t.seq : Int), .int .u32 (t.ack : Int), .int .i64 t.fl, .int .i64 t.win, .int .i64 t.urg, .slice A n c, .string D] 31) := ⟨_, rfl⟩
  obtain ⟨W2, hW2⟩ : ∃ W, W = W1.alloc (.cells #[.int .i64 K] 3) := ⟨_, rfl⟩
  obtain ⟨g, hg⟩ : ∃ g, g = w.heap.size := ⟨_, rfl⟩
  have z1 : W1.heap.size = g + 1 := by rw [hW1, hg]; simp
  have HX1 : Cells W1 g 31 #[.int .i64 t.src, .int .i64 t.dst, .int .u32 (t.seq : Int), .int .u32 (t.ack : Int), .int .i64 t.fl, .int .i64 t.win, .int .i64 t.urg, .slice A n c, .string D] := by rw [hW1, hg]; exact heap_alloc_new w _
  have B1 : Below w.heap.size w W1 := by rw [hW1]; exact below_alloc6 w _
  have B2 : Below W1.heap.size W1 W2 := by rw [hW2]; exact below_alloc6 W1 _
  have HX := Lib.hid (HX1.kept B2 HX1.lt)
  have HKc := Lib.hid (show Cells W2 (g + 1) 3 #[.int .i64 K] by rw [hW2, ← z1]; exact heap_alloc_new W1 _)
  have HB2 := Lib.hid (B1.trans (B2.mono B1.size))
  have HIX := Lib.hid (fun (W : World) (hb : Below W2.heap.size W2 W) => show Calls Tryd.prog 68 #[.slice A n c, .func (.func 69) #[] #[.pointer (some ⟨g + 1, 0, none⟩)]] W (IdxK l K W) from by
    rw [hn] at hl ⊢
    exact pidx14_any A c l K (g + 1) W (h.kept (HB2.out.trans (hb.mono HB2.out.size))) hl (Nat.lt_of_lt_of_le HKc.out.lt hb.size) ((Cells.kept HKc.out hb HKc.out.lt).cell 0))
  have HV := Lib.hid (fun (W : World) (hb : Below W2.heap.size W2 W) => ((Cells.kept HX.out hb HX.out.lt).cell 7).trans (show _ = some (Value.slice A n c) from rfl))
  have HS := Lib.hid h
  have HN := Lib.hid hn
  have HDD := Lib.hid hd
  have hmf : ∀ W : World, (Instr.makeFunc (.func 69) #[] #[.pointer (some ⟨g + 1, 0, none⟩)]).run Tryd.prog W = .ok (.func (.func 69) #[] #[.pointer (some ⟨g + 1, 0, none⟩)]) W := fun W => rfl
  clear h hn hlo B1 B2 HX1 hd
  go_enter Tryd.func45, Tryd.ntmps45
  go_upto_region 1 with fail
  rw [← hW1, ← hg, ← hW2]
  try rw [z1]
  have Z1 := Lib.hid z1
  clear hW1 hW2 hg z1
  have y7 := HV.out W2 (Below.refl _ _)
  go_wp2_with fail
  refine (HIX.out _ (Below.refl _ _)).mono ?_
  rintro e w3 ⟨i, rfl, HI, hb3⟩
  have y7 := HV.out w3 hb3
  have HB3 := Lib.hid (HB2.out.trans (hb3.mono HB2.out.size))
  clear hb3 HIX HX HKc
  rcases HI.out with ⟨rfl, hno⟩ | ⟨k, x, rfl, hget, hopt⟩
  · have hR2 := Lib.hid (show R = ([], false) by rw [hR, find_end hno, if_neg (by simp; omega)])
    clear hR hno HI
    go_wp2_with fail
    go_ret2
    exact ⟨by rw [hR2.out]; try rfl, HB3.out⟩
  · have hkn : k < n := by rw [HN.out]; exact (List.getElem?_eq_some_iff.1 hget).1
    obtain ⟨ga, ob, rfl, hga⟩ := HS.out.shapeA (by have := HN.out; omega)
    obtain ⟨c0, c1⟩ := opt_at HS.out hget HB3.out
    have dk : decide ((k : Int) < 0) = false := decide_eq_false (by omega)
    have nk : ¬ (k : Int) < 0 := by omega
    have hki : (k : Int) < (n : Int) := by omega
    have hki0 : (0 : Int) ≤ (k : Int) := by omega
    obtain ⟨y, hy⟩ : ∃ y, y = x.dat.length := ⟨_, rfl⟩
    have hsz : (str x.dat).size = y := by rw [str_size, hy]
    have hyl : y ≤ 281474976710656 := by rw [hy]; exact HDD.out x (List.mem_of_getElem? hget)
    rw [hopt, ← hy] at hR
    by_cases h1 : y = z
    · have d1 : ((y : Int) != (z : Int)) = false := by simp; omega
      have d2 : (y != z) = false := by simp; omega
      have hR2 := Lib.hid (show R = (x.dat, true) by rw [hR, if_pos h1])
      clear hR HI hget hopt hy h1
      generalize hE : str x.dat = E at *
      have HE := Lib.hid hE
      clear hE
      go_wp2_with fail
      go_ret2
      exact ⟨by rw [hR2.out]; dsimp only; rw [HE.out]; try rfl, HB3.out⟩
    · have d1 : ((y : Int) != (z : Int)) = true := by simp; omega
      have d2 : (y != z) = true := by simp; omega
      have hR2 := Lib.hid (show R = ([], false) by rw [hR, if_neg h1])
      clear hR HI hget hopt hy h1
      generalize str x.dat = E at *
      go_wp2_with fail
      go_ret2
      exact ⟨by rw [hR2.out]; try rfl, HB3.out⟩
set_option maxHeartbeats 8000000 in
set_option maxRecDepth 100000 in
theorem pscale14_any (t : TcpR) (A : Option Addr) (c : Nat) (D : ByteArray) (w : World) (h : RowL EOpt w A t.ops) (hl : t.ops.length ≤ 1000000000) (hd : ∀ x ∈ t.ops, x.dat.length ≤ 281474976710656) :
    Calls Tryd.prog 16 #[.agg (tcC t A c D)] w fun e w' => e = .returned (.tuple #[.int .i64 ((scaT t).1 : Int), .bool (scaT t).2]) ∧ Below w.heap.size w w' := by
  obtain ⟨R, hR⟩ : ∃ R, R = scaT t := ⟨_, rfl⟩
  rw [← hR]
  unfold scaT at hR
  obtain ⟨F, hF⟩ : ∃ F, F = fstD t.ops 3 1 := ⟨_, rfl⟩
  obtain ⟨s, hs⟩ : ∃ s, s = str (fstD t.ops 3 1).1 := ⟨_, rfl⟩
  obtain ⟨q, hq⟩ : ∃ q, q = (fstD t.ops 3 1).2 := ⟨_, rfl⟩
  obtain ⟨W1, hW1⟩ : ∃ W, W = w.alloc (.cells (tcC t A c D) 31) := ⟨_, rfl⟩
  obtain ⟨g, hg⟩ : ∃ g, g = w.heap.size := ⟨_, rfl⟩
  have HX := Lib.hid (show Cells W1 g 31 (tcC t A c D) by rw [hW1, hg]; exact heap_alloc_new w _)
  have HB1 := Lib.hid (show Below w.heap.size w W1 by rw [hW1]; exact below_alloc6 w _)
  unfold tcC at hW1 HX
  unfold tcC
  have HOPT := Lib.hid (fun (W : World) (hb : Below w.heap.size w W) => show Calls Tryd.prog 45 #[.agg #[.int .i64 t.src, .int .i64 t.dst, .int .u32 (t.seq : Int), .int .u32 (t.ack : Int), .int .i64 t.fl, .int .i64 t.win, .int .i64 t.urg, .slice A t.ops.length c, .string D], .int .i64 3, .int .i64 1] W fun e w' => e = .returned (.tuple #[.string s, .bool q]) ∧ Below W.heap.size W w' from by rw [hs, hq]; exact pfirst14_any t A c D 3 1 W (h.kept hb) hl (by decide) (by decide) hd)
  have hc0 := (Cells.cell HX.out 0).trans (show _ = some (Value.int .i64 t.src) from rfl)
  have hc1 := (Cells.cell HX.out 1).trans (show _ = some (Value.int .i64 t.dst) from rfl)
  have hc2 := (Cells.cell HX.out 2).trans (show _ = some (Value.int .u32 (t.seq : Int)) from rfl)
  have hc3 := (Cells.cell HX.out 3).trans (show _ = some (Value.int .u32 (t.ack : Int)) from rfl)
  have hc4 := (Cells.cell HX.out 4).trans (show _ = some (Value.int .i64 t.fl) from rfl)
  have hc5 := (Cells.cell HX.out 5).trans (show _ = some (Value.int .i64 t.win) from rfl)
  have hc6 := (Cells.cell HX.out 6).trans (show _ = some (Value.int .i64 t.urg) from rfl)
  have hc7 := (Cells.cell HX.out 7).trans (show _ = some (Value.slice A t.ops.length c) from rfl)
  have hc8 := (Cells.cell HX.out 8).trans (show _ = some (Value.string D) from rfl)
  unfold fstD at hs hq
  by_cases h1 : (optK t.ops 3).length = 1
  · rw [if_pos h1] at hR hs hq
    obtain ⟨S, hS⟩ : ∃ S, S = optK t.ops 3 := ⟨_, rfl⟩
    rw [← hS] at hR hs h1
    have hsz : s.size = S.length := by rw [hs, str_size]
    have hs0 : 0 < s.size := by omega
    obtain ⟨b0, hb0⟩ : ∃ b, b = (s[0]'hs0).toNat := ⟨_, rfl⟩
    have hx0 := s14_at hs 0 hs0
    rw [← hb0] at hx0
    have hb0' : (((s[0]'hs0).toNat : Nat) : Int) = (b0 : Int) := by rw [hb0]
    have hb0l : b0 < 256 := by rw [hb0]; exact u8_lt _
    obtain ⟨m, hm⟩ : ∃ m, m = min b0 14 := ⟨_, rfl⟩
    have km : min (b0 : Int) 14 = (m : Int) := by omega
    have wb0 : IntKind.i64.wrap (b0 : Int) = (b0 : Int) := by rw [IntKind.wrap_i64]; omega
    have hR2 := Lib.hid (show R = (m, true) by rw [hR, hm, hx0])
    obtain rfl : q = true := hq
    clear hR hs hS h1 hm hx0 hb0 h hsz
    go_enter Tryd.func16, Tryd.ntmps16
    go_upto_region 1 with fail
    rw [← hW1, ← hg]
    clear hW1 hg
    go_wp2_with fail
    refine (HOPT.out _ HB1.out).mono ?_
    rintro e w2 ⟨rfl, hb2⟩
    have HB2 := Lib.hid (HB1.out.trans (hb2.mono HB1.out.size))
    clear hb2 hc0 hc1 hc2 hc3 hc4 hc5 hc6 hc7 hc8 HOPT
    go_wp2_with fail
    go_ret2
    exact ⟨by rw [hR2.out]; try rfl, HB2.out⟩
  · rw [if_neg h1] at hR hs hq
    obtain rfl : q = false := hq
    have hR2 := Lib.hid hR
    clear hR h1 h hs
    go_enter Tryd.func16, Tryd.ntmps16
    go_upto_region 1 with fail
    rw [← hW1, ← hg]
    clear hW1 hg
    go_wp2_with fail
    refine (HOPT.out _ HB1.out).mono ?_
    rintro e w2 ⟨rfl, hb2⟩
    have HB2 := Lib.hid (HB1.out.trans (hb2.mono HB1.out.size))
    clear hb2 hc0 hc1 hc2 hc3 hc4 hc5 hc6 hc7 hc8 HOPT
    go_wp2_with fail
    go_ret2
    exact ⟨by rw [hR2.out]; try rfl, HB2.out⟩
set_option maxHeartbeats 8000000 in
set_option maxRecDepth 100000 in
theorem pstamps14_any (t : TcpR) (A : Option Addr) (c : Nat) (D : ByteArray) (w : World) (h : RowL EOpt w A t.ops) (hl : t.ops.length ≤ 1000000000) (hd : ∀ x ∈ t.ops, x.dat.length ≤ 281474976710656) :
    Calls Tryd.prog 18 #[.agg (tcC t A c D)] w fun e w' => e = .returned (.tuple #[.int .u32 ((staT t).1 : Int), .int .u32 ((staT t).2.1 : Int), .bool (staT t).2.2]) ∧ Below w.heap.size w w' := by
  obtain ⟨R, hR⟩ : ∃ R, R = staT t := ⟨_, rfl⟩
  rw [← hR]
  unfold staT at hR
  obtain ⟨F, hF⟩ : ∃ F, F = fstD t.ops 8 8 := ⟨_, rfl⟩
  obtain ⟨s, hs⟩ : ∃ s, s = str (fstD t.ops 8 8).1 := ⟨_, rfl⟩
  obtain ⟨q, hq⟩ : ∃ q, q = (fstD t.ops 8 8).2 := ⟨_, rfl⟩
  obtain ⟨W1, hW1⟩ : ∃ W, W = w.alloc (.cells (tcC t A c D) 31) := ⟨_, rfl⟩
  obtain ⟨g, hg⟩ : ∃ g, g = w.heap.size := ⟨_, rfl⟩
  have HX := Lib.hid (show Cells W1 g 31 (tcC t A c D) by rw [hW1, hg]; exact heap_alloc_new w _)
  have HB1 := Lib.hid (show Below w.heap.size w W1 by rw [hW1]; exact below_alloc6 w _)
  unfold tcC at hW1 HX
  unfold tcC
  have HOPT := Lib.hid (fun (W : World) (hb : Below w.heap.size w W) => show Calls Tryd.prog 45 #[.agg #[.int .i64 t.src, .int .i64 t.dst, .int .u32 (t.seq : Int), .int .u32 (t.ack : Int), .int .i64 t.fl, .int .i64 t.win, .int .i64 t.urg, .slice A t.ops.length c, .string D], .int .i64 8, .int .i64 8] W fun e w' => e = .returned (.tuple #[.string s, .bool q]) ∧ Below W.heap.size W w' from by rw [hs, hq]; exact pfirst14_any t A c D 8 8 W (h.kept hb) hl (by decide) (by decide) hd)
  have hc0 := (Cells.cell HX.out 0).trans (show _ = some (Value.int .i64 t.src) from rfl)
  have hc1 := (Cells.cell HX.out 1).trans (show _ = some (Value.int .i64 t.dst) from rfl)
  have hc2 := (Cells.cell HX.out 2).trans (show _ = some (Value.int .u32 (t.seq : Int)) from rfl)
  have hc3 := (Cells.cell HX.out 3).trans (show _ = some (Value.int .u32 (t.ack : Int)) from rfl)
  have hc4 := (Cells.cell HX.out 4).trans (show _ = some (Value.int .i64 t.fl) from rfl)
  have hc5 := (Cells.cell HX.out 5).trans (show _ = some (Value.int .i64 t.win) from rfl)
  have hc6 := (Cells.cell HX.out 6).trans (show _ = some (Value.int .i64 t.urg) from rfl)
  have hc7 := (Cells.cell HX.out 7).trans (show _ = some (Value.slice A t.ops.length c) from rfl)
  have hc8 := (Cells.cell HX.out 8).trans (show _ = some (Value.string D) from rfl)
  obtain ⟨S, hS⟩ : ∃ S, S = (fstD t.ops 8 8).1 := ⟨_, rfl⟩
  rw [← hS] at hs
  have hS8 : S.length = 8 ∨ S = [] := by rw [hS]; unfold fstD; split <;> simp_all
  have HNEW := Lib.hid (fun (W : World) => show Calls Tryd.prog 47 #[.string s] W fun e w' => ∃ p, e = .returned (.pointer (some ⟨p, 0, none⟩)) ∧ W.heap.size ≤ p ∧ Rd w' p S 0 ∧ Below W.heap.size W w' from by
    have := new_any s W
    rw [hs] at this ⊢
    rwa [str_toList] at this)
  obtain ⟨q1, hq1⟩ : ∃ q, rdI S 0 4 = q := ⟨_, rfl⟩
  have hlt1 := rdI_lt S 0 4
  rw [hq1] at hlt1
  obtain ⟨X, l1, e1⟩ := q1
  simp only at hlt1
  obtain ⟨q2, hq2⟩ : ∃ q, rdI l1 e1 4 = q := ⟨_, rfl⟩
  have hlt2 := rdI_lt l1 e1 4
  rw [hq2] at hlt2
  obtain ⟨Y, l2, e2⟩ := q2
  simp only at hlt2
  have hl1 : l1.length ≤ 8 := by
    have h0 : (rdI S 0 4).2.1.length ≤ S.length := rdI_len S 0 4
    rw [hq1] at h0
    have h1 : l1.length ≤ S.length := h0
    rcases hS8 with h | h
    · omega
    · rw [h] at h1; simp at h1; simp [h1]
  have hSl : S.length ≤ 8 := by rcases hS8 with h | h <;> simp [h]
  have u0 : IntKind.u32.wrap (X : Int) = (X : Int) := by rw [IntKind.wrap_u32]; omega
  have u4 : IntKind.u32.wrap (Y : Int) = (Y : Int) := by rw [IntKind.wrap_u32]; omega
  have hR2 := Lib.hid (show R = (X, Y, q) by
    rw [hR, hq]
    unfold fstD at hS ⊢
    by_cases h1 : (optK t.ops 8).length = 8
    · rw [if_pos h1] at hS ⊢
      rw [if_pos h1]
      dsimp only at hS ⊢
      rw [← hS] at h1 ⊢
      rw [rdI_ok11 (by omega)] at hq1
      obtain ⟨rfl, rfl, rfl⟩ := (by simpa only [Prod.mk.injEq] using hq1 : _ ∧ _ ∧ _)
      rw [rdI_ok11 (by simp only [List.length_drop]; omega)] at hq2
      obtain ⟨rfl, rfl, rfl⟩ := (by simpa only [Prod.mk.injEq] using hq2 : _ ∧ _ ∧ _)
      rfl
    · rw [if_neg h1] at hS ⊢
      rw [if_neg h1]
      dsimp only at hS ⊢
      rw [hS] at hq1
      have e1 : rdI [] 0 4 = (0, [], 1) := by decide
      rw [e1] at hq1
      obtain ⟨rfl, rfl, rfl⟩ := (by simpa only [Prod.mk.injEq] using hq1 : _ ∧ _ ∧ _)
      have e2 : rdI [] 1 4 = (0, [], 1) := by decide
      rw [e2] at hq2
      obtain ⟨rfl, rfl, rfl⟩ := (by simpa only [Prod.mk.injEq] using hq2 : _ ∧ _ ∧ _)
      rfl)
  have HQ1 := Lib.hid hq1
  have HQ2 := Lib.hid hq2
  have HL := Lib.hid (And.intro hSl hl1)
  clear hR hs hq hS hS8 hq1 hq2 hlt1 hlt2 hl1 hSl h hF F
  go_enter Tryd.func18, Tryd.ntmps18
  go_upto_region 1 with fail
  rw [← hW1, ← hg]
  clear hW1 hg
  go_wp2_with fail
  refine (HOPT.out _ HB1.out).mono ?_
  rintro e w2 ⟨rfl, hb2⟩
  have HB2 := Lib.hid (HB1.out.trans (hb2.mono HB1.out.size))
  clear hb2 hc0 hc1 hc2 hc3 hc4 hc5 hc6 hc7 hc8 HOPT
  go_wp2_with fail
  refine (HNEW.out _).mono ?_
  rintro e w3 ⟨p, rfl, hp, hrd, hbw⟩
  have HRD := Lib.hid (RdB.of hrd)
  have HB3 := Lib.hid (HB2.out.trans (hbw.mono HB2.out.size))
  have HP := Lib.hid (Nat.le_trans HB2.out.size hp)
  clear hp hrd hbw HNEW HB2
  go_wp2_with fail
  refine (intB_any _ p 4 4 rfl S 0 w3 HRD.out (by have := HL.out; omega) (by decide) (by decide)).mono ?_
  rintro e w4 ⟨rfl, h3, h4⟩
  rw [HQ1.out] at h3 ⊢
  have HR4 := Lib.hid h3
  have HB4 := Lib.hid (below_only HB3.out h4 HP.out HB3.out.size)
  clear h3 h4 HB3 HRD
  dsimp only
  go_wp2_with fail
  refine (intB_any _ p 4 4 rfl l1 e1 w4 HR4.out (by have := HL.out; omega) (by decide) (by decide)).mono ?_
  rintro e w5 ⟨rfl, h3, h4⟩
  rw [HQ2.out] at h3 ⊢
  have HB5 := Lib.hid (below_only HB4.out h4 HP.out HB4.out.size)
  clear h3 h4 HB4 HR4
  dsimp only
  go_wp2_with fail
  go_ret3
  exact ⟨by rw [hR2.out]; try rfl, HB5.out⟩
end Go.Proofs.YtmfoionlapcgkaaDoor
