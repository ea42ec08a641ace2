/- Contracts of the functions, part 3: AdrCont, AdqFree, AdqPfx, AdqCont, AdqBnd, AdqNext, SetMem, PfxMem, Elems2, SetMem2. -/
import Derived.Deep.RegionHeld3
import Derived.Test.YtmcelgnifpfjpaaAPr1
import Derived.Test.YtmcelgnifpfjpaaAPr2
/- Contracts of the reference of layer 6: Contains, ValidPrefix, Bounds. -/
namespace Go.Proofs.Ytmcelgnifpfjpaa
open Go.ChangeShapes Go.WideShapes Go.ChangeAt Go.RowKit
set_option linter.unusedVariables false

theorem numA_inj {a b c d : Nat} (h1 : b < 18446744073709551616) (h2 : d < 18446744073709551616) : numA a b = numA c d ↔ a = c ∧ b = d := by
  unfold numA
  constructor
  · intro h
    have : 2 ^ 64 = 18446744073709551616 := by decide
    omega
  · rintro ⟨rfl, rfl⟩; rfl
theorem numA_lt {a b : Nat} (h1 : a < 18446744073709551616) (h2 : b < 18446744073709551616) : numA a b < 2 ^ 128 := by
  unfold numA
  have : (2 : Nat) ^ 64 = 18446744073709551616 := by decide
  have : (2 : Nat) ^ 128 = 18446744073709551616 * 18446744073709551616 := by decide
  omega
end Go.Proofs.Ytmcelgnifpfjpaa

/- The free bits of a prefix, in plain numbers; contract of the program's freeBits. -/
namespace Go.Proofs.Ytmcelgnifpfjpaa
open Go.ChangeShapes Go.WideShapes Go.ChangeAt Go.RowKit
set_option linter.unusedVariables false

/-- How many free bits the upper and the lower half have. -/
def frH (v6 : Bool) (k : Nat) : Nat := (width v6 - k) - 64
def frL (v6 : Bool) (k : Nat) : Nat := min (width v6 - k) 64
/-- A number with its last k bits 0; 1. -/
def lowZ (k n : Nat) : Nat := n / 2 ^ k * 2 ^ k
def lowO (k n : Nat) : Nat := n / 2 ^ k * 2 ^ k + (2 ^ k - 1)
theorem frH_le (v6 : Bool) (k : Nat) : frH v6 k ≤ 64 := by unfold frH width; split <;> omega
theorem frL_le (v6 : Bool) (k : Nat) : frL v6 k ≤ 64 := by unfold frL; omega
theorem lowZ_le (k n : Nat) : lowZ k n ≤ n := Nat.div_mul_le_self _ _
theorem lowZ_tb (k n t : Nat) : (lowZ k n).testBit t = if t < k then false else n.testBit t := by
  have hc : lowZ k n = 2 ^ k * (n / 2 ^ k) + 0 := by unfold lowZ; rw [Nat.mul_comm]; rfl
  rw [hc, Nat.testBit_two_pow_mul_add _ (Nat.two_pow_pos k)]
  split
  · rw [Nat.zero_testBit]
  · rw [Nat.testBit_div_two_pow]; congr 1; omega
theorem lowZ_lowZ (k n : Nat) : lowZ k (lowZ k n) = lowZ k n := by
  unfold lowZ
  rw [Nat.mul_div_cancel _ (Nat.two_pow_pos _)]
theorem andNot64 (n k : Nat) (h : n < 18446744073709551616) (hk : k ≤ 64) : bits .andNot .u64 (n : Int) ((2 ^ k - 1 : Nat) : Int) = ((lowZ k n : Nat) : Int) := by
  have hp : 2 ^ k ≤ 2 ^ 64 := Nat.pow_le_pow_right (by omega) hk
  have h64 : (2 : Nat) ^ 64 = 18446744073709551616 := by decide
  have h0 := Nat.two_pow_pos k
  rw [u64_andNot_nat _ _ h (by omega)]
  congr 1
  apply Nat.eq_of_testBit_eq
  intro t
  rw [Nat.testBit_and, lowZ_tb]
  have e : 18446744073709551615 - (2 ^ k - 1) = 2 ^ k * (2 ^ (64 - k) - 1) + 0 := by
    have : 2 ^ k * 2 ^ (64 - k) = 2 ^ 64 := by rw [← Nat.pow_add]; congr 1; omega
    rw [Nat.mul_sub, this]; omega
  rw [e, Nat.testBit_two_pow_mul_add _ h0]
  split
  · rw [Nat.zero_testBit, Bool.and_false]
  · rw [Nat.testBit_two_pow_sub_one]
    by_cases ht : t < 64
    · rw [show decide (t - k < 64 - k) = true by simp; omega, Bool.and_true]
    · rw [Nat.testBit_lt_two_pow (i := t) (Nat.lt_of_lt_of_le (by rw [h64]; exact h) (Nat.pow_le_pow_right (by omega) (show 64 ≤ t by omega))), Bool.false_and]
theorem or64 (n k : Nat) (h : n < 18446744073709551616) (hk : k ≤ 64) (hz : lowZ k n = n) : bits .or .u64 (n : Int) ((2 ^ k - 1 : Nat) : Int) = ((lowO k n : Nat) : Int) := by
  have hp : 2 ^ k ≤ 2 ^ 64 := Nat.pow_le_pow_right (by omega) hk
  have h64 : (2 : Nat) ^ 64 = 18446744073709551616 := by decide
  have h0 := Nat.two_pow_pos k
  rw [u64_or_nat _ _ h (by omega)]
  congr 1
  have h1 := Nat.two_pow_add_eq_or_of_lt (i := k) (b := 2 ^ k - 1) (by omega) (n / 2 ^ k)
  unfold lowO
  rw [Nat.mul_comm, h1, Nat.mul_comm]
  show n ||| _ = lowZ k n ||| _
  rw [hz]
theorem lowO_lt {k n : Nat} (h : n < 18446744073709551616) (hk : k ≤ 64) : lowO k n < 18446744073709551616 := by
  have h64 : (2 : Nat) ^ 64 = 18446744073709551616 := by decide
  have := fillN_lt (w := 64) (bits := 64 - k) (n := n) (by omega) (by omega)
  unfold fillN cutN at this
  rw [show 64 - (64 - k) = k by omega] at this
  unfold lowO
  omega
/-- The two halves together. -/
theorem low_cut (v6 : Bool) (k : Nat) {hi lo : Nat} (h2 : lo < 18446744073709551616) : numA (lowZ (frH v6 k) hi) (lowZ (frL v6 k) lo) = cutN (width v6) k (numA hi lo) := by
  have h64 : (2 : Nat) ^ 64 = 18446744073709551616 := by decide
  unfold frH frL cutN lowZ numA
  generalize width v6 - k = f
  by_cases hf : f ≤ 64
  · rw [Nat.min_eq_left hf, show f - 64 = 0 by omega, Nat.pow_zero, Nat.div_one, Nat.mul_one]
    have e : 2 ^ 64 = 2 ^ (64 - f) * 2 ^ f := by rw [← Nat.pow_add]; congr 1; omega
    have h0 := Nat.two_pow_pos f
    rw [e]
    generalize 2 ^ f = q at *
    generalize 2 ^ (64 - f) = r at *
    have e3 : r * q * hi = r * hi * q := Nat.mul_right_comm r q hi
    rw [e3, Nat.add_comm (r * hi * q) lo, Nat.add_mul_div_right _ _ h0, Nat.add_mul]
    omega
  · rw [Nat.min_eq_right (by omega), h64, Nat.div_eq_of_lt h2, Nat.zero_mul, Nat.add_zero]
    have e : 2 ^ f = 2 ^ (f - 64) * 18446744073709551616 := by rw [← h64, ← Nat.pow_add]; congr 1; omega
    rw [e, Nat.mul_comm (2 ^ (f - 64)) 18446744073709551616, ← Nat.div_div_eq_div_mul, show (18446744073709551616 * hi + lo) / 18446744073709551616 = hi by omega, Nat.mul_left_comm]
theorem low_fill (v6 : Bool) (k : Nat) {hi lo : Nat} (h2 : lo < 18446744073709551616) : numA (lowO (frH v6 k) hi) (lowO (frL v6 k) lo) = fillN (width v6) k (numA hi lo) := by
  have h64 : (2 : Nat) ^ 64 = 18446744073709551616 := by decide
  have hc := low_cut v6 k (hi := hi) h2
  unfold fillN
  rw [← hc]
  unfold lowO numA lowZ
  have e : 2 ^ (width v6 - k) = 2 ^ frH v6 k * 2 ^ frL v6 k := by
    rw [← Nat.pow_add]; congr 1; unfold frH frL; omega
  rw [e]
  have a := Nat.two_pow_pos (frH v6 k)
  have b := Nat.two_pow_pos (frL v6 k)
  by_cases hf : frH v6 k = 0
  · rw [hf, Nat.pow_zero, Nat.div_one, Nat.mul_one, Nat.one_mul]
    clear h64 hc e a
    generalize 2 ^ frL v6 k = q at *
    generalize lo / q * q = z
    omega
  · have hl : frL v6 k = 64 := by unfold frH at hf; unfold frL; omega
    rw [hl, h64]
    clear h64 hc e b hl
    generalize 2 ^ frH v6 k = q at *
    generalize hi / q * q = z
    generalize lo / 18446744073709551616 = y
    omega
theorem shl64 {k : Nat} (hk : k ≤ 64) : IntKind.u64.wrap (IntKind.u64.wrap (2 ^ k) - 1) = ((2 ^ k - 1 : Nat) : Int) := by
  have h64 : (2 : Nat) ^ 64 = 18446744073709551616 := by decide
  have hp : 2 ^ k ≤ 2 ^ 64 := Nat.pow_le_pow_right (by omega) hk
  have h0 := Nat.two_pow_pos k
  have e : ((2 : Int) ^ k) = ((2 ^ k : Nat) : Int) := by simp
  rw [e]
  generalize (2 : Nat) ^ k = p at *
  by_cases hq : p = 18446744073709551616
  · subst hq; decide
  · rw [wrap_u64_in (n := (p : Int)) (by omega) (by omega), wrap_u64_in (by omega) (by omega)]
    omega
set_option maxHeartbeats 1000000 in
set_option maxRecDepth 20000 in
theorem qfree_any (v6 : Bool) (hi lo k : Nat) (w : World) (hk : k ≤ width v6) :
    Calls Try.prog 76 #[.agg #[.bool v6, .int .u64 hi, .int .u64 lo], .int .i64 k] w fun e w' => e = .returned (.tuple #[.int .u64 ((2 ^ frH v6 k - 1 : Nat) : Int), .int .u64 ((2 ^ frL v6 k - 1 : Nat) : Int)]) ∧ Below w.heap.size w w' := by
  have HWD := Lib.hid (fun W => qwidth_any v6 hi lo W)
  have HX := Lib.hid (ab_new w v6 hi lo)
  have HB := Lib.hid (below_alloc6 w (.cells #[.bool v6, .int .u64 hi, .int .u64 lo] 25))
  have e1 := shl64 (frH_le v6 k)
  have e2 := shl64 (frL_le v6 k)
  have hw : width v6 ≤ 128 := by unfold width; split <;> omega
  have q1 : max (((width v6 - k : Nat) : Int) - 64) 0 = ((frH v6 k : Nat) : Int) := by unfold frH; omega
  have q2 : min ((width v6 - k : Nat) : Int) 64 = ((frL v6 k : Nat) : Int) := by unfold frL; omega
  have q3 := frH_le v6 k
  have q4 := frL_le v6 k
  obtain ⟨f, hf⟩ : ∃ f, f = width v6 - k := ⟨_, rfl⟩
  rw [← hf] at q1 q2
  have hfi : ((width v6 : Nat) : Int) - (k : Int) = (f : Int) := by omega
  have hf128 : f ≤ 128 := by omega
  generalize frH v6 k = a at *
  generalize frL v6 k = b at *
  generalize width v6 = wd at *
  have HE1 := Lib.hid e1
  have HE2 := Lib.hid e2
  clear e1 e2 hf
  go_enter Try.func76, Try.ntmps76
  go_wp2_with fail
  refine (HWD.out _).mono ?_
  rintro e w2 ⟨rfl, hbw⟩
  have HB2 := Lib.hid (HB.out.trans (hbw.mono HB.out.size))
  clear hbw
  go_wp2_with fail
  go_quiet (fail)
  go_wp2_with fail
  go_ret2
  exact ⟨by rw [← HE1.out, ← HE2.out]; rfl, below_drewN6 HB2.out nq⟩
end Go.Proofs.Ytmcelgnifpfjpaa

/- Contracts of the program's layer 6: MakePrefix, Contains, ValidPrefix, Bounds. -/
namespace Go.Proofs.Ytmcelgnifpfjpaa
open Go.ChangeShapes Go.WideShapes Go.ChangeAt Go.RowKit
set_option linter.unusedVariables false

set_option maxRecDepth 20000 in
theorem qmake_bad (v6 : Bool) (hi lo : Nat) (bits : Int) (w : World) (hb : bits < 0 ∨ (width v6 : Int) < bits) :
    Calls Try.prog 72 #[.agg #[.bool v6, .int .u64 hi, .int .u64 lo], .int .i64 bits] w fun e w' => e = .returned (.tuple #[.agg #[.bool false, .int .u64 0, .int .u64 0, .int .i64 0], .int .i64 4]) ∧ Below w.heap.size w w' := by
  have HWD := Lib.hid (fun W => qwidth_any v6 hi lo W)
  have HX := Lib.hid (ab_new w v6 hi lo |>.kept (below_alloc6 _ (.cells #[.bool false, .int .u64 0, .int .u64 0, .int .i64 0] 37)) (alloc_lt6 w _))
  have HR := Lib.hid (pb2 w (.cells #[.bool v6, .int .u64 hi, .int .u64 lo] 25) false 0 0 0)
  have HB := Lib.hid (below2 w (.cells #[.bool v6, .int .u64 hi, .int .u64 lo] 25) (.cells #[.bool false, .int .u64 0, .int .u64 0, .int .i64 0] 37))
  by_cases c : bits < 0
  · have d : decide (bits < 0) = true := by simpa using c
    clear hb c
    go_enter Try.func72, Try.ntmps72
    go_wp2_with fail
    exact bodyPost_ret (res_pfx2 rfl _ _ rfl HR.out) rfl ⟨rfl, HB.out⟩
  · have d : decide (bits < 0) = false := by simpa using c
    have d2 : decide ((width v6 : Int) < bits) = true := by simp; omega
    obtain ⟨wd, hwd⟩ : ∃ wd, wd = width v6 := ⟨_, rfl⟩
    rw [← hwd] at d2 HWD
    have hlt : (wd : Int) < bits := by simpa using d2
    clear hb hwd
    go_enter Try.func72, Try.ntmps72
    go_wp2_with fail
    refine (HWD.out _).mono ?_
    rintro e w2 ⟨rfl, hb⟩
    have HR2 := Lib.hid (HR.out.kept hb HR.out.lt)
    have HB2 := Lib.hid (HB.out.trans (hb.mono HB.out.size))
    have r0 := HR2.out.c0
    have r1 := HR2.out.c1
    have r2 := HR2.out.c2
    have r3 := HR2.out.c3
    have rf0 := HR2.out.f 0
    have rf1 := HR2.out.f 1
    have rf2 := HR2.out.f 2
    have rf3 := HR2.out.f 3
    clear hb
    go_wp2_with fail
    change bodyPost _ _ _ _ _ (pset w2 (w.heap.size + 1) false 0 0 0)
    exact bodyPost_ret (res_pfx2 rfl _ _ rfl (HR2.out.set false 0 0 0)) rfl ⟨rfl, pset_below HB2.out (Nat.le_succ _) false 0 0 0⟩
/-- What MakePrefix makes: the two halves with the free bits 0. -/
def mkH (v6 : Bool) (k hi : Nat) : Nat := lowZ (frH v6 k) hi
def mkL (v6 : Bool) (k lo : Nat) : Nat := lowZ (frL v6 k) lo
set_option maxHeartbeats 1000000 in
set_option maxRecDepth 20000 in
theorem qmake_ok (v6 : Bool) (hi lo k : Nat) (w : World) (h1 : hi < 18446744073709551616) (h2 : lo < 18446744073709551616) (hb : k ≤ width v6) :
    Calls Try.prog 72 #[.agg #[.bool v6, .int .u64 hi, .int .u64 lo], .int .i64 k] w fun e w' => e = .returned (.tuple #[.agg #[.bool v6, .int .u64 (mkH v6 k hi : Nat), .int .u64 (mkL v6 k lo : Nat), .int .i64 k], .int .i64 0]) ∧ Below w.heap.size w w' := by
  have HWD := Lib.hid (fun W => qwidth_any v6 hi lo W)
  have HFR := Lib.hid (fun W => qfree_any v6 hi lo k W hb)
  have HN1 := andNot64 hi (frH v6 k) h1 (frH_le v6 k)
  have HN2 := andNot64 lo (frL v6 k) h2 (frL_le v6 k)
  have HX := Lib.hid (ab_new w v6 hi lo |>.kept (below_alloc6 _ (.cells #[.bool false, .int .u64 0, .int .u64 0, .int .i64 0] 37)) (alloc_lt6 w _))
  have HR := Lib.hid (pb2 w (.cells #[.bool v6, .int .u64 hi, .int .u64 lo] 25) false 0 0 0)
  have HB := Lib.hid (below2 w (.cells #[.bool v6, .int .u64 hi, .int .u64 lo] 25) (.cells #[.bool false, .int .u64 0, .int .u64 0, .int .i64 0] 37))
  have d : decide ((k : Int) < 0) = false := by simp
  unfold mkH mkL
  generalize lowZ (frH v6 k) hi = hi' at *
  generalize lowZ (frL v6 k) lo = lo' at *
  generalize 2 ^ frH v6 k - 1 = p at *
  generalize 2 ^ frL v6 k - 1 = q at *
  obtain ⟨wd, hwd⟩ : ∃ wd, wd = width v6 := ⟨_, rfl⟩
  rw [← hwd] at hb HWD
  have d2 : decide ((wd : Int) < (k : Int)) = false := by simp; omega
  have d3 : ¬ (wd : Int) < (k : Int) := by omega
  have hk : k ≤ 128 := by unfold width at hwd; split at hwd <;> omega
  clear hwd
  go_enter Try.func72, Try.ntmps72
  go_wp2_with fail
  refine (HWD.out _).mono ?_
  rintro e w2 ⟨rfl, hbw⟩
  have HX2 := Lib.hid (HX.out.kept hbw HX.out.lt)
  have HR2 := Lib.hid (HR.out.kept hbw HR.out.lt)
  have HB2 := Lib.hid (HB.out.trans (hbw.mono HB.out.size))
  have x0 := HX2.out.c0
  have x1 := HX2.out.c1
  have x2 := HX2.out.c2
  clear hbw HX HR HB
  go_wp2_with fail
  refine (HFR.out _).mono ?_
  rintro e w3 ⟨rfl, hbw⟩
  have HX3 := Lib.hid (HX2.out.kept hbw HX2.out.lt)
  have HR3 := Lib.hid (HR2.out.kept hbw HR2.out.lt)
  have HB3 := Lib.hid (HB2.out.trans (hbw.mono HB2.out.size))
  clear hbw HX2 HR2 HB2 x0 x1 x2
  have x0 := HX3.out.c0
  have x1 := HX3.out.c1
  have x2 := HX3.out.c2
  have xf1 := HX3.out.f 1
  have xf2 := HX3.out.f 2
  have r0 := HR3.out.c0
  have r1 := HR3.out.c1
  have r2 := HR3.out.c2
  have r3 := HR3.out.c3
  have rf0 := HR3.out.f 0
  have rf1 := HR3.out.f 1
  have rf2 := HR3.out.f 2
  have rf3 := HR3.out.f 3
  have HW4 := Lib.hid (((HR3.out.far (b := w.heap.size) (i := 1) (by omega) (.int .u64 hi')).far (b := w.heap.size) (i := 2) (by omega) (.int .u64 lo')))
  have HB4 := Lib.hid ((HB3.out.setCell (p := ⟨w.heap.size, 1, none⟩) (Nat.le_refl _) (.int .u64 hi')).setCell (p := ⟨w.heap.size, 2, none⟩) (Nat.le_refl _) (.int .u64 lo'))
  go_wp2_with fail
  change bodyPost _ _ _ _ _ (pset ((w3.setCell ⟨w.heap.size, 1, none⟩ (.int .u64 hi')).setCell ⟨w.heap.size, 2, none⟩ (.int .u64 lo')) (w.heap.size + 1) v6 hi' lo' k)
  exact bodyPost_ret (res_pfx2 rfl _ _ rfl (HW4.out.set v6 hi' lo' k)) rfl ⟨rfl, pset_below HB4.out (Nat.le_succ _) v6 hi' lo' k⟩
end Go.Proofs.Ytmcelgnifpfjpaa

/- Contracts of the program's layer 6: Contains, ValidPrefix. -/
namespace Go.Proofs.Ytmcelgnifpfjpaa
open Go.ChangeShapes Go.WideShapes Go.ChangeAt Go.RowKit
set_option linter.unusedVariables false

/-- '==' of two prefixes. -/
theorem pfx_guard : Try.prog.eqGuardType Try.prog.depth 37 = false := by kernel_rfl
theorem pfx_eql (b b' : Bool) (h h' l l' k k' : Int) (W : World) :
    (binOp .eql 37 (.agg #[.bool b, .int .u64 h, .int .u64 l, .int .i64 k]) (.agg #[.bool b', .int .u64 h', .int .u64 l', .int .i64 k'])).run Try.prog W = .ok (.bool (b == b' && (h == h' && (l == l' && k == k')))) W := by
  have u3 := Try.underlying23
  have a3 := Try.isAgg23
  have z3 := Try.sizeOf23
  have u2 := Try.underlying3
  have a2 := Try.isAgg3
  have z2 := Try.sizeOf3
  have u9 := Try.underlying4
  have a9 := Try.isAgg4
  have z9 := Try.sizeOf4
  have u8 := Try.underlying25
  have a8 := Try.isAgg25
  have z8 := Try.sizeOf25
  have hS : Try.prog.underlying 37 = some (.struct (Try.prog.fieldsOf 37)) := by kernel_rfl
  have hp : Try.prog.stoodInHeld 37 = false := by kernel_rfl
  have hS2 : Try.prog.underlying 25 = some (.struct (Try.prog.fieldsOf 25)) := by kernel_rfl
  have hp2 : Try.prog.stoodInHeld 25 = false := by kernel_rfl
  rw [run_eql_struct, show (10000 : Nat) = 9999 + 1 from rfl, run_equalIn_agg W 9999 37 _ _ hS hp]
  simp only [Program.fieldsOf, Try.underlying37]
  go_simp
  cases h1 : (b == b') <;> cases h2 : (h == h') <;> cases h3 : (l == l') <;> cases h4 : (k == k') <;> simp_all
/-- Is an address in a prefix? By the tests of the program. -/
def cntB (v1 : Bool) (h1 l1 : Nat) (k : Int) (v2 : Bool) (h2 l2 : Nat) : Bool :=
  decide (0 ≤ k ∧ k ≤ (width v2 : Nat)) && (v2 == v1 && (((mkH v2 k.toNat h2 : Nat) : Int) == (h1 : Int) && ((mkL v2 k.toNat l2 : Nat) : Int) == (l1 : Int)))
theorem below3 (w : World) (a b c : Obj) : Below w.heap.size w (((w.alloc a).alloc b).alloc c) := (below2 w a b).trans ((below_alloc6 _ c).mono (by simp; omega))
set_option maxHeartbeats 1000000 in
set_option maxRecDepth 20000 in
theorem qcont_any (v1 : Bool) (h1 l1 : Nat) (k : Int) (v2 : Bool) (h2 l2 : Nat) (w : World) (b1 : h2 < 18446744073709551616) (b2 : l2 < 18446744073709551616) :
    Calls Try.prog 75 #[.agg #[.bool v1, .int .u64 h1, .int .u64 l1, .int .i64 k], .agg #[.bool v2, .int .u64 h2, .int .u64 l2]] w fun e w' => e = .returned (.bool (cntB v1 h1 l1 k v2 h2 l2)) ∧ Below w.heap.size w w' := by
  have hm := pfx_guard
  have HX := Lib.hid (pb_new w v1 h1 l1 k |>.kept (below_alloc6 _ (.cells #[.bool v2, .int .u64 h2, .int .u64 l2] 25)) (alloc_lt6 w _))
  have HY := Lib.hid (ab2 w (.cells #[.bool v1, .int .u64 h1, .int .u64 l1, .int .i64 k] 37) v2 h2 l2)
  have HB := Lib.hid (below2 w (.cells #[.bool v1, .int .u64 h1, .int .u64 l1, .int .i64 k] 37) (.cells #[.bool v2, .int .u64 h2, .int .u64 l2] 25))
  by_cases c : 0 ≤ k ∧ k ≤ (width v2 : Nat)
  · obtain ⟨n, rfl⟩ := Int.eq_ofNat_of_zero_le c.1
    have HM := Lib.hid (fun W => qmake_ok v2 h2 l2 n W b1 b2 (by have := c.2; omega))
    have hr : cntB v1 h1 l1 n v2 h2 l2 = (v2 == v1 && (((mkH v2 n h2 : Nat) : Int) == (h1 : Int) && ((mkL v2 n l2 : Nat) : Int) == (l1 : Int))) := by
      unfold cntB
      rw [decide_eq_true c, Bool.true_and]
      rfl
    rw [hr]
    have qe := fun W => pfx_eql v2 v1 (mkH v2 n h2 : Nat) h1 (mkL v2 n l2 : Nat) l1 n n W
    rw [beq_self_eq_true, Bool.and_true] at qe
    generalize mkH v2 n h2 = hi' at *
    generalize mkL v2 n l2 = lo' at *
    generalize (v2 == v1 && ((hi' : Int) == (h1 : Int) && (lo' : Int) == (l1 : Int))) = z at *
    clear c hr
    go_enter Try.func75, Try.ntmps75
    go_wp2_with fail
    refine (HM.out _).mono ?_
    rintro e w3 ⟨rfl, hb⟩
    have HX3 := Lib.hid (HX.out.kept hb HX.out.lt)
    have HB3 := Lib.hid (HB.out.trans (hb.mono HB.out.size))
    clear hb
    have x0 := HX3.out.c0
    have x1 := HX3.out.c1
    have x2 := HX3.out.c2
    have x3 := HX3.out.c3
    have hgl := HX3.out.lt
    cases z with
    | true =>
      go_wp2_with fail
      go_ret
      exact ⟨rfl, HB3.out.trans ((below_alloc6 _ _).mono HB3.out.size)⟩
    | false =>
      go_wp2_with fail
      go_ret
      exact ⟨rfl, HB3.out.trans ((below_alloc6 _ _).mono HB3.out.size)⟩
  · have hr : cntB v1 h1 l1 k v2 h2 l2 = false := by
      unfold cntB
      rw [decide_eq_false c, Bool.false_and]
    rw [hr]
    have HM := Lib.hid (fun W => qmake_bad v2 h2 l2 k W (by omega))
    clear c hr
    go_enter Try.func75, Try.ntmps75
    go_wp2_with fail
    refine (HM.out _).mono ?_
    rintro e w3 ⟨rfl, hb⟩
    have HB3 := Lib.hid (HB.out.trans (hb.mono HB.out.size))
    clear hb
    go_wp2_with fail
    go_ret
    exact ⟨rfl, HB3.out.trans ((below_alloc6 _ _).mono HB3.out.size)⟩
/-- Is a struct a prefix? -/
def vldP (v6 : Bool) (hi lo : Nat) (k : Int) : Bool := vldA v6 hi lo && cntB v6 hi lo k v6 hi lo
set_option maxHeartbeats 1000000 in
set_option maxRecDepth 20000 in
theorem qvalidp_any (v6 : Bool) (hi lo : Nat) (k : Int) (w : World) (b1 : hi < 18446744073709551616) (b2 : lo < 18446744073709551616) :
    Calls Try.prog 59 #[.agg #[.bool v6, .int .u64 hi, .int .u64 lo, .int .i64 k]] w fun e w' => e = .returned (.bool (vldP v6 hi lo k)) ∧ Below w.heap.size w w' := by
  have HX := Lib.hid (pb_new w v6 hi lo k)
  have HB := Lib.hid (below_alloc6 w (.cells #[.bool v6, .int .u64 hi, .int .u64 lo, .int .i64 k] 37))
  have HV := Lib.hid (fun W => qvalid_any v6 hi lo W)
  have HC := Lib.hid (fun W => qcont_any v6 hi lo k v6 hi lo W b1 b2)
  unfold vldP
  generalize vldA v6 hi lo = a at *
  generalize cntB v6 hi lo k v6 hi lo = b at *
  go_enter Try.func59, Try.ntmps59
  go_wp2_with fail
  refine (HV.out _).mono ?_
  rintro e w3 ⟨rfl, hb⟩
  have HX3 := Lib.hid (HX.out.kept hb HX.out.lt)
  have HB3 := Lib.hid (HB.out.trans (hb.mono HB.out.size))
  clear hb HX HB
  have x0 := HX3.out.c0
  have x1 := HX3.out.c1
  have x2 := HX3.out.c2
  have x3 := HX3.out.c3
  cases a with
  | true =>
    go_wp2_with fail
    refine (HC.out _).mono ?_
    rintro e w4 ⟨rfl, hb⟩
    have HB4 := Lib.hid (HB3.out.trans (hb.mono HB3.out.size))
    clear hb
    go_wp2_with fail
    go_ret
    exact ⟨rfl, HB4.out⟩
  | false =>
    go_wp2_with fail
    go_ret
    exact ⟨rfl, HB3.out⟩
end Go.Proofs.Ytmcelgnifpfjpaa

/- Contracts of the program's layer 6: Bounds. -/
namespace Go.Proofs.Ytmcelgnifpfjpaa
open Go.ChangeShapes Go.WideShapes Go.ChangeAt Go.RowKit
set_option linter.unusedVariables false

/-- A range in a box. -/
def RB (w : World) (g : Nat) (v1 : Bool) (h1 l1 : Nat) (v2 : Bool) (h2 l2 : Nat) : Prop := Cells w g 43 #[.bool v1, .int .u64 h1, .int .u64 l1, .bool v2, .int .u64 h2, .int .u64 l2]
theorem rb_new (w : World) (v1 : Bool) (h1 l1 : Nat) (v2 : Bool) (h2 l2 : Nat) : RB (w.alloc (.cells #[.bool v1, .int .u64 h1, .int .u64 l1, .bool v2, .int .u64 h2, .int .u64 l2] 43)) w.heap.size v1 h1 l1 v2 h2 l2 := heap_alloc_new w _
theorem RB.kept {w w' : World} {g B : Nat} {v1 : Bool} {h1 l1 : Nat} {v2 : Bool} {h2 l2 : Nat} (h : RB w g v1 h1 l1 v2 h2 l2) (hb : Below B w w') (hg : g < B) : RB w' g v1 h1 l1 v2 h2 l2 := (hb.block _ hg).trans h
theorem RB.lt {w : World} {g : Nat} {v1 : Bool} {h1 l1 : Nat} {v2 : Bool} {h2 l2 : Nat} (h : RB w g v1 h1 l1 v2 h2 l2) : g < w.heap.size := Cells.lt h
theorem RB.f {w : World} {g : Nat} {v1 : Bool} {h1 l1 : Nat} {v2 : Bool} {h2 l2 : Nat} (h : RB w g v1 h1 l1 v2 h2 l2) (i : Nat) : w.frozen? ⟨g, i, none⟩ = false := Cells.frozen h i
theorem RB.c {w : World} {g : Nat} {v1 : Bool} {h1 l1 : Nat} {v2 : Bool} {h2 l2 : Nat} (h : RB w g v1 h1 l1 v2 h2 l2) (i : Nat) : w.cell? ⟨g, i, none⟩ = #[Value.bool v1, .int .u64 h1, .int .u64 l1, .bool v2, .int .u64 h2, .int .u64 l2][i]? := Cells.cell h i
theorem AB.al {w : World} {g : Nat} {v6 : Bool} {hi lo : Nat} (h : AB w g v6 hi lo) (o : Obj) : AB (w.alloc o) g v6 hi lo := h.kept (below_alloc6 w o) h.lt
theorem PB.al {w : World} {g : Nat} {v6 : Bool} {hi lo : Nat} {k : Int} (h : PB w g v6 hi lo k) (o : Obj) : PB (w.alloc o) g v6 hi lo k := h.kept (below_alloc6 w o) h.lt
theorem RB.al {w : World} {g : Nat} {v1 : Bool} {h1 l1 : Nat} {v2 : Bool} {h2 l2 : Nat} (h : RB w g v1 h1 l1 v2 h2 l2) (o : Obj) : RB (w.alloc o) g v1 h1 l1 v2 h2 l2 := h.kept (below_alloc6 w o) h.lt
theorem rng_size : (Try.prog.info? 43).map (·.size) = some 6 := by kernel_rfl
theorem res_rng1 {fn : Func} {p : Tmp} (h : fn.results = #[.cell p 43]) (tmps : Array Value) (w : World) {g : Nat} {v1 : Bool} {h1 l1 : Nat} {v2 : Bool} {h2 l2 : Nat} (hp : tmps.getD p undef = .pointer (some ⟨g, 0, none⟩)) (ht : RB w g v1 h1 l1 v2 h2 l2) :
    (results fn tmps).run Try.prog w = .ok (.agg #[.bool v1, .int .u64 h1, .int .u64 l1, .bool v2, .int .u64 h2, .int .u64 l2]) w := by
  have hp' : tmps[p]?.getD undef = .pointer (some ⟨g, 0, none⟩) := by simpa using hp
  simp [results, h, hp', asAddr, run_loadVar_row w g 43 43 _ (0, 0) _ ht Try.underlying43 rfl rng_size]
/-- The six stores of a range. -/
def rset (w : World) (g : Nat) (v1 : Bool) (h1 l1 : Nat) (v2 : Bool) (h2 l2 : Nat) : World := (((((w.setCell ⟨g, 0, none⟩ (.bool v1)).setCell ⟨g, 1, none⟩ (.int .u64 h1)).setCell ⟨g, 2, none⟩ (.int .u64 l1)).setCell ⟨g, 3, none⟩ (.bool v2)).setCell ⟨g, 4, none⟩ (.int .u64 h2)).setCell ⟨g, 5, none⟩ (.int .u64 l2)
theorem RB.set {w : World} {g : Nat} {a1 : Bool} {a2 a3 : Nat} {a4 : Bool} {a5 a6 : Nat} (h : RB w g a1 a2 a3 a4 a5 a6) (v1 : Bool) (h1 l1 : Nat) (v2 : Bool) (h2 l2 : Nat) : RB (rset w g v1 h1 l1 v2 h2 l2) g v1 h1 l1 v2 h2 l2 := by
  have j0 := Cells.set h 0 (.bool v1)
  have j1 := Cells.set j0 1 (.int .u64 h1)
  have j2 := Cells.set j1 2 (.int .u64 l1)
  have j3 := Cells.set j2 3 (.bool v2)
  have j4 := Cells.set j3 4 (.int .u64 h2)
  have j5 := Cells.set j4 5 (.int .u64 l2)
  exact j5
theorem rset_below {B : Nat} {a w : World} {g : Nat} (h : Below B a w) (hg : B ≤ g) (v1 : Bool) (h1 l1 : Nat) (v2 : Bool) (h2 l2 : Nat) : Below B a (rset w g v1 h1 l1 v2 h2 l2) := (((((h.setCell hg _).setCell hg _).setCell hg _).setCell hg _).setCell hg _).setCell hg _
theorem vldP_out {v6 : Bool} {hi lo k : Nat} (h : vldP v6 hi lo k = true) : vldA v6 hi lo = true ∧ k ≤ width v6 ∧ mkH v6 k hi = hi ∧ mkL v6 k lo = lo := by
  unfold vldP cntB at h
  rw [Bool.and_eq_true, Bool.and_eq_true, Bool.and_eq_true, Bool.and_eq_true, decide_eq_true_eq, beq_iff_eq, beq_iff_eq, beq_iff_eq, Int.toNat_natCast] at h
  obtain ⟨a, ⟨_, b⟩, _, c, d⟩ := h
  exact ⟨a, by omega, by omega, by omega⟩
set_option maxHeartbeats 1000000 in
set_option maxRecDepth 20000 in
theorem qbounds_any (v6 : Bool) (hi lo k : Nat) (w : World) (b1 : hi < 18446744073709551616) (b2 : lo < 18446744073709551616) (hv : vldP v6 hi lo k = true) :
    Calls Try.prog 60 #[.agg #[.bool v6, .int .u64 hi, .int .u64 lo, .int .i64 k]] w fun e w' => e = .returned (.agg #[.bool v6, .int .u64 hi, .int .u64 lo, .bool v6, .int .u64 (lowO (frH v6 k) hi : Nat), .int .u64 (lowO (frL v6 k) lo : Nat)]) ∧ Below w.heap.size w w' := by
  obtain ⟨a1, a2, a3, a4⟩ := vldP_out hv
  have HX := Lib.hid (pb_new w v6 hi lo k |>.kept (below_alloc6 _ (.cells #[.bool false, .int .u64 0, .int .u64 0, .bool false, .int .u64 0, .int .u64 0] 43)) (alloc_lt6 w _))
  have HR := Lib.hid (show RB ((w.alloc (.cells #[.bool v6, .int .u64 hi, .int .u64 lo, .int .i64 k] 37)).alloc (.cells #[.bool false, .int .u64 0, .int .u64 0, .bool false, .int .u64 0, .int .u64 0] 43)) (w.heap.size + 1) false 0 0 false 0 0 from by
    have := rb_new (w.alloc (.cells #[.bool v6, .int .u64 hi, .int .u64 lo, .int .i64 k] 37)) false 0 0 false 0 0
    rwa [show (w.alloc (.cells #[.bool v6, .int .u64 hi, .int .u64 lo, .int .i64 k] 37)).heap.size = w.heap.size + 1 by simp] at this)
  have HB := Lib.hid (below2 w (.cells #[.bool v6, .int .u64 hi, .int .u64 lo, .int .i64 k] 37) (.cells #[.bool false, .int .u64 0, .int .u64 0, .bool false, .int .u64 0, .int .u64 0] 43))
  have HV := Lib.hid (fun W => qvalidp_any v6 hi lo k W b1 b2)
  have HF := Lib.hid (fun W => qfree_any v6 hi lo k W a2)
  rw [hv] at HV
  have HO1 := or64 hi (frH v6 k) b1 (frH_le v6 k) a3
  have HO2 := or64 lo (frL v6 k) b2 (frL_le v6 k) a4
  generalize lowO (frH v6 k) hi = hi' at *
  generalize lowO (frL v6 k) lo = lo' at *
  generalize 2 ^ frH v6 k - 1 = p at *
  generalize 2 ^ frL v6 k - 1 = q at *
  clear a1 a2 a3 a4 hv b1 b2
  go_enter Try.func60, Try.ntmps60
  go_wp2_with fail
  refine (HV.out _).mono ?_
  rintro e w2 ⟨rfl, hb⟩
  have HX2 := Lib.hid (HX.out.kept hb HX.out.lt)
  have HR2 := Lib.hid (HR.out.kept hb HR.out.lt)
  have HB2 := Lib.hid (HB.out.trans (hb.mono HB.out.size))
  clear hb HX HR HB
  have x0 := HX2.out.c0
  have x1 := HX2.out.c1
  have x2 := HX2.out.c2
  have x3 := HX2.out.c3
  go_wp2_with fail
  refine (HF.out _).mono ?_
  rintro e w3 ⟨rfl, hb⟩
  have HX3 := Lib.hid (HX2.out.kept hb HX2.out.lt)
  have HR3 := Lib.hid (HR2.out.kept hb HR2.out.lt)
  have HB3 := Lib.hid (HB2.out.trans (hb.mono HB2.out.size))
  clear hb HX2 HR2 HB2 x0 x1 x2 x3
  have x0 := HX3.out.c0
  have x1 := HX3.out.c1
  have x2 := HX3.out.c2
  have x3 := HX3.out.c3
  have hgx := HX3.out.lt
  have hgr := HR3.out.lt
  have r0 : w3.cell? ⟨w.heap.size + 1, 0, none⟩ = some (.bool false) := (HR3.out.c 0).trans rfl
  have r1 : w3.cell? ⟨w.heap.size + 1, 1, none⟩ = some (.int .u64 0) := (HR3.out.c 1).trans rfl
  have r2 : w3.cell? ⟨w.heap.size + 1, 2, none⟩ = some (.int .u64 0) := (HR3.out.c 2).trans rfl
  have r3 : w3.cell? ⟨w.heap.size + 1, 3, none⟩ = some (.bool false) := (HR3.out.c 3).trans rfl
  have r4 : w3.cell? ⟨w.heap.size + 1, 4, none⟩ = some (.int .u64 0) := (HR3.out.c 4).trans rfl
  have r5 : w3.cell? ⟨w.heap.size + 1, 5, none⟩ = some (.int .u64 0) := (HR3.out.c 5).trans rfl
  have f0 := HR3.out.f 0
  have f1 := HR3.out.f 1
  have f2 := HR3.out.f 2
  have f3 := HR3.out.f 3
  have f4 := HR3.out.f 4
  have f5 := HR3.out.f 5
  go_wp2_with fail
  have HR4 := HR3.out.set v6 hi lo v6 hi' lo'
  have HB4 := rset_below HB3.out (g := w.heap.size + 1) (Nat.le_succ _) v6 hi lo v6 hi' lo'
  change bodyPost _ _ _ _ _ ((rset w3 (w.heap.size + 1) v6 hi lo v6 hi' lo').alloc _)
  exact bodyPost_ret (res_rng1 rfl _ _ rfl (HR4.kept (below_alloc6 _ _) HR4.lt)) rfl ⟨rfl, HB4.trans ((below_alloc6 _ _).mono HB4.size)⟩
end Go.Proofs.Ytmcelgnifpfjpaa

/- Contracts of the program's layer 6: Next, Previous. -/
namespace Go.Proofs.Ytmcelgnifpfjpaa
open Go.ChangeShapes Go.WideShapes Go.ChangeAt Go.RowKit
set_option linter.unusedVariables false

theorem vldP_whole (v6 : Bool) : vldP v6 0 0 ((0 : Nat) : Int) = true := by cases v6 <;> decide +kernel
theorem last_h (v6 : Bool) : lowO (frH v6 0) 0 = if v6 then 18446744073709551615 else 0 := by cases v6 <;> decide +kernel
theorem last_l (v6 : Bool) : lowO (frL v6 0) 0 = if v6 then 18446744073709551615 else 4294967295 := by cases v6 <;> decide +kernel
/-- Is an address the last one of its family? -/
def isLast (v6 : Bool) (hi lo : Nat) : Bool := v6 == v6 && ((hi : Int) == ((lowO (frH v6 0) 0 : Nat) : Int) && (lo : Int) == ((lowO (frL v6 0) 0 : Nat) : Int))
theorem last_true {v6 : Bool} {hi lo : Nat} (h : isLast v6 hi lo = true) : nxtA v6 hi lo = none := by
  unfold isLast at h
  rw [last_h, last_l] at h
  simp only [beq_self_eq_true, Bool.true_and, Bool.and_eq_true, beq_iff_eq] at h
  obtain ⟨a, b⟩ := h
  unfold nxtA
  cases v6 with
  | true =>
    rw [if_pos rfl] at a b
    rw [if_neg (by omega), if_pos rfl, if_neg (by omega)]
  | false =>
    rw [if_neg (by decide)] at a b
    rw [if_pos (by omega), if_pos ⟨rfl, by omega⟩]
theorem last_false {v6 : Bool} {hi lo : Nat} (h : isLast v6 hi lo = false) (hv : vldA v6 hi lo = true) (h1 : hi < 18446744073709551616) (h2 : lo < 18446744073709551616) :
    (lo + 1 < 18446744073709551616 ∧ nxtA v6 hi lo = some (v6, hi, lo + 1)) ∨ (lo + 1 = 18446744073709551616 ∧ hi + 1 < 18446744073709551616 ∧ nxtA v6 hi lo = some (v6, hi + 1, 0)) := by
  unfold isLast at h
  rw [last_h, last_l] at h
  simp only [beq_self_eq_true, Bool.true_and, Bool.and_eq_false_iff, beq_eq_false_iff_ne, ne_eq] at h
  unfold vldA at hv
  unfold nxtA
  cases v6 with
  | true =>
    rw [if_pos rfl, if_pos rfl] at h
    by_cases a : lo + 1 < 18446744073709551616
    · left
      rw [if_pos a, if_neg (by simp)]
      exact ⟨a, rfl⟩
    · right
      rw [if_neg a, if_pos rfl, if_pos (by omega)]
      exact ⟨by omega, by omega, rfl⟩
  | false =>
    simp only [Bool.false_eq_true, if_false] at h
    simp only [Bool.false_or, Bool.and_eq_true, beq_iff_eq, decide_eq_true_eq] at hv
    left
    rw [if_pos (by omega), if_neg (by intro e; omega)]
    exact ⟨by omega, rfl⟩
theorem rng_hi (v1 : Bool) (h1 l1 : Int) (v2 : Bool) (h2 l2 : Int) (W : World) : (Instr.field 43 (.agg #[.bool v1, .int .u64 h1, .int .u64 l1, .bool v2, .int .u64 h2, .int .u64 l2]) 1).run Try.prog W = .ok (.agg #[.bool v2, .int .u64 h2, .int .u64 l2]) W := by kernel_rfl
theorem rng_lo (v1 : Bool) (h1 l1 : Int) (v2 : Bool) (h2 l2 : Int) (W : World) : (Instr.field 43 (.agg #[.bool v1, .int .u64 h1, .int .u64 l1, .bool v2, .int .u64 h2, .int .u64 l2]) 0).run Try.prog W = .ok (.agg #[.bool v1, .int .u64 h1, .int .u64 l1]) W := by kernel_rfl
set_option maxHeartbeats 1000000 in
set_option maxRecDepth 20000 in
theorem qnext_any (v6 : Bool) (hi lo : Nat) (w : World) (h1 : hi < 18446744073709551616) (h2 : lo < 18446744073709551616) (hv : vldA v6 hi lo = true) :
    Calls Try.prog 53 #[.agg #[.bool v6, .int .u64 hi, .int .u64 lo]] w fun e w' => e = .returned (aRes (nxtA v6 hi lo)) ∧ Below w.heap.size w w' := by
  have hm := addr_guard
  have hfd := rng_hi v6 0 0 v6 (lowO (frH v6 0) 0 : Nat) (lowO (frL v6 0) 0 : Nat)
  have HX := Lib.hid (ab_new w v6 hi lo |>.kept (below_alloc6 _ (.cells #[.bool false, .int .u64 0, .int .u64 0] 25)) (alloc_lt6 w _))
  have HR := Lib.hid (ab2 w (.cells #[.bool v6, .int .u64 hi, .int .u64 lo] 25) false 0 0)
  have HB := Lib.hid (below2 w (.cells #[.bool v6, .int .u64 hi, .int .u64 lo] 25) (.cells #[.bool false, .int .u64 0, .int .u64 0] 25))
  have HF := Lib.hid (fun W => qfirst_any v6 W)
  have HBD := Lib.hid (fun W => qbounds_any v6 0 0 0 W (by decide) (by decide) (vldP_whole v6))
  have HE := Lib.hid (fun (h : isLast v6 hi lo = true) => last_true h)
  have HN := Lib.hid (fun (h : isLast v6 hi lo = false) => last_false h hv h1 h2)
  have qe : ∀ W, (binOp .eql 25 (.agg #[.bool v6, .int .u64 hi, .int .u64 lo]) (.agg #[.bool v6, .int .u64 (lowO (frH v6 0) 0 : Nat), .int .u64 (lowO (frL v6 0) 0 : Nat)])).run Try.prog W = .ok (.bool (isLast v6 hi lo)) W := fun W => addr_eql v6 v6 hi (lowO (frH v6 0) 0 : Nat) lo (lowO (frL v6 0) 0 : Nat) W
  generalize isLast v6 hi lo = E at *
  generalize lowO (frH v6 0) 0 = lh at *
  generalize lowO (frL v6 0) 0 = ll at *
  clear h1 h2 hv
  go_enter Try.func53, Try.ntmps53
  go_wp2_with fail
  generalize (w.alloc (.cells #[.bool v6, .int .u64 hi, .int .u64 lo] 25)).alloc (.cells #[.bool false, .int .u64 0, .int .u64 0] 25) = w1 at *
  have x0 := HX.out.c0
  have x1 := HX.out.c1
  have x2 := HX.out.c2
  go_region_held3 (fun w' => w'.cell? ⟨w.heap.size, 0, none⟩ = some (.bool v6) ∧ w'.cell? ⟨w.heap.size, 1, none⟩ = some (.int .u64 hi) ∧ w'.cell? ⟨w.heap.size, 2, none⟩ = some (.int .u64 lo)) (go_keep) (first
    | (go_at_call 68; refine (HF.out _).mono ?_; rintro e w5 ⟨rfl, hb3d⟩; have hb5 : Below w1.heap.size w1 w5 := ⟨hb3d.os, hb3d.tape, hb3d.output, hb3d.size, hb3d.block⟩; have hx5 := HX.out.kept hb5 HX.out.lt; have j0 := hx5.c0; have j1 := hx5.c1; have j2 := hx5.c2)
    | (go_at_call 60; refine (HBD.out _).mono ?_; rintro e w6 ⟨rfl, hb4d⟩; have hb6 : Below w1.heap.size w1 w6 := hb5.trans ((show Below w5.heap.size w5 w6 from ⟨hb4d.os, hb4d.tape, hb4d.output, hb4d.size, hb4d.block⟩).mono hb5.size); have hx6 := HX.out.kept hb6 HX.out.lt; have i0 := hx6.c0; have i1 := hx6.c1; have i2 := hx6.c2))
  all_goals
    have HX6 := Lib.hid hx6
    have HR6 := Lib.hid (HR.out.kept hb6 HR.out.lt)
    have HB6 := Lib.hid (HB.out.trans (hb6.mono HB.out.size))
    clear hb5 hx5 j0 j1 j2 hb6 hx6 i0 i1 i2 x0 x1 x2 HX HR HB qe hfd
    have x0 := HX6.out.c0
    have x1 := HX6.out.c1
    have x2 := HX6.out.c2
    have xf1 := HX6.out.f 1
    have xf2 := HX6.out.f 2
    have r0 := HR6.out.c0
    have r1 := HR6.out.c1
    have r2 := HR6.out.c2
    have rf0 := HR6.out.f 0
    have rf1 := HR6.out.f 1
    have rf2 := HR6.out.f 2
    cases E with
    | true =>
      have HEE := Lib.hid (HE.out rfl)
      clear HE HN
      go_wp2_with fail
      change bodyPost _ _ _ _ _ (aset w6 (w.heap.size + 1) false 0 0)
      exact bodyPost_ret (res_addr2 rfl _ _ rfl (HR6.out.set false 0 0)) rfl ⟨by rw [HEE.out]; rfl, aset_below HB6.out (Nat.le_succ _) false 0 0⟩
    | false =>
      rcases HN.out rfl with ⟨n1, n2⟩ | ⟨n1, n3, n2⟩
      · have HN2 := Lib.hid n2
        have e0 : ((lo : Int) + 1 == 0) = false := by rw [beq_eq_false_iff_ne]; omega
        have HR7 := Lib.hid (HR6.out.far (b := w.heap.size) (i := 2) (by omega) (.int .u64 ((lo + 1 : Nat) : Int)))
        have HB7 := Lib.hid (HB6.out.setCell (p := ⟨w.heap.size, 2, none⟩) (Nat.le_refl _) (.int .u64 ((lo + 1 : Nat) : Int)))
        clear HE HN n2
        go_wp2_with fail
        change bodyPost _ _ _ _ _ (aset (w6.setCell ⟨w.heap.size, 2, none⟩ (.int .u64 ((lo + 1 : Nat) : Int))) (w.heap.size + 1) v6 hi (lo + 1))
        exact bodyPost_ret (res_addr2 rfl _ _ rfl (HR7.out.set v6 hi (lo + 1))) rfl ⟨by rw [HN2.out]; rfl, aset_below HB7.out (Nat.le_succ _) v6 hi (lo + 1)⟩
      · have HN2 := Lib.hid n2
        have hw := wrap_u64_up n1
        have hm2 : ((lo : Int) + 1) % 18446744073709551616 = 0 := by omega
        have HR7 := Lib.hid ((HR6.out.far (b := w.heap.size) (i := 2) (by omega) (.int .u64 ((0 : Nat) : Int))).far (b := w.heap.size) (i := 1) (by omega) (.int .u64 ((hi + 1 : Nat) : Int)))
        have HB7 := Lib.hid ((HB6.out.setCell (p := ⟨w.heap.size, 2, none⟩) (Nat.le_refl _) (.int .u64 ((0 : Nat) : Int))).setCell (p := ⟨w.heap.size, 1, none⟩) (Nat.le_refl _) (.int .u64 ((hi + 1 : Nat) : Int)))
        clear HE HN n2 n1
        go_wp2_with fail
        change bodyPost _ _ _ _ _ (aset ((w6.setCell ⟨w.heap.size, 2, none⟩ (.int .u64 ((0 : Nat) : Int))).setCell ⟨w.heap.size, 1, none⟩ (.int .u64 ((hi + 1 : Nat) : Int))) (w.heap.size + 1) v6 (hi + 1) 0)
        exact bodyPost_ret (res_addr2 rfl _ _ rfl (HR7.out.set v6 (hi + 1) 0)) rfl ⟨by rw [HN2.out]; rfl, aset_below HB7.out (Nat.le_succ _) v6 (hi + 1) 0⟩
/-- Is an address the first one of its family? -/
def isFirst (v6 : Bool) (hi lo : Nat) : Bool := v6 == v6 && ((hi : Int) == 0 && (lo : Int) == 0)
theorem wrap_u64_down : IntKind.u64.wrap (-1) = 18446744073709551615 := by decide
set_option maxHeartbeats 1000000 in
set_option maxRecDepth 20000 in
theorem qprev_any (v6 : Bool) (hi lo : Nat) (w : World) (h1 : hi < 18446744073709551616) (h2 : lo < 18446744073709551616) :
    Calls Try.prog 52 #[.agg #[.bool v6, .int .u64 hi, .int .u64 lo]] w fun e w' => e = .returned (aRes (prvA v6 hi lo)) ∧ Below w.heap.size w w' := by
  have hm := addr_guard
  have HX := Lib.hid (ab_new w v6 hi lo |>.kept (below_alloc6 _ (.cells #[.bool false, .int .u64 0, .int .u64 0] 25)) (alloc_lt6 w _))
  have HR := Lib.hid (ab2 w (.cells #[.bool v6, .int .u64 hi, .int .u64 lo] 25) false 0 0)
  have HB := Lib.hid (below2 w (.cells #[.bool v6, .int .u64 hi, .int .u64 lo] 25) (.cells #[.bool false, .int .u64 0, .int .u64 0] 25))
  have HF := Lib.hid (fun W => qfirst_any v6 W)
  have HE := Lib.hid (show isFirst v6 hi lo = true → prvA v6 hi lo = none from fun h => by
    unfold isFirst at h
    simp only [beq_self_eq_true, Bool.true_and, Bool.and_eq_true, beq_iff_eq] at h
    unfold prvA
    rw [if_pos (by omega), if_pos (by omega)])
  have HN := Lib.hid (show isFirst v6 hi lo = false → (0 < lo ∧ prvA v6 hi lo = some (v6, hi, lo - 1)) ∨ (lo = 0 ∧ 0 < hi ∧ prvA v6 hi lo = some (v6, hi - 1, 18446744073709551615)) from fun h => by
    unfold isFirst at h
    simp only [beq_self_eq_true, Bool.true_and, Bool.and_eq_false_iff, beq_eq_false_iff_ne, ne_eq] at h
    unfold prvA
    by_cases a : lo = 0
    · exact .inr ⟨a, by omega, by rw [if_pos a, if_neg (by omega)]⟩
    · exact .inl ⟨by omega, by rw [if_neg a]⟩)
  have qe : ∀ W, (binOp .eql 25 (.agg #[.bool v6, .int .u64 hi, .int .u64 lo]) (.agg #[.bool v6, .int .u64 0, .int .u64 0])).run Try.prog W = .ok (.bool (isFirst v6 hi lo)) W := fun W => addr_eql v6 v6 hi 0 lo 0 W
  generalize isFirst v6 hi lo = E at *
  go_enter Try.func52, Try.ntmps52
  go_wp2_with fail
  generalize (w.alloc (.cells #[.bool v6, .int .u64 hi, .int .u64 lo] 25)).alloc (.cells #[.bool false, .int .u64 0, .int .u64 0] 25) = w1 at *
  have x0 := HX.out.c0
  have x1 := HX.out.c1
  have x2 := HX.out.c2
  go_region_held3 (fun w' => w'.cell? ⟨w.heap.size, 0, none⟩ = some (.bool v6) ∧ w'.cell? ⟨w.heap.size, 1, none⟩ = some (.int .u64 hi) ∧ w'.cell? ⟨w.heap.size, 2, none⟩ = some (.int .u64 lo)) (go_keep) (first
    | (go_at_call 68; refine (HF.out _).mono ?_; rintro e w6 ⟨rfl, hb3d⟩; have hb6 : Below w1.heap.size w1 w6 := ⟨hb3d.os, hb3d.tape, hb3d.output, hb3d.size, hb3d.block⟩; have hx6 := HX.out.kept hb6 HX.out.lt; have j0 := hx6.c0; have j1 := hx6.c1; have j2 := hx6.c2))
  all_goals
    have HX6 := Lib.hid hx6
    have HR6 := Lib.hid (HR.out.kept hb6 HR.out.lt)
    have HB6 := Lib.hid (HB.out.trans (hb6.mono HB.out.size))
    clear hb6 hx6 j0 j1 j2 x0 x1 x2 HX HR HB qe
    have x0 := HX6.out.c0
    have x1 := HX6.out.c1
    have x2 := HX6.out.c2
    have xf1 := HX6.out.f 1
    have xf2 := HX6.out.f 2
    have r0 := HR6.out.c0
    have r1 := HR6.out.c1
    have r2 := HR6.out.c2
    have rf0 := HR6.out.f 0
    have rf1 := HR6.out.f 1
    have rf2 := HR6.out.f 2
    cases E with
    | true =>
      have HEE := Lib.hid (HE.out rfl)
      clear HE HN
      go_wp2_with fail
      change bodyPost _ _ _ _ _ (aset w6 (w.heap.size + 1) false 0 0)
      exact bodyPost_ret (res_addr2 rfl _ _ rfl (HR6.out.set false 0 0)) rfl ⟨by rw [HEE.out]; rfl, aset_below HB6.out (Nat.le_succ _) false 0 0⟩
    | false =>
      rcases HN.out rfl with ⟨n1, n2⟩ | ⟨n1, n3, n2⟩
      · have HN2 := Lib.hid n2
        obtain ⟨m, hm⟩ : ∃ m, lo = m + 1 := ⟨lo - 1, by omega⟩
        rw [show lo - 1 = m by omega] at HN2
        have e0 : ((lo : Int) == 0) = false := by rw [beq_eq_false_iff_ne]; omega
        have e1 : (lo : Int) - 1 = (m : Int) := by omega
        have HR7 := Lib.hid (HR6.out.far (b := w.heap.size) (i := 2) (by omega) (.int .u64 (m : Int)))
        have HB7 := Lib.hid (HB6.out.setCell (p := ⟨w.heap.size, 2, none⟩) (Nat.le_refl _) (.int .u64 (m : Int)))
        clear HE HN n2 hm
        go_wp2_with fail
        change bodyPost _ _ _ _ _ (aset (w6.setCell ⟨w.heap.size, 2, none⟩ (.int .u64 (m : Int))) (w.heap.size + 1) v6 hi m)
        exact bodyPost_ret (res_addr2 rfl _ _ rfl (HR7.out.set v6 hi m)) rfl ⟨by rw [HN2.out]; rfl, aset_below HB7.out (Nat.le_succ _) v6 hi m⟩
      · have HN2 := Lib.hid n2
        obtain ⟨m, hm⟩ : ∃ m, hi = m + 1 := ⟨hi - 1, by omega⟩
        rw [show hi - 1 = m by omega] at HN2
        have e1 : (hi : Int) - 1 = (m : Int) := by omega
        have hw := wrap_u64_down
        have HR7 := Lib.hid ((HR6.out.far (b := w.heap.size) (i := 1) (by omega) (.int .u64 (m : Int))).far (b := w.heap.size) (i := 2) (by omega) (.int .u64 ((18446744073709551615 : Nat) : Int)))
        have HB7 := Lib.hid ((HB6.out.setCell (p := ⟨w.heap.size, 1, none⟩) (Nat.le_refl _) (.int .u64 (m : Int))).setCell (p := ⟨w.heap.size, 2, none⟩) (Nat.le_refl _) (.int .u64 ((18446744073709551615 : Nat) : Int)))
        subst n1
        clear HE HN n2 hm n3
        go_wp2_with fail
        change bodyPost _ _ _ _ _ (aset ((w6.setCell ⟨w.heap.size, 1, none⟩ (.int .u64 (m : Int))).setCell ⟨w.heap.size, 2, none⟩ (.int .u64 ((18446744073709551615 : Nat) : Int))) (w.heap.size + 1) v6 m 18446744073709551615)
        exact bodyPost_ret (res_addr2 rfl _ _ rfl (HR7.out.set v6 m 18446744073709551615)) rfl ⟨by rw [HN2.out]; rfl, aset_below HB7.out (Nat.le_succ _) v6 m 18446744073709551615⟩
end Go.Proofs.Ytmcelgnifpfjpaa

/- Lists of ranges in memory; results that are sets. -/
namespace Go.Proofs.Ytmcelgnifpfjpaa
open Go.ChangeShapes Go.WideShapes Go.ChangeAt Go.RowKit
set_option linter.unusedVariables false

/-- A range as cells. -/
def rgC (r : Rg) : List Value := [.bool r.lo.v, .int .u64 r.lo.h, .int .u64 r.lo.l, .bool r.hi.v, .int .u64 r.hi.h, .int .u64 r.hi.l]
def ER : Enc Rg := ⟨6, by decide, rgC, fun _ => rfl, fun x v hv => by
  simp only [rgC, List.mem_cons, List.not_mem_nil, or_false] at hv
  rcases hv with rfl | rfl | rfl | rfl | rfl | rfl <;> rfl⟩
theorem rgTy : ElemTy 22 43 6 48 := ⟨Try.underlying22, by
  have h : (Try.prog.info? 43).map (fun i => (i.zero, i.size, i.bytes)) = some (some (.agg #[.bool false, .int .u64 0, .int .u64 0, .bool false, .int .u64 0, .int .u64 0]), 6, 48) := by kernel_rfl
  obtain ⟨i0, hinf, hz0, hz1, hz2⟩ := info_parts h
  exact ⟨i0, _, hinf, hz0, hz1, hz2, rfl⟩⟩
theorem rg_at {w w' : World} {g o k : Nat} {l : List Rg} {v1 v2 : Bool} {h1 l1 h2 l2 : Nat} (h : RowL ER w (some ⟨g, o, none⟩) l) (hs : l[k]? = some ⟨⟨v1, h1, l1⟩, ⟨v2, h2, l2⟩⟩) (hb : Below w.heap.size w w') :
    w'.cell? ⟨g, o + k * 6, none⟩ = some (.bool v1) ∧ w'.cell? ⟨g, o + k * 6 + 1, none⟩ = some (.int .u64 h1) ∧ w'.cell? ⟨g, o + k * 6 + 2, none⟩ = some (.int .u64 l1) ∧ w'.cell? ⟨g, o + k * 6 + 3, none⟩ = some (.bool v2) ∧ w'.cell? ⟨g, o + k * 6 + 4, none⟩ = some (.int .u64 h2) ∧ w'.cell? ⟨g, o + k * 6 + 5, none⟩ = some (.int .u64 l2) := by
  have H := h.at_ hs hb
  exact ⟨H 0 _ rfl, H 1 _ rfl, H 2 _ rfl, H 3 _ rfl, H 4 _ rfl, H 5 _ rfl⟩
/-- Where a slice begins. -/
theorem RowL.shape {α : Type} {E : Enc α} {w : World} {A : Option Addr} {l : List α} (h : RowL E w A l) (hp : 0 < l.length) : ∃ g o, A = some ⟨g, o, none⟩ ∧ g < w.heap.size := by
  obtain ⟨g, o, e, hg, _⟩ := h hp
  exact ⟨g, o, e, hg⟩
/-- A result that is the set of the numbers with f. -/
def SetA (w : World) (f : Int → Bool) (b : Nat) (e : Ending) (w' : World) : Prop :=
  ∃ L : List Rg, ∃ A cap, GoodL L ∧ (∀ m, anyS (L.map spn) m = f m) ∧ L.length ≤ b ∧ e = .returned (.slice A L.length cap) ∧ w'.ownsRow w.heap.size 43 6 (.slice A L.length cap) L.length (ER.cells L) ∧ Below w.heap.size w w'
theorem SetA.back {w w1 : World} {f f' : Int → Bool} {b b' : Nat} {e : Ending} {w' : World} (hb : Below w.heap.size w w1) (h : SetA w1 f b e w') (hf : ∀ m, f m = f' m) (hbb : b ≤ b') : SetA w f' b' e w' := by
  obtain ⟨L, A, cap, h1, h2, h3, h4, h5, h6⟩ := h
  exact ⟨L, A, cap, h1, fun m => (h2 m).trans (hf m), Nat.le_trans h3 hbb, h4, own_mono h5 hb.size, hb.trans (h6.mono hb.size)⟩
/-- The result is the set K, whichever set K has these numbers. -/
theorem SetA.known {w : World} {f : Int → Bool} {b : Nat} {e : Ending} {w' : World} (h : SetA w f b e w') {K : List Rg} (hK : GoodL K) (hf : ∀ m, f m = anyS (K.map spn) m) : ∃ A cap, e = .returned (.slice A K.length cap) ∧ w'.ownsRow w.heap.size 43 6 (.slice A K.length cap) K.length (ER.cells K) ∧ Below w.heap.size w w' ∧ K.length ≤ b := by
  obtain ⟨L, A, cap, h1, h2, h3, h4, h5, h6⟩ := h
  obtain rfl := good_uniq h1 hK fun m => (h2 m).trans (hf m)
  exact ⟨A, cap, h4, h5, h6, h3⟩
theorem okL_fits {L : List Rg} (h : GoodL L) : ∀ r ∈ L, r.fits := fun r hr => (h.1 r hr).2
theorem below_drewN7 {w w' : World} {B : Nat} (h : Below B w w') (q : Nat) : Below B w (w'.drewN q) := ⟨h.os, h.tape, h.output, h.size, h.block⟩
theorem below_drew7 {w w' : World} {B : Nat} (h : Below B w w') : Below B w w'.drew := ⟨h.os, h.tape, h.output, h.size, h.block⟩

/-- A slice of ranges that the call owns, in blocks from base on. -/
def OwnR (w : World) (base : Nat) (A : Option Addr) (n c : Nat) (l : List Rg) : Prop := n = l.length ∧ w.ownsRow base 43 6 (.slice A n c) n (ER.cells l)
theorem OwnR.kept {w w' : World} {base n c : Nat} {A : Option Addr} {l : List Rg} (h : OwnR w base A n c l) (hb : Below w.heap.size w w') : OwnR w' base A n c l := ⟨h.1, own_kept h.2 hb (Nat.le_refl _)⟩
theorem OwnR.al {w : World} {base n c : Nat} {A : Option Addr} {l : List Rg} (h : OwnR w base A n c l) (o : Obj) : OwnR (w.alloc o) base A n c l := h.kept (below_alloc6 w o)
theorem OwnR.drew {w : World} {base n c : Nat} {A : Option Addr} {l : List Rg} (h : OwnR w base A n c l) (q : Nat) : OwnR (w.drewN q) base A n c l := h
theorem OwnR.row {w : World} {base n c : Nat} {A : Option Addr} {l : List Rg} (h : OwnR w base A n c l) : RowL ER w A l := rowl_of_own h.2 h.1
theorem OwnR.nil (w : World) (base : Nat) : OwnR w base none 0 0 [] := ⟨rfl, World.ownsRow_nil w base 43 6⟩
theorem OwnR.push {w w' : World} {base n m c g cap : Nat} {A : Option Addr} {l ys : List Rg} (h : OwnR w base A n c l) (hm : m = ys.length) (hw : w'.ownsRow base 43 6 (.slice (some ⟨g, 0, none⟩) (n + m) cap) (n + m) (ER.cells (l ++ ys))) : OwnR w' base (some ⟨g, 0, none⟩) (n + m) cap (l ++ ys) := ⟨by rw [h.1, hm, List.length_append], hw⟩
/-- What lies below the row's blocks stays as it is. -/
theorem OwnR.far {w w1 w' : World} {base n c : Nat} {A : Option Addr} {l : List Rg} (h : OwnR w base A n c l) (hg : w1.grownBy w' (Value.slice A n c).ownBlock) {b : Nat} (hb : b < base) (hl : b < w1.heap.size) : w'.heap[b]? = w1.heap[b]? :=
  hg.block b hl fun e => by
    have := (h.2.lt b e.symm).1
    omega
theorem OwnR.below {w0 w w' : World} {B base n c : Nat} {A : Option Addr} {l : List Rg} {cs : Obj} (h : OwnR w base A n c l) (hB : Below B w0 w) (hs : w0.heap.size ≤ w.heap.size) (hBs : B ≤ w.heap.size) (hbb : B ≤ base) (hg : (w.alloc cs).grownBy w' (Value.slice A n c).ownBlock) : Below B w0 w' :=
  (hB.alloc hBs cs).grown hg (by simp; omega) (fun j hj => Nat.le_trans hbb (h.2.lt j hj).1)

/-- The program's isBefore. -/
theorem pbef_any (v1 : Bool) (h1 l1 : Nat) (v2 : Bool) (h2 l2 : Nat) (w : World) :
    Calls Try.prog 39 #[.agg #[.bool v1, .int .u64 h1, .int .u64 l1], .agg #[.bool v2, .int .u64 h2, .int .u64 l2]] w fun e w' => e = .returned (.bool (decide (cmpA v1 h1 l1 v2 h2 l2 < 0))) ∧ Below w.heap.size w w' := by
  have HC := Lib.hid (fun W => qcmp_any v1 h1 l1 v2 h2 l2 W)
  have HB := Lib.hid (below2 w (.cells #[.bool v1, .int .u64 h1, .int .u64 l1] 25) (.cells #[.bool v2, .int .u64 h2, .int .u64 l2] 25))
  generalize cmpA v1 h1 l1 v2 h2 l2 = c at *
  cases d : decide (c < 0)
  all_goals
    go_enter Try.func39, Try.ntmps39
    go_wp2_with fail
    refine (HC.out _).mono ?_
    rintro e w2 ⟨rfl, hb⟩
    have HB2 := Lib.hid (HB.out.trans (hb.mono HB.out.size))
    clear hb
    go_wp2_with fail
    go_ret
    exact ⟨rfl, HB2.out⟩
/-- In numbers. -/
theorem pbef_key {a b : Ad} (ha : a.fits) (hb : b.fits) (w : World) :
    Calls Try.prog 39 #[.agg #[.bool a.v, .int .u64 a.h, .int .u64 a.l], .agg #[.bool b.v, .int .u64 b.h, .int .u64 b.l]] w fun e w' => e = .returned (.bool (decide (kA a < kA b))) ∧ Below w.heap.size w w' := by
  rw [← cmp_key ha hb]
  exact pbef_any _ _ _ _ _ _ w
end Go.Proofs.Ytmcelgnifpfjpaa

/- Prefixes in memory, as blocks of numbers; bounds and halves of a prefix in the program's words. -/
namespace Go.Proofs.Ytmcelgnifpfjpaa
open Go.ChangeShapes Go.WideShapes Go.ChangeAt Go.RowKit
set_option linter.unusedVariables false

/-- A prefix as a struct. -/
structure Pf where
  v : Bool
  h : Nat
  l : Nat
  k : Int
def Pf.fits (p : Pf) : Prop := p.h < 18446744073709551616 ∧ p.l < 18446744073709551616
def pfC (p : Pf) : List Value := [.bool p.v, .int .u64 p.h, .int .u64 p.l, .int .i64 p.k]
def EP : Enc Pf := ⟨4, by decide, pfC, fun _ => rfl, fun x v hv => by
  simp only [pfC, List.mem_cons, List.not_mem_nil, or_false] at hv
  rcases hv with rfl | rfl | rfl | rfl <;> rfl⟩
theorem pfTy : ElemTy 34 37 4 32 := ⟨Try.underlying34, by
  have h : (Try.prog.info? 37).map (fun i => (i.zero, i.size, i.bytes)) = some (some (.agg #[.bool false, .int .u64 0, .int .u64 0, .int .i64 0]), 4, 32) := by kernel_rfl
  obtain ⟨i0, hinf, hz0, hz1, hz2⟩ := info_parts h
  exact ⟨i0, _, hinf, hz0, hz1, hz2, rfl⟩⟩
theorem pf_at {w w' : World} {g o k : Nat} {l : List Pf} {v : Bool} {h1 l1 : Nat} {b : Int} (h : RowL EP w (some ⟨g, o, none⟩) l) (hs : l[k]? = some ⟨v, h1, l1, b⟩) (hb : Below w.heap.size w w') :
    w'.cell? ⟨g, o + k * 4, none⟩ = some (.bool v) ∧ w'.cell? ⟨g, o + k * 4 + 1, none⟩ = some (.int .u64 h1) ∧ w'.cell? ⟨g, o + k * 4 + 2, none⟩ = some (.int .u64 l1) ∧ w'.cell? ⟨g, o + k * 4 + 3, none⟩ = some (.int .i64 b) := by
  have H := h.at_ hs hb
  exact ⟨H 0 _ rfl, H 1 _ rfl, H 2 _ rfl, H 3 _ rfl⟩
/-- A slice of prefixes that the call owns. -/
def OwnP (w : World) (base : Nat) (A : Option Addr) (n c : Nat) (l : List Pf) : Prop := n = l.length ∧ w.ownsRow base 37 4 (.slice A n c) n (EP.cells l)
theorem OwnP.kept {w w' : World} {base n c : Nat} {A : Option Addr} {l : List Pf} (h : OwnP w base A n c l) (hb : Below w.heap.size w w') : OwnP w' base A n c l := ⟨h.1, own_kept h.2 hb (Nat.le_refl _)⟩
theorem OwnP.al {w : World} {base n c : Nat} {A : Option Addr} {l : List Pf} (h : OwnP w base A n c l) (o : Obj) : OwnP (w.alloc o) base A n c l := h.kept (below_alloc6 w o)
theorem OwnP.row {w : World} {base n c : Nat} {A : Option Addr} {l : List Pf} (h : OwnP w base A n c l) : RowL EP w A l := rowl_of_own h.2 h.1
theorem OwnP.nil (w : World) (base : Nat) : OwnP w base none 0 0 [] := ⟨rfl, World.ownsRow_nil w base 37 4⟩
theorem OwnP.push {w w' : World} {base n m c g cap : Nat} {A : Option Addr} {l ys : List Pf} (h : OwnP w base A n c l) (hm : m = ys.length) (hw : w'.ownsRow base 37 4 (.slice (some ⟨g, 0, none⟩) (n + m) cap) (n + m) (EP.cells (l ++ ys))) : OwnP w' base (some ⟨g, 0, none⟩) (n + m) cap (l ++ ys) := ⟨by rw [h.1, hm, List.length_append], hw⟩
theorem OwnP.below {w0 w w' : World} {B base n c : Nat} {A : Option Addr} {l : List Pf} {cs : Obj} (h : OwnP w base A n c l) (hB : Below B w0 w) (hBs : B ≤ w.heap.size) (hbb : B ≤ base) (hg : (w.alloc cs).grownBy w' (Value.slice A n c).ownBlock) : Below B w0 w' :=
  (hB.alloc hBs cs).grown hg (by simp; omega) (fun j hj => Nat.le_trans hbb (h.2.lt j hj).1)
theorem OwnP.far2 {w : World} {base n c b i : Nat} {A : Option Addr} {l : List Pf} (h : OwnP w base A n c l) (hb : ∀ j, (Value.slice A n c).ownBlock = some j → j ≠ b) (u : Value) : OwnP (w.setCell ⟨b, i, none⟩ u) base A n c l :=
  ⟨h.1, own_only h.2 (b := some b) ⟨rfl, rfl, rfl, by simp, fun y _ hy => Below.heap_setCell w ⟨b, i, none⟩ u y (fun e => hy (by rw [e]))⟩ (fun j hj e => hb j hj (Option.some.inj e))⟩

/-- The block (n, e) of a family as a prefix. -/
def pf (v : Bool) (x : Nat × Nat) : Pf := ⟨v, x.1 / 18446744073709551616, x.1 % 18446744073709551616, ((width v - x.2 : Nat) : Int)⟩
/-- An address of a family by its number. -/
def adN (v : Bool) (n : Nat) : Ad := ⟨v, n / 18446744073709551616, n % 18446744073709551616⟩
def offF (v : Bool) : Int := if v then 340282366920938463463374607431768211456 else 0
theorem num_adN (n : Nat) : numA (n / 18446744073709551616) (n % 18446744073709551616) = n := by
  unfold numA
  have h64 : (2 : Nat) ^ 64 = 18446744073709551616 := by decide
  rw [h64]
  exact Nat.div_add_mod n _
theorem adN_num {h l : Nat} (hl : l < 18446744073709551616) : numA h l / 18446744073709551616 = h ∧ numA h l % 18446744073709551616 = l := by
  unfold numA
  have h64 : (2 : Nat) ^ 64 = 18446744073709551616 := by decide
  rw [h64]
  omega
theorem width_pow (v : Bool) : (2 : Nat) ^ width v = if v then 340282366920938463463374607431768211456 else 4294967296 := by cases v <;> decide
theorem adN_fits {v : Bool} {n : Nat} (h : n < 2 ^ width v) : (adN v n).fits ∧ vA (adN v n) = true ∧ kA (adN v n) = offF v + n := by
  rw [width_pow] at h
  unfold adN Ad.fits vA vldA kA offF
  cases v with
  | true =>
    simp only [if_true] at h ⊢
    refine ⟨⟨by omega, Nat.mod_lt _ (by omega)⟩, rfl, by omega⟩
  | false =>
    simp only [Bool.false_eq_true, if_false] at h ⊢
    refine ⟨⟨by omega, Nat.mod_lt _ (by omega)⟩, ?_, by omega⟩
    simp only [Bool.false_or, Bool.and_eq_true, beq_iff_eq, decide_eq_true_eq]
    omega
/-- The number of a valid address. -/
def nA (a : Ad) : Nat := numA a.h a.l
theorem nA_key {a : Ad} (hf : a.fits) (hv : vA a = true) : kA a = offF a.v + nA a ∧ nA a < 2 ^ width a.v := by
  have h64 : (2 : Nat) ^ 64 = 18446744073709551616 := by decide
  have hk : kA a = offF a.v + nA a := by
    unfold kA offF nA numA
    rw [h64]
    omega
  refine ⟨hk, ?_⟩
  rw [width_pow]
  cases e : a.v with
  | true => have := kA_v6 hf e; unfold offF top7 at *; rw [e] at hk; simp only [if_true] at hk ⊢; omega
  | false => have := kA_v4 hv e; unfold offF at *; rw [e] at hk; simp only [Bool.false_eq_true, if_false] at hk ⊢; omega
theorem adN_nA {a : Ad} (hf : a.fits) : adN a.v (nA a) = a := by
  obtain ⟨v, h, l⟩ := a
  have := adN_num (h := h) (l := l) hf.2
  unfold adN nA
  simp only
  rw [this.1, this.2]
theorem cut_al {W e n : Nat} (he : e ≤ W) (hd : 2 ^ e ∣ n) : cutN W (W - e) n = n := by
  unfold cutN
  rw [show W - (W - e) = e by omega]
  exact Nat.div_mul_cancel hd
/-- The bounds of a block's prefix. -/
theorem pf_bounds {v : Bool} {n e : Nat} (he : e ≤ width v) (hd : 2 ^ e ∣ n) (hn : n + 2 ^ e ≤ 2 ^ width v) :
    vldP v (n / 18446744073709551616) (n % 18446744073709551616) ((width v - e : Nat) : Int) = true ∧ lowO (frH v (width v - e)) (n / 18446744073709551616) = (n + 2 ^ e - 1) / 18446744073709551616 ∧ lowO (frL v (width v - e)) (n % 18446744073709551616) = (n + 2 ^ e - 1) % 18446744073709551616 := by
  have h64 : (2 : Nat) ^ 64 = 18446744073709551616 := by decide
  have hp := Nat.two_pow_pos e
  have hlt : n < 2 ^ width v := by omega
  have ha := adN_fits (v := v) hlt
  have hl : n % 18446744073709551616 < 18446744073709551616 := Nat.mod_lt _ (by omega)
  have hh : n / 18446744073709551616 < 18446744073709551616 := ha.1.1
  have hz := low_cut v (width v - e) (hi := n / 18446744073709551616) hl
  rw [num_adN, cut_al he hd] at hz
  have ho := low_fill v (width v - e) (hi := n / 18446744073709551616) hl
  rw [num_adN] at ho
  unfold fillN at ho
  rw [cut_al he hd, show width v - (width v - e) = e by omega, ← Nat.add_sub_assoc hp] at ho
  have b1 : lowZ (frL v (width v - e)) (n % 18446744073709551616) < 18446744073709551616 := Nat.lt_of_le_of_lt (lowZ_le _ _) hl
  have b2 : lowO (frL v (width v - e)) (n % 18446744073709551616) < 18446744073709551616 := lowO_lt hl (frL_le _ _)
  have z := adN_num (h := lowZ (frH v (width v - e)) (n / 18446744073709551616)) b1
  rw [hz] at z
  have o := adN_num (h := lowO (frH v (width v - e)) (n / 18446744073709551616)) b2
  rw [ho] at o
  refine ⟨?_, o.1.symm, o.2.symm⟩
  unfold vldP cntB
  rw [show vldA v (n / 18446744073709551616) (n % 18446744073709551616) = true from ha.2.1, decide_eq_true ⟨by omega, by omega⟩, Int.toNat_natCast]
  unfold mkH mkL
  rw [← z.1, ← z.2]
  simp
/-- The halves of a block's prefix. -/
theorem pf_make {v : Bool} {n e : Nat} (he : e + 1 ≤ width v) (hd : 2 ^ (e + 1) ∣ n) (hn : n + 2 ^ (e + 1) ≤ 2 ^ width v) :
    (mkH v (width v - e) (n / 18446744073709551616) = n / 18446744073709551616 ∧ mkL v (width v - e) (n % 18446744073709551616) = n % 18446744073709551616) ∧
    (mkH v (width v - e) ((n + 2 ^ (e + 1) - 1) / 18446744073709551616) = (n + 2 ^ e) / 18446744073709551616 ∧ mkL v (width v - e) ((n + 2 ^ (e + 1) - 1) % 18446744073709551616) = (n + 2 ^ e) % 18446744073709551616) := by
  have hp := Nat.two_pow_pos e
  have h2 := two_succ e
  have key : ∀ m c : Nat, cutN (width v) (width v - e) m = c → mkH v (width v - e) (m / 18446744073709551616) = c / 18446744073709551616 ∧ mkL v (width v - e) (m % 18446744073709551616) = c % 18446744073709551616 := by
    intro m c hc
    have hl : m % 18446744073709551616 < 18446744073709551616 := Nat.mod_lt _ (by omega)
    have hz := low_cut v (width v - e) (hi := m / 18446744073709551616) hl
    rw [num_adN, hc] at hz
    have b1 : lowZ (frL v (width v - e)) (m % 18446744073709551616) < 18446744073709551616 := Nat.lt_of_le_of_lt (lowZ_le _ _) hl
    have z := adN_num (h := lowZ (frH v (width v - e)) (m / 18446744073709551616)) b1
    rw [hz] at z
    exact ⟨z.1.symm, z.2.symm⟩
  refine ⟨key n n (cut_al (by omega) (dvd_half hd)), key _ _ ?_⟩
  unfold cutN
  rw [show width v - (width v - e) = e by omega]
  obtain ⟨q, rfl⟩ := dvd_half hd
  have e1 : 2 ^ e * q + 2 ^ (e + 1) - 1 = (2 ^ e - 1) + 2 ^ e * (q + 1) := by rw [h2, Nat.mul_add]; omega
  rw [e1, Nat.add_mul_div_left _ _ hp, Nat.div_eq_of_lt (by omega), Nat.zero_add, Nat.mul_comm, Nat.mul_add, Nat.mul_one]
end Go.Proofs.Ytmcelgnifpfjpaa

/- append at a step of a region that draws: elements of any fixed number of cells. -/
namespace Go.Proofs.Ytmcelgnifpfjpaa
open Go.ChangeShapes Go.WideShapes Go.ChangeAt Go.RowKit
set_option linter.unusedVariables false
variable {α : Type} {E : Enc α}

/-- append(out, x, ..) at a step of a region that draws: elements that lie in a block of their own, onto a slice that the call owns. -/
theorem step_push {t e : TypeId} {bytes : Nat} {w : World} {ops : Array Oper} {o : Oper} {a : Act} {K : Act → World → Prop} {Q : Exit → Act → World → Prop} {F : Prop} (T : ElemTy t e E.k bytes) (hgd : o.guard = none) (s x : Operand)
    (ho : o.op = .call { callee := .builtin .append, args := #[s, x], argTypes := #[t, t] })
    (base : Nat) (v : Value) (n : Nat) (l ys : List α) (hs : a.eval s = v) (hown : w.ownsRow base e E.k v n (E.cells l))
    (B m c : Nat) (cs : Array Value) (fr : Nat × Nat) (hx : a.eval x = .slice (some ⟨B, 0, none⟩) m c) (hB : w.heap[B]? = some (.cells cs e fr)) (hcs : cs.toList = E.cells ys) (hm : m = ys.length) (hm0 : 0 < m) (hn : n + m ≤ 1000000) (hby : bytes ≤ 1000) (hbase : base ≤ w.heap.size)
    (h : ∀ g cap w', w'.ownsRow base e E.k (.slice (some ⟨g, 0, none⟩) (n + m) cap) (n + m) (E.cells (l ++ ys)) → w.grownBy w' v.ownBlock → (v.ownBlock = some g ∨ g = w.heap.size) → g < w'.heap.size → K (a.put o.dst (.slice (some ⟨g, 0, none⟩) (n + m) cap)) w') :
    if Region.wanted o (yielded ops a.tmps) = true then Oper.wp Try.prog o a w K Q else F := by
  obtain ⟨i, z, h1, h2, h3, h4, h5⟩ := T.info
  refine step_append_lies w hgd s x t ho base e i z E.k bytes T.und h1 h2 h3 h4 h5 E.pos v n (E.cells l) hs hown ⟨B, 0, none⟩ m c (E.cells ys) hx (by rw [E.cells_length, hm]) (fun j u hu => World.news_of_block hB j u (by rw [hcs]; exact hu)) (E.cells_one' ys) hm0 (by unfold maxLen; omega) ?_ hbase _ rfl ?_
  · have : (n + m) * bytes ≤ 1000000 * 1000 := Nat.mul_le_mul hn hby
    omega
  · intro g cap w' a1 a2 a3 a4
    rw [← E.cells_append] at a1
    exact h g cap w' a1 a2 a3 a4
end Go.Proofs.Ytmcelgnifpfjpaa

/- A row of ranges under a store into another block. -/
namespace Go.Proofs.Ytmcelgnifpfjpaa
open Go.ChangeShapes Go.WideShapes Go.ChangeAt Go.RowKit
set_option linter.unusedVariables false

theorem OwnR.far2 {w : World} {base n c b i : Nat} {A : Option Addr} {l : List Rg} (h : OwnR w base A n c l) (hb : ∀ j, (Value.slice A n c).ownBlock = some j → j ≠ b) (u : Value) : OwnR (w.setCell ⟨b, i, none⟩ u) base A n c l :=
  ⟨h.1, own_only h.2 (b := some b) ⟨rfl, rfl, rfl, by simp, fun y _ hy => Below.heap_setCell w ⟨b, i, none⟩ u y (fun e => hy (by rw [e]))⟩ (fun j hj e => hb j hj (Option.some.inj e))⟩
end Go.Proofs.Ytmcelgnifpfjpaa
