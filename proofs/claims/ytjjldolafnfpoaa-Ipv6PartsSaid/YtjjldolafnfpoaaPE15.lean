/- Contracts of the functions, part 15: AdrWith, AdrP4, AdrFrom. -/
import Derived.Test.YtjjldolafnfpoaaPE14
/- Contract of the reference of layer 6: with. -/
namespace Go.Proofs.Ytjjldolafnfpoaa
open Go.ChangeShapes Go.WideShapes Go.ChangeAt Go.RowKit
set_option linter.unusedVariables false

/-- The bits under way: those behind the first 'from' of w, as far as i, are one. -/
def stepB (N w from_ i : Nat) (one : Bool) (t : Nat) : Bool := if w - from_ ≤ t then N.testBit t else if w - i ≤ t then one else N.testBit t
def numA (hi lo : Nat) : Nat := 2 ^ 64 * hi + lo
theorem numA_low {hi lo t : Nat} (h : lo < 2 ^ 64) (ht : t < 64) : (numA hi lo).testBit t = lo.testBit t := by
  unfold numA
  rw [Nat.testBit_two_pow_mul_add _ h, if_pos ht]
theorem numA_high {hi lo t : Nat} (h : lo < 2 ^ 64) : (numA hi lo).testBit (t + 64) = hi.testBit t := by
  unfold numA
  rw [Nat.testBit_two_pow_mul_add _ h, if_neg (by omega)]
  congr 1
/-- The state of the loop. -/
structure Wst (N w from_ i : Nat) (one : Bool) (hi lo : Nat) : Prop where
  h1 : hi < 18446744073709551616
  h2 : lo < 18446744073709551616
  lowb : ∀ t, t < 64 → lo.testBit t = stepB N w from_ i one t
  high : ∀ t, t < 64 → hi.testBit t = stepB N w from_ i one (t + 64)
theorem wst_start {hi lo w from_ : Nat} (one : Bool) (h1 : hi < 18446744073709551616) (h2 : lo < 18446744073709551616) : Wst (numA hi lo) w from_ from_ one hi lo := by
  have hs : ∀ t, stepB (numA hi lo) w from_ from_ one t = (numA hi lo).testBit t := fun t => by
    unfold stepB
    split
    · rfl
    · rfl
  exact ⟨h1, h2, fun t ht => by rw [hs, numA_low (by omega) ht], fun t ht => by rw [hs, numA_high (by omega)]⟩
theorem step_other {N w from_ i t : Nat} {one : Bool} (hi : i < w) (ht : t ≠ w - 1 - i) : stepB N w from_ (i + 1) one t = stepB N w from_ i one t := by
  unfold stepB
  split
  · rfl
  · by_cases h : w - i ≤ t
    · rw [if_pos h, if_pos (by omega)]
    · rw [if_neg h, if_neg (by omega)]
theorem step_here {N w from_ i : Nat} {one : Bool} (hi : i < w) (hf : from_ ≤ i) : stepB N w from_ (i + 1) one (w - 1 - i) = one ∧ stepB N w from_ i one (w - 1 - i) = N.testBit (w - 1 - i) := by
  unfold stepB
  rw [if_neg (by omega), if_pos (by omega), if_neg (by omega), if_neg (by omega)]
  exact ⟨rfl, rfl⟩
theorem tb_dec (n k : Nat) : decide (n / 2 ^ k % 2 = 1) = n.testBit k := by
  rw [Nat.testBit_eq_decide_div_mod_eq]
/-- The bit that the reference looks at. -/
theorem bit_of {N from_ i hi lo : Nat} {v6 one : Bool} (h : Wst N (width v6) from_ i one hi lo) (hi' : i < width v6) (hf : from_ ≤ i) : bitA v6 hi lo i = N.testBit (width v6 - 1 - i) := by
  have hs := (step_here (N := N) (one := one) hi' hf).2
  rw [← hs]
  unfold bitA
  cases v6 with
  | false =>
    rw [if_neg (by decide), tb_dec]
    exact h.lowb (31 - i) (by have : i < 32 := hi'; omega)
  | true =>
    have h3 : i < 128 := hi'
    rw [if_pos rfl]
    split
    · rw [tb_dec, h.high (63 - i) (by omega)]
      congr 1
      show 63 - i + 64 = 128 - 1 - i
      omega
    · rw [tb_dec, h.lowb (127 - i) (by omega)]
      rfl
theorem wst_stay {N w from_ i hi lo : Nat} {one : Bool} (h : Wst N w from_ i one hi lo) (hi' : i < w) (hf : from_ ≤ i) (hb : N.testBit (w - 1 - i) = one) : Wst N w from_ (i + 1) one hi lo := by
  have key : ∀ t, stepB N w from_ (i + 1) one t = stepB N w from_ i one t := fun t => by
    by_cases e : t = w - 1 - i
    · subst e
      rw [(step_here hi' hf).1, (step_here hi' hf).2, hb]
    · exact step_other hi' e
  exact ⟨h.h1, h.h2, fun t ht => by rw [key, h.lowb t ht], fun t ht => by rw [key, h.high t ht]⟩
theorem xor_tb (n j t : Nat) : (n ^^^ 2 ^ j).testBit t = (n.testBit t ^^ decide (j = t)) := by
  rw [Nat.testBit_xor, Nat.testBit_two_pow]
theorem xor_lt64 {n j : Nat} (h : n < 18446744073709551616) (hj : j < 64) : n ^^^ 2 ^ j < 18446744073709551616 :=
  Nat.xor_lt_two_pow (n := 64) h (Nat.pow_lt_pow_right (by omega) hj)
theorem wst_low {N w from_ i hi lo : Nat} {one : Bool} (h : Wst N w from_ i one hi lo) (hi' : i < w) (hf : from_ ≤ i) (hb : N.testBit (w - 1 - i) ≠ one) (hj : w - 1 - i < 64) : Wst N w from_ (i + 1) one hi (lo ^^^ 2 ^ (w - 1 - i)) := by
  refine ⟨h.h1, xor_lt64 h.h2 hj, fun t ht => ?_, fun t ht => ?_⟩
  · rw [xor_tb, h.lowb t ht]
    by_cases e : t = w - 1 - i
    · subst e
      rw [(step_here hi' hf).1, (step_here hi' hf).2]
      cases hx : N.testBit (w - 1 - i) <;> cases one <;> simp_all
    · rw [step_other hi' e, show decide (w - 1 - i = t) = false by simp; omega, Bool.xor_false]
  · rw [h.high t ht, step_other hi' (by omega)]
theorem wst_high {N w from_ i hi lo : Nat} {one : Bool} (h : Wst N w from_ i one hi lo) (hi' : i < w) (hf : from_ ≤ i) (hb : N.testBit (w - 1 - i) ≠ one) {j : Nat} (hj : j + 64 = w - 1 - i) (hj2 : j < 64) : Wst N w from_ (i + 1) one (hi ^^^ 2 ^ j) lo := by
  refine ⟨xor_lt64 h.h1 hj2, h.h2, fun t ht => ?_, fun t ht => ?_⟩
  · rw [h.lowb t ht, step_other hi' (by omega)]
  · rw [xor_tb, h.high t ht]
    by_cases e : t = j
    · subst e
      rw [hj, (step_here hi' hf).1, (step_here hi' hf).2]
      cases hx : N.testBit (w - 1 - i) <;> cases one <;> simp_all
    · rw [step_other hi' (by omega), show decide (j = t) = false by simp; omega, Bool.xor_false]
theorem wst_end {N w from_ hi lo : Nat} {one : Bool} (h : Wst N w from_ w one hi lo) (hN : N < 2 ^ 128) (hw : w - from_ ≤ 128) : numA hi lo = if one then fillN w from_ N else cutN w from_ N := by
  have hlo : lo < 2 ^ 64 := h.h2
  have hhi : hi < 2 ^ 64 := h.h1
  apply Nat.eq_of_testBit_eq
  intro t
  have hl : (numA hi lo).testBit t = if t < 128 then stepB N w from_ w one t else false := by
    by_cases h1 : t < 64
    · rw [numA_low hlo h1, h.lowb t h1, if_pos (by omega)]
    · obtain ⟨u, rfl⟩ : ∃ u, t = u + 64 := ⟨t - 64, by omega⟩
      rw [numA_high hlo]
      by_cases h2 : u < 64
      · rw [h.high u h2, if_pos (by omega)]
      · rw [if_neg (by omega), Nat.testBit_lt_two_pow (Nat.lt_of_lt_of_le hhi (Nat.pow_le_pow_right (by omega) (by omega)))]
  have hr : (if one then fillN w from_ N else cutN w from_ N).testBit t = if w - from_ ≤ t then N.testBit t else one := by
    have hc : cutN w from_ N = 2 ^ (w - from_) * (N / 2 ^ (w - from_)) := by unfold cutN; rw [Nat.mul_comm]
    cases one with
    | true =>
      rw [if_pos rfl]
      unfold fillN
      rw [hc, Nat.testBit_two_pow_mul_add _ (by have := Nat.two_pow_pos (w - from_); omega)]
      by_cases h2 : t < w - from_
      · rw [if_pos h2, if_neg (by omega), Nat.testBit_two_pow_sub_one]
        simpa using h2
      · rw [if_neg h2, if_pos (by omega), Nat.testBit_div_two_pow]
        congr 1; omega
    | false =>
      rw [if_neg (by decide), hc]
      have := Nat.testBit_two_pow_mul_add (N / 2 ^ (w - from_)) (Nat.two_pow_pos (w - from_)) t
      rw [Nat.add_zero] at this
      rw [this]
      by_cases h2 : t < w - from_
      · rw [if_pos h2, if_neg (by omega), Nat.zero_testBit]
      · rw [if_neg h2, if_pos (by omega), Nat.testBit_div_two_pow]
        congr 1; omega
  rw [hl, hr]
  unfold stepB
  by_cases h1 : t < 128
  · rw [if_pos h1]
    split
    · rfl
    · rw [if_pos (by omega)]
  · rw [if_neg h1, if_pos (by omega), Nat.testBit_lt_two_pow (Nat.lt_of_lt_of_le hN (Nat.pow_le_pow_right (by omega) (by omega)))]

theorem xor64 (n k : Nat) (h : n < 18446744073709551616) (hk : k < 64) : bits .xor .u64 (n : Int) (IntKind.u64.wrap (2 ^ k)) = ((n ^^^ 2 ^ k : Nat) : Int) := by
  have h2 : (2 : Nat) ^ k < 18446744073709551616 := Nat.pow_lt_pow_right (n := 64) (by omega) hk
  have e : ((2 : Int) ^ k) = ((2 ^ k : Nat) : Int) := by simp
  rw [e]
  generalize (2 : Nat) ^ k = p at *
  rw [wrap_u64_in (by omega) (by omega)]
  exact u64_xor_nat n p h h2
theorem AB.set2 {w : World} {g : Nat} {v6 : Bool} {hi lo : Nat} (h : AB w g v6 hi lo) (l : Nat) : AB (w.setCell ⟨g, 2, none⟩ (.int .u64 l)) g v6 hi l := Cells.set h 2 (.int .u64 l)
theorem AB.set1 {w : World} {g : Nat} {v6 : Bool} {hi lo : Nat} (h : AB w g v6 hi lo) (l : Nat) : AB (w.setCell ⟨g, 1, none⟩ (.int .u64 l)) g v6 l lo := Cells.set h 1 (.int .u64 l)
theorem AB.far {w : World} {g b i : Nat} {v6 : Bool} {hi lo : Nat} (h : AB w g v6 hi lo) (hne : g ≠ b) (u : Value) : AB (w.setCell ⟨b, i, none⟩ u) g v6 hi lo := (Below.heap_setCell w ⟨b, i, none⟩ u g hne).trans h
/-- The three stores of an address. -/
def aset (w : World) (g : Nat) (v6 : Bool) (hi lo : Nat) : World := ((w.setCell ⟨g, 0, none⟩ (.bool v6)).setCell ⟨g, 1, none⟩ (.int .u64 hi)).setCell ⟨g, 2, none⟩ (.int .u64 lo)
theorem AB.set {w : World} {g : Nat} {b : Bool} {x y : Nat} (h : AB w g b x y) (v6 : Bool) (hi lo : Nat) : AB (aset w g v6 hi lo) g v6 hi lo := by
  have h0 := Cells.set h 0 (.bool v6)
  have h1 := Cells.set h0 1 (.int .u64 hi)
  have h2 := Cells.set h1 2 (.int .u64 lo)
  exact h2
theorem aset_below {B : Nat} {a w : World} {g : Nat} (h : Below B a w) (hg : B ≤ g) (v6 : Bool) (hi lo : Nat) : Below B a (aset w g v6 hi lo) := ((h.setCell hg _).setCell hg _).setCell hg _
end Go.Proofs.Ytjjldolafnfpoaa

/- Contract of the reference of layer 6: parse4. -/
namespace Go.Proofs.Ytjjldolafnfpoaa
open Go.ChangeShapes Go.WideShapes Go.ChangeAt Go.RowKit
set_option linter.unusedVariables false

/-- 'a<<8 | b' of a uint64. -/
theorem or_u64 (a b : Nat) (h1 : a * 256 < 18446744073709551616) (h2 : b < 256) : bits .or .u64 ((a : Int) * 256) (b : Int) = ((a * 256 + b : Nat) : Int) := by
  have nn : ∀ x : Nat, x < 2 ^ 64 → (BitVec.ofInt 64 (x : Int)).toNat = x := fun x hx => by
    rw [BitVec.ofInt_natCast, BitVec.toNat_ofNat]
    exact Nat.mod_eq_of_lt (by omega)
  have e : a * 256 ||| b = a * 256 + b := by
    have h := Nat.shiftLeft_add_eq_or_of_lt (i := 8) (b := b) (by omega) a
    rw [Nat.shiftLeft_eq, show 2 ^ 8 = 256 from rfl] at h
    omega
  rw [show ((a : Int) * 256) = ((a * 256 : Nat) : Int) by omega]
  show IntKind.u64.wrap ((BitVec.ofInt 64 ((a * 256 : Nat) : Int) ||| BitVec.ofInt 64 (b : Int)).toNat : Int) = _
  rw [BitVec.toNat_or, nn _ (by omega), nn _ (by omega), e]
  exact wrap_u64_in (by omega) (by omega)
theorem decGo_le (most : Nat) : ∀ (s : By) (n m : Nat), n ≤ most + 1 → decGo most n s = some m → m ≤ most + 1
  | [], n, m, hn, h => by rw [decGo] at h; cases h; exact hn
  | c :: r, n, m, hn, h => by
    rw [decGo] at h
    split at h
    · exact decGo_le most r _ m (by omega) h
    · exact absurd h (by simp)
theorem decS_le {most : Nat} {s : By} {n : Nat} (h : decS most s = (n : Int)) : n ≤ most := by
  unfold decS at h
  split at h
  · omega
  · split at h
    · omega
    · split at h <;> omega
/-- The address of four bytes, the first of which make n. -/
def dfrom (n : Nat) (l : List Nat) : Nat := l.foldl (fun n d => n * 256 + d) n
theorem decAll_step {p : By} {r : List By} {n : Nat} (h : decS 255 p = (n : Int)) (lo : Nat) : (decAll (p :: r)).map (dfrom lo) = (decAll r).map (dfrom (lo * 256 + n)) := by
  rw [decAll, h]
  show ((decAll r).map (n :: ·)).map (dfrom lo) = _
  cases decAll r <;> simp [dfrom]
theorem decAll_stop {p : By} {r : List By} (h : decS 255 p < 0) : decAll (p :: r) = none := by
  rw [decAll]
  split
  · rename_i n hn; rw [hn] at h; exact absurd h (by simp)
  · rfl
theorem pow256_le {k : Nat} (h : k < 4) : 256 ^ k ≤ 16777216 := by
  calc 256 ^ k ≤ 256 ^ 3 := Nat.pow_le_pow_right (by omega) (by omega)
    _ = 16777216 := rfl
def P4 : Option Nat → Value
  | none => .tuple #[.agg #[.bool false, .int .u64 0, .int .u64 0], .bool false]
  | some n => .tuple #[.agg #[.bool false, .int .u64 0, .int .u64 n], .bool true]
end Go.Proofs.Ytjjldolafnfpoaa

/- Contract of the reference of layer 6: FromBytes. -/
namespace Go.Proofs.Ytjjldolafnfpoaa
open Go.ChangeShapes Go.WideShapes Go.ChangeAt Go.RowKit
set_option linter.unusedVariables false

/-- The address under way behind k bytes. -/
def FBy (v6 : Bool) (L : By) (k hi lo : Nat) : Prop :=
  if v6 then hi = num (L.take (min k 8)) ∧ lo = num ((L.take k).drop 8) else hi = 0 ∧ lo = num (L.take k)
theorem fb_zero (v6 : Bool) (L : By) : FBy v6 L 0 0 0 := by cases v6 <;> simp [FBy, num_nil]
theorem fb_hi {L : By} {k hi lo : Nat} (h : FBy true L k hi lo) (hk : k < 8) (hl : k < L.length) : hi < 72057594037927936 ∧ FBy true L (k + 1) (hi * 256 + L[k].toNat) lo := by
  obtain ⟨h1, h2⟩ := h
  rw [Nat.min_eq_left (by omega)] at h1
  refine ⟨by rw [h1]; exact num_le7 (by rw [List.length_take]; omega), ?_, ?_⟩
  · rw [Nat.min_eq_left (by omega), List.take_succ_eq_append_getElem hl, num_snoc, h1]
  · rw [h2, List.drop_of_length_le (by rw [List.length_take]; omega), List.drop_of_length_le (by rw [List.length_take]; omega)]
theorem fb_lo6 {L : By} {k hi lo : Nat} (h : FBy true L k hi lo) (hk : 8 ≤ k) (hl : k < L.length) (hL : L.length = 16) : lo < 72057594037927936 ∧ FBy true L (k + 1) hi (lo * 256 + L[k].toNat) := by
  obtain ⟨h1, h2⟩ := h
  rw [Nat.min_eq_right hk] at h1
  refine ⟨by rw [h2]; exact num_le7 (by rw [List.length_drop, List.length_take]; omega), ?_, ?_⟩
  · rw [Nat.min_eq_right (by omega), h1]
  · rw [List.take_succ_eq_append_getElem hl, List.drop_append_of_le_length (by rw [List.length_take]; omega), num_snoc, h2]
theorem fb_lo4 {L : By} {k hi lo : Nat} (h : FBy false L k hi lo) (hl : k < L.length) (hL : L.length = 4) : lo < 72057594037927936 ∧ FBy false L (k + 1) hi (lo * 256 + L[k].toNat) := by
  obtain ⟨h1, h2⟩ := h
  refine ⟨by rw [h2]; exact num_le7 (by rw [List.length_take]; omega), h1, ?_⟩
  rw [List.take_succ_eq_append_getElem hl, num_snoc, h2]
/-- One round: which half takes the byte. -/
theorem fb_step {v6 : Bool} {L : By} {k hi lo : Nat} (h : FBy v6 L k hi lo) (hl : k < L.length) (hL : L.length = if v6 then 16 else 4) :
    ((v6 && decide ((k : Int) < 8)) = true ∧ hi < 72057594037927936 ∧ FBy v6 L (k + 1) (hi * 256 + L[k].toNat) lo) ∨ ((v6 && decide ((k : Int) < 8)) = false ∧ lo < 72057594037927936 ∧ FBy v6 L (k + 1) hi (lo * 256 + L[k].toNat)) := by
  cases v6 with
  | false => exact .inr ⟨rfl, fb_lo4 h hl hL⟩
  | true =>
    by_cases h8 : k < 8
    · exact .inl ⟨by simp; omega, fb_hi h h8 hl⟩
    · exact .inr ⟨by simp; omega, fb_lo6 h (by omega) hl hL⟩
set_option maxHeartbeats 800000 in
set_option maxRecDepth 20000 in
theorem rfrom6_true (s : ByteArray) (w : World) (hs : s.size = 16) :
    Calls Try.prog 28 #[.string s] w fun e w' => (∃ hi lo : Nat, e = .returned (.tuple #[.agg #[.bool true, .int .u64 hi, .int .u64 lo], .int .i64 0]) ∧ FBy true s.data.toList s.size hi lo) ∧ Below w.heap.size w w' := by
  have hlen := toList_length6 s
  have H0 := Lib.hid (fb_zero true s.data.toList)
  have HST := Lib.hid (fun k hi lo (h : FBy true s.data.toList k hi lo) (hl : k < s.data.toList.length) => fb_step h hl (by rw [hlen]; exact hs))
  have dg : ((s.size : Int) == 4) = false := by rw [hs]; rfl
  have dh : ((s.size : Int) == 16) = true := by rw [hs]; rfl
  have n4 : ¬ (s.size : Int) = 4 := by omega
  have d4 : ((s.size : Int) != 4) = true := by rw [hs]; rfl
  have d16 : ((s.size : Int) != 16) = false := by rw [hs]; rfl
  have hsz : s.size ≤ 16 := by omega
  have HLN := Lib.hid hlen
  have HX := Lib.hid (ab_new w false 0 0 |>.kept (below_alloc6 _ (.cells #[.bool true, .int .u64 0, .int .u64 0] 25)) (alloc_lt6 w _))
  have HY := Lib.hid (ab2 w (.cells #[.bool false, .int .u64 0, .int .u64 0] 25) true 0 0)
  have HB := Lib.hid (below2 w (.cells #[.bool false, .int .u64 0, .int .u64 0] 25) (.cells #[.bool true, .int .u64 0, .int .u64 0] 25))
  clear hlen hs
  go_enter Try.func28, Try.ntmps28
  go_wp2_with fail
  generalize (w.alloc (.cells #[.bool false, .int .u64 0, .int .u64 0] 25)).alloc (.cells #[.bool true, .int .u64 0, .int .u64 0] 25) = w1 at *
  go_loopw [5] (fun v5 wr => ∃ k hi lo : Nat, v5 = .int .i64 k ∧ k ≤ s.size ∧ Hid (FBy true s.data.toList k hi lo) ∧ Hid (AB wr (w.heap.size + 1) true hi lo) ∧ Hid (AB wr w.heap.size false 0 0) ∧ Hid (Below w.heap.size w wr)) (fun v5 _ => s.size - (intOf v5).toNat)
  case atStart => exact ⟨0, 0, 0, rfl, Nat.zero_le _, H0, HY, HX, HB⟩
  case round =>
    clear H0 HY HX HB
    obtain ⟨k, hi, lo, rfl, hk, HF, HY, HX, HB⟩ := hrel
    have y0 := HY.out.c0
    have y1 := HY.out.c1
    have y2 := HY.out.c2
    have yf1 := HY.out.f 1
    have yf2 := HY.out.f 2
    by_cases hlt : k < s.size
    · have dlt : decide ((k : Int) < (s.size : Int)) = true := by simp; omega
      have hlti : (k : Int) < (s.size : Int) := by omega
      have hki0 : (0 : Int) ≤ (k : Int) := by omega
      have hx8 := u8_lt s[k]
      have hll : k < s.data.toList.length := by have := HLN.out; omega
      have ha : s.data.toList[k]'hll = s[k]'hlt := rfl
      have hst := HST.out k hi lo HF.out hll
      rw [ha] at hst
      obtain ⟨k1, hk1⟩ : ∃ k1, k1 = k + 1 := ⟨_, rfl⟩
      have k1i : (k : Int) + 1 = (k1 : Int) := by omega
      have k1s : k1 ≤ s.size := by omega
      rw [← hk1] at hst
      have HK1 := Lib.hid hk1
      generalize hxc : s[k]'hlt = x at *
      clear hk1 ha
      rcases hst with ⟨d8, hq⟩ | ⟨d8, hq⟩
      · have d8 : decide ((k : Int) < 8) = true := d8
        have hw := hq.1
        have HOR := Lib.hid (or_u64 hi x.toNat (by omega) (by omega))
        have HF2 := Lib.hid hq.2
        have HX3 := Lib.hid (HX.out.far (b := w.heap.size + 1) (i := 1) (by omega) (.int .u64 ((hi * 256 + x.toNat : Nat) : Int)))
        have HY3 := Lib.hid (HY.out.set1 (hi * 256 + x.toNat))
        have HB3 := Lib.hid (HB.out.setCell (p := ⟨w.heap.size + 1, 1, none⟩) (Nat.le_succ _) (.int .u64 ((hi * 256 + x.toNat : Nat) : Int)))
        clear hq
        go_wp2_with fail
        go_region
        all_goals
          go_wp2_with fail
          go_roundw
          case rel =>
            rw [HOR.out]
            exact ⟨k1, hi * 256 + x.toNat, lo, by go_num, k1s, HF2, HY3, HX3, Lib.hid (HB3.out.drew)⟩
          case measure => have := HK1.out; simp [intOf]; omega
      · have d8 : decide ((k : Int) < 8) = false := d8
        have hw := hq.1
        have HOR := Lib.hid (or_u64 lo x.toNat (by omega) (by omega))
        have HF2 := Lib.hid hq.2
        have HX3 := Lib.hid (HX.out.far (b := w.heap.size + 1) (i := 2) (by omega) (.int .u64 ((lo * 256 + x.toNat : Nat) : Int)))
        have HY3 := Lib.hid (HY.out.set2 (lo * 256 + x.toNat))
        have HB3 := Lib.hid (HB.out.setCell (p := ⟨w.heap.size + 1, 2, none⟩) (Nat.le_succ _) (.int .u64 ((lo * 256 + x.toNat : Nat) : Int)))
        clear hq
        go_wp2_with fail
        go_region
        all_goals
          go_wp2_with fail
          go_roundw
          case rel =>
            rw [HOR.out]
            exact ⟨k1, hi, lo * 256 + x.toNat, by go_num, k1s, HF2, HY3, HX3, Lib.hid (HB3.out.drew)⟩
          case measure => have := HK1.out; simp [intOf]; omega
    · have dlt : decide ((k : Int) < (s.size : Int)) = false := by simp; omega
      have nlt : ¬ (k : Int) < (s.size : Int) := by omega
      obtain rfl : k = s.size := by omega
      have x0 := HX.out.c0
      have x1 := HX.out.c1
      have x2 := HX.out.c2
      have xf0 := HX.out.f 0
      have xf1 := HX.out.f 1
      have xf2 := HX.out.f 2
      go_wp2_with fail
      change bodyPost _ _ _ _ _ (aset wr w.heap.size true hi lo)
      exact bodyPost_ret (res_addr2 rfl _ _ rfl (HX.out.set true hi lo)) rfl ⟨⟨hi, lo, rfl, HF.out⟩, aset_below HB.out (Nat.le_refl _) true hi lo⟩
set_option maxHeartbeats 800000 in
set_option maxRecDepth 20000 in
theorem rfrom6_false (s : ByteArray) (w : World) (hs : s.size = 4) :
    Calls Try.prog 28 #[.string s] w fun e w' => (∃ hi lo : Nat, e = .returned (.tuple #[.agg #[.bool false, .int .u64 hi, .int .u64 lo], .int .i64 0]) ∧ FBy false s.data.toList s.size hi lo) ∧ Below w.heap.size w w' := by
  have hlen := toList_length6 s
  have H0 := Lib.hid (fb_zero false s.data.toList)
  have HST := Lib.hid (fun k hi lo (h : FBy false s.data.toList k hi lo) (hl : k < s.data.toList.length) => fb_step h hl (by rw [hlen]; exact hs))
  have dg : ((s.size : Int) == 4) = true := by rw [hs]; rfl
  have dh : ((s.size : Int) == 16) = false := by rw [hs]; rfl
  have n4 : (s.size : Int) = 4 := by omega
  have d4 : ((s.size : Int) != 4) = false := by rw [hs]; rfl
  have d16 : ((s.size : Int) != 16) = true := by rw [hs]; rfl
  have hsz : s.size ≤ 16 := by omega
  have HLN := Lib.hid hlen
  have HX := Lib.hid (ab_new w false 0 0 |>.kept (below_alloc6 _ (.cells #[.bool false, .int .u64 0, .int .u64 0] 25)) (alloc_lt6 w _))
  have HY := Lib.hid (ab2 w (.cells #[.bool false, .int .u64 0, .int .u64 0] 25) false 0 0)
  have HB := Lib.hid (below2 w (.cells #[.bool false, .int .u64 0, .int .u64 0] 25) (.cells #[.bool false, .int .u64 0, .int .u64 0] 25))
  clear hlen hs
  go_enter Try.func28, Try.ntmps28
  go_wp2_with fail
  generalize (w.alloc (.cells #[.bool false, .int .u64 0, .int .u64 0] 25)).alloc (.cells #[.bool false, .int .u64 0, .int .u64 0] 25) = w1 at *
  go_loopw [5] (fun v5 wr => ∃ k hi lo : Nat, v5 = .int .i64 k ∧ k ≤ s.size ∧ Hid (FBy false s.data.toList k hi lo) ∧ Hid (AB wr (w.heap.size + 1) false hi lo) ∧ Hid (AB wr w.heap.size false 0 0) ∧ Hid (Below w.heap.size w wr)) (fun v5 _ => s.size - (intOf v5).toNat)
  case atStart => exact ⟨0, 0, 0, rfl, Nat.zero_le _, H0, HY, HX, HB⟩
  case round =>
    clear H0 HY HX HB
    obtain ⟨k, hi, lo, rfl, hk, HF, HY, HX, HB⟩ := hrel
    have y0 := HY.out.c0
    have y1 := HY.out.c1
    have y2 := HY.out.c2
    have yf1 := HY.out.f 1
    have yf2 := HY.out.f 2
    by_cases hlt : k < s.size
    · have dlt : decide ((k : Int) < (s.size : Int)) = true := by simp; omega
      have hlti : (k : Int) < (s.size : Int) := by omega
      have hki0 : (0 : Int) ≤ (k : Int) := by omega
      have hx8 := u8_lt s[k]
      have hll : k < s.data.toList.length := by have := HLN.out; omega
      have ha : s.data.toList[k]'hll = s[k]'hlt := rfl
      have hst := HST.out k hi lo HF.out hll
      rw [ha] at hst
      obtain ⟨k1, hk1⟩ : ∃ k1, k1 = k + 1 := ⟨_, rfl⟩
      have k1i : (k : Int) + 1 = (k1 : Int) := by omega
      have k1s : k1 ≤ s.size := by omega
      rw [← hk1] at hst
      have HK1 := Lib.hid hk1
      generalize hxc : s[k]'hlt = x at *
      clear hk1 ha
      rcases hst with ⟨d8, hq⟩ | ⟨d8, hq⟩
      · exact absurd d8 (by simp)
      · clear d8
        have hw := hq.1
        have HOR := Lib.hid (or_u64 lo x.toNat (by omega) (by omega))
        have HF2 := Lib.hid hq.2
        have HX3 := Lib.hid (HX.out.far (b := w.heap.size + 1) (i := 2) (by omega) (.int .u64 ((lo * 256 + x.toNat : Nat) : Int)))
        have HY3 := Lib.hid (HY.out.set2 (lo * 256 + x.toNat))
        have HB3 := Lib.hid (HB.out.setCell (p := ⟨w.heap.size + 1, 2, none⟩) (Nat.le_succ _) (.int .u64 ((lo * 256 + x.toNat : Nat) : Int)))
        clear hq
        go_wp2_with fail
        go_region
        all_goals
          go_wp2_with fail
          go_roundw
          case rel =>
            rw [HOR.out]
            exact ⟨k1, hi, lo * 256 + x.toNat, by go_num, k1s, HF2, HY3, HX3, Lib.hid (HB3.out.drew)⟩
          case measure => have := HK1.out; simp [intOf]; omega
    · have dlt : decide ((k : Int) < (s.size : Int)) = false := by simp; omega
      have nlt : ¬ (k : Int) < (s.size : Int) := by omega
      obtain rfl : k = s.size := by omega
      have x0 := HX.out.c0
      have x1 := HX.out.c1
      have x2 := HX.out.c2
      have xf0 := HX.out.f 0
      have xf1 := HX.out.f 1
      have xf2 := HX.out.f 2
      go_wp2_with fail
      change bodyPost _ _ _ _ _ (aset wr w.heap.size false hi lo)
      exact bodyPost_ret (res_addr2 rfl _ _ rfl (HX.out.set false hi lo)) rfl ⟨⟨hi, lo, rfl, HF.out⟩, aset_below HB.out (Nat.le_refl _) false hi lo⟩
end Go.Proofs.Ytjjldolafnfpoaa
