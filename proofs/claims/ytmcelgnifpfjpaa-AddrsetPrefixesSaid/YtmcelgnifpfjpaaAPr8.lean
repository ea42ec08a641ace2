/- Contracts of the functions, part 8: SetPfxR, SetRMask, SetRRgt, SetRBlk, SetRPre, SetPNeq. -/
import Derived.Deep.LoopGhost
import Derived.Laws.StructEq
import Derived.Test.YtmcelgnifpfjpaaAPr3
import Derived.Test.YtmcelgnifpfjpaaAPr4
import Derived.Test.YtmcelgnifpfjpaaAPr6
import Derived.Test.YtmcelgnifpfjpaaAPr7
/- Where the reference's Prefixes stands within a range: plain mathematics. -/
namespace Go.Proofs.Ytmcelgnifpfjpaa
set_option linter.unusedVariables false

/-- The address behind a number's. -/
theorem aftR_adN {v : Bool} {n : Nat} (h0 : 0 < n) (hn : n < 2 ^ width v) : aftR (adN v (n - 1)) = adN v n := by
  rw [width_pow] at hn
  unfold aftR adN up64
  simp only [Ad.mk.injEq, true_and]
  cases v with
  | true =>
    simp only [if_true] at hn
    refine ⟨?_, ?_⟩ <;> (repeat' split) <;> omega
  | false =>
    simp only [Bool.false_eq_true, if_false] at hn
    refine ⟨?_, ?_⟩ <;> (repeat' split) <;> omega
/-- Between two blocks: done is what lies behind, the next block begins at the address (h, l). -/
def Wk (x : Rg) (pre F : List Pf) (h l : Nat) : Prop :=
  ∃ c e r done, dec (nA x.lo) (nA x.hi) (width x.lo.v) 0 = done ++ (c, e) :: r ∧ F = pre ++ done.map (pf x.lo.v) ∧ Ch (width x.lo.v) (nA x.lo) (nA x.hi) c ((c, e) :: r) (nA x.hi + 1) ∧ h = c / 18446744073709551616 ∧ l = c % 18446744073709551616
theorem Wk.fits {x : Rg} {pre F : List Pf} {h l : Nat} (hs : someR x = true) (hf : x.fits) (H : Wk x pre F h l) : h < 18446744073709551616 ∧ l < 18446744073709551616 := by
  obtain ⟨c, e, r, done, h1, h2, ⟨_, g, h3⟩, rfl, rfl⟩ := H
  obtain ⟨x1, x2, x3, x4⟩ := someR_iff.1 hs
  have k2 := nA_key hf.2 x2
  rw [← x3] at k2
  have hp := Nat.two_pow_pos e
  have := g.high
  exact (adN_fits (v := x.lo.v) (n := c) (by omega)).1
theorem wk_start {x : Rg} (pre : List Pf) (hs : someR x = true) (hf : x.fits) : Wk x pre pre x.lo.h x.lo.l := by
  obtain ⟨x1, x2, x3, x4⟩ := someR_iff.1 hs
  have k1 := nA_key hf.1 x1
  have k2 := nA_key hf.2 x2
  rw [← x3] at k2
  have hlh : nA x.lo ≤ nA x.hi := by omega
  have hc := dec_all (W := width x.lo.v) hlh k2.2
  have hn := adN_num (h := x.lo.h) (l := x.lo.l) hf.1.2
  cases hd : dec (nA x.lo) (nA x.hi) (width x.lo.v) 0 with
  | nil =>
    rw [hd] at hc
    have : nA x.lo = nA x.hi + 1 := hc
    omega
  | cons y r =>
    obtain ⟨c, e⟩ := y
    rw [hd] at hc
    obtain ⟨rfl, h2, h3⟩ := hc
    exact ⟨_, e, r, [], hd, by simp, ⟨rfl, h2, h3⟩, hn.1.symm, hn.2.symm⟩
/-- The next block: the tests up to it and at it, and what comes behind. -/
theorem Wk.next {x : Rg} {pre F : List Pf} {h l : Nat} (hs : someR x = true) (hf : x.fits) (H : Wk x pre F h l) : ∃ b0 : Nat, b0 ≤ width x.lo.v ∧
    (∀ b : Nat, b < b0 → vP ⟨x.lo.v, h, l, (b : Int)⟩ = true → kA x.hi < kA (blk ⟨x.lo.v, h, l, (b : Int)⟩).hi) ∧
    vP ⟨x.lo.v, h, l, (b0 : Int)⟩ = true ∧ ¬ kA x.hi < kA (blk ⟨x.lo.v, h, l, (b0 : Int)⟩).hi ∧
    (((blk ⟨x.lo.v, h, l, (b0 : Int)⟩).hi = x.hi ∧ F ++ [⟨x.lo.v, h, l, (b0 : Int)⟩] = pre ++ rawR x) ∨
     ((blk ⟨x.lo.v, h, l, (b0 : Int)⟩).hi ≠ x.hi ∧ (aftR (blk ⟨x.lo.v, h, l, (b0 : Int)⟩).hi).v = x.lo.v ∧ Wk x pre (F ++ [⟨x.lo.v, h, l, (b0 : Int)⟩]) (aftR (blk ⟨x.lo.v, h, l, (b0 : Int)⟩).hi).h (aftR (blk ⟨x.lo.v, h, l, (b0 : Int)⟩).hi).l)) := by
  obtain ⟨c, e, r, done, h1, h2, ⟨_, g, h3⟩, rfl, rfl⟩ := H
  obtain ⟨x1, x2, x3, x4⟩ := someR_iff.1 hs
  have k2 := nA_key hf.2 x2
  have hx := adN_nA hf.2
  rw [← x3] at k2 hx
  have hp := Nat.two_pow_pos e
  have hg := g.high
  have hcW : c < 2 ^ width x.lo.v := by omega
  have hpf : ∀ b : Nat, b ≤ width x.lo.v → (⟨x.lo.v, c / 18446744073709551616, c % 18446744073709551616, (b : Int)⟩ : Pf) = pf x.lo.v (c, width x.lo.v - b) := fun b hb => by
    unfold pf
    simp only
    rw [show width x.lo.v - (width x.lo.v - b) = b by omega]
  have e0 : width x.lo.v - (width x.lo.v - e) = e := by have := g.le; omega
  have hfit : c + 2 ^ e ≤ 2 ^ width x.lo.v := by omega
  have hb0 := blk_pf (v := x.lo.v) g.le g.al hfit
  have hk0 := (adN_fits (v := x.lo.v) (n := c + 2 ^ e - 1) (by omega)).2.2
  have hp0 := hpf (width x.lo.v - e) (by omega)
  rw [e0] at hp0
  refine ⟨width x.lo.v - e, by omega, ?_, ?_, ?_, ?_⟩
  · intro b hb hv
    have hbl : b ≤ width x.lo.v := by omega
    have hle : width x.lo.v - b ≤ width x.lo.v := by omega
    rw [hpf b hbl] at hv ⊢
    rw [vP_al hle hcW, decide_eq_true_eq] at hv
    have hm := g.max _ (by omega) hle hv
    have hft := al_fit hle hv hcW
    have hbb := blk_pf (v := x.lo.v) hle hv hft
    have hq := Nat.two_pow_pos (width x.lo.v - b)
    rw [hbb.1]
    simp only
    rw [(adN_fits (v := x.lo.v) (n := c + 2 ^ (width x.lo.v - b) - 1) (by omega)).2.2, k2.1]
    omega
  · rw [hp0]; exact hb0.2
  · rw [hp0, hb0.1]
    simp only
    rw [hk0, k2.1]
    omega
  · rw [hp0, hb0.1]
    simp only
    cases r with
    | nil =>
      have h3 : c + 2 ^ e = nA x.hi + 1 := h3
      refine .inl ⟨?_, ?_⟩
      · rw [← hx]; congr 1; omega
      · have : rawR x = (done ++ [(c, e)]).map (pf x.lo.v) := by rw [← h1]; rfl
        rw [this, h2, List.map_append, List.append_assoc]
        rfl
    | cons y r =>
      obtain ⟨c', e'⟩ := y
      obtain ⟨h4, g', h5⟩ := h3
      subst h4
      have hg' := g'.high
      have hp' := Nat.two_pow_pos e'
      have ha := aftR_adN (v := x.lo.v) (n := c + 2 ^ e) (by omega) (by omega)
      refine .inr ⟨?_, ?_, ?_⟩
      · intro heq
        have := hk0
        rw [heq, k2.1] at this
        omega
      · rw [ha]; rfl
      · rw [ha]
        refine ⟨c + 2 ^ e, e', r, done ++ [(c, e)], by rw [h1]; simp, by rw [h2]; simp, ⟨rfl, g', h5⟩, rfl, rfl⟩
/-- What is gathered is part of the whole. -/
theorem Wk.len {x : Rg} {pre F : List Pf} {h l : Nat} (H : Wk x pre F h l) : F.length ≤ (pre ++ rawR x).length := by
  obtain ⟨c, e, r, done, h1, h2, _⟩ := H
  have : rawR x = (done ++ (c, e) :: r).map (pf x.lo.v) := by rw [← h1]; rfl
  rw [this, h2]
  simp
end Go.Proofs.Ytmcelgnifpfjpaa

/- Contracts of the reference of layer 7: low, Mask, Size. -/
namespace Go.Proofs.Ytmcelgnifpfjpaa
open Go.ChangeShapes Go.WideShapes Go.ChangeAt Go.RowKit
set_option linter.unusedVariables false

def loM (k : Nat) : Nat := if 64 ≤ k then 18446744073709551615 else 2 ^ k - 1
theorem loM_min {k : Nat} (h : k ≤ 64) : loM k = 2 ^ min k 64 - 1 := by
  unfold loM
  by_cases c : 64 ≤ k
  · rw [if_pos c, show min k 64 = 64 by omega]
  · rw [if_neg c, show min k 64 = k by omega]
theorem rlow_any (k : Nat) (w : World) (hk : k ≤ 1000) :
    Calls Try.prog 88 #[.int .i64 k] w fun e w' => e = .returned (.int .u64 (loM k)) ∧ w' = w := by
  by_cases h : 64 ≤ k
  · have d : decide ((k : Int) ≥ 64) = true := decide_eq_true (by omega)
    have hi : (64 : Int) ≤ (k : Int) := by omega
    unfold loM
    rw [if_pos h]
    go_enter Try.func88, Try.ntmps88
    go_wp2_with fail
    go_ret
    exact ⟨rfl, rfl⟩
  · have d : decide ((k : Int) ≥ 64) = false := decide_eq_false (by omega)
    have hi : ¬ (64 : Int) ≤ (k : Int) := by omega
    have h0 : (0 : Int) ≤ (k : Int) := by omega
    have hp : 2 ^ k ≤ 2 ^ 63 := Nat.pow_le_pow_right (by omega) (by omega)
    have hp1 : 0 < 2 ^ k := Nat.two_pow_pos k
    have e2 : (2 : Int) ^ k = ((2 ^ k : Nat) : Int) := by simp
    have hw : IntKind.u64.wrap (IntKind.u64.wrap ((2 : Int) ^ k) - 1) = ((2 ^ k - 1 : Nat) : Int) := by
      rw [e2]
      generalize 2 ^ k = q at *
      have h1 : IntKind.u64.wrap (q : Int) = (q : Int) := IntWalk.u64_in _ (by omega)
      rw [h1, show (q : Int) - 1 = ((q - 1 : Nat) : Int) by omega]
      exact IntWalk.u64_in _ (by omega)
    clear hp hp1 e2
    unfold loM
    rw [if_neg h]
    obtain ⟨q, hq⟩ : ∃ q, q = 2 ^ k - 1 := ⟨_, rfl⟩
    rw [← hq] at hw ⊢
    clear hq
    go_enter Try.func88, Try.ntmps88
    go_wp2_with fail
    go_ret
    exact ⟨by simp, rfl⟩
theorem res_two7 {fn : Func} {p u : Tmp} (h : fn.results = #[.tmp p, .tmp u]) (tmps : Array Value) (w : World) : (results fn tmps).run Try.prog w = .ok (.tuple #[tmps.getD p undef, tmps.getD u undef]) w := by
  simp [results, h]
/-- The two numbers of an address whose lowest k bits are 1. -/
theorem rmask_any (k : Nat) (w : World) (hk : k ≤ 128) :
    Calls Try.prog 74 #[.int .i64 k] w fun e w' => e = .returned (.tuple #[.int .u64 (2 ^ (k - 64) - 1 : Nat), .int .u64 (2 ^ min k 64 - 1 : Nat)]) ∧ w' = w := by
  by_cases h : k ≤ 64
  · have d : decide ((k : Int) ≤ 64) = true := decide_eq_true (by omega)
    have hi : (k : Int) ≤ 64 := by omega
    have HL := Lib.hid (show ∀ W, Calls Try.prog 88 #[.int .i64 k] W fun e w' => e = .returned (.int .u64 (2 ^ min k 64 - 1 : Nat)) ∧ w' = W from fun W => by
      have h1 := rlow_any k W (by omega)
      rwa [loM_min h] at h1)
    rw [show k - 64 = 0 by omega]
    generalize 2 ^ min k 64 - 1 = q at *
    go_enter Try.func74, Try.ntmps74
    go_wp2_with fail
    refine (HL.out _).mono ?_
    rintro e w' ⟨rfl, rfl⟩
    go_wp2_with fail
    exact bodyPost_ret (res_two7 rfl _ _) rfl ⟨rfl, rfl⟩
  · have d : decide ((k : Int) ≤ 64) = false := decide_eq_false (by omega)
    have hi : ¬ (k : Int) ≤ 64 := by omega
    obtain ⟨j, rfl⟩ : ∃ j, k = j + 64 := ⟨k - 64, by omega⟩
    have e1 : ((j + 64 : Nat) : Int) - 64 = (j : Int) := by omega
    have hw : IntKind.i64.wrap (((j + 64 : Nat) : Int) - 64) = (j : Int) := by rw [e1]; exact IntWalk.i64_in _ (by omega)
    have HL := Lib.hid (show ∀ W, Calls Try.prog 88 #[.int .i64 j] W fun e w' => e = .returned (.int .u64 (2 ^ j - 1 : Nat)) ∧ w' = W from fun W => by
      have h1 := rlow_any j W (by omega)
      rwa [loM_min (by omega), show min j 64 = j by omega] at h1)
    have HK := Lib.hid (show ∀ W, Calls Try.prog 88 #[.int .i64 64] W fun e w' => e = .returned (.int .u64 18446744073709551615) ∧ w' = W from fun W => rlow_any 64 W (by omega))
    rw [show j + 64 - 64 = j by omega, show min (j + 64) 64 = 64 by omega]
    generalize 2 ^ j - 1 = q at *
    obtain ⟨k, hk2⟩ : ∃ k, k = j + 64 := ⟨_, rfl⟩
    rw [← hk2] at d hi e1 hw ⊢
    clear hk2
    go_enter Try.func74, Try.ntmps74
    go_wp2_with fail
    refine (HL.out _).mono ?_
    rintro e w1 ⟨rfl, rfl⟩
    go_wp2_with fail
    refine (HK.out _).mono ?_
    rintro e w1 ⟨rfl, rfl⟩
    go_wp2_with fail
    exact bodyPost_ret (res_two7 rfl _ _) rfl ⟨rfl, rfl⟩
theorem rsize_any (v : Bool) (h l : Nat) (w : World) :
    Calls Try.prog 73 #[.agg #[.bool v, .int .u64 h, .int .u64 l]] w fun e w' => e = .returned (.int .i64 (width v : Nat)) ∧ Below w.heap.size w w' := by
  have HX := Lib.hid (ab_new w v h l)
  have x0 := HX.out.c0
  have xl := HX.out.lt
  unfold width
  cases v with
  | true =>
    go_enter Try.func73, Try.ntmps73
    go_wp2_with fail
    go_ret
    exact ⟨rfl, below_alloc6 _ _⟩
  | false =>
    go_enter Try.func73, Try.ntmps73
    go_wp2_with fail
    go_ret
    exact ⟨rfl, below_alloc6 _ _⟩
end Go.Proofs.Ytmcelgnifpfjpaa

/- Contracts of the reference of layer 7: Right, Block. -/
namespace Go.Proofs.Ytmcelgnifpfjpaa
open Go.ChangeShapes Go.WideShapes Go.ChangeAt Go.RowKit
set_option linter.unusedVariables false

theorem and64 (n k : Nat) (h : n < 18446744073709551616) (hk : k ≤ 64) : bits .and .u64 (n : Int) ((2 ^ k - 1 : Nat) : Int) = ((n % 2 ^ k : Nat) : Int) := by
  have hp : 2 ^ k ≤ 2 ^ 64 := Nat.pow_le_pow_right (by omega) hk
  have h64 : (2 : Nat) ^ 64 = 18446744073709551616 := by decide
  have h0 := Nat.two_pow_pos k
  rw [u64_and_nat n _ h (by omega), Nat.and_two_pow_sub_one_eq_mod]
theorem lowZ_mod (n k : Nat) : (lowZ k n = n) ↔ n % 2 ^ k = 0 := by
  unfold lowZ
  have := Nat.div_add_mod n (2 ^ k)
  rw [Nat.mul_comm] at this
  constructor <;> intro h <;> omega
theorem vldP_in7 {v : Bool} {hi lo n : Nat} (hv : vldA v hi lo = true) (hn : n ≤ width v) : vldP v hi lo (n : Int) = decide (mkH v n hi = hi ∧ mkL v n lo = lo) := by
  unfold vldP cntB
  rw [hv, Bool.eq_iff_iff]
  simp
  omega
/-- Right, by tests of numbers. -/
theorem vP_tests (v : Bool) (h l : Nat) (n : Nat) (hn : n ≤ width v) : vP ⟨v, h, l, (n : Int)⟩ = (vldA v h l && (decide (h % 2 ^ frH v n = 0) && decide (l % 2 ^ frL v n = 0))) := by
  unfold vP
  cases hv : vldA v h l with
  | false => simp [vldP, hv]
  | true =>
    rw [vldP_in7 hv hn, Bool.true_and]
    unfold mkH mkL
    rw [Bool.eq_iff_iff, decide_eq_true_eq, Bool.and_eq_true, decide_eq_true_eq, decide_eq_true_eq, lowZ_mod, lowZ_mod]
theorem vP_out {v : Bool} {h l : Nat} {k : Int} (hk : ¬ (0 ≤ k ∧ k ≤ (width v : Nat))) : vP ⟨v, h, l, k⟩ = false := by
  unfold vP vldP cntB
  rw [decide_eq_false hk, Bool.false_and, Bool.and_false]
set_option maxHeartbeats 4000000 in
set_option maxRecDepth 20000 in
theorem rright_any (v : Bool) (h l : Nat) (k : Int) (w : World) (b1 : h < 18446744073709551616) (b2 : l < 18446744073709551616) (bk : -9223372036854775808 ≤ k ∧ k ≤ 9223372036854775807) :
    Calls Try.prog 56 #[.agg #[.bool v, .int .u64 h, .int .u64 l, .int .i64 k]] w fun e w' => e = .returned (.bool (vP ⟨v, h, l, k⟩)) ∧ Below w.heap.size w w' := by
  have HF := Lib.hid (fun W => rfine_any v h l W)
  have HZ := Lib.hid (fun W => rsize_any v h l W)
  obtain ⟨W1, hW1⟩ : ∃ W, W = w.alloc (.cells #[.bool v, .int .u64 h, .int .u64 l, .int .i64 k] 37) := ⟨_, rfl⟩
  have HX := Lib.hid (show PB W1 w.heap.size v h l k from by rw [hW1]; exact pb_new w v h l k)
  have HB1 := Lib.hid (show Below w.heap.size w W1 from by rw [hW1]; exact below_alloc6 _ _)
  have hwd : width v ≤ 128 := by unfold width; split <;> omega
  cases hv : vldA v h l with
  | false =>
    rw [hv] at HF
    have hR : vP ⟨v, h, l, k⟩ = false := by unfold vP vldP; simp only; rw [hv, Bool.false_and]
    rw [hR]
    clear hR hv b1 b2 hwd
    go_enter Try.func56, Try.ntmps56
    go_wp2_with fail
    rw [← hW1]
    clear hW1
    refine wp_region_pick (fun w' => Below W1.heap.size W1 w') (by kernel_rfl) (by kernel_rfl) (Below.refl _ _) ⟨rfl, rfl, rfl, Nat.le_refl _, fun _ _ => rfl⟩ (fun p hp hq => ?_)
    have pp0 : ∀ u, (p u).cell? ⟨w.heap.size, 0, none⟩ = some (.bool v) := fun u => (HX.out.kept (hp u) HX.out.lt).c0
    have pp1 : ∀ u, (p u).cell? ⟨w.heap.size, 1, none⟩ = some (.int .u64 h) := fun u => (HX.out.kept (hp u) HX.out.lt).c1
    have pp2 : ∀ u, (p u).cell? ⟨w.heap.size, 2, none⟩ = some (.int .u64 l) := fun u => (HX.out.kept (hp u) HX.out.lt).c2
    have pp3 : ∀ u, (p u).cell? ⟨w.heap.size, 3, none⟩ = some (.int .i64 k) := fun u => (HX.out.kept (hp u) HX.out.lt).c3
    have HP := Lib.hid hp
    have HQ := Lib.hid hq
    clear hp hq
    repeat (go_big_quiet_step ((first | with_reducible exact Calls.pick_of HQ.out (fun W' hb => (HP.out _).trans (hb.mono (HP.out _).size)) (HF.out _))))
    refine wpQuiet_nil ?_
    rintro _ ⟨u, rfl⟩
    have hbp := HP.out u
    generalize p u = w2 at *
    clear HP HQ pp0 pp1 pp2 pp3
    have HB2 := Lib.hid (HB1.out.trans (hbp.mono HB1.out.size))
    go_wp2_with fail
    go_ret
    exact ⟨rfl, HB2.out⟩
  | true =>
    rw [hv] at HF
    by_cases hk0 : k < 0
    · have d0 : decide (k < 0) = true := decide_eq_true hk0
      rw [vP_out (v := v) (h := h) (l := l) (k := k) (by omega)]
      clear hv b1 b2 hwd
      go_enter Try.func56, Try.ntmps56
      go_wp2_with fail
      rw [← hW1]
      clear hW1
      refine wp_region_pick (fun w' => Below W1.heap.size W1 w') (by kernel_rfl) (by kernel_rfl) (Below.refl _ _) ⟨rfl, rfl, rfl, Nat.le_refl _, fun _ _ => rfl⟩ (fun p hp hq => ?_)
      have pp0 : ∀ u, (p u).cell? ⟨w.heap.size, 0, none⟩ = some (.bool v) := fun u => (HX.out.kept (hp u) HX.out.lt).c0
      have pp1 : ∀ u, (p u).cell? ⟨w.heap.size, 1, none⟩ = some (.int .u64 h) := fun u => (HX.out.kept (hp u) HX.out.lt).c1
      have pp2 : ∀ u, (p u).cell? ⟨w.heap.size, 2, none⟩ = some (.int .u64 l) := fun u => (HX.out.kept (hp u) HX.out.lt).c2
      have pp3 : ∀ u, (p u).cell? ⟨w.heap.size, 3, none⟩ = some (.int .i64 k) := fun u => (HX.out.kept (hp u) HX.out.lt).c3
      have HP := Lib.hid hp
      have HQ := Lib.hid hq
      clear hp hq
      repeat (go_big_quiet_step ((first | with_reducible exact Calls.pick_of HQ.out (fun W' hb => (HP.out _).trans (hb.mono (HP.out _).size)) (HF.out _))))
      refine wpQuiet_nil ?_
      rintro _ ⟨u, rfl⟩
      have hbp := HP.out u
      generalize p u = w2 at *
      clear HP HQ pp0 pp1 pp2 pp3
      have HB2 := Lib.hid (HB1.out.trans (hbp.mono HB1.out.size))
      go_wp2_with fail
      go_ret
      exact ⟨rfl, HB2.out⟩
    · have d0 : decide (k < 0) = false := decide_eq_false hk0
      by_cases hk1 : k > (width v : Nat)
      · have d1 : decide (k > (width v : Nat)) = true := decide_eq_true hk1
        rw [vP_out (v := v) (h := h) (l := l) (k := k) (by omega)]
        clear hv b1 b2
        generalize width v = wd at *
        go_enter Try.func56, Try.ntmps56
        go_wp2_with fail
        rw [← hW1]
        clear hW1
        refine wp_region_pick (fun w' => Below W1.heap.size W1 w') (by kernel_rfl) (by kernel_rfl) (Below.refl _ _) ⟨rfl, rfl, rfl, Nat.le_refl _, fun _ _ => rfl⟩ (fun p hp hq => ?_)
        have pp0 : ∀ u, (p u).cell? ⟨w.heap.size, 0, none⟩ = some (.bool v) := fun u => (HX.out.kept (hp u) HX.out.lt).c0
        have pp1 : ∀ u, (p u).cell? ⟨w.heap.size, 1, none⟩ = some (.int .u64 h) := fun u => (HX.out.kept (hp u) HX.out.lt).c1
        have pp2 : ∀ u, (p u).cell? ⟨w.heap.size, 2, none⟩ = some (.int .u64 l) := fun u => (HX.out.kept (hp u) HX.out.lt).c2
        have pp3 : ∀ u, (p u).cell? ⟨w.heap.size, 3, none⟩ = some (.int .i64 k) := fun u => (HX.out.kept (hp u) HX.out.lt).c3
        have HP := Lib.hid hp
        have HQ := Lib.hid hq
        clear hp hq
        repeat (go_big_quiet_step ((first | with_reducible exact Calls.pick_of HQ.out (fun W' hb => (HP.out _).trans (hb.mono (HP.out _).size)) (HF.out _) | with_reducible exact Calls.pick_of HQ.out (fun W' hb => (HP.out _).trans (hb.mono (HP.out _).size)) (HZ.out _))))
        refine wpQuiet_nil ?_
        rintro _ ⟨u, rfl⟩
        have hbp := HP.out u
        generalize p u = w2 at *
        clear HP HQ pp0 pp1 pp2 pp3
        have HB2 := Lib.hid (HB1.out.trans (hbp.mono HB1.out.size))
        go_wp2_with fail
        go_ret
        exact ⟨rfl, HB2.out⟩
      · have d1 : decide (k > (width v : Nat)) = false := decide_eq_false hk1
        obtain ⟨n, rfl⟩ := Int.eq_ofNat_of_zero_le (show 0 ≤ k by omega)
        have hn : n ≤ width v := by omega
        rw [vP_tests v h l n hn, hv, Bool.true_and]
        have hj : ((width v : Nat) : Int) - (n : Int) = ((width v - n : Nat) : Int) := by omega
        have hw : IntKind.i64.wrap (((width v : Nat) : Int) - (n : Int)) = ((width v - n : Nat) : Int) := by rw [hj]; exact IntWalk.i64_in _ (by omega)
        have HM := Lib.hid (fun W => (rmask_any (width v - n) W (by omega)).mono (R' := fun e w' => e = .returned (.tuple #[.int .u64 (2 ^ frH v n - 1 : Nat), .int .u64 (2 ^ frL v n - 1 : Nat)]) ∧ Below W.heap.size W w') fun e w' hh => ⟨hh.1, by rw [hh.2]; exact Below.refl _ _⟩)
        have a1 := and64 h (frH v n) b1 (frH_le v n)
        have a2 := and64 l (frL v n) b2 (frL_le v n)
        have e1 : (((h % 2 ^ frH v n : Nat) : Int) == 0) = decide (h % 2 ^ frH v n = 0) := by rw [Bool.eq_iff_iff, beq_iff_eq, decide_eq_true_eq]; omega
        have e2 : (((l % 2 ^ frL v n : Nat) : Int) == 0) = decide (l % 2 ^ frL v n = 0) := by rw [Bool.eq_iff_iff, beq_iff_eq, decide_eq_true_eq]; omega
        generalize 2 ^ frH v n - 1 = mh at *
        generalize 2 ^ frL v n - 1 = ml at *
        generalize decide (h % 2 ^ frH v n = 0) = zh at *
        generalize decide (l % 2 ^ frL v n = 0) = zl at *
        generalize h % 2 ^ frH v n = rh at *
        generalize l % 2 ^ frL v n = rl at *
        generalize width v - n = j at *
        generalize width v = wd at *
        clear hv b1 b2 hj hn
        go_enter Try.func56, Try.ntmps56
        go_wp2_with fail
        rw [← hW1]
        clear hW1
        refine wp_region_pick (fun w' => Below W1.heap.size W1 w') (by kernel_rfl) (by kernel_rfl) (Below.refl _ _) ⟨rfl, rfl, rfl, Nat.le_refl _, fun _ _ => rfl⟩ (fun p hp hq => ?_)
        have pp0 : ∀ u, (p u).cell? ⟨w.heap.size, 0, none⟩ = some (.bool v) := fun u => (HX.out.kept (hp u) HX.out.lt).c0
        have pp1 : ∀ u, (p u).cell? ⟨w.heap.size, 1, none⟩ = some (.int .u64 h) := fun u => (HX.out.kept (hp u) HX.out.lt).c1
        have pp2 : ∀ u, (p u).cell? ⟨w.heap.size, 2, none⟩ = some (.int .u64 l) := fun u => (HX.out.kept (hp u) HX.out.lt).c2
        have pp3 : ∀ u, (p u).cell? ⟨w.heap.size, 3, none⟩ = some (.int .i64 n) := fun u => (HX.out.kept (hp u) HX.out.lt).c3
        have HP := Lib.hid hp
        have HQ := Lib.hid hq
        clear hp hq
        repeat (go_big_quiet_step ((first | with_reducible exact Calls.pick_of HQ.out (fun W' hb => (HP.out _).trans (hb.mono (HP.out _).size)) (HF.out _) | with_reducible exact Calls.pick_of HQ.out (fun W' hb => (HP.out _).trans (hb.mono (HP.out _).size)) (HZ.out _))))
        refine wpQuiet_nil ?_
        rintro _ ⟨u, rfl⟩
        have hbp := HP.out u
        generalize p u = w2 at *
        clear HP HQ pp0 pp1 pp2 pp3
        have HB2 := Lib.hid (HB1.out.trans (hbp.mono HB1.out.size))
        have HX2 := Lib.hid (HX.out.kept hbp HX.out.lt)
        clear hbp HB1 HX
        go_wp2_with fail
        refine wp_region_pick (fun w' => Below w2.heap.size w2 w') (by kernel_rfl) (by kernel_rfl) (Below.refl _ _) ⟨rfl, rfl, rfl, Nat.le_refl _, fun _ _ => rfl⟩ (fun p hp hq => ?_)
        have pp0 : ∀ u, (p u).cell? ⟨w.heap.size, 0, none⟩ = some (.bool v) := fun u => (HX2.out.kept (hp u) HX2.out.lt).c0
        have pp1 : ∀ u, (p u).cell? ⟨w.heap.size, 1, none⟩ = some (.int .u64 h) := fun u => (HX2.out.kept (hp u) HX2.out.lt).c1
        have pp2 : ∀ u, (p u).cell? ⟨w.heap.size, 2, none⟩ = some (.int .u64 l) := fun u => (HX2.out.kept (hp u) HX2.out.lt).c2
        have pp3 : ∀ u, (p u).cell? ⟨w.heap.size, 3, none⟩ = some (.int .i64 n) := fun u => (HX2.out.kept (hp u) HX2.out.lt).c3
        have HP := Lib.hid hp
        have HQ := Lib.hid hq
        clear hp hq
        repeat (go_big_quiet_step ((first | with_reducible exact Calls.pick_of HQ.out (fun W' hb => (HP.out _).trans (hb.mono (HP.out _).size)) (HZ.out _) | with_reducible exact Calls.pick_of HQ.out (fun W' hb => (HP.out _).trans (hb.mono (HP.out _).size)) (HM.out _))))
        refine wpQuiet_nil ?_
        rintro _ ⟨u, rfl⟩
        have hbp := HP.out u
        generalize p u = w3 at *
        clear HP HQ pp0 pp1 pp2 pp3
        have HB3 := Lib.hid (HB2.out.trans (hbp.mono HB2.out.size))
        have HX3 := Lib.hid (HX2.out.kept hbp HX2.out.lt)
        clear hbp HB2 HX2
        have y0 := HX3.out.c0
        have y1 := HX3.out.c1
        have y2 := HX3.out.c2
        have y3 := HX3.out.c3
        have yl := HX3.out.lt
        cases zh <;> cases zl
        all_goals
          go_wp2_with fail
          go_ret
          exact ⟨rfl, HB3.out⟩
end Go.Proofs.Ytmcelgnifpfjpaa

/- Contract of the reference of layer 7: Block. -/
namespace Go.Proofs.Ytmcelgnifpfjpaa
open Go.ChangeShapes Go.WideShapes Go.ChangeAt Go.RowKit
set_option linter.unusedVariables false

set_option maxHeartbeats 4000000 in
set_option maxRecDepth 20000 in
theorem rblock_any (v : Bool) (h l k : Nat) (w : World) (b1 : h < 18446744073709551616) (b2 : l < 18446744073709551616) (hv : vP ⟨v, h, l, (k : Int)⟩ = true) :
    Calls Try.prog 57 #[.agg #[.bool v, .int .u64 h, .int .u64 l, .int .i64 k]] w fun e w' => e = .returned (.agg #[.bool v, .int .u64 h, .int .u64 l, .bool v, .int .u64 (lowO (frH v k) h : Nat), .int .u64 (lowO (frL v k) l : Nat)]) ∧ Below w.heap.size w w' := by
  obtain ⟨a1, a2, a3, a4⟩ := vldP_out hv
  simp only at a1 a2 a3 a4
  have hwd : width v ≤ 128 := by unfold width; split <;> omega
  have HZ := Lib.hid (fun W => rsize_any v h l W)
  obtain ⟨W1, hW1⟩ : ∃ W, W = (w.alloc (.cells #[.bool v, .int .u64 h, .int .u64 l, .int .i64 k] 37)).alloc (.cells #[.bool false, .int .u64 0, .int .u64 0, .bool false, .int .u64 0, .int .u64 0] 43) := ⟨_, rfl⟩
  have HX := Lib.hid (show PB W1 w.heap.size v h l k from by rw [hW1]; exact pb_new w v h l k |>.kept (below_alloc6 _ _) (alloc_lt6 w _))
  have HR := Lib.hid (show RB W1 (w.heap.size + 1) false 0 0 false 0 0 from by
    rw [hW1]
    have := rb_new (w.alloc (.cells #[.bool v, .int .u64 h, .int .u64 l, .int .i64 k] 37)) false 0 0 false 0 0
    rwa [show (w.alloc (.cells #[.bool v, .int .u64 h, .int .u64 l, .int .i64 k] 37)).heap.size = w.heap.size + 1 by simp] at this)
  have HB1 := Lib.hid (show Below w.heap.size w W1 from by rw [hW1]; exact below2 w _ _)
  have hj : ((width v : Nat) : Int) - (k : Int) = ((width v - k : Nat) : Int) := by omega
  have hw : IntKind.i64.wrap (((width v : Nat) : Int) - (k : Int)) = ((width v - k : Nat) : Int) := by rw [hj]; exact IntWalk.i64_in _ (by omega)
  have HM := Lib.hid (fun W => (rmask_any (width v - k) W (by omega)).mono (R' := fun e w' => e = .returned (.tuple #[.int .u64 (2 ^ frH v k - 1 : Nat), .int .u64 (2 ^ frL v k - 1 : Nat)]) ∧ Below W.heap.size W w') fun e w' hh => ⟨hh.1, by rw [hh.2]; exact Below.refl _ _⟩)
  have o1 := or64 h (frH v k) b1 (frH_le v k) a3
  have o2 := or64 l (frL v k) b2 (frL_le v k) a4
  generalize lowO (frH v k) h = h' at *
  generalize lowO (frL v k) l = l' at *
  generalize 2 ^ frH v k - 1 = mh at *
  generalize 2 ^ frL v k - 1 = ml at *
  generalize width v - k = j at *
  generalize width v = wd at *
  clear a1 a2 a3 a4 hv b1 b2 hj hwd
  go_enter Try.func57, Try.ntmps57
  go_wp2_with fail
  rw [← hW1]
  clear hW1
  refine wp_region_pick (fun w' => Below W1.heap.size W1 w') (by kernel_rfl) (by kernel_rfl) (Below.refl _ _) ⟨rfl, rfl, rfl, Nat.le_refl _, fun _ _ => rfl⟩ (fun p hp hq => ?_)
  have pp0 : ∀ u, (p u).cell? ⟨w.heap.size, 0, none⟩ = some (.bool v) := fun u => (HX.out.kept (hp u) HX.out.lt).c0
  have pp1 : ∀ u, (p u).cell? ⟨w.heap.size, 1, none⟩ = some (.int .u64 h) := fun u => (HX.out.kept (hp u) HX.out.lt).c1
  have pp2 : ∀ u, (p u).cell? ⟨w.heap.size, 2, none⟩ = some (.int .u64 l) := fun u => (HX.out.kept (hp u) HX.out.lt).c2
  have pp3 : ∀ u, (p u).cell? ⟨w.heap.size, 3, none⟩ = some (.int .i64 k) := fun u => (HX.out.kept (hp u) HX.out.lt).c3
  have HP := Lib.hid hp
  have HQ := Lib.hid hq
  clear hp hq
  repeat (go_big_quiet_step ((first | with_reducible exact Calls.pick_of HQ.out (fun W' hb => (HP.out _).trans (hb.mono (HP.out _).size)) (HZ.out _) | with_reducible exact Calls.pick_of HQ.out (fun W' hb => (HP.out _).trans (hb.mono (HP.out _).size)) (HM.out _))))
  refine wpQuiet_nil ?_
  rintro _ ⟨u, rfl⟩
  have hbp := HP.out u
  generalize p u = w2 at *
  clear HP HQ pp0 pp1 pp2 pp3
  have HB2 := Lib.hid (HB1.out.trans (hbp.mono HB1.out.size))
  have HX2 := Lib.hid (HX.out.kept hbp HX.out.lt)
  have HR2 := Lib.hid (HR.out.kept hbp HR.out.lt)
  clear hbp HB1 HX HR
  have y0 := HX2.out.c0
  have y1 := HX2.out.c1
  have y2 := HX2.out.c2
  have y3 := HX2.out.c3
  have yl := HX2.out.lt
  have z0 : w2.cell? ⟨w.heap.size + 1, 0, none⟩ = some (.bool false) := (HR2.out.c 0).trans rfl
  have z1 : w2.cell? ⟨w.heap.size + 1, 1, none⟩ = some (.int .u64 0) := (HR2.out.c 1).trans rfl
  have z2 : w2.cell? ⟨w.heap.size + 1, 2, none⟩ = some (.int .u64 0) := (HR2.out.c 2).trans rfl
  have z3 : w2.cell? ⟨w.heap.size + 1, 3, none⟩ = some (.bool false) := (HR2.out.c 3).trans rfl
  have z4 : w2.cell? ⟨w.heap.size + 1, 4, none⟩ = some (.int .u64 0) := (HR2.out.c 4).trans rfl
  have z5 : w2.cell? ⟨w.heap.size + 1, 5, none⟩ = some (.int .u64 0) := (HR2.out.c 5).trans rfl
  have zf0 := HR2.out.f 0
  have zf1 := HR2.out.f 1
  have zf2 := HR2.out.f 2
  have zf3 := HR2.out.f 3
  have zf4 := HR2.out.f 4
  have zf5 := HR2.out.f 5
  have zl := HR2.out.lt
  go_wp2_with fail
  exact bodyPost_ret (res_rng1 rfl _ _ rfl (HR2.out.set v h l v h' l')) rfl ⟨rfl, rset_below HB2.out (by omega) v h l v h' l'⟩
end Go.Proofs.Ytmcelgnifpfjpaa

/- Contract of the reference of layer 7: Prefixes. -/
namespace Go.Proofs.Ytmcelgnifpfjpaa
open Go.ChangeShapes Go.WideShapes Go.ChangeAt Go.RowKit
set_option linter.unusedVariables false

theorem PB.set3 {w : World} {g : Nat} {v : Bool} {hi lo : Nat} {b : Int} (h : PB w g v hi lo b) (k : Int) : PB (w.setCell ⟨g, 3, none⟩ (.int .i64 k)) g v hi lo k := Cells.set h 3 (.int .i64 k)
/-- Block's end, in letters. -/
theorem blk_ends {v : Bool} {h l b : Nat} (f : h < 18446744073709551616 ∧ l < 18446744073709551616) (hv : vP ⟨v, h, l, (b : Int)⟩ = true) : ∃ eh el : Nat, (blk ⟨v, h, l, (b : Int)⟩).hi = ⟨v, eh, el⟩ ∧ (⟨v, eh, el⟩ : Ad).fits ∧
    ∀ W, Calls Try.prog 57 #[.agg #[.bool v, .int .u64 h, .int .u64 l, .int .i64 b]] W fun e w' => e = .returned (.agg #[.bool v, .int .u64 h, .int .u64 l, .bool v, .int .u64 eh, .int .u64 el]) ∧ Below W.heap.size W w' :=
  ⟨lowO (frH v b) h, lowO (frL v b) l, rfl, (blk_some (p := ⟨v, h, l, (b : Int)⟩) f hv).2.2, fun W => rblock_any v h l b W f.1 f.2 hv⟩
theorem OwnP.aset {w : World} {base n c g : Nat} {A : Option Addr} {l : List Pf} (h : OwnP w base A n c l) (hb : ∀ j, (Value.slice A n c).ownBlock = some j → j ≠ g) (v : Bool) (hi lo : Nat) : OwnP (aset w g v hi lo) base A n c l := ((h.far2 hb _).far2 hb _).far2 hb _
set_option maxHeartbeats 16000000 in
set_option maxRecDepth 20000 in
theorem rprefixes_any (A : Option Addr) (cap : Nat) (l : List Rg) (w : World) (h : RowL ER w A l) (hf : ∀ r ∈ l, r.fits) (hl : l.length ≤ 1000) :
    Calls Try.prog 28 #[.slice A l.length cap] w fun e w' => ∃ L : List Rg, ∃ A' n' c', GoodL L ∧ (∀ m, anyS (L.map spn) m = anyS (spnL l) m) ∧ e = .returned (.slice A' n' c') ∧ OwnP w' w.heap.size A' n' c' (prefL L) ∧ Below w.heap.size w w' := by
  have HNO := Lib.hid (rnormal_any A cap l w h hf (by omega))
  obtain ⟨N, hN⟩ : ∃ n, n = l.length := ⟨_, rfl⟩
  have hn6 : N ≤ 1000 := by omega
  rw [← hN] at HNO ⊢
  clear h hf hl hN
  go_enter Try.func28, Try.ntmps28
  go_wp2_with fail
  refine HNO.out.mono ?_
  rintro e w1 ⟨L, A1, n1, cp, g1, g2, g3, rfl, g5, hb⟩
  have HL := Lib.hid g1
  have HLA := Lib.hid g2
  have HRW := Lib.hid g5.row
  have HN1 := Lib.hid g5.1
  have HB1 := Lib.hid hb
  have hn1 : n1 ≤ 1000 := by omega
  clear g1 g2 g3 g5 hb HNO
  go_wp2_with fail
  have HI := Lib.hid (show ([] : List Pf) = rawL (L.take 0) from rfl)
  go_loopw [3, 5] (fun s3 s5 wr => ∃ k n c' : Nat, ∃ A' : Option Addr, ∃ F : List Pf, k ≤ n1 ∧ n ≤ 256 ∧ s5 = .int .i64 k ∧ s3 = .slice A' n c' ∧ Hid (F = rawL (L.take k)) ∧ Hid (Below w1.heap.size w1 wr) ∧ Hid (OwnP wr w1.heap.size A' n c' F)) (fun _ s5 _ => n1 - (intOf s5).toNat)
  case atStart => exact ⟨0, 0, 0, none, [], by omega, by omega, rfl, rfl, HI, Lib.hid (Below.refl _ _), Lib.hid (OwnP.nil w1 w1.heap.size)⟩
  case round =>
    clear HI
    obtain ⟨k, n, c', A', F, hk, hn, rfl, rfl, HI, HB, HO⟩ := hrel
    by_cases hlt : k < n1
    · obtain ⟨⟨⟨v, h3, l3⟩, ⟨v4, h4, l4⟩⟩, hget⟩ : ∃ s, L[k]? = some s := ⟨L[k]'(by have := HN1.out; omega), List.getElem?_eq_getElem _⟩
      obtain ⟨g, o, rfl, hg⟩ := HRW.out.shape (by have := HN1.out; omega)
      have hxm := good_mem HL.out hget
      obtain rfl : v = v4 := (someR_iff.1 hxm.1).2.2.1
      have HCR := Lib.hid (fun W (hb : Below w1.heap.size w1 W) => rg_at HRW.out hget hb)
      obtain ⟨c0, c1, c2, c3, c4, c5⟩ := HCR.out wr HB.out
      have HTK := Lib.hid (rawL_take hget)
      have hki : (k : Int) < (n1 : Int) := by omega
      have hki0 : (0 : Int) ≤ (k : Int) := by omega
      have HLE := Lib.hid (rawL_len L (k + 1))
      have HXM := Lib.hid hxm
      have HWK := Lib.hid (wk_start F hxm.1 hxm.2)
      have HG1 := Lib.hid hg
      have hgw : g < wr.heap.size := Nat.lt_of_lt_of_le hg HB.out.size
      clear hget hxm hg
      go_wp2_with fail
      obtain ⟨gf, hgf⟩ : ∃ g, g = wr.heap.size := ⟨_, rfl⟩
      obtain ⟨W2, hW2⟩ : ∃ W, W = wr.alloc (.cells #[.bool v, .int .u64 h3, .int .u64 l3] 25) := ⟨_, rfl⟩
      have HA2 := Lib.hid (show AB W2 gf v h3 l3 from by rw [hW2, hgf]; exact ab_new wr v h3 l3)
      have HB2 := Lib.hid (show Below w1.heap.size w1 W2 from by rw [hW2]; exact HB.out.alloc HB.out.size _)
      have HO2 := Lib.hid (show OwnP W2 w1.heap.size A' n c' F from by rw [hW2]; exact HO.out.al _)
      have HNE2 := Lib.hid (show ∀ j, (Value.slice A' n c').ownBlock = some j → j ≠ gf from fun j hj => by have := (HO.out.2.lt j hj).2; omega)
      have HGF := Lib.hid (show w1.heap.size ≤ gf from by rw [hgf]; exact HB.out.size)
      rw [← hW2, ← hgf]
      clear c0 c1 c2 c3 c4 c5 hgw hW2 hgf HB HO
      go_loopg [3] (256 - n) (fun gk s3 wr => ∃ h l n c' : Nat, ∃ A' : Option Addr, ∃ F2 : List Pf, n ≤ 256 ∧ s3 = .slice A' n c' ∧ Hid (gk = 256 - n) ∧ Hid (Wk ⟨⟨v, h3, l3⟩, ⟨v, h4, l4⟩⟩ F F2 h l) ∧ Hid (AB wr gf v h l) ∧ Hid (Below w1.heap.size w1 wr) ∧ Hid (OwnP wr w1.heap.size A' n c' F2) ∧ Hid (∀ j, (Value.slice A' n c').ownBlock = some j → j ≠ gf))
      case atStart => exact ⟨h3, l3, n, c', A', F, hn, rfl, Lib.hid rfl, HWK, HA2, HB2, HO2, HNE2⟩
      case round =>
        clear HWK HA2 HB2 HO2 HNE2 hn
        rename World => wm
        obtain ⟨h, l, n, c', A', F2, hn, rfl, HGK, HW, HA, HB, HO, HNE⟩ := hrel
        have HFT := Lib.hid (HW.out.fits HXM.out.1 HXM.out.2)
        obtain ⟨b0, hb0, hlo, hv0, hk0, hend⟩ := HW.out.next HXM.out.1 HXM.out.2
        have HLO := Lib.hid hlo
        have HV0 := Lib.hid hv0
        have HK0 := Lib.hid hk0
        have HEND := Lib.hid hend
        have hwd : b0 ≤ 128 := by have : width v ≤ 128 := by unfold width; split <;> omega
                                  exact Nat.le_trans hb0 this
        obtain ⟨y0, y1, y2⟩ : wm.cell? ⟨gf, 0, none⟩ = some (.bool v) ∧ wm.cell? ⟨gf, 1, none⟩ = some (.int .u64 h) ∧ wm.cell? ⟨gf, 2, none⟩ = some (.int .u64 l) := ⟨HA.out.c0, HA.out.c1, HA.out.c2⟩
        have yl := HA.out.lt
        clear hlo hv0 hk0 hend hb0 HW
        go_wp2_with fail
        obtain ⟨gp, hgp⟩ : ∃ g, g = wm.heap.size := ⟨_, rfl⟩
        obtain ⟨W4, hW4⟩ : ∃ W, W = wm.alloc (.cells #[.bool v, .int .u64 h, .int .u64 l, .int .i64 0] 37) := ⟨_, rfl⟩
        have HP4 := Lib.hid (show PB W4 gp v h l ((0 : Nat) : Int) from by rw [hW4, hgp]; exact pb_new wm v h l 0)
        have HB4 := Lib.hid (show Below gp wm W4 from by rw [hW4, hgp]; exact below_alloc6 _ _)
        have HGP := Lib.hid hgp
        rw [← hW4, ← hgp]
        clear y0 y1 y2 yl hgp hW4
        go_loopg [40] b0 (fun gk _ wq => ∃ b : Nat, b ≤ b0 ∧ Hid (gk = b0 - b) ∧ Hid (PB wq gp v h l (b : Int)) ∧ Hid (Below gp wm wq))
        case atStart => exact ⟨0, by omega, Lib.hid rfl, HP4, HB4⟩
        case round =>
          clear HP4 HB4
          rename World => wq
          obtain ⟨b, hb, HGK2, HP, HB5⟩ := hrel
          have HB6 := Lib.hid (show Below w1.heap.size w1 wq from HB.out.trans (HB5.out.mono (by rw [HGP.out]; exact HB.out.size)))
          have HRI := Lib.hid (fun W => rright_any v h l (b : Int) W HFT.out.1 HFT.out.2 (by omega))
          have hgq : g < wq.heap.size := Nat.lt_of_lt_of_le HG1.out HB6.out.size
          obtain ⟨-, -, -, d3, d4, d5⟩ := HCR.out wq HB6.out
          by_cases hlast : b = b0
          · rw [hlast] at HRI HP
            clear hlast HGK2 hb
            rw [HV0.out] at HRI
            obtain ⟨eh, el, hbk, hef, hbl⟩ := blk_ends HFT.out HV0.out
            have HBL := Lib.hid hbl
            have hk0 := HK0.out
            rw [hbk] at hk0
            have HBE := Lib.hid (fun W => rbef_key (a := ⟨v, h4, l4⟩) (b := ⟨v, eh, el⟩) HXM.out.2.2 hef W)
            rw [decide_eq_false (show ¬ kA ⟨v, h4, l4⟩ < kA ⟨v, eh, el⟩ by omega)] at HBE
            have hend := HEND.out
            rw [hbk] at hend
            have HEND := Lib.hid hend
            have HEF := Lib.hid hef
            have hfd := fun W => rng_hi v h l v eh el W
            clear hbk hef hbl hk0 hend HV0 HK0
            go_wp2_with fail
            refine wp_region_pick (fun w' => Below wq.heap.size wq w') (by kernel_rfl) (by kernel_rfl) (Below.refl _ _) ⟨rfl, rfl, rfl, Nat.le_refl _, fun _ _ => rfl⟩ (fun p hp hq => ?_)
            have pp0 : ∀ u, (p u).cell? ⟨gp, 0, none⟩ = some (.bool v) := fun u => (HP.out.kept (hp u) HP.out.lt).c0
            have pp1 : ∀ u, (p u).cell? ⟨gp, 1, none⟩ = some (.int .u64 h) := fun u => (HP.out.kept (hp u) HP.out.lt).c1
            have pp2 : ∀ u, (p u).cell? ⟨gp, 2, none⟩ = some (.int .u64 l) := fun u => (HP.out.kept (hp u) HP.out.lt).c2
            have pp3 : ∀ u, (p u).cell? ⟨gp, 3, none⟩ = some (.int .i64 b0) := fun u => (HP.out.kept (hp u) HP.out.lt).c3
            have pp4 : ∀ u, (p u).cell? ⟨g, o + k * 6 + 3, none⟩ = some (.bool v) := fun u => ((hp u).cell (p := ⟨g, o + k * 6 + 3, none⟩) hgq).trans d3
            have pp5 : ∀ u, (p u).cell? ⟨g, o + k * 6 + 4, none⟩ = some (.int .u64 h4) := fun u => ((hp u).cell (p := ⟨g, o + k * 6 + 4, none⟩) hgq).trans d4
            have pp6 : ∀ u, (p u).cell? ⟨g, o + k * 6 + 5, none⟩ = some (.int .u64 l4) := fun u => ((hp u).cell (p := ⟨g, o + k * 6 + 5, none⟩) hgq).trans d5
            have HP := Lib.hid hp
            have HQ := Lib.hid hq
            clear hp hq
            repeat (go_big_quiet_step ((first | with_reducible exact Calls.pick_of HQ.out (fun W' hb => (HP.out _).trans (hb.mono (HP.out _).size)) (HRI.out _) | with_reducible exact Calls.pick_of HQ.out (fun W' hb => (HP.out _).trans (hb.mono (HP.out _).size)) (HBL.out _) | with_reducible exact Calls.pick_of HQ.out (fun W' hb => (HP.out _).trans (hb.mono (HP.out _).size)) (HBE.out _))))
            refine wpQuiet_nil ?_
            rintro _ ⟨u, rfl⟩
            have hbp := HP.out u
            generalize p u = w6 at *
            clear HP HQ pp0 pp1 pp2 pp3 pp4 pp5 pp6
            have HP6 := Lib.hid (HP.out.kept hbp HP.out.lt)
            have HB7 := Lib.hid (show Below gp wm w6 from HB5.out.trans (hbp.mono (Nat.le_of_lt HP.out.lt)))
            clear hbp HP HB5 HB6 d3 d4 d5 hgq HRI HBE
            have hgs := HGP.out
            have HO6 := Lib.hid (HO.out.kept (by rw [← hgs]; exact HB7.out))
            have HA6 := Lib.hid (HA.out.kept HB7.out (by rw [hgs]; exact HA.out.lt))
            have HB6 := Lib.hid (show Below w1.heap.size w1 w6 from HB.out.trans (HB7.out.mono (by rw [hgs]; exact HB.out.size)))
            have HNP := Lib.hid (show ∀ j, (Value.slice A' n c').ownBlock = some j → j ≠ gp from fun j hj => by have := (HO.out.2.lt j hj).2; omega)
            have y0 := HP6.out.c0
            have y1 := HP6.out.c1
            have y2 := HP6.out.c2
            have y3 := HP6.out.c3
            have yl := HP6.out.lt
            have hsz := HB6.out.size
            clear hgs HB7 HO HA HB
            go_wp2_with (at_builtin; refine wpList_push (E := EP) pfTy (by rfl) _ _ (by rfl) w1.heap.size _ n F2 [⟨v, h, l, (b0 : Int)⟩] (by rfl) (HO6.out.al _).2 _ 1 1 #[.bool v, .int .u64 h, .int .u64 l, .int .i64 b0] (0, 0) (by rfl) (heap_alloc_new _ _) rfl rfl (by omega) (by omega) (by decide) ?hb ?_)
            case hb => first | omega | (simp; omega)
            intro g2 cap2 wz hown hgrow hat hlt2
            have HPz := Lib.hid (show PB wz gp v h l (b0 : Int) from (hgrow.block gp (HP6.out.al _).lt (fun e => HNP.out gp e.symm rfl)).trans (HP6.out.al _))
            have HAz := Lib.hid (show AB wz gf v h l from (hgrow.block gf (HA6.out.al _).lt (fun e => HNE.out gf e.symm rfl)).trans (HA6.out.al _))
            have HBz := Lib.hid (show Below w1.heap.size w1 wz from HO6.out.below HB6.out HB6.out.size (Nat.le_refl _) hgrow)
            have HOz := Lib.hid (show OwnP wz w1.heap.size (some ⟨g2, 0, none⟩) (n + 1) cap2 (F2 ++ [⟨v, h, l, (b0 : Int)⟩]) from HO6.out.push rfl hown)
            have HNEz := Lib.hid (show ∀ (m c : Nat) j, (Value.slice (some ⟨g2, 0, none⟩) m c).ownBlock = some j → j ≠ gf from fun m c j hj => by
              have hj : g2 = j := by simpa [Value.ownBlock] using hj
              subst hj
              rcases hat with h5 | h5
              · exact HNE.out _ h5
              · have := HA6.out.lt
                try simp at h5
                omega)
            obtain ⟨F3, hF3⟩ : ∃ F3, F3 = F2 ++ [⟨v, h, l, (b0 : Int)⟩] := ⟨_, rfl⟩
            obtain ⟨n3, hn3⟩ : ∃ n3, n3 = n + 1 := ⟨_, rfl⟩
            have hend := HEND.out
            rw [← hF3] at HOz hend
            rw [← hn3] at HOz ⊢
            have HEND := Lib.hid hend
            have HN3 := Lib.hid hn3
            have hn3b : n3 ≤ 257 := by omega
            clear hown hgrow hat hlt2 hF3 hn3 hend HO6 HA6 HB6 HP6 HNE HNP y0 y1 y2 y3 yl hsz
            by_cases hbig : 256 < n3
            · have hd : decide ((256 : Int) < (n3 : Int)) = true := by simp; omega
              have HE := Lib.hid (show prefL L = [] from by
                have h1 := HOz.out.1
                have h2 := HLE.out
                have h4 : F3.length ≤ (F ++ rawR ⟨⟨v, h3, l3⟩, ⟨v, h4, l4⟩⟩).length := by
                  rcases HEND.out with ⟨-, e2⟩ | ⟨-, -, e3⟩
                  · rw [e2]; exact Nat.le_refl _
                  · exact e3.len
                rw [HTK.out, ← HI.out] at h2
                unfold prefL
                rw [if_neg (by omega)])
              clear HI HLE HEND HTK
              go_wp2_with fail
              go_ret
              exact ⟨L, none, 0, 0, HL.out, HLA.out, rfl, by rw [HE.out]; exact OwnP.nil _ _, HB1.out.trans (HBz.out.mono HB1.out.size)⟩
            · have hd : decide ((256 : Int) < (n3 : Int)) = false := by simp; omega
              have y0 := HPz.out.c0
              have y1 := HPz.out.c1
              have y2 := HPz.out.c2
              have y3 := HPz.out.c3
              have yl := HPz.out.lt
              go_wp2_with fail
              refine (HBL.out _).mono ?_
              rintro e w8 ⟨rfl, hb⟩
              have HA8 := Lib.hid (HAz.out.kept hb HAz.out.lt)
              have HB8 := Lib.hid (HBz.out.trans (hb.mono HBz.out.size))
              have HO8 := Lib.hid (HOz.out.kept hb)
              clear hb HAz HBz HOz HPz HBL y0 y1 y2 y3 yl
              go_wp2_with fail
              obtain ⟨ge, hge⟩ : ∃ g, g = w8.heap.size := ⟨_, rfl⟩
              obtain ⟨W9, hW9⟩ : ∃ W, W = w8.alloc (.cells #[.bool v, .int .u64 eh, .int .u64 el] 25) := ⟨_, rfl⟩
              have HE9 := Lib.hid (show AB W9 ge v eh el from by rw [hW9, hge]; exact ab_new w8 v eh el)
              have HA9 := Lib.hid (show AB W9 gf v h l from by rw [hW9]; exact HA8.out.al _)
              have HB9 := Lib.hid (show Below w1.heap.size w1 W9 from by rw [hW9]; exact HB8.out.alloc HB8.out.size _)
              have HO9 := Lib.hid (show OwnP W9 w1.heap.size (some ⟨g2, 0, none⟩) n3 cap2 F3 from by rw [hW9]; exact HO8.out.al _)
              have HGE := Lib.hid (show gf ≠ ge from by have := HA8.out.lt; omega)
              rw [← hW9, ← hge]
              clear hW9 hge HA8 HB8 HO8
              have hgq : g < W9.heap.size := Nat.lt_of_lt_of_le HG1.out HB9.out.size
              obtain ⟨-, -, -, d3, d4, d5⟩ := HCR.out W9 HB9.out
              have hm := addr_guard
              by_cases hq : eh = h4 ∧ el = l4
              · have qe : ∀ W, (binOp .eql 25 (.agg #[.bool v, .int .u64 eh, .int .u64 el]) (.agg #[.bool v, .int .u64 h4, .int .u64 l4])).run Try.prog W = .ok (.bool true) W := fun W => by
                  rw [addr_eql, hq.1, hq.2]
                  simp
                have HF3 := Lib.hid (show F3 = rawL (L.take (k + 1)) from by
                  rw [HTK.out, ← HI.out]
                  rcases HEND.out with ⟨-, e2⟩ | ⟨e1, -, -⟩
                  · exact e2
                  · exact absurd (by rw [hq.1, hq.2]) e1)
                clear hq HEND
                refine wp_region_pick (fun w' => Below W9.heap.size W9 w') (by kernel_rfl) (by kernel_rfl) (Below.refl _ _) ⟨rfl, rfl, rfl, Nat.le_refl _, fun _ _ => rfl⟩ (fun p hp hq => ?_)
                have pp0 : ∀ u, (p u).cell? ⟨ge, 0, none⟩ = some (.bool v) := fun u => (HE9.out.kept (hp u) HE9.out.lt).c0
                have pp1 : ∀ u, (p u).cell? ⟨ge, 1, none⟩ = some (.int .u64 eh) := fun u => (HE9.out.kept (hp u) HE9.out.lt).c1
                have pp2 : ∀ u, (p u).cell? ⟨ge, 2, none⟩ = some (.int .u64 el) := fun u => (HE9.out.kept (hp u) HE9.out.lt).c2
                have pp3 : ∀ u, (p u).cell? ⟨g, o + k * 6 + 3, none⟩ = some (.bool v) := fun u => ((hp u).cell (p := ⟨g, o + k * 6 + 3, none⟩) hgq).trans d3
                have pp4 : ∀ u, (p u).cell? ⟨g, o + k * 6 + 4, none⟩ = some (.int .u64 h4) := fun u => ((hp u).cell (p := ⟨g, o + k * 6 + 4, none⟩) hgq).trans d4
                have pp5 : ∀ u, (p u).cell? ⟨g, o + k * 6 + 5, none⟩ = some (.int .u64 l4) := fun u => ((hp u).cell (p := ⟨g, o + k * 6 + 5, none⟩) hgq).trans d5
                have HP := Lib.hid hp
                have HQ := Lib.hid hq
                clear hp hq
                repeat (go_big_quiet_step (fail))
                refine wpQuiet_nil ?_
                rintro _ ⟨u, rfl⟩
                have hbp := HP.out u
                generalize p u = w10 at *
                clear HP HQ pp0 pp1 pp2 pp3 pp4 pp5
                have HB10 := Lib.hid (HB9.out.trans (hbp.mono HB9.out.size))
                have HO10 := Lib.hid (HO9.out.kept hbp)
                clear hbp HB9 HO9 HA9 HE9 d3 d4 d5 qe hgq
                go_wp2_with fail
                go_roundw
                case rel => exact ⟨k + 1, n3, cap2, some ⟨g2, 0, none⟩, F3, by omega, by omega, by go_num, rfl, HF3, HB10, HO10⟩
                case measure => simp [intOf]; omega
              · have qe : ∀ W, (binOp .eql 25 (.agg #[.bool v, .int .u64 eh, .int .u64 el]) (.agg #[.bool v, .int .u64 h4, .int .u64 l4])).run Try.prog W = .ok (.bool false) W := fun W => by
                  rw [addr_eql]
                  congr 2
                  rw [Bool.and_eq_false_iff, Bool.and_eq_false_iff]
                  simp
                  omega
                have hwk : (aftR ⟨v, eh, el⟩).v = v ∧ Wk ⟨⟨v, h3, l3⟩, ⟨v, h4, l4⟩⟩ F F3 (aftR ⟨v, eh, el⟩).h (aftR ⟨v, eh, el⟩).l := by
                  rcases HEND.out with ⟨e1, -⟩ | ⟨-, e2, e3⟩
                  · exfalso
                    apply hq
                    simp only [Ad.mk.injEq, true_and] at e1
                    exact e1
                  · exact ⟨e2, e3⟩
                have HAF := Lib.hid (fun W => raft_any v eh el W HEF.out.1 HEF.out.2)
                rw [hwk.1] at HAF
                have hwk := hwk.2
                generalize (aftR ⟨v, eh, el⟩).h = ah at *
                generalize (aftR ⟨v, eh, el⟩).l = al at *
                have HWK := Lib.hid hwk
                clear hq HEND hwk
                refine wp_region_pick (fun w' => Below W9.heap.size W9 w') (by kernel_rfl) (by kernel_rfl) (Below.refl _ _) ⟨rfl, rfl, rfl, Nat.le_refl _, fun _ _ => rfl⟩ (fun p hp hq => ?_)
                have pp0 : ∀ u, (p u).cell? ⟨ge, 0, none⟩ = some (.bool v) := fun u => (HE9.out.kept (hp u) HE9.out.lt).c0
                have pp1 : ∀ u, (p u).cell? ⟨ge, 1, none⟩ = some (.int .u64 eh) := fun u => (HE9.out.kept (hp u) HE9.out.lt).c1
                have pp2 : ∀ u, (p u).cell? ⟨ge, 2, none⟩ = some (.int .u64 el) := fun u => (HE9.out.kept (hp u) HE9.out.lt).c2
                have pp3 : ∀ u, (p u).cell? ⟨g, o + k * 6 + 3, none⟩ = some (.bool v) := fun u => ((hp u).cell (p := ⟨g, o + k * 6 + 3, none⟩) hgq).trans d3
                have pp4 : ∀ u, (p u).cell? ⟨g, o + k * 6 + 4, none⟩ = some (.int .u64 h4) := fun u => ((hp u).cell (p := ⟨g, o + k * 6 + 4, none⟩) hgq).trans d4
                have pp5 : ∀ u, (p u).cell? ⟨g, o + k * 6 + 5, none⟩ = some (.int .u64 l4) := fun u => ((hp u).cell (p := ⟨g, o + k * 6 + 5, none⟩) hgq).trans d5
                have HP := Lib.hid hp
                have HQ := Lib.hid hq
                clear hp hq
                repeat (go_big_quiet_step (fail))
                refine wpQuiet_nil ?_
                rintro _ ⟨u, rfl⟩
                have hbp := HP.out u
                generalize p u = w10 at *
                clear HP HQ pp0 pp1 pp2 pp3 pp4 pp5
                have HB10 := Lib.hid (HB9.out.trans (hbp.mono HB9.out.size))
                have HO10 := Lib.hid (HO9.out.kept hbp)
                have HA10 := Lib.hid (HA9.out.kept hbp HA9.out.lt)
                have HE10 := Lib.hid (HE9.out.kept hbp HE9.out.lt)
                clear hbp HB9 HO9 HA9 HE9 d3 d4 d5 qe hgq
                have y0 := HE10.out.c0
                have y1 := HE10.out.c1
                have y2 := HE10.out.c2
                have yl := HE10.out.lt
                go_wp2_with fail
                refine (HAF.out _).mono ?_
                rintro e w11 ⟨rfl, hb⟩
                have HB11 := Lib.hid (HB10.out.trans (hb.mono HB10.out.size))
                have HO11 := Lib.hid (HO10.out.kept hb)
                have HA11 := Lib.hid (HA10.out.kept hb HA10.out.lt)
                clear hb HB10 HO10 HA10 HE10 y0 y1 y2 yl
                have y0 := HA11.out.c0
                have y1 := HA11.out.c1
                have y2 := HA11.out.c2
                have z0 := HA11.out.f 0
                have z1 := HA11.out.f 1
                have z2 := HA11.out.f 2
                have yl := HA11.out.lt
                have HAs := Lib.hid (HA11.out.set v ah al)
                have HBs := Lib.hid (aset_below HB11.out HGF.out v ah al)
                have HOs := Lib.hid (HO11.out.aset (HNEz.out _ _) v ah al)
                obtain ⟨Ws, hWs⟩ : ∃ W, W = aset w11 gf v ah al := ⟨_, rfl⟩
                rw [← hWs] at HAs HBs HOs
                unfold aset at hWs
                go_wp2_with fail
                rw [← hWs]
                go_roundg (256 - n3)
                case measure => have := HGK.out; have := HN3.out; omega
                case rel => exact ⟨ah, al, n3, cap2, some ⟨g2, 0, none⟩, F3, by omega, rfl, Lib.hid rfl, HWK, HAs, HBs, HOs, Lib.hid (HNEz.out _ _)⟩
          · have hblt : b < b0 := by omega
            have hw : IntKind.i64.wrap ((b : Int) + 1) = ((b + 1 : Nat) : Int) := by rw [IntWalk.i64_in _ (by omega)]; omega
            cases hv : vP ⟨v, h, l, (b : Int)⟩ with
            | false =>
              rw [hv] at HRI
              clear hv hlast
              go_wp2_with fail
              refine wp_region_pick (fun w' => Below wq.heap.size wq w') (by kernel_rfl) (by kernel_rfl) (Below.refl _ _) ⟨rfl, rfl, rfl, Nat.le_refl _, fun _ _ => rfl⟩ (fun p hp hq => ?_)
              have pp0 : ∀ u, (p u).cell? ⟨gp, 0, none⟩ = some (.bool v) := fun u => (HP.out.kept (hp u) HP.out.lt).c0
              have pp1 : ∀ u, (p u).cell? ⟨gp, 1, none⟩ = some (.int .u64 h) := fun u => (HP.out.kept (hp u) HP.out.lt).c1
              have pp2 : ∀ u, (p u).cell? ⟨gp, 2, none⟩ = some (.int .u64 l) := fun u => (HP.out.kept (hp u) HP.out.lt).c2
              have pp3 : ∀ u, (p u).cell? ⟨gp, 3, none⟩ = some (.int .i64 b) := fun u => (HP.out.kept (hp u) HP.out.lt).c3
              have HP := Lib.hid hp
              have HQ := Lib.hid hq
              clear hp hq
              repeat (go_big_quiet_step ((first | with_reducible exact Calls.pick_of HQ.out (fun W' hb => (HP.out _).trans (hb.mono (HP.out _).size)) (HRI.out _))))
              refine wpQuiet_nil ?_
              rintro _ ⟨u, rfl⟩
              have hbp := HP.out u
              generalize p u = w6 at *
              clear HP HQ pp0 pp1 pp2 pp3
              have HP6 := Lib.hid (HP.out.kept hbp HP.out.lt)
              have HB7 := Lib.hid (show Below gp wm w6 from HB5.out.trans (hbp.mono (Nat.le_of_lt HP.out.lt)))
              clear hbp HP HB5 HB6 d3 d4 d5 hgq HRI
              have y0 := HP6.out.c0
              have y1 := HP6.out.c1
              have y2 := HP6.out.c2
              have y3 := HP6.out.c3
              have z3 := HP6.out.f 3
              have yl := HP6.out.lt
              go_wp2_with fail
              go_roundg (b0 - (b + 1))
              case measure => have := HGK2.out; omega
              case rel => exact ⟨b + 1, by omega, Lib.hid rfl, Lib.hid (HP6.out.set3 _), Lib.hid (HB7.out.setCell (p := ⟨gp, 3, none⟩) (Nat.le_refl _) _)⟩
            | true =>
              rw [hv] at HRI
              obtain ⟨eh, el, hbk, hef, hbl⟩ := blk_ends HFT.out hv
              have HBL := Lib.hid hbl
              have hk0 := HLO.out b hblt hv
              rw [hbk] at hk0
              have HBE := Lib.hid (fun W => rbef_key (a := ⟨v, h4, l4⟩) (b := ⟨v, eh, el⟩) HXM.out.2.2 hef W)
              rw [decide_eq_true hk0] at HBE
              have hfd := fun W => rng_hi v h l v eh el W
              clear hbk hef hbl hk0 hlast hv
              go_wp2_with fail
              refine wp_region_pick (fun w' => Below wq.heap.size wq w') (by kernel_rfl) (by kernel_rfl) (Below.refl _ _) ⟨rfl, rfl, rfl, Nat.le_refl _, fun _ _ => rfl⟩ (fun p hp hq => ?_)
              have pp0 : ∀ u, (p u).cell? ⟨gp, 0, none⟩ = some (.bool v) := fun u => (HP.out.kept (hp u) HP.out.lt).c0
              have pp1 : ∀ u, (p u).cell? ⟨gp, 1, none⟩ = some (.int .u64 h) := fun u => (HP.out.kept (hp u) HP.out.lt).c1
              have pp2 : ∀ u, (p u).cell? ⟨gp, 2, none⟩ = some (.int .u64 l) := fun u => (HP.out.kept (hp u) HP.out.lt).c2
              have pp3 : ∀ u, (p u).cell? ⟨gp, 3, none⟩ = some (.int .i64 b) := fun u => (HP.out.kept (hp u) HP.out.lt).c3
              have pp4 : ∀ u, (p u).cell? ⟨g, o + k * 6 + 3, none⟩ = some (.bool v) := fun u => ((hp u).cell (p := ⟨g, o + k * 6 + 3, none⟩) hgq).trans d3
              have pp5 : ∀ u, (p u).cell? ⟨g, o + k * 6 + 4, none⟩ = some (.int .u64 h4) := fun u => ((hp u).cell (p := ⟨g, o + k * 6 + 4, none⟩) hgq).trans d4
              have pp6 : ∀ u, (p u).cell? ⟨g, o + k * 6 + 5, none⟩ = some (.int .u64 l4) := fun u => ((hp u).cell (p := ⟨g, o + k * 6 + 5, none⟩) hgq).trans d5
              have HP := Lib.hid hp
              have HQ := Lib.hid hq
              clear hp hq
              repeat (go_big_quiet_step ((first | with_reducible exact Calls.pick_of HQ.out (fun W' hb => (HP.out _).trans (hb.mono (HP.out _).size)) (HRI.out _) | with_reducible exact Calls.pick_of HQ.out (fun W' hb => (HP.out _).trans (hb.mono (HP.out _).size)) (HBL.out _) | with_reducible exact Calls.pick_of HQ.out (fun W' hb => (HP.out _).trans (hb.mono (HP.out _).size)) (HBE.out _))))
              refine wpQuiet_nil ?_
              rintro _ ⟨u, rfl⟩
              have hbp := HP.out u
              generalize p u = w6 at *
              clear HP HQ pp0 pp1 pp2 pp3 pp4 pp5 pp6
              have HP6 := Lib.hid (HP.out.kept hbp HP.out.lt)
              have HB7 := Lib.hid (show Below gp wm w6 from HB5.out.trans (hbp.mono (Nat.le_of_lt HP.out.lt)))
              clear hbp HP HB5 HB6 d3 d4 d5 hgq HRI
              have y0 := HP6.out.c0
              have y1 := HP6.out.c1
              have y2 := HP6.out.c2
              have y3 := HP6.out.c3
              have z3 := HP6.out.f 3
              have yl := HP6.out.lt
              go_wp2_with fail
              go_roundg (b0 - (b + 1))
              case measure => have := HGK2.out; omega
              case rel => exact ⟨b + 1, by omega, Lib.hid rfl, Lib.hid (HP6.out.set3 _), Lib.hid (HB7.out.setCell (p := ⟨gp, 3, none⟩) (Nat.le_refl _) _)⟩
    · have hkn : k = L.length := by have := HN1.out; omega
      have HE := Lib.hid (show F = prefL L from by
        have h1 := HI.out
        rw [hkn, List.take_length] at h1
        have h2 := HO.out.1
        unfold prefL
        rw [if_pos (by rw [← h1, ← h2]; exact hn), h1])
      have hd : decide ((k : Int) < (n1 : Int)) = false := by simp; omega
      clear hkn HI
      go_wp2_with fail
      go_ret
      exact ⟨L, A', n, c', HL.out, HLA.out, rfl, ⟨by rw [← HE.out]; exact HO.out.1, by rw [← HE.out]; exact own_mono HO.out.2 HB1.out.size⟩, HB1.out.trans (HB.out.mono HB1.out.size)⟩
end Go.Proofs.Ytmcelgnifpfjpaa

/- '!=' of two equal prefixes. -/
namespace Go.Proofs.Ytmcelgnifpfjpaa
open Go.ChangeShapes Go.WideShapes Go.ChangeAt Go.RowKit
set_option linter.unusedVariables false

set_option maxRecDepth 20000 in
theorem pfx_neq (v : Bool) (h l k : Int) (W : World) :
    (binOp .neq 37 (.agg #[.bool v, .int .u64 h, .int .u64 l, .int .i64 k]) (.agg #[.bool v, .int .u64 h, .int .u64 l, .int .i64 k])).run Try.prog W = .ok (.bool false) W := by
  have u3 := Try.underlying23
  have a3 := Try.isAgg23
  have z3 := Try.sizeOf23
  have u2 := Try.underlying3
  have a2 := Try.isAgg3
  have z2 := Try.sizeOf3
  have u9 := Try.underlying4
  have a9 := Try.isAgg4
  have z9 := Try.sizeOf4
  have u8 := Try.underlying25
  have a8 := Try.isAgg25
  have z8 := Try.sizeOf25
  have hS : Try.prog.underlying 37 = some (.struct (Try.prog.fieldsOf 37)) := by kernel_rfl
  have hp : Try.prog.stoodInHeld 37 = false := by kernel_rfl
  have hS2 : Try.prog.underlying 25 = some (.struct (Try.prog.fieldsOf 25)) := by kernel_rfl
  have hp2 : Try.prog.stoodInHeld 25 = false := by kernel_rfl
  rw [run_neq_struct, show (10000 : Nat) = 9999 + 1 from rfl, run_equalIn_agg W 9999 37 _ _ hS hp]
  simp only [Program.fieldsOf, Try.underlying37]
  go_simp
end Go.Proofs.Ytmcelgnifpfjpaa
