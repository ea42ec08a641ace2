/- Contracts of the reference of layer 6: Next, Previous. -/
import Derived.Test.YtcblgbonijloiaaDoorAdrObj
namespace Go.Proofs.YtcblgbonijloiaaDoor
open Go.ChangeShapes Go.WideShapes Go.ChangeAt Go.RowKit
set_option linter.unusedVariables false

/-- An address, or none, as a result with its flag. -/
def aRes : Option (Bool × Nat × Nat) → Value
  | some (v6, hi, lo) => .tuple #[.agg #[.bool v6, .int .u64 hi, .int .u64 lo], .bool true]
  | none => .tuple #[.agg #[.bool false, .int .u64 0, .int .u64 0], .bool false]
def nxtA (v6 : Bool) (hi lo : Nat) : Option (Bool × Nat × Nat) :=
  if lo + 1 < 18446744073709551616 then (if v6 = false ∧ lo + 1 = 4294967296 then none else some (v6, hi, lo + 1))
  else if v6 then (if hi + 1 < 18446744073709551616 then some (v6, hi + 1, 0) else none) else some (v6, hi, 0)
def prvA (v6 : Bool) (hi lo : Nat) : Option (Bool × Nat × Nat) :=
  if lo = 0 then (if hi = 0 then none else some (v6, hi - 1, 18446744073709551615)) else some (v6, hi, lo - 1)
theorem zero_addr (w : World) : AB (w.alloc (.cells #[.bool false, .int .u64 0, .int .u64 0] 25)) w.heap.size false 0 0 := ab_new w false 0 0
theorem ab2 (w : World) (o : Obj) (v6 : Bool) (hi lo : Nat) : AB ((w.alloc o).alloc (.cells #[.bool v6, .int .u64 hi, .int .u64 lo] 25)) (w.heap.size + 1) v6 hi lo := by
  have := ab_new (w.alloc o) v6 hi lo
  rwa [show (w.alloc o).heap.size = w.heap.size + 1 by simp] at this
theorem below2 (w : World) (a b : Obj) : Below w.heap.size w ((w.alloc a).alloc b) := (below_alloc6 w a).trans ((below_alloc6 _ b).mono (by simp))
theorem wrap_u64_up {n : Nat} (h : n + 1 = 18446744073709551616) : IntKind.u64.wrap ((n : Int) + 1) = 0 := by
  simp [IntKind.wrap, IntKind.bits, IntKind.signed]; omega
theorem wrap_u64_in {n : Int} (h0 : 0 ≤ n) (h : n < 18446744073709551616) : IntKind.u64.wrap n = n := by
  simp [IntKind.wrap, IntKind.bits, IntKind.signed]; omega
set_option maxRecDepth 20000 in
theorem rnext6_any (v6 : Bool) (hi lo : Nat) (w : World) (h1 : hi < 18446744073709551616) (h2 : lo < 18446744073709551616) :
    Calls Tryd.prog 32 #[.agg #[.bool v6, .int .u64 hi, .int .u64 lo]] w fun e w' => e = .returned (aRes (nxtA v6 hi lo)) ∧ Below w.heap.size w w' := by
  unfold nxtA
  by_cases a : lo + 1 < 18446744073709551616
  · rw [if_pos a]
    have e0 : ((lo : Int) + 1 == 0) = false := by simp; omega
    cases v6 with
    | true =>
      rw [if_neg (by simp)]
      go_enter Tryd.func32, Tryd.ntmps32
      go_wp2_with fail
      exact bodyPost_ret (res_addr2 rfl _ _ rfl (ab2 w _ true (hi) (lo + 1))) rfl ⟨rfl, below2 w _ _⟩
    | false =>
      by_cases c : lo + 1 = 4294967296
      · rw [if_pos ⟨rfl, c⟩]
        have e1 : ((lo : Int) + 1 == 4294967296) = true := by simp; omega
        clear c
        go_enter Tryd.func32, Tryd.ntmps32
        go_wp2_with fail
        exact bodyPost_ret (res_addr2 rfl _ _ rfl (ab2 w _ false 0 0)) rfl ⟨rfl, below2 w _ _⟩
      · rw [if_neg (fun h => c h.2)]
        have e1 : ((lo : Int) + 1 == 4294967296) = false := by simp; omega
        clear c
        go_enter Tryd.func32, Tryd.ntmps32
        go_wp2_with fail
        exact bodyPost_ret (res_addr2 rfl _ _ rfl (ab2 w _ false (hi) (lo + 1))) rfl ⟨rfl, below2 w _ _⟩
  · rw [if_neg a]
    have hw := wrap_u64_up (n := lo) (by omega)
    have hm : ((lo : Int) + 1) % 18446744073709551616 = 0 := by omega
    clear a h2
    cases v6 with
    | true =>
      rw [if_pos rfl]
      by_cases c : hi + 1 < 18446744073709551616
      · rw [if_pos c]
        have e1 : ((hi : Int) + 1 == 0) = false := by simp; omega
        go_enter Tryd.func32, Tryd.ntmps32
        go_wp2_with fail
        exact bodyPost_ret (res_addr2 rfl _ _ rfl (ab2 w _ true (hi + 1) (0))) rfl ⟨rfl, below2 w _ _⟩
      · rw [if_neg c]
        have hw2 := wrap_u64_up (n := hi) (by omega)
        have hm2 : ((hi : Int) + 1) % 18446744073709551616 = 0 := by omega
        clear c h1
        go_enter Tryd.func32, Tryd.ntmps32
        go_wp2_with fail
        exact bodyPost_ret (res_addr2 rfl _ _ rfl (ab2 w _ false 0 0)) rfl ⟨rfl, below2 w _ _⟩
    | false =>
      rw [if_neg (by simp)]
      go_enter Tryd.func32, Tryd.ntmps32
      go_wp2_with fail
      exact bodyPost_ret (res_addr2 rfl _ _ rfl (ab2 w _ false (hi) (0))) rfl ⟨rfl, below2 w _ _⟩

set_option maxRecDepth 20000 in
theorem rprev6_any (v6 : Bool) (hi lo : Nat) (w : World) (h1 : hi < 18446744073709551616) (h2 : lo < 18446744073709551616) :
    Calls Tryd.prog 36 #[.agg #[.bool v6, .int .u64 hi, .int .u64 lo]] w fun e w' => e = .returned (aRes (prvA v6 hi lo)) ∧ Below w.heap.size w w' := by
  unfold prvA
  by_cases a : lo = 0
  · subst a
    rw [if_pos rfl]
    by_cases c : hi = 0
    · subst c
      rw [if_pos rfl]
      go_enter Tryd.func36, Tryd.ntmps36
      go_wp2_with fail
      exact bodyPost_ret (res_addr2 rfl _ _ rfl (ab2 w _ false 0 0)) rfl ⟨rfl, below2 w _ _⟩
    · rw [if_neg c]
      have e1 : ((hi : Int) == 0) = false := by simp; omega
      obtain ⟨k, rfl⟩ : ∃ k, hi = k + 1 := ⟨hi - 1, by omega⟩
      obtain ⟨q, hq⟩ : ∃ q, q = k + 1 := ⟨_, rfl⟩
      rw [← hq] at e1 ⊢
      have hk : (q : Int) - 1 = (k : Int) := by omega
      have hk2 : q - 1 = k := by omega
      have hkl : k < 18446744073709551616 := by omega
      rw [hk2]
      clear hq c h1 hk2
      go_enter Tryd.func36, Tryd.ntmps36
      go_wp2_with fail
      exact bodyPost_ret (res_addr2 rfl _ _ rfl (ab2 w _ v6 (k) (18446744073709551615))) rfl ⟨rfl, below2 w _ _⟩
  · rw [if_neg a]
    have e1 : ((lo : Int) == 0) = false := by simp; omega
    obtain ⟨k, hk⟩ : ∃ k, k = lo - 1 := ⟨_, rfl⟩
    have hk2 : (lo : Int) - 1 = (k : Int) := by omega
    have hkl : k < 18446744073709551616 := by omega
    rw [← hk]
    clear hk a h2
    go_enter Tryd.func36, Tryd.ntmps36
    go_wp2_with fail
    exact bodyPost_ret (res_addr2 rfl _ _ rfl (ab2 w _ v6 (hi) (k))) rfl ⟨rfl, below2 w _ _⟩
end Go.Proofs.YtcblgbonijloiaaDoor
