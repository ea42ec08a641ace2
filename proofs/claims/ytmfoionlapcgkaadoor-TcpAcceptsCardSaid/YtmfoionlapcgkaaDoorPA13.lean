/- Contracts of the functions, part 13: AdrNext, SetMath, AdqObj. -/
import Derived.Test.YtmfoionlapcgkaaDoorPA5
import Derived.Test.YtmfoionlapcgkaaDoorPA12
/- Contracts of the reference of layer 6: Next, Previous. -/
namespace Go.Proofs.YtmfoionlapcgkaaDoor
open Go.ChangeShapes Go.WideShapes Go.ChangeAt Go.RowKit
set_option linter.unusedVariables false

/-- An address, or none, as a result with its flag. -/
def aRes : Option (Bool × Nat × Nat) → Value
  | some (v6, hi, lo) => .tuple #[.agg #[.bool v6, .int .u64 hi, .int .u64 lo], .bool true]
  | none => .tuple #[.agg #[.bool false, .int .u64 0, .int .u64 0], .bool false]
def nxtA (v6 : Bool) (hi lo : Nat) : Option (Bool × Nat × Nat) :=
  if lo + 1 < 18446744073709551616 then (if v6 = false ∧ lo + 1 = 4294967296 then none else some (v6, hi, lo + 1))
  else if v6 then (if hi + 1 < 18446744073709551616 then some (v6, hi + 1, 0) else none) else some (v6, hi, 0)
def prvA (v6 : Bool) (hi lo : Nat) : Option (Bool × Nat × Nat) :=
  if lo = 0 then (if hi = 0 then none else some (v6, hi - 1, 18446744073709551615)) else some (v6, hi, lo - 1)
theorem zero_addr (w : World) : AB (w.alloc (.cells #[.bool false, .int .u64 0, .int .u64 0] 24)) w.heap.size false 0 0 := ab_new w false 0 0
theorem ab2 (w : World) (o : Obj) (v6 : Bool) (hi lo : Nat) : AB ((w.alloc o).alloc (.cells #[.bool v6, .int .u64 hi, .int .u64 lo] 24)) (w.heap.size + 1) v6 hi lo := by
  have := ab_new (w.alloc o) v6 hi lo
  rwa [show (w.alloc o).heap.size = w.heap.size + 1 by simp] at this
theorem below2 (w : World) (a b : Obj) : Below w.heap.size w ((w.alloc a).alloc b) := (below_alloc6 w a).trans ((below_alloc6 _ b).mono (by simp))
theorem wrap_u64_up {n : Nat} (h : n + 1 = 18446744073709551616) : IntKind.u64.wrap ((n : Int) + 1) = 0 := by
  simp [IntKind.wrap, IntKind.bits, IntKind.signed]; omega
theorem wrap_u64_in {n : Int} (h0 : 0 ≤ n) (h : n < 18446744073709551616) : IntKind.u64.wrap n = n := by
  simp [IntKind.wrap, IntKind.bits, IntKind.signed]; omega
end Go.Proofs.YtmfoionlapcgkaaDoor

/- Plain mathematics of the sets of addresses of layer 7: addresses as numbers, ranges as spans; no Go in sight. -/
namespace Go.Proofs.YtmfoionlapcgkaaDoor
set_option linter.unusedVariables false

/-- An address; a range; numbers that fit into 64 bits. -/
structure Ad where
  v : Bool
  h : Nat
  l : Nat
structure Rg where
  lo : Ad
  hi : Ad
def Ad.fits (a : Ad) : Prop := a.h < 18446744073709551616 ∧ a.l < 18446744073709551616
def Rg.fits (r : Rg) : Prop := r.lo.fits ∧ r.hi.fits
/-- An address as a number: IPv4 first, then IPv6; the families do not touch. -/
def kA (a : Ad) : Int := (if a.v then 340282366920938463463374607431768211456 else 0) + (18446744073709551616 * (a.h : Int) + (a.l : Int))
def vA (a : Ad) : Bool := vldA a.v a.h a.l
def top7 : Int := 680564733841876926926749214863536422911
/-- Does a range denote an address? -/
def someR (r : Rg) : Bool := vA r.lo && (vA r.hi && (r.lo.v == r.hi.v && decide (kA r.lo ≤ kA r.hi)))
def spn (r : Rg) : Spn := ⟨kA r.lo, kA r.hi⟩
def spnL (l : List Rg) : List Spn := (l.filter someR).map spn
/-- A number that is an address. -/
def isU (m : Int) : Bool := (decide (0 ≤ m) && decide (m ≤ 4294967295)) || (decide (340282366920938463463374607431768211456 ≤ m) && decide (m ≤ top7))

theorem kA_v4 {a : Ad} (h : vA a = true) (hv : a.v = false) : 0 ≤ kA a ∧ kA a ≤ 4294967295 ∧ a.h = 0 ∧ kA a = a.l := by
  unfold vA vldA at h
  unfold kA
  rw [hv] at h ⊢
  simp only [Bool.false_or, Bool.and_eq_true, beq_iff_eq, decide_eq_true_eq] at h
  simp only [Bool.false_eq_true, if_false]
  omega
theorem kA_v6 {a : Ad} (hf : a.fits) (hv : a.v = true) : 340282366920938463463374607431768211456 ≤ kA a ∧ kA a ≤ top7 := by
  unfold kA top7
  obtain ⟨h1, h2⟩ := hf
  rw [hv]
  simp only [if_true]
  omega
theorem kA_low {a : Ad} (hf : a.fits) (hv : a.v = false) : kA a < 340282366920938463463374607431768211456 := by
  unfold kA
  obtain ⟨h1, h2⟩ := hf
  rw [hv]
  simp only [Bool.false_eq_true, if_false]
  omega
theorem kA_pos (a : Ad) : 0 ≤ kA a := by
  unfold kA
  split <;> omega
theorem kA_top {a : Ad} (hf : a.fits) : kA a ≤ top7 := by
  cases hv : a.v with
  | true => exact (kA_v6 hf hv).2
  | false => have := kA_low hf hv; unfold top7; omega
theorem kA_U {a : Ad} (hf : a.fits) (h : vA a = true) : isU (kA a) = true := by
  unfold isU
  cases hv : a.v with
  | true =>
    have := kA_v6 hf hv
    rw [Bool.or_eq_true, Bool.and_eq_true, Bool.and_eq_true, decide_eq_true_eq, decide_eq_true_eq, decide_eq_true_eq, decide_eq_true_eq]
    exact .inr this
  | false =>
    have := kA_v4 h hv
    rw [Bool.or_eq_true, Bool.and_eq_true, Bool.and_eq_true, decide_eq_true_eq, decide_eq_true_eq, decide_eq_true_eq, decide_eq_true_eq]
    exact .inl ⟨this.1, this.2.1⟩
theorem kA_inj {a b : Ad} (ha : a.fits) (hb : b.fits) (h : kA a = kA b) : a = b := by
  obtain ⟨av, ah, al⟩ := a
  obtain ⟨bv, bh, bl⟩ := b
  obtain ⟨a1, a2⟩ := ha
  obtain ⟨b1, b2⟩ := hb
  simp only at a1 a2 b1 b2
  unfold kA at h
  simp only at h
  cases av <;> cases bv <;> simp only [Bool.false_eq_true, if_false, if_true] at h
  · rw [show ah = bh by omega, show al = bl by omega]
  · omega
  · omega
  · rw [show ah = bh by omega, show al = bl by omega]
/-- The order by the program's and the reference's tests. -/
theorem cmp_lt (b1 : Bool) (h1 l1 : Nat) (b2 : Bool) (h2 l2 : Nat) : cmpA b1 h1 l1 b2 h2 l2 < 0 ↔ (b1 = false ∧ b2 = true) ∨ (b1 = b2 ∧ (h1 < h2 ∨ (h1 = h2 ∧ l1 < l2))) := by
  unfold cmpA cmpB
  by_cases p : h1 < h2 <;> by_cases q : h1 = h2 <;> by_cases r : l1 < l2 <;> by_cases s : l1 = l2 <;> cases b1 <;> cases b2 <;> simp [p, q, r, s] <;> omega
theorem lt_key {a b : Ad} (ha : a.fits) (hb : b.fits) : ((a.v = false ∧ b.v = true) ∨ (a.v = b.v ∧ (a.h < b.h ∨ (a.h = b.h ∧ a.l < b.l)))) ↔ kA a < kA b := by
  obtain ⟨av, ah, al⟩ := a
  obtain ⟨bv, bh, bl⟩ := b
  obtain ⟨a1, a2⟩ := ha
  obtain ⟨b1, b2⟩ := hb
  simp only at a1 a2 b1 b2
  unfold kA
  cases av <;> cases bv
  · simp only [Bool.false_eq_true, if_false, and_false, false_or, true_and]; omega
  · simp only [Bool.false_eq_true, if_false, if_true, true_and, true_or, true_iff]; omega
  · simp only [Bool.false_eq_true, Bool.true_eq_false, if_false, if_true, false_and, or_false, false_iff]; omega
  · simp only [if_true, Bool.true_eq_false, false_and, false_or, true_and]; omega
theorem cmp_key {a b : Ad} (ha : a.fits) (hb : b.fits) : decide (cmpA a.v a.h a.l b.v b.h b.l < 0) = decide (kA a < kA b) := by
  rw [decide_eq_decide, cmp_lt, lt_key ha hb]
/-- The address behind an address, and the one ahead of it. -/
theorem nxt_key {a : Ad} (hf : a.fits) (hv : vA a = true) : (nxtA a.v a.h a.l = none ∧ (kA a = 4294967295 ∨ kA a = top7)) ∨ ∃ b : Ad, nxtA a.v a.h a.l = some (b.v, b.h, b.l) ∧ b.v = a.v ∧ b.fits ∧ vA b = true ∧ kA b = kA a + 1 := by
  obtain ⟨v, h, l⟩ := a
  obtain ⟨h1, h2⟩ := hf
  simp only at h1 h2
  unfold vA vldA at hv
  unfold nxtA kA top7
  cases v with
  | true =>
    simp only [Bool.true_eq_false, false_and, if_false, if_true]
    by_cases c : l + 1 < 18446744073709551616
    · rw [if_pos c]
      exact .inr ⟨⟨true, h, l + 1⟩, rfl, rfl, ⟨h1, c⟩, rfl, by simp only [if_true]; omega⟩
    · rw [if_neg c]
      by_cases d : h + 1 < 18446744073709551616
      · rw [if_pos d]
        exact .inr ⟨⟨true, h + 1, 0⟩, rfl, rfl, ⟨d, by show (0 : Nat) < _; omega⟩, rfl, by simp only [if_true]; omega⟩
      · rw [if_neg d]
        exact .inl ⟨rfl, .inr (by omega)⟩
  | false =>
    simp only [Bool.false_or, Bool.and_eq_true, beq_iff_eq, decide_eq_true_eq] at hv
    dsimp only
    rw [if_pos (by omega)]
    simp only [true_and, Bool.false_eq_true, if_false]
    by_cases c : l + 1 = 4294967296
    · rw [if_pos c]
      exact .inl ⟨rfl, .inl (by omega)⟩
    · rw [if_neg c]
      refine .inr ⟨⟨false, h, l + 1⟩, rfl, rfl, ⟨h1, by show l + 1 < _; omega⟩, ?_, by simp only [Bool.false_eq_true, if_false]; omega⟩
      unfold vA vldA
      simp only [Bool.false_or, Bool.and_eq_true, beq_iff_eq, decide_eq_true_eq]
      omega
theorem prv_key {a : Ad} (hf : a.fits) (hv : vA a = true) : (prvA a.v a.h a.l = none ∧ (kA a = 0 ∨ kA a = 340282366920938463463374607431768211456)) ∨ ∃ b : Ad, prvA a.v a.h a.l = some (b.v, b.h, b.l) ∧ b.v = a.v ∧ b.fits ∧ vA b = true ∧ kA b = kA a - 1 := by
  obtain ⟨v, h, l⟩ := a
  obtain ⟨h1, h2⟩ := hf
  simp only at h1 h2
  unfold vA vldA at hv
  unfold prvA kA
  by_cases c : l = 0
  · simp only
    rw [if_pos c]
    by_cases d : h = 0
    · rw [if_pos d]
      subst c d
      cases v
      · exact .inl ⟨rfl, .inl rfl⟩
      · exact .inl ⟨rfl, .inr rfl⟩
    · rw [if_neg d]
      cases v with
      | true => exact .inr ⟨⟨true, h - 1, 18446744073709551615⟩, rfl, rfl, ⟨by show h - 1 < _; omega, by show 18446744073709551615 < _; omega⟩, rfl, by simp only [if_true]; omega⟩
      | false =>
        simp only [Bool.false_or, Bool.and_eq_true, beq_iff_eq, decide_eq_true_eq] at hv
        omega
  · simp only
    rw [if_neg c]
    refine .inr ⟨⟨v, h, l - 1⟩, rfl, rfl, ⟨h1, by show l - 1 < _; omega⟩, ?_, by simp only; omega⟩
    unfold vA vldA
    cases v with
    | true => rfl
    | false =>
      simp only [Bool.false_or, Bool.and_eq_true, beq_iff_eq, decide_eq_true_eq] at hv ⊢
      omega

theorem someR_iff {r : Rg} : someR r = true ↔ vA r.lo = true ∧ vA r.hi = true ∧ r.lo.v = r.hi.v ∧ kA r.lo ≤ kA r.hi := by
  unfold someR
  rw [Bool.and_eq_true, Bool.and_eq_true, Bool.and_eq_true, beq_iff_eq, decide_eq_true_eq]
/-- Valid addresses of one number's distance are of one family. -/
theorem near_v {a b : Ad} (ha : a.fits) (hb : b.fits) (va : vA a = true) (vb : vA b = true) (h1 : kA a ≤ kA b + 1) (h2 : kA b ≤ kA a + 1) : a.v = b.v := by
  cases hv : a.v with
  | true =>
    cases hw : b.v with
    | true => rfl
    | false => have := kA_v6 ha hv; have := kA_v4 vb hw; omega
  | false =>
    cases hw : b.v with
    | true => have := kA_v6 hb hw; have := kA_v4 va hv; omega
    | false => rfl
theorem between_v {a b c : Ad} (ha : a.fits) (hb : b.fits) (hc : c.fits) (e : a.v = c.v) (h1 : kA a ≤ kA b) (h2 : kA b ≤ kA c) : b.v = a.v := by
  cases hv : a.v with
  | true =>
    cases hw : b.v with
    | true => rfl
    | false => have := kA_v6 ha hv; have := kA_low hb hw; omega
  | false =>
    cases hw : b.v with
    | true => have := kA_v6 hb hw; have := kA_low hc (e ▸ hv); omega
    | false => rfl

/-- A set of addresses. -/
def GoodL (l : List Rg) : Prop := (∀ r ∈ l, someR r = true ∧ r.fits) ∧ okL top7 0 (l.map spn)
theorem spn_inj : ∀ {a b : List Rg}, (∀ r ∈ a, r.fits) → (∀ r ∈ b, r.fits) → a.map spn = b.map spn → a = b
  | [], [], _, _, _ => rfl
  | [], _ :: _, _, _, h => by simp at h
  | _ :: _, [], _, _, h => by simp at h
  | x :: a, y :: b, h1, h2, h => by
    rw [List.map_cons, List.map_cons] at h
    obtain ⟨e1, e2⟩ := List.cons.inj h
    have f1 := h1 x (by simp)
    have f2 := h2 y (by simp)
    have i1 : kA x.lo = kA y.lo := congrArg Spn.lo e1
    have i2 : kA x.hi = kA y.hi := congrArg Spn.hi e1
    rw [spn_inj (fun r hr => h1 r (by simp [hr])) (fun r hr => h2 r (by simp [hr])) e2]
    obtain ⟨x1, x2⟩ := x
    obtain ⟨y1, y2⟩ := y
    rw [show x1 = y1 from kA_inj f1.1 f2.1 i1, show x2 = y2 from kA_inj f1.2 f2.2 i2]
/-- TWO SETS WITH THE SAME ADDRESSES ARE EQUAL. -/
theorem good_uniq {a b : List Rg} (ha : GoodL a) (hb : GoodL b) (h : ∀ m, anyS (a.map spn) m = anyS (b.map spn) m) : a = b :=
  spn_inj (fun r hr => (ha.1 r hr).2) (fun r hr => (hb.1 r hr).2) (okL_uniq _ _ 0 0 ha.2 hb.2 h)
theorem good_nil : GoodL [] := ⟨fun r hr => by simp at hr, trivial⟩
theorem spnL_good {l : List Rg} (h : GoodL l) : spnL l = l.map spn := by
  unfold spnL
  rw [List.filter_eq_self.2 fun r hr => (h.1 r hr).1]
theorem spnL_cons (r : Rg) (l : List Rg) : spnL (r :: l) = (if someR r then [spn r] else []) ++ spnL l := by
  unfold spnL
  rw [List.filter_cons]
  cases someR r <;> simp
theorem spnL_append (a b : List Rg) : spnL (a ++ b) = spnL a ++ spnL b := by
  unfold spnL
  rw [List.filter_append, List.map_append]
theorem spnL_snoc (l : List Rg) (r : Rg) (m : Int) : anyS (spnL (l ++ [r])) m = (anyS (spnL l) m || (someR r && inS (spn r) m)) := by
  rw [spnL_append, anyS_append, spnL_cons]
  cases someR r <;> simp [spnL, anyS]
theorem inS_U {r : Rg} (hs : someR r = true) (hf : r.fits) {m : Int} (h : inS (spn r) m = true) : isU m = true := by
  rw [inS_iff] at h
  obtain ⟨h1, h2, h3, h4⟩ := someR_iff.1 hs
  simp only [spn] at h
  unfold isU
  rw [Bool.or_eq_true, Bool.and_eq_true, Bool.and_eq_true, decide_eq_true_eq, decide_eq_true_eq, decide_eq_true_eq, decide_eq_true_eq]
  cases hv : r.lo.v with
  | true =>
    have a := kA_v6 hf.1 hv
    have b := kA_v6 hf.2 (h3 ▸ hv)
    omega
  | false =>
    have a := kA_v4 h1 hv
    have b := kA_v4 h2 (h3 ▸ hv)
    omega
theorem any_U {l : List Rg} (hf : ∀ r ∈ l, r.fits) {m : Int} (h : anyS (spnL l) m = true) : isU m = true := by
  unfold anyS spnL at h
  rw [List.any_eq_true] at h
  obtain ⟨s, hs, h⟩ := h
  obtain ⟨r, hr, rfl⟩ := List.mem_map.1 hs
  obtain ⟨hr, h2⟩ := List.mem_filter.1 hr
  exact inS_U h2 (hf r hr) h

/-- Is a list of ranges a set? -/
def okR (l : List Rg) : Bool := l.all someR && okB top7 0 (l.map spn)
theorem okR_iff {l : List Rg} (hf : ∀ r ∈ l, r.fits) : okR l = true ↔ GoodL l := by
  unfold okR GoodL
  rw [Bool.and_eq_true, List.all_eq_true, okB_iff]
  constructor
  · rintro ⟨h1, h2⟩; exact ⟨fun r hr => ⟨h1 r hr, hf r hr⟩, h2⟩
  · rintro ⟨h1, h2⟩; exact ⟨fun r hr => (h1 r hr).1, h2⟩
theorem okR_none {l : List Rg} {r : Rg} (hr : r ∈ l) (h : someR r = false) : okR l = false := by
  cases ho : okR l with
  | false => rfl
  | true =>
    unfold okR at ho
    rw [Bool.and_eq_true, List.all_eq_true] at ho
    rw [ho.1 r hr] at h
    cases h
theorem someR_span {r : Rg} (hs : someR r = true) (hf : r.fits) : 0 ≤ kA r.lo ∧ kA r.lo ≤ kA r.hi ∧ kA r.hi ≤ top7 := ⟨kA_pos _, (someR_iff.1 hs).2.2.2, kA_top hf.2⟩
theorem okR_fall {l : List Rg} {k : Nat} {r : Rg} (hs : l[k]? = some r) (h : ¬ (nxt 0 ((l.take k).map spn) ≤ kA r.lo)) : okR l = false := by
  unfold okR
  have hm : (l.map spn)[k]? = some (spn r) := by simp [hs]
  rw [okB_fall hm (fun hh => h (by rw [List.map_take]; exact hh.1)), Bool.and_false]
theorem good_go {l : List Rg} {k : Nat} {r : Rg} (hs : l[k]? = some r) (h0 : GoodL (l.take k)) (hr : someR r = true) (hf : r.fits) (h : nxt 0 ((l.take k).map spn) ≤ kA r.lo) : GoodL (l.take (k + 1)) := by
  have hk := (List.getElem?_eq_some_iff.1 hs)
  obtain ⟨hk, e⟩ := hk
  rw [List.take_succ_eq_append_getElem hk, e]
  refine ⟨fun x hx => ?_, ?_⟩
  · rw [List.mem_append, List.mem_singleton] at hx
    rcases hx with hx | rfl
    · exact h0.1 x hx
    · exact ⟨hr, hf⟩
  · rw [List.map_append, List.map_singleton, okL_snoc]
    have := someR_span hr hf
    exact ⟨h0.2, h, this.2.1, this.2.2⟩
theorem nxt_takeR {l : List Rg} {k : Nat} {r : Rg} (hs : l[k]? = some r) : nxt 0 ((l.take (k + 1)).map spn) = kA r.hi + 2 := by
  obtain ⟨hk, e⟩ := List.getElem?_eq_some_iff.1 hs
  rw [List.take_succ_eq_append_getElem hk, e, List.map_append, List.map_singleton, nxt_snoc]
  rfl
end Go.Proofs.YtmfoionlapcgkaaDoor

/- Contracts of the program's layer 6: Valid, width, first, isBefore, Compare. -/
namespace Go.Proofs.YtmfoionlapcgkaaDoor
open Go.ChangeShapes Go.WideShapes Go.ChangeAt Go.RowKit
set_option linter.unusedVariables false

set_option maxRecDepth 20000 in
theorem qvalid_any (v6 : Bool) (hi lo : Nat) (w : World) :
    Calls Tryd.prog 54 #[.agg #[.bool v6, .int .u64 hi, .int .u64 lo]] w fun e w' => e = .returned (.bool (vldA v6 hi lo)) ∧ Below w.heap.size w w' := by
  have HB := Lib.hid (below_alloc6 w (.cells #[.bool v6, .int .u64 hi, .int .u64 lo] 24))
  obtain ⟨R, hR⟩ : ∃ R, R = vldA v6 hi lo := ⟨_, rfl⟩
  rw [← hR]
  unfold vldA at hR
  cases v6 with
  | true =>
    obtain rfl : R = true := by rw [hR]; rfl
    clear hR
    go_enter Tryd.func54, Tryd.ntmps54
    go_wp2_with fail
    go_ret
    exact ⟨rfl, HB.out⟩
  | false =>
    by_cases h0 : hi = 0
    · have d0 : ((hi : Int) == 0) = true := by simp; omega
      by_cases h1 : lo < 4294967296
      · obtain rfl : R = true := by rw [hR, h0]; simpa using h1
        have d1 : decide ((lo : Int) < 4294967296) = true := by simp; omega
        clear hR h0
        go_enter Tryd.func54, Tryd.ntmps54
        go_wp2_with fail
        go_ret
        exact ⟨rfl, HB.out⟩
      · obtain rfl : R = false := by rw [hR, h0]; simpa using h1
        have d1 : decide ((lo : Int) < 4294967296) = false := by simp; omega
        clear hR h0
        go_enter Tryd.func54, Tryd.ntmps54
        go_wp2_with fail
        go_ret
        exact ⟨rfl, HB.out⟩
    · obtain rfl : R = false := by rw [hR]; simp [h0]
      have d0 : ((hi : Int) == 0) = false := by simp; omega
      clear hR
      go_enter Tryd.func54, Tryd.ntmps54
      go_wp2_with fail
      go_ret
      exact ⟨rfl, HB.out⟩
/-- Is an address ahead of another? By the tests of the program. -/
def befB (b1 b2 p q r : Bool) : Bool := if b1 == b2 then (if q then r else p) else b2
theorem cmpB_before (b1 b2 p q r s : Bool) (hp : ¬ (p = true ∧ q = true)) : cmpB b1 b2 p q r s = if (b1 == b2 && (q && s)) = true then 0 else if befB b1 b2 p q r = true then -1 else 1 := by
  cases b1 <;> cases b2 <;> cases p <;> cases q <;> cases r <;> cases s <;> first | rfl | (exact absurd ⟨rfl, rfl⟩ hp)
end Go.Proofs.YtmfoionlapcgkaaDoor
