/- Contracts of the functions, part 13: Specs, SpecsT, OvCells. -/
import Derived.StillTailTactics
import Derived.Test.YtafpmlikocchpaaPA12
/- A region that draws its order: ONE obligation for each operation, whatever the order: what each leaves in its slot is said beforehand (a value, or a new row of given cells); calls may make memory. Serves 'string([]byte{..}) + Put(..) + ..', where the orders are too many to be walked. -/
namespace Go.Proofs.Ytafpmlikocchpaa
open Go.ChangeShapes Go.WideShapes Go.ChangeAt Go.RowKit
set_option linter.unusedVariables false

/-- What an operation leaves in its slot. -/
inductive Spec where
  | val (v : Value)
  | row (cs : Array Value) (e : TypeId) (n : Nat)
def Spec.ok (base : Nat) (u : Value) (w : World) : Spec → Prop
  | .val v => u = v
  | .row cs e n => ∃ g, u = .slice (some ⟨g, 0, none⟩) n n ∧ base ≤ g ∧ w.heap[g]? = some (.cells cs e (0, 0))
theorem Spec.kept {base : Nat} {u : Value} {w w' : World} : ∀ {s : Spec}, s.ok base u w → Below w.heap.size w w' → s.ok base u w'
  | .val v, h, _ => h
  | .row cs e n, ⟨g, h1, h2, h3⟩, hb => ⟨g, h1, h2, (hb.block g (Array.getElem?_eq_some_iff.1 h3).1).trans h3⟩
def knownS (l : List Oper) (ss : List Spec) (a0 : Act) (o : Oper) (k : Nat) : Option Spec :=
  match (List.range l.length).find? (fun j => (l[j]?).bind (·.dst) == some k) with
  | some j => if o.after.any (fun e => Region.binds .any e && e.on == j) then ss[j]? else none
  | none => some (.val (a0.tmps.getD k undef))
/-- What is to be shown of one operation. -/
def StepS (P : Program) (l : List Oper) (ss : List Spec) (a0 : Act) (base : Nat) (w0 : World) (Q : Exit → Act → World → Prop) (o : Oper) (s : Spec) : Prop :=
  o.guard = none ∧ ∀ (a : Act) (w : World), Below w0.heap.size w0 w → (∀ k s', knownS l ss a0 o k = some s' → s'.ok base (a.tmps.getD k undef) w) →
    ∀ K : Value → World → Prop, (∀ v w', s.ok base v w' → Below w.heap.size w w' → K v w') → o.wp P a w (fun a' w' => ∃ v, a' = a.put o.dst v ∧ K v w') Q
def allS (R : Oper → Spec → Prop) : List Oper → List Spec → Prop
  | o :: l, s :: ss => R o s ∧ allS R l ss
  | _, _ => True
theorem allS_get {R : Oper → Spec → Prop} : ∀ {l : List Oper} {ss : List Spec}, allS R l ss → ∀ {i : Nat} {o : Oper} {s : Spec}, l[i]? = some o → ss[i]? = some s → R o s
  | [], _, _, i, o, s, h, _ => by simp at h
  | o :: l, [], _, i, o', s', _, h => by simp at h
  | o :: l, s :: ss, h, 0, o', s', h1, h2 => by
    obtain rfl := Option.some.inj h1
    obtain rfl := Option.some.inj h2
    exact h.1
  | o :: l, s :: ss, h, i + 1, o', s', h1, h2 => allS_get h.2 (i := i) (by simpa using h1) (by simpa using h2)
/-- What is to be shown behind the region. -/
def endS (base : Nat) (R : Act → Prop) : List Oper → List Spec → Act → Prop
  | o :: l, .val v :: ss, a => endS base R l ss (a.put o.dst v)
  | o :: l, .row cs e n :: ss, a => ∀ g, base ≤ g → endS base R l ss (a.put o.dst (.slice (some ⟨g, 0, none⟩) n n))
  | _, _, a => R a
/-- Slots: each operation writes one of its own. -/
def dstsB : List Oper → Nat → Bool
  | [], _ => true
  | o :: l, n => (match o.dst with
    | some d => decide (d < n) && l.all (fun o' => o'.dst != some d)
    | none => false) && dstsB l n
def backB : List Oper → Nat → Bool
  | [], _ => true
  | o :: l, i => o.after.all (fun e => !Region.binds .any e || decide (e.on < i)) && backB l (i + 1)
theorem dstsB_get : ∀ {l : List Oper} {n : Nat}, dstsB l n = true → ∀ {i : Nat} {o : Oper}, l[i]? = some o → ∃ d, o.dst = some d ∧ d < n ∧ ∀ (j : Nat) (o' : Oper), l[j]? = some o' → o'.dst = some d → j = i
  | [], n, h, i, o, h1 => by simp at h1
  | o0 :: l, n, h, i, o, h1 => by
    rw [dstsB, Bool.and_eq_true] at h
    obtain ⟨ha, hb⟩ := h
    cases hd : o0.dst with
    | none => rw [hd] at ha; cases ha
    | some d0 =>
      rw [hd] at ha
      simp only [Bool.and_eq_true, decide_eq_true_eq, List.all_eq_true] at ha
      obtain ⟨h2, h3⟩ := ha
      cases i with
      | zero =>
        obtain rfl := Option.some.inj h1
        refine ⟨d0, hd, h2, fun j o' h4 h5 => ?_⟩
        cases j with
        | zero => rfl
        | succ j =>
          have hm := List.mem_of_getElem? (show l[j]? = some o' by simpa using h4)
          have := h3 o' hm
          rw [h5] at this
          simp at this
      | succ i =>
        have h1' : l[i]? = some o := by simpa using h1
        obtain ⟨d, e1, e2, e3⟩ := dstsB_get hb h1'
        refine ⟨d, e1, e2, fun j o' h4 h5 => ?_⟩
        cases j with
        | zero =>
          obtain rfl := Option.some.inj h4
          rw [hd] at h5
          obtain rfl := Option.some.inj h5
          have := h3 o (List.mem_of_getElem? h1')
          rw [e1] at this
          simp at this
        | succ j => rw [e3 j o' (by simpa using h4) h5]
theorem backB_get : ∀ {l : List Oper} {k : Nat}, backB l k = true → ∀ {i : Nat} {o : Oper}, l[i]? = some o → ∀ e ∈ o.after, Region.binds .any e = true → e.on < k + i
  | [], k, h, i, o, h1 => by simp at h1
  | o0 :: l, k, h, i, o, h1 => by
    rw [backB, Bool.and_eq_true] at h
    cases i with
    | zero =>
      obtain rfl := Option.some.inj h1
      intro e he hb
      have := Array.all_eq_true'.1 h.1 e he
      rw [hb] at this
      simpa using this
    | succ i =>
      have := backB_get h.2 (i := i) (show l[i]? = some o by simpa using h1)
      intro e he hb
      have := this e he hb
      omega
theorem cnt_set : ∀ (l : List Bool) (i : Nat), l[i]? = some false → (l.set i true).countP (fun b => !b) + 1 = l.countP (fun b => !b)
  | [], i, h => by simp at h
  | b :: r, 0, h => by
    obtain rfl := Option.some.inj h
    simp
  | b :: r, i + 1, h => by
    have := cnt_set r i (by simpa using h)
    simp only [List.set_cons_succ, List.countP_cons]
    omega
/-- Between two operations. -/
structure InvS (l : List Oper) (ss : List Spec) (a0 : Act) (base : Nat) (w0 : World) (listed : Array Bool) (a : Act) (w : World) : Prop where
  ls : listed.size = l.length
  df : a.defers = a0.defers
  sz : a.tmps.size = a0.tmps.size
  old : ∀ k, (∀ (i : Nat) (o : Oper), l[i]? = some o → o.dst = some k → listed.getD i false = false) → a.tmps[k]? = a0.tmps[k]?
  done : ∀ (i : Nat) (o : Oper) (s : Spec) (d : Nat), l[i]? = some o → ss[i]? = some s → o.dst = some d → listed.getD i false = true → s.ok base (a.tmps.getD d undef) w
  bel : Below w0.heap.size w0 w
theorem endS_use {base : Nat} {R : Act → Prop} {w : World} : ∀ {l : List Oper} {ss : List Spec} {a1 a : Act}, endS base R l ss a1 → ss.length = l.length → dstsB l a.tmps.size = true → a.defers = a1.defers → a.tmps.size = a1.tmps.size →
    (∀ k, (∀ (i : Nat) (o : Oper), l[i]? = some o → o.dst ≠ some k) → a.tmps[k]? = a1.tmps[k]?) →
    (∀ (i : Nat) (o : Oper) (s : Spec) (d : Nat), l[i]? = some o → ss[i]? = some s → o.dst = some d → s.ok base (a.tmps.getD d undef) w) → R a
  | [], ss, a1, a, h, hl, hd, h1, h2, h3, h4 => by
    have e : a = a1 := by
      obtain ⟨t, d⟩ := a
      obtain ⟨t1, d1⟩ := a1
      simp only at h1 h2 h3
      subst h1
      congr 1
      exact Array.ext_getElem? fun k => h3 k (fun i o h => by simp at h)
    rw [e]
    cases ss with
    | nil => exact h
    | cons s r => simp at hl
  | o :: l, [], a1, a, h, hl, hd, h1, h2, h3, h4 => by simp at hl
  | o :: l, s :: ss, a1, a, h, hl, hd, h1, h2, h3, h4 => by
    obtain ⟨d, hd0, hdn, huniq⟩ := dstsB_get hd (i := 0) rfl
    have hdl : dstsB l a.tmps.size = true := by rw [dstsB, Bool.and_eq_true] at hd; exact hd.2
    have hok := h4 0 o s d rfl rfl hd0
    have hput : ∀ v, a.tmps.getD d undef = v → endS base R l ss (a1.put o.dst v) → R a := fun v hv hh => by
      refine endS_use (w := w) hh (by simpa using hl) hdl ?_ ?_ ?_ ?_
      · rw [h1]; unfold Act.put; rw [hd0]
      · rw [h2]; unfold Act.put; rw [hd0]; simp
      · intro k hk
        unfold Act.put
        rw [hd0]
        simp only
        by_cases hkd : k = d
        · subst hkd
          rw [Array.getElem?_setIfInBounds, if_pos rfl, if_pos (by rw [← h2]; exact hdn)]
          rw [← hv, Array.getD_eq_getD_getElem?, Array.getElem?_eq_getElem hdn]
          rfl
        · rw [Array.getElem?_setIfInBounds, if_neg (fun e => hkd e.symm)]
          refine h3 k (fun i o' hi hh' => ?_)
          cases i with
          | zero =>
            obtain rfl := Option.some.inj hi
            rw [hd0] at hh'
            exact hkd (Option.some.inj hh').symm
          | succ i => exact hk i o' (by simpa using hi) hh'
      · intro i o' s' d' hi hs' hd'
        exact h4 (i + 1) o' s' d' (by simpa using hi) (by simpa using hs') hd'
    cases s with
    | val v => exact hput v hok h
    | row cs e n =>
      obtain ⟨g, e1, e2, _⟩ := hok
      exact hput _ e1 (h g e2)
theorem specs_any {P : Program} {Q : Exit → Act → World → Prop} {l : List Oper} {ss : List Spec} {a0 : Act} {base : Nat} {w0 : World} (hlen : ss.length = l.length) (hdst : dstsB l a0.tmps.size = true) (hback : backB l 0 = true)
    (hstep : allS (StepS P l ss a0 base w0 Q) l ss) (hend : ∀ w', Below w0.heap.size w0 w' → endS base (fun a => Q .normal a w') l ss a0) :
    ∀ (fuel : Nat) (listed : Array Bool) (a : Act) (w : World), InvS l ss a0 base w0 listed a w → listed.toList.countP (fun b => !b) ≤ fuel → wpAny P .any l.toArray Q fuel listed a w := by
  have hfin : ∀ (listed : Array Bool) (a : Act) (w : World), InvS l ss a0 base w0 listed a w → Region.ready .any l.toArray listed = [] → Q .normal a w := by
    intro listed a w hI hr
    have hall : ∀ i, i < l.length → listed.getD i false = true := by
      intro i
      induction i using Nat.strongRecOn with
      | _ i ih =>
        intro hi
        refine Decidable.byContradiction fun hn => ?_
        have hn' : listed.getD i true = false := by
          rw [Array.getD_eq_getD_getElem?, Array.getElem?_eq_getElem (by rw [hI.ls]; exact hi)] at hn ⊢
          simpa using hn
        have hmem : i ∈ Region.ready .any l.toArray listed := by
          unfold Region.ready
          rw [List.mem_filter]
          refine ⟨by simp [hi], ?_⟩
          rw [hn']
          have ho : l.toArray[i]? = some l[i] := by simp [hi]
          rw [ho]
          simp only [Bool.not_false, Bool.true_and, Option.map_some, Option.getD_some]
          rw [Array.all_eq_true']
          intro e he
          cases hb : Region.binds .any e with
          | false => rfl
          | true =>
            have h1 := backB_get hback (show l[i]? = some l[i] from List.getElem?_eq_getElem hi) e he hb
            rw [Nat.zero_add] at h1
            rw [ih e.on h1 (by omega)]
            rfl
        rw [hr] at hmem
        cases hmem
    refine endS_use (w := w) (hend w hI.bel) hlen (by rw [hI.sz]; exact hdst) hI.df hI.sz (fun k hk => hI.old k (fun i o hi hd => absurd hd (hk i o hi))) (fun i o s d hi hs hd => hI.done i o s d hi hs hd (hall i ?_))
    exact (List.getElem?_eq_some_iff.1 hi).1
  intro fuel
  induction fuel with
  | zero =>
    intro listed a w hI hc
    have hr : Region.ready .any l.toArray listed = [] := by
      unfold Region.ready
      rw [List.filter_eq_nil_iff]
      intro i hi
      have hil : i < listed.size := by rw [hI.ls]; simpa using hi
      have h0 : listed.toList.countP (fun b => !b) = 0 := by omega
      rw [List.countP_eq_zero] at h0
      have := h0 listed[i] (by simp)
      have e : listed.getD i true = true := by
        rw [Array.getD_eq_getD_getElem?, Array.getElem?_eq_getElem hil]
        simpa using this
      rw [e]
      simp
    exact ⟨hr, hfin listed a w hI hr⟩
  | succ fuel ih =>
    intro listed a w hI hc
    refine ⟨fun hr => hfin listed a w hI hr, fun i hi => ?_⟩
    unfold Region.ready at hi
    rw [List.mem_filter] at hi
    obtain ⟨hi1, hi2⟩ := hi
    have hil : i < l.length := by simpa using hi1
    rw [Bool.and_eq_true] at hi2
    obtain ⟨hun, hdeps⟩ := hi2
    have ho : l[i]? = some l[i] := List.getElem?_eq_getElem hil
    have ho' : l.toArray[i]? = some l[i] := by simp [hil]
    rw [ho'] at hdeps
    simp only [Option.map_some, Option.getD_some] at hdeps
    rw [Array.all_eq_true'] at hdeps
    have hs : ss[i]? = some (ss[i]'(by omega)) := List.getElem?_eq_getElem (by omega)
    obtain ⟨hgd, hst⟩ := allS_get hstep ho hs
    obtain ⟨d, hd0, hdn, huniq⟩ := dstsB_get hdst ho
    have hlz : i < listed.size := by rw [hI.ls]; exact hil
    have hlf : listed.toList[i]? = some false := by
      rw [Array.getD_eq_getD_getElem?, Array.getElem?_eq_getElem hlz] at hun
      rw [Array.getElem?_toList, Array.getElem?_eq_getElem hlz]
      simpa using hun
    unfold wpOp
    rw [ho']
    simp only
    rw [if_pos (by simp [Region.wanted, hgd])]
    left
    refine Oper.wp_mono ?_ (hst a w hI.bel ?_ (fun v w' => (ss[i]'(by omega)).ok base v w' ∧ Below w.heap.size w w') (fun v w' h1 h2 => ⟨h1, h2⟩))
    · rintro a' w' ⟨v, rfl, hok, hb⟩
      refine ih _ _ _ ⟨?_, ?_, ?_, ?_, ?_, hI.bel.trans (hb.mono hI.bel.size)⟩ ?_
      · simp [hI.ls]
      · rw [← hI.df]; unfold Act.put; rw [hd0]
      · rw [← hI.sz]; unfold Act.put; rw [hd0]; simp
      · intro k hk
        have hkd : k ≠ d := fun e => by
          have := hk i _ ho (by rw [e]; exact hd0)
          rw [Array.getD_eq_getD_getElem?, Array.getElem?_setIfInBounds, if_pos rfl, if_pos hlz] at this
          simp at this
        unfold Act.put
        rw [hd0]
        simp only
        rw [Array.getElem?_setIfInBounds, if_neg (fun e => hkd e.symm)]
        refine hI.old k (fun j o' hj hdj => ?_)
        have h3 := hk j o' hj hdj
        by_cases hji : j = i
        · subst hji
          rw [Array.getD_eq_getD_getElem?, Array.getElem?_setIfInBounds, if_pos rfl, if_pos hlz] at h3
          simp at h3
        · rw [Array.getD_eq_getD_getElem?, Array.getElem?_setIfInBounds, if_neg (fun e => hji e.symm), ← Array.getD_eq_getD_getElem?] at h3
          exact h3
      · intro j o' s' d' hj hs' hd' hlj
        unfold Act.put
        rw [hd0]
        simp only
        by_cases hji : j = i
        · subst hji
          obtain rfl := Option.some.inj (ho.symm.trans hj)
          obtain rfl := Option.some.inj (hs.symm.trans hs')
          rw [hd0] at hd'
          obtain rfl := Option.some.inj hd'
          rw [Array.getD_eq_getD_getElem?, Array.getElem?_setIfInBounds, if_pos rfl, if_pos (by rw [hI.sz]; exact hdn)]
          exact hok
        · have hdd : d ≠ d' := fun e => hji (huniq j o' hj (by rw [hd', e]))
          rw [Array.getD_eq_getD_getElem?, Array.getElem?_setIfInBounds, if_neg hdd, ← Array.getD_eq_getD_getElem?]
          rw [Array.getD_eq_getD_getElem?, Array.getElem?_setIfInBounds, if_neg (fun e => hji e.symm), ← Array.getD_eq_getD_getElem?] at hlj
          exact Spec.kept (hI.done j o' s' d' hj hs' hd' hlj) hb
      · have hcs := cnt_set _ _ hlf
        rw [Array.toList_setIfInBounds]
        omega
    · intro k s' hk
      unfold knownS at hk
      cases hf : (List.range l.length).find? (fun j => (l[j]?).bind (·.dst) == some k) with
      | none =>
        rw [hf] at hk
        obtain rfl := Option.some.inj hk
        show a.tmps.getD k undef = a0.tmps.getD k undef
        rw [Array.getD_eq_getD_getElem?, Array.getD_eq_getD_getElem?]
        rw [hI.old k (fun j o' hj hdj => ?_)]
        exfalso
        rw [List.find?_eq_none] at hf
        have hjl := (List.getElem?_eq_some_iff.1 hj).1
        have := hf j (by simp [hjl])
        rw [hj] at this
        simp [hdj] at this
      | some j =>
        rw [hf] at hk
        simp only at hk
        have h5 := List.find?_some hf
        have hjl : j < l.length := by have := List.mem_of_find?_eq_some hf; simpa using this
        have hj : l[j]? = some l[j] := List.getElem?_eq_getElem hjl
        rw [hj] at h5
        have hdj : l[j].dst = some k := by simpa using h5
        split at hk
        · rename_i hany
          rw [Array.any_eq_true'] at hany
          obtain ⟨e, he, hb⟩ := hany
          rw [Bool.and_eq_true, beq_iff_eq] at hb
          have h6 := hdeps e he
          rw [hb.1, hb.2] at h6
          exact hI.done j _ s' k hj hk hdj (by simpa using h6)
        · cases hk
/-- THE LAW. -/
theorem wp_region_specs {P : Program} {id : Nat} {Q : Exit → Act → World → Prop} {a0 : Act} {w : World} {l : List Oper} (ss : List Spec) (hm : P.follows .mixedOrders = true) (hlen : ss.length = l.length) (hdst : dstsB l a0.tmps.size = true) (hback : backB l 0 = true)
    (hstep : allS (StepS P l ss a0 w.heap.size w Q) l ss) (hend : ∀ w', Below w.heap.size w w' → endS w.heap.size (fun a => Q .normal a w') l ss a0) : (Code.region id l.toArray true).wp P Q a0 w := by
  refine wp_region_any hm ?_
  have hbw : Below w.heap.size w { w with drawn := w.drawn + 1 } := ⟨rfl, rfl, rfl, Nat.le_refl _, fun _ _ => rfl⟩
  refine specs_any (w0 := w) hlen hdst hback hstep hend _ _ _ _ ⟨by simp, rfl, rfl, fun _ _ => rfl, fun i o s d hi hs hd hl => ?_, hbw⟩ ?_
  · exfalso
    rw [Array.getD_eq_getD_getElem?, Array.getElem?_replicate] at hl
    split at hl <;> simp at hl
  · have := List.countP_le_length (p := fun b => !b) (l := (Array.replicate l.toArray.size false).toList)
    simpa using this
end Go.Proofs.Ytafpmlikocchpaa

/- A region that draws its order, whose last operations wait for all others: the head by one obligation for each operation (as in XSpecs; what one leaves may also be a box, or be said by a predicate), the tail in the text's order; what boxes and rows hold is known there. -/
namespace Go.Proofs.Ytafpmlikocchpaa
open Go.ChangeShapes Go.WideShapes Go.ChangeAt Go.RowKit
set_option linter.unusedVariables false

/-- What an operation leaves in its slot. -/
inductive SpecT where
  | val (v : Value)
  | row (cs : Array Value) (e : TypeId) (n : Nat)
  | any (f : Value → Prop)
  | box (cs : Array Value) (e : TypeId)
  | wp (f : Value → World → Prop) (hf : ∀ (v : Value) (w w' : World), f v w → Below w.heap.size w w' → f v w')
def SpecT.ok (base : Nat) (u : Value) (w : World) : SpecT → Prop
  | .val v => u = v
  | .row cs e n => ∃ g, u = .slice (some ⟨g, 0, none⟩) n n ∧ base ≤ g ∧ w.heap[g]? = some (.cells cs e (0, 0))
  | .any f => f u
  | .box cs e => ∃ g, u = .pointer (some ⟨g, 0, none⟩) ∧ base ≤ g ∧ w.heap[g]? = some (.cells cs e (0, 0))
  | .wp f _ => f u w
theorem SpecT.kept {base : Nat} {u : Value} {w w' : World} : ∀ {s : SpecT}, s.ok base u w → Below w.heap.size w w' → s.ok base u w'
  | .val v, h, _ => h
  | .row cs e n, ⟨g, h1, h2, h3⟩, hb => ⟨g, h1, h2, (hb.block g (Array.getElem?_eq_some_iff.1 h3).1).trans h3⟩
  | .any f, h, _ => h
  | .box cs e, ⟨g, h1, h2, h3⟩, hb => ⟨g, h1, h2, (hb.block g (Array.getElem?_eq_some_iff.1 h3).1).trans h3⟩
  | .wp f hf, h, hb => hf _ _ _ h hb
def knownT (l : List Oper) (ss : List SpecT) (a0 : Act) (o : Oper) (k : Nat) : Option SpecT :=
  match (List.range l.length).find? (fun j => (l[j]?).bind (·.dst) == some k) with
  | some j => if o.after.any (fun e => Region.binds .any e && e.on == j) then ss[j]? else none
  | none => some (.val (a0.tmps.getD k undef))
/-- What is to be shown of one operation. -/
def StepT (P : Program) (l : List Oper) (ss : List SpecT) (a0 : Act) (base : Nat) (w0 : World) (Q : Exit → Act → World → Prop) (o : Oper) (s : SpecT) : Prop :=
  o.guard = none ∧ ∀ (a : Act) (w : World), Below w0.heap.size w0 w → (∀ k s', knownT l ss a0 o k = some s' → s'.ok base (a.tmps.getD k undef) w) →
    ∀ K : Value → World → Prop, (∀ v w', s.ok base v w' → Below w.heap.size w w' → K v w') → o.wp P a w (fun a' w' => ∃ v, a' = a.put o.dst v ∧ K v w') Q
def allT (R : Oper → SpecT → Prop) : List Oper → List SpecT → Prop
  | o :: l, s :: ss => R o s ∧ allT R l ss
  | _, _ => True
theorem allT_get {R : Oper → SpecT → Prop} : ∀ {l : List Oper} {ss : List SpecT}, allT R l ss → ∀ {i : Nat} {o : Oper} {s : SpecT}, l[i]? = some o → ss[i]? = some s → R o s
  | [], _, _, i, o, s, h, _ => by simp at h
  | o :: l, [], _, i, o', s', _, h => by simp at h
  | o :: l, s :: ss, h, 0, o', s', h1, h2 => by
    obtain rfl := Option.some.inj h1
    obtain rfl := Option.some.inj h2
    exact h.1
  | o :: l, s :: ss, h, i + 1, o', s', h1, h2 => allT_get h.2 (i := i) (by simpa using h1) (by simpa using h2)
/-- What is to be shown behind the head. -/
def endT (base : Nat) (w : World) (R : Act → Prop) : List Oper → List SpecT → Act → Prop
  | o :: l, .val v :: ss, a => endT base w R l ss (a.put o.dst v)
  | o :: l, .row cs e n :: ss, a => ∀ g, base ≤ g → w.heap[g]? = some (.cells cs e (0, 0)) → endT base w R l ss (a.put o.dst (.slice (some ⟨g, 0, none⟩) n n))
  | o :: l, .any f :: ss, a => ∀ v, f v → endT base w R l ss (a.put o.dst v)
  | o :: l, .wp f _ :: ss, a => ∀ v, f v w → endT base w R l ss (a.put o.dst v)
  | o :: l, .box cs e :: ss, a => ∀ g, base ≤ g → w.heap[g]? = some (.cells cs e (0, 0)) → endT base w R l ss (a.put o.dst (.pointer (some ⟨g, 0, none⟩)))
  | _, _, a => R a
theorem endT_use {base : Nat} {R : Act → Prop} {w : World} : ∀ {l : List Oper} {ss : List SpecT} {a1 a : Act}, endT base w R l ss a1 → ss.length = l.length → dstsB l a.tmps.size = true → a.defers = a1.defers → a.tmps.size = a1.tmps.size →
    (∀ k, (∀ (i : Nat) (o : Oper), l[i]? = some o → o.dst ≠ some k) → a.tmps[k]? = a1.tmps[k]?) →
    (∀ (i : Nat) (o : Oper) (s : SpecT) (d : Nat), l[i]? = some o → ss[i]? = some s → o.dst = some d → s.ok base (a.tmps.getD d undef) w) → R a
  | [], ss, a1, a, h, hl, hd, h1, h2, h3, h4 => by
    have e : a = a1 := by
      obtain ⟨t, d⟩ := a
      obtain ⟨t1, d1⟩ := a1
      simp only at h1 h2 h3
      subst h1
      congr 1
      exact Array.ext_getElem? fun k => h3 k (fun i o h => by simp at h)
    rw [e]
    cases ss with
    | nil => exact h
    | cons s r => simp at hl
  | o :: l, [], a1, a, h, hl, hd, h1, h2, h3, h4 => by simp at hl
  | o :: l, s :: ss, a1, a, h, hl, hd, h1, h2, h3, h4 => by
    obtain ⟨d, hd0, hdn, huniq⟩ := dstsB_get hd (i := 0) rfl
    have hdl : dstsB l a.tmps.size = true := by rw [dstsB, Bool.and_eq_true] at hd; exact hd.2
    have hok := h4 0 o s d rfl rfl hd0
    have hput : ∀ v, a.tmps.getD d undef = v → endT base w R l ss (a1.put o.dst v) → R a := fun v hv hh => by
      refine endT_use (w := w) hh (by simpa using hl) hdl ?_ ?_ ?_ ?_
      · rw [h1]; unfold Act.put; rw [hd0]
      · rw [h2]; unfold Act.put; rw [hd0]; simp
      · intro k hk
        unfold Act.put
        rw [hd0]
        simp only
        by_cases hkd : k = d
        · subst hkd
          rw [Array.getElem?_setIfInBounds, if_pos rfl, if_pos (by rw [← h2]; exact hdn)]
          rw [← hv, Array.getD_eq_getD_getElem?, Array.getElem?_eq_getElem hdn]
          rfl
        · rw [Array.getElem?_setIfInBounds, if_neg (fun e => hkd e.symm)]
          refine h3 k (fun i o' hi hh' => ?_)
          cases i with
          | zero =>
            obtain rfl := Option.some.inj hi
            rw [hd0] at hh'
            exact hkd (Option.some.inj hh').symm
          | succ i => exact hk i o' (by simpa using hi) hh'
      · intro i o' s' d' hi hs' hd'
        exact h4 (i + 1) o' s' d' (by simpa using hi) (by simpa using hs') hd'
    cases s with
    | val v => exact hput v hok h
    | row cs e n =>
      obtain ⟨g, e1, e2, e3⟩ := hok
      exact hput _ e1 (h g e2 e3)
    | any f => exact hput _ rfl (h _ hok)
    | wp f hf => exact hput _ rfl (h _ hok)
    | box cs e =>
      obtain ⟨g, e1, e2, e3⟩ := hok
      exact hput _ e1 (h g e2 e3)
theorem kvalT {l : List Oper} {ss : List SpecT} {a0 a : Act} {o : Oper} {base : Nat} {w : World} (hk : ∀ k s', knownT l ss a0 o k = some s' → s'.ok base (a.tmps.getD k undef) w) (k : Nat) (v : Value) (h : knownT l ss a0 o k = some (.val v)) : a.tmps[k]?.getD undef = v := by
  have := hk k _ h
  rw [Array.getD_eq_getD_getElem?] at this
  exact this
theorem krowT {l : List Oper} {ss : List SpecT} {a0 a : Act} {o : Oper} {base : Nat} {w : World} (hk : ∀ k s', knownT l ss a0 o k = some s' → s'.ok base (a.tmps.getD k undef) w) (k : Nat) (cs : Array Value) (e : TypeId) (n : Nat) (h : knownT l ss a0 o k = some (.row cs e n)) : ∃ g, a.tmps[k]?.getD undef = .slice (some ⟨g, 0, none⟩) n n ∧ base ≤ g ∧ w.heap[g]? = some (.cells cs e (0, 0)) := by
  have := hk k _ h
  rw [Array.getD_eq_getD_getElem?] at this
  exact this
theorem kanyT {l : List Oper} {ss : List SpecT} {a0 a : Act} {o : Oper} {base : Nat} {w : World} (hk : ∀ k s', knownT l ss a0 o k = some s' → s'.ok base (a.tmps.getD k undef) w) (k : Nat) (f : Value → Prop) (h : knownT l ss a0 o k = some (.any f)) : f (a.tmps[k]?.getD undef) := by
  have := hk k _ h
  rw [Array.getD_eq_getD_getElem?] at this
  exact this
theorem kwpT {l : List Oper} {ss : List SpecT} {a0 a : Act} {o : Oper} {base : Nat} {w : World} (hk : ∀ k s', knownT l ss a0 o k = some s' → s'.ok base (a.tmps.getD k undef) w) (k : Nat) (f : Value → World → Prop) (hf : ∀ (v : Value) (w w' : World), f v w → Below w.heap.size w w' → f v w') (h : knownT l ss a0 o k = some (.wp f hf)) : f (a.tmps[k]?.getD undef) w := by
  have := hk k _ h
  rw [Array.getD_eq_getD_getElem?] at this
  exact this
/-- Between two operations of the head. -/
structure InvT (l : List Oper) (n : Nat) (ss : List SpecT) (a0 : Act) (base : Nat) (w0 : World) (listed : Array Bool) (a : Act) (w : World) : Prop where
  hd : HeadInv .any l.toArray n listed
  df : a.defers = a0.defers
  sz : a.tmps.size = a0.tmps.size
  old : ∀ k, (∀ (i : Nat) (o : Oper), (l.take n)[i]? = some o → o.dst = some k → listed.getD i false = false) → a.tmps[k]? = a0.tmps[k]?
  done : ∀ (i : Nat) (o : Oper) (s : SpecT) (d : Nat), (l.take n)[i]? = some o → ss[i]? = some s → o.dst = some d → listed.getD i false = true → s.ok base (a.tmps.getD d undef) w
  bel : Below w0.heap.size w0 w
def headCnt (n : Nat) (listed : Array Bool) : Nat := (listed.toList.take n).countP (fun b => !b)
def tailAt (m n : Nat) : Array Bool := (List.replicate n true ++ List.replicate (m - n) false).toArray
theorem specs_tail {P : Program} {Q : Exit → Act → World → Prop} {l : List Oper} {n : Nat} {ss : List SpecT} {a0 : Act} {base : Nat} {w0 : World} (hn : n < l.length) (hlen : ss.length = n) (hdst : dstsB (l.take n) a0.tmps.size = true) (hback : backB l 0 = true)
    (hsink : Region.sinkB .any l.toArray n = true) (hchain : Region.chainB .any l.toArray n = true) (hseq : Region.seqB .any l.toArray (l.length - n) n (tailAt l.length n) = true)
    (hstep : allT (StepT P (l.take n) ss a0 base w0 Q) (l.take n) ss) (hend : ∀ w', Below w0.heap.size w0 w' → endT base w' (fun a => wpList P l.toArray Q (l.drop n) a w') (l.take n) ss a0) :
    ∀ (f : Nat) (listed : Array Bool) (a : Act) (w : World), InvT l n ss a0 base w0 listed a w → headCnt n listed = f → wpAny P .any l.toArray Q (f + (l.length - n)) listed a w := by
  have htl : (l.take n).length = n := by rw [List.length_take]; omega
  intro f
  induction f with
  | zero =>
    intro listed a w hI hc
    have hall : ∀ i, i < n → listed.getD i false = true := by
      intro i hi
      unfold headCnt at hc
      rw [List.countP_eq_zero] at hc
      have hil : i < listed.size := by rw [hI.hd.size]; simp; omega
      have := hc listed[i] (by
        have : (listed.toList.take n)[i]? = some listed[i] := by rw [List.getElem?_take, if_pos hi, Array.getElem?_toList, Array.getElem?_eq_getElem hil]
        exact List.mem_of_getElem? this)
      rw [Array.getD_eq_getD_getElem?, Array.getElem?_eq_getElem hil]
      simpa using this
    have hlist : listed = tailAt l.length n := by
      apply Array.ext_getElem?
      intro i
      have hsz : listed.size = l.length := by rw [hI.hd.size]; simp
      have hr : (tailAt l.length n)[i]? = (List.replicate n true ++ List.replicate (l.length - n) false)[i]? := by unfold tailAt; rw [List.getElem?_toArray]
      rw [hr, List.getElem?_append, List.length_replicate]
      by_cases hi : i < n
      · rw [if_pos hi, List.getElem?_replicate, if_pos hi]
        have h1 := hall i hi
        rw [Array.getD_eq_getD_getElem?, Array.getElem?_eq_getElem (by omega)] at h1
        rw [Array.getElem?_eq_getElem (by omega)]
        simpa using h1
      · rw [if_neg hi, List.getElem?_replicate]
        by_cases hm : i < l.length
        · rw [if_pos (by omega)]
          have h1 := hI.hd.tail i (by omega) (by simpa using hm)
          rw [Array.getD_eq_getD_getElem?, Array.getElem?_eq_getElem (by omega)] at h1
          rw [Array.getElem?_eq_getElem (by omega)]
          simpa using h1
        · rw [if_neg (by omega), Array.getElem?_eq_none (by omega)]
    have hw : wpList P l.toArray Q (l.drop n) a w :=
      endT_use (w := w) (hend w hI.bel) (by rw [hlen, htl]) (by rw [hI.sz]; exact hdst) hI.df hI.sz (fun k hk => hI.old k (fun i o hi hd => absurd hd (hk i o hi))) (fun i o s d hi hs hd => hI.done i o s d hi hs hd (hall i (by have := (List.getElem?_eq_some_iff.1 hi).1; omega)))
    have := wpAny_of_seq (md := .any) (Q' := Q) (l.drop n) n listed a w (fun j => by simp [List.getElem?_drop]) (by rw [List.length_drop, hlist]; exact hseq) hw
    rwa [List.length_drop, ← Nat.zero_add (l.length - n)] at this
  | succ f ih =>
    intro listed a w hI hc
    rw [show f + 1 + (l.length - n) = (f + (l.length - n)) + 1 by omega]
    have hls : listed.size = l.length := by rw [hI.hd.size]; simp
    -- an operation of the head that is not listed yet
    obtain ⟨i0, hi0, hun0⟩ : ∃ i, i < n ∧ listed.getD i true = false := by
      refine Classical.byContradiction fun hno => ?_
      have h0 : headCnt n listed = 0 := by
        unfold headCnt
        rw [List.countP_eq_zero]
        intro b hb
        obtain ⟨i, hi⟩ := List.mem_iff_getElem?.1 hb
        have hin : i < n := by
          have := (List.getElem?_eq_some_iff.1 hi).1
          rw [List.length_take] at this
          omega
        rw [List.getElem?_take, if_pos hin, Array.getElem?_toList] at hi
        have h2 : ¬ listed.getD i true = false := fun e => hno ⟨i, hin, e⟩
        rw [Array.getD_eq_getD_getElem?, hi] at h2
        simpa using h2
      omega
    have hnr : ∀ t, n ≤ t → t ∉ Region.ready .any l.toArray listed := tail_waits hsink hchain (by simpa using hn) hI.hd _ i0 rfl hi0 hun0
    -- the least one is ready
    have hne : Region.ready .any l.toArray listed ≠ [] := by
      have hleast : ∀ i, i < n → listed.getD i true = false → Region.ready .any l.toArray listed ≠ [] := by
        intro i
        induction i using Nat.strongRecOn with
        | _ i ih2 =>
          intro hi hun
          by_cases hex : ∃ j, j < i ∧ listed.getD j true = false
          · obtain ⟨j, hj, hju⟩ := hex
            exact ih2 j hj (by omega) hju
          · have hmem : i ∈ Region.ready .any l.toArray listed := by
              unfold Region.ready
              rw [List.mem_filter]
              refine ⟨by simp; omega, ?_⟩
              rw [hun]
              have ho : l.toArray[i]? = some (l[i]'(by omega)) := by simp [show i < l.length by omega]
              rw [ho]
              simp only [Bool.not_false, Bool.true_and, Option.map_some, Option.getD_some]
              rw [Array.all_eq_true']
              intro e he
              cases hb : Region.binds .any e with
              | false => rfl
              | true =>
                have h1 := backB_get hback (show l[i]? = some (l[i]'(by omega)) from List.getElem?_eq_getElem (by omega)) e he hb
                rw [Nat.zero_add] at h1
                have h3 : listed.getD e.on true = true := by
                  cases h4 : listed.getD e.on true with
                  | true => rfl
                  | false => exact absurd ⟨e.on, h1, h4⟩ hex
                have h5 : listed.getD e.on false = true := by
                  have hlt : e.on < listed.size := by omega
                  rw [Array.getD_eq_getD_getElem?, Array.getElem?_eq_getElem hlt] at h3 ⊢
                  simpa using h3
                rw [h5]
                rfl
            intro e
            rw [e] at hmem
            cases hmem
      exact hleast i0 hi0 hun0
    refine ⟨fun hr => absurd hr hne, fun i hi => ?_⟩
    have hin : i < n := by
      rcases Nat.lt_or_ge i n with h | h
      · exact h
      · exact absurd hi (hnr i h)
    have hi' := hi
    unfold Region.ready at hi
    rw [List.mem_filter] at hi
    obtain ⟨hi1, hi2⟩ := hi
    have hil : i < l.length := by omega
    rw [Bool.and_eq_true] at hi2
    obtain ⟨hun, hdeps⟩ := hi2
    have ho : l[i]? = some l[i] := List.getElem?_eq_getElem hil
    have hoh : (l.take n)[i]? = some l[i] := by rw [List.getElem?_take, if_pos hin]; exact ho
    have ho' : l.toArray[i]? = some l[i] := by simp [hil]
    rw [ho'] at hdeps
    simp only [Option.map_some, Option.getD_some] at hdeps
    rw [Array.all_eq_true'] at hdeps
    have hs : ss[i]? = some (ss[i]'(by omega)) := List.getElem?_eq_getElem (by omega)
    obtain ⟨hgd, hst⟩ := allT_get hstep hoh hs
    obtain ⟨d, hd0, hdn, huniq⟩ := dstsB_get hdst hoh
    have hlz : i < listed.size := by omega
    have hlf : listed.toList[i]? = some false := by
      rw [Array.getD_eq_getD_getElem?, Array.getElem?_eq_getElem hlz] at hun
      rw [Array.getElem?_toList, Array.getElem?_eq_getElem hlz]
      simpa using hun
    unfold wpOp
    rw [ho']
    simp only
    rw [if_pos (by simp [Region.wanted, hgd])]
    left
    refine Oper.wp_mono ?_ (hst a w hI.bel ?_ (fun v w' => (ss[i]'(by omega)).ok base v w' ∧ Below w.heap.size w w') (fun v w' h1 h2 => ⟨h1, h2⟩))
    · rintro a' w' ⟨v, rfl, hok, hb⟩
      refine ih _ _ _ ⟨hI.hd.set hi' hin, ?_, ?_, ?_, ?_, hI.bel.trans (hb.mono hI.bel.size)⟩ ?_
      · rw [← hI.df]; unfold Act.put; rw [hd0]
      · rw [← hI.sz]; unfold Act.put; rw [hd0]; simp
      · intro k hk
        have hkd : k ≠ d := fun e => by
          have := hk i _ hoh (by rw [e]; exact hd0)
          rw [Array.getD_eq_getD_getElem?, Array.getElem?_setIfInBounds, if_pos rfl, if_pos hlz] at this
          simp at this
        unfold Act.put
        rw [hd0]
        simp only
        rw [Array.getElem?_setIfInBounds, if_neg (fun e => hkd e.symm)]
        refine hI.old k (fun j o' hj hdj => ?_)
        have h3 := hk j o' hj hdj
        by_cases hji : j = i
        · subst hji
          rw [Array.getD_eq_getD_getElem?, Array.getElem?_setIfInBounds, if_pos rfl, if_pos hlz] at h3
          simp at h3
        · rw [Array.getD_eq_getD_getElem?, Array.getElem?_setIfInBounds, if_neg (fun e => hji e.symm), ← Array.getD_eq_getD_getElem?] at h3
          exact h3
      · intro j o' s' d' hj hs' hd' hlj
        unfold Act.put
        rw [hd0]
        simp only
        by_cases hji : j = i
        · subst hji
          obtain rfl := Option.some.inj (hoh.symm.trans hj)
          obtain rfl := Option.some.inj (hs.symm.trans hs')
          rw [hd0] at hd'
          obtain rfl := Option.some.inj hd'
          rw [Array.getD_eq_getD_getElem?, Array.getElem?_setIfInBounds, if_pos rfl, if_pos (by rw [hI.sz]; exact hdn)]
          exact hok
        · have hdd : d ≠ d' := fun e => hji (huniq j o' hj (by rw [hd', e]))
          rw [Array.getD_eq_getD_getElem?, Array.getElem?_setIfInBounds, if_neg hdd, ← Array.getD_eq_getD_getElem?]
          rw [Array.getD_eq_getD_getElem?, Array.getElem?_setIfInBounds, if_neg (fun e => hji e.symm), ← Array.getD_eq_getD_getElem?] at hlj
          exact SpecT.kept (hI.done j o' s' d' hj hs' hd' hlj) hb
      · unfold headCnt at hc ⊢
        rw [Array.toList_setIfInBounds, List.take_set]
        have hcs := cnt_set (listed.toList.take n) i (by rw [List.getElem?_take, if_pos hin]; exact hlf)
        omega
    · intro k s' hk
      unfold knownT at hk
      rw [htl] at hk
      cases hf : (List.range n).find? (fun j => ((l.take n)[j]?).bind (·.dst) == some k) with
      | none =>
        rw [hf] at hk
        obtain rfl := Option.some.inj hk
        show a.tmps.getD k undef = a0.tmps.getD k undef
        rw [Array.getD_eq_getD_getElem?, Array.getD_eq_getD_getElem?]
        rw [hI.old k (fun j o' hj hdj => ?_)]
        exfalso
        rw [List.find?_eq_none] at hf
        have hjl := (List.getElem?_eq_some_iff.1 hj).1
        have := hf j (by simp; omega)
        rw [hj] at this
        simp [hdj] at this
      | some j =>
        rw [hf] at hk
        simp only at hk
        have h5 := List.find?_some hf
        have hjl : j < n := by have := List.mem_of_find?_eq_some hf; simpa using this
        have hj : (l.take n)[j]? = some ((l.take n)[j]'(by omega)) := List.getElem?_eq_getElem (by omega)
        rw [hj] at h5
        have hdj : ((l.take n)[j]'(by omega)).dst = some k := by simpa using h5
        split at hk
        · rename_i hany
          rw [Array.any_eq_true'] at hany
          obtain ⟨e, he, hb⟩ := hany
          rw [Bool.and_eq_true, beq_iff_eq] at hb
          have h6 := hdeps e he
          rw [hb.1, hb.2] at h6
          exact hI.done j _ s' k hj hk hdj (by simpa using h6)
        · cases hk
/-- THE LAW. -/
theorem wp_region_specs_tail {P : Program} {id : Nat} {Q : Exit → Act → World → Prop} {a0 : Act} {w : World} {l : List Oper} (n : Nat) (ss : List SpecT) (hm : P.follows .mixedOrders = true) (hn : decide (n < l.length) = true) (hlen : ss.length = n) (hdst : dstsB (l.take n) a0.tmps.size = true) (hback : backB l 0 = true)
    (hsink : Region.sinkB .any l.toArray n = true) (hchain : Region.chainB .any l.toArray n = true) (hseq : Region.seqB .any l.toArray (l.length - n) n (tailAt l.length n) = true)
    (hstep : allT (StepT P (l.take n) ss a0 w.heap.size w Q) (l.take n) ss) (hend : ∀ w', Below w.heap.size w w' → endT w.heap.size w' (fun a => wpList P l.toArray Q (l.drop n) a w') (l.take n) ss a0) : (Code.region id l.toArray true).wp P Q a0 w := by
  have hn' : n < l.length := of_decide_eq_true hn
  refine wp_region_any hm ?_
  have hbw : Below w.heap.size w { w with drawn := w.drawn + 1 } := ⟨rfl, rfl, rfl, Nat.le_refl _, fun _ _ => rfl⟩
  have hc0 : headCnt n (Array.replicate l.length false) = n := by
    unfold headCnt
    rw [Array.toList_replicate, List.take_replicate, List.countP_replicate]
    simp
    omega
  have := specs_tail (w0 := w) hn' hlen hdst hback hsink hchain hseq hstep hend n (Array.replicate l.length false) a0 { w with drawn := w.drawn + 1 }
    ⟨⟨by simp, fun j oj _ hl => (by rw [getD_replicate_false] at hl; cases hl), fun t _ ht => getD_in (by simpa using ht) (getD_replicate_false _ _)⟩, rfl, rfl, fun _ _ => rfl, fun i o s d _ _ _ hl => (by rw [getD_replicate_false] at hl; cases hl), hbw⟩ hc0
  rw [show n + (l.length - n) = l.length by omega] at this
  simpa using this
end Go.Proofs.Ytafpmlikocchpaa

/- Contract of the reference of layer 15: Cells. -/
namespace Go.Proofs.Ytafpmlikocchpaa
open Go.ChangeShapes Go.WideShapes Go.ChangeAt Go.RowKit
set_option linter.unusedVariables false
set_option maxRecDepth 100000

theorem s15_at {s : ByteArray} {S : List UInt8} (h : s = str S) (i : Nat) (h1 : i < s.size) (h2 : i < S.length) : (s[i]'h1).toNat = (S[i]'h2).toNat := by
  subst h
  show ((str S).data[i]).toNat = _
  simp [str]
theorem cels_take_next {l : List PcR} {k : Nat} {x : PcR} (hx : l[k]? = some x) : cels (l.take (k + 1)) = cels (l.take k) ++ celP x := by
  obtain ⟨hk, e⟩ := List.getElem?_eq_some_iff.1 hx
  unfold cels
  rw [List.take_succ_eq_append_getElem hk, e, List.flatMap_append]
  simp
theorem cels_take_le (l : List PcR) (k : Nat) : (cels (l.take k)).length ≤ (cels l).length := by rw [cels_len, cels_len]; exact sizeL_take l k
theorem celF_take_next (fr to_ p : Int) {d : List UInt8} {q : Nat} {b : UInt8} (h : d[q]? = some b) : celF fr to_ p (d.take (q + 1)) = celF fr to_ p (d.take q) ++ [⟨p + q, b, fr, to_⟩] := by
  obtain ⟨hk, e⟩ := List.getElem?_eq_some_iff.1 h
  rw [List.take_succ_eq_append_getElem hk, e, celF_append, List.length_take, Nat.min_eq_left (Nat.le_of_lt hk)]
  rfl
/-- What a function that returns a list of cells leaves. -/
def CesP (w : World) (R : List CeR) (e : Ending) (w' : World) : Prop :=
  ∃ A c, e = .returned (.slice A R.length c) ∧ OwnE ECe 51 w' w.heap.size A R.length c R ∧ Below w.heap.size w w'
set_option maxHeartbeats 8000000 in
set_option maxRecDepth 100000 in
theorem rcells15_any (l : List PcR) (A : Option Addr) (c : Nat) (w : World) (h : RowL EPc w A l) (hl : l.length ≤ 100000) (hf : ∀ x ∈ l, fitP x) (hz : sizeL l ≤ 100000) :
    Calls Try.prog 32 #[.slice A l.length c] w (CesP w (cels l)) := by
  obtain ⟨n, hnl⟩ : ∃ n, n = l.length := ⟨_, rfl⟩
  obtain ⟨N, hN⟩ : ∃ N, N = (cels l).length := ⟨_, rfl⟩
  have hNz : N ≤ 100000 := by rw [hN, cels_len]; exact hz
  rw [← hnl] at hl ⊢
  have HN := Lib.hid hnl
  have HNN := Lib.hid hN
  have HS := Lib.hid h
  have HF := Lib.hid hf
  have HO0 := Lib.hid (OwnE.nil (E := ECe) (e := 51) w w.heap.size)
  clear hnl h hf hN hz
  go_enter Try.func32, Try.ntmps32
  go_wp2_with fail
  go_loopw [3, 4] (fun s i wr => ∃ (k m c2 : Nat) (A2 : Option Addr), s = .slice A2 m c2 ∧ i = .int .i64 (k : Int) ∧ k ≤ n ∧ Hid (OwnE ECe 51 wr w.heap.size A2 m c2 (cels (l.take k))) ∧ Hid (Below w.heap.size w wr)) (fun _ i _ => n - (intOf i).toNat)
  case atStart => exact ⟨0, 0, 0, none, rfl, rfl, Nat.zero_le _, HO0, Lib.hid (Below.refl _ _)⟩
  case round =>
    clear HO0
    obtain ⟨k, m0, c0, A0, rfl, rfl, hk, HO0, HB0⟩ := hrel
    by_cases hlt : k < n
    · obtain ⟨xx, hget⟩ : ∃ x, l[k]? = some x := ⟨l[k]'(by have := HN.out; omega), List.getElem?_eq_getElem _⟩
      obtain ⟨ga, oa, rfl, hga⟩ := HS.out.shapeA (by have := HN.out; omega)
      have hki : (k : Int) < (n : Int) := by omega
      have dlt : decide ((k : Int) < (n : Int)) = true := by simp; omega
      have hki0 : (0 : Int) ≤ (k : Int) := by omega
      obtain ⟨f1, f2, f3⟩ := HF.out xx (List.mem_of_getElem? hget)
      have hct := cels_take_next hget
      have hcl := cels_take_le l (k + 1)
      rw [hct, List.length_append, celP_len, ← HNN.out] at hcl
      obtain ⟨p, dat, fr, to_⟩ := xx
      dsimp only at f1 f2 f3 hcl
      obtain ⟨D, hD⟩ : ∃ D, D = str dat := ⟨_, rfl⟩
      have hDs : D.size = dat.length := by rw [hD, str_size]
      have HGET := Lib.hid hget
      have HDD := Lib.hid hD
      have HDS := Lib.hid hDs
      have HCT := Lib.hid hct
      have HLE := Lib.hid (show (cels (l.take k)).length + D.size ≤ N by rw [hDs]; exact hcl)
      have hDz : D.size ≤ 100000 := by omega
      clear hget hD hDs hct hcl f3
      go_wp2_with fail
      go_loopw [3, 5] (fun s j wr2 => ∃ (q m c2 : Nat) (A2 : Option Addr), s = .slice A2 m c2 ∧ j = .int .i64 (q : Int) ∧ q ≤ D.size ∧ Hid (OwnE ECe 51 wr2 w.heap.size A2 m c2 (cels (l.take k) ++ celF fr to_ p (dat.take q))) ∧ Hid (Below w.heap.size w wr2)) (fun _ j _ => D.size - (intOf j).toNat)
      case atStart => exact ⟨0, m0, c0, A0, rfl, rfl, Nat.zero_le _, Lib.hid (by rw [List.take_zero]; show OwnE _ _ _ _ _ _ _ (cels (l.take k) ++ []); rw [List.append_nil]; exact HO0.out), HB0⟩
      case round =>
        clear HO0 HB0
        obtain ⟨q, m, c2, A2, rfl, rfl, hq, HO, HB⟩ := hrel
        obtain ⟨a0, a1, a2, a3⟩ := pc_at HS.out HGET.out HB.out
        dsimp only at a0 a1 a2 a3
        rw [← HDD.out] at a1
        by_cases hlt2 : q < D.size
        · have hqi : (q : Int) < (D.size : Int) := by omega
          have dlt2 : decide ((q : Int) < (D.size : Int)) = true := by simp; omega
          have hqi0 : (0 : Int) ≤ (q : Int) := by omega
          obtain ⟨bq, hbq⟩ : ∃ b, dat[q]? = some b := ⟨dat[q]'(by have := HDS.out; omega), List.getElem?_eq_getElem _⟩
          have hnx := celF_take_next fr to_ p hbq
          obtain ⟨x, hx⟩ : ∃ x, x = (D[q]'hlt2).toNat := ⟨_, rfl⟩
          have hxb : x = bq.toNat := by
            rw [hx]
            obtain ⟨hk', e⟩ := List.getElem?_eq_some_iff.1 hbq
            rw [← e]
            exact s15_at HDD.out q hlt2 hk'
          obtain ⟨z, hz⟩ : ∃ z, z = p + (q : Int) := ⟨_, rfl⟩
          have kz : p + (q : Int) = z := hz.symm
          have wz : IntKind.i64.wrap z = z := by rw [IntKind.wrap_i64]; omega
          have HX := Lib.hid hx
          have HXB := Lib.hid hxb
          have HNX := Lib.hid (show celF fr to_ p (dat.take (q + 1)) = celF fr to_ p (dat.take q) ++ [⟨z, bq, fr, to_⟩] by rw [hz]; exact hnx)
          have hm1 : m + 1 ≤ 100000 := by
            have h1 := HO.out.1
            rw [List.length_append, celF_len, List.length_take] at h1
            have h2 := HLE.out
            have h3 := HDS.out
            omega
          clear hbq hnx hx hxb hz
          go_upto_region 8 with fail
          clear a0 a1 a2 a3
          refine wp_region_specs_tail 27 [.val (Value.slice A2 m c2), .val (Value.slice (some ⟨ga, oa, none⟩) n c), .val (Value.int .i64 (k : Int)), .val (Value.pointer (some ⟨ga, oa + k * 4, none⟩)), .val (Value.pointer (some ⟨ga, oa + k * 4, none⟩)), .val (Value.int .i64 p), .val (Value.int .i64 (q : Int)), .val (Value.int .i64 z), .val (Value.slice (some ⟨ga, oa, none⟩) n c), .val (Value.int .i64 (k : Int)), .val (Value.pointer (some ⟨ga, oa + k * 4, none⟩)), .val (Value.pointer (some ⟨ga, oa + k * 4 + 1, none⟩)), .val (Value.string D), .val (Value.int .i64 (q : Int)), .val (Value.int .u8 (x : Int)), .val (Value.slice (some ⟨ga, oa, none⟩) n c), .val (Value.int .i64 (k : Int)), .val (Value.pointer (some ⟨ga, oa + k * 4, none⟩)), .val (Value.pointer (some ⟨ga, oa + k * 4 + 2, none⟩)), .val (Value.int .i64 fr), .val (Value.slice (some ⟨ga, oa, none⟩) n c), .val (Value.int .i64 (k : Int)), .val (Value.pointer (some ⟨ga, oa + k * 4, none⟩)), .val (Value.pointer (some ⟨ga, oa + k * 4 + 3, none⟩)), .val (Value.int .i64 to_), .val (Value.agg #[.int .i64 z, .int .u8 (x : Int), .int .i64 fr, .int .i64 to_]), .row #[.int .i64 z, .int .u8 (x : Int), .int .i64 fr, .int .i64 to_] 51 1] (by kernel_rfl) (by kernel_rfl) (by kernel_rfl) (by kernel_rfl) (by kernel_rfl) (by kernel_rfl) (by kernel_rfl) (by kernel_rfl) ?_ ?_
          · refine ⟨⟨rfl, ?_⟩, ⟨rfl, ?_⟩, ⟨rfl, ?_⟩, ⟨rfl, ?_⟩, ⟨rfl, ?_⟩, ⟨rfl, ?_⟩, ⟨rfl, ?_⟩, ⟨rfl, ?_⟩, ⟨rfl, ?_⟩, ⟨rfl, ?_⟩, ⟨rfl, ?_⟩, ⟨rfl, ?_⟩, ⟨rfl, ?_⟩, ⟨rfl, ?_⟩, ⟨rfl, ?_⟩, ⟨rfl, ?_⟩, ⟨rfl, ?_⟩, ⟨rfl, ?_⟩, ⟨rfl, ?_⟩, ⟨rfl, ?_⟩, ⟨rfl, ?_⟩, ⟨rfl, ?_⟩, ⟨rfl, ?_⟩, ⟨rfl, ?_⟩, ⟨rfl, ?_⟩, ⟨rfl, ?_⟩, ⟨rfl, ?_⟩, trivial⟩
            · intro a W hbW hk K hK
              have e3 := kvalT hk 3 (Value.slice A2 m c2) (by kernel_rfl)
              clear hk
              go_simp
              exact ⟨_, rfl, hK _ _ rfl (Below.refl _ _)⟩
            · intro a W hbW hk K hK
              have e0 := kvalT hk 0 (Value.slice (some ⟨ga, oa, none⟩) n c) (by kernel_rfl)
              clear hk
              go_simp
              exact ⟨_, rfl, hK _ _ rfl (Below.refl _ _)⟩
            · intro a W hbW hk K hK
              have e4 := kvalT hk 4 (Value.int .i64 (k : Int)) (by kernel_rfl)
              clear hk
              go_simp
              exact ⟨_, rfl, hK _ _ rfl (Below.refl _ _)⟩
            · intro a W hbW hk K hK
              have e23 := kvalT hk 23 (Value.slice (some ⟨ga, oa, none⟩) n c) (by kernel_rfl)
              have e24 := kvalT hk 24 (Value.int .i64 (k : Int)) (by kernel_rfl)
              clear hk
              go_simp
              exact ⟨_, rfl, hK _ _ rfl (Below.refl _ _)⟩
            · intro a W hbW hk K hK
              have e25 := kvalT hk 25 (Value.pointer (some ⟨ga, oa + k * 4, none⟩)) (by kernel_rfl)
              clear hk
              go_simp
              exact ⟨_, rfl, hK _ _ rfl (Below.refl _ _)⟩
            · intro a W hbW hk K hK
              have e26 := kvalT hk 26 (Value.pointer (some ⟨ga, oa + k * 4, none⟩)) (by kernel_rfl)
              clear hk
              obtain ⟨a0, a1, a2, a3⟩ := pc_at HS.out HGET.out (HB.out.trans (hbW.mono HB.out.size))
              dsimp only at a0 a1 a2 a3
              rw [← HDD.out] at a1
              go_simp
              exact ⟨_, rfl, hK _ _ rfl (Below.refl _ _)⟩
            · intro a W hbW hk K hK
              have e5 := kvalT hk 5 (Value.int .i64 (q : Int)) (by kernel_rfl)
              clear hk
              go_simp
              exact ⟨_, rfl, hK _ _ rfl (Below.refl _ _)⟩
            · intro a W hbW hk K hK
              have e27 := kvalT hk 27 (Value.int .i64 p) (by kernel_rfl)
              have e28 := kvalT hk 28 (Value.int .i64 (q : Int)) (by kernel_rfl)
              clear hk
              go_simp
              exact ⟨_, rfl, hK _ _ rfl (Below.refl _ _)⟩
            · intro a W hbW hk K hK
              have e0 := kvalT hk 0 (Value.slice (some ⟨ga, oa, none⟩) n c) (by kernel_rfl)
              clear hk
              go_simp
              exact ⟨_, rfl, hK _ _ rfl (Below.refl _ _)⟩
            · intro a W hbW hk K hK
              have e4 := kvalT hk 4 (Value.int .i64 (k : Int)) (by kernel_rfl)
              clear hk
              go_simp
              exact ⟨_, rfl, hK _ _ rfl (Below.refl _ _)⟩
            · intro a W hbW hk K hK
              have e30 := kvalT hk 30 (Value.slice (some ⟨ga, oa, none⟩) n c) (by kernel_rfl)
              have e31 := kvalT hk 31 (Value.int .i64 (k : Int)) (by kernel_rfl)
              clear hk
              go_simp
              exact ⟨_, rfl, hK _ _ rfl (Below.refl _ _)⟩
            · intro a W hbW hk K hK
              have e32 := kvalT hk 32 (Value.pointer (some ⟨ga, oa + k * 4, none⟩)) (by kernel_rfl)
              clear hk
              go_simp
              exact ⟨_, rfl, hK _ _ rfl (Below.refl _ _)⟩
            · intro a W hbW hk K hK
              have e33 := kvalT hk 33 (Value.pointer (some ⟨ga, oa + k * 4 + 1, none⟩)) (by kernel_rfl)
              clear hk
              obtain ⟨a0, a1, a2, a3⟩ := pc_at HS.out HGET.out (HB.out.trans (hbW.mono HB.out.size))
              dsimp only at a0 a1 a2 a3
              rw [← HDD.out] at a1
              go_simp
              exact ⟨_, rfl, hK _ _ rfl (Below.refl _ _)⟩
            · intro a W hbW hk K hK
              have e5 := kvalT hk 5 (Value.int .i64 (q : Int)) (by kernel_rfl)
              clear hk
              go_simp
              exact ⟨_, rfl, hK _ _ rfl (Below.refl _ _)⟩
            · intro a W hbW hk K hK
              have e34 := kvalT hk 34 (Value.string D) (by kernel_rfl)
              have e35 := kvalT hk 35 (Value.int .i64 (q : Int)) (by kernel_rfl)
              clear hk
              rw [HX.out] at hK
              go_simp
              exact ⟨_, rfl, hK _ _ rfl (Below.refl _ _)⟩
            · intro a W hbW hk K hK
              have e0 := kvalT hk 0 (Value.slice (some ⟨ga, oa, none⟩) n c) (by kernel_rfl)
              clear hk
              go_simp
              exact ⟨_, rfl, hK _ _ rfl (Below.refl _ _)⟩
            · intro a W hbW hk K hK
              have e4 := kvalT hk 4 (Value.int .i64 (k : Int)) (by kernel_rfl)
              clear hk
              go_simp
              exact ⟨_, rfl, hK _ _ rfl (Below.refl _ _)⟩
            · intro a W hbW hk K hK
              have e37 := kvalT hk 37 (Value.slice (some ⟨ga, oa, none⟩) n c) (by kernel_rfl)
              have e38 := kvalT hk 38 (Value.int .i64 (k : Int)) (by kernel_rfl)
              clear hk
              go_simp
              exact ⟨_, rfl, hK _ _ rfl (Below.refl _ _)⟩
            · intro a W hbW hk K hK
              have e39 := kvalT hk 39 (Value.pointer (some ⟨ga, oa + k * 4, none⟩)) (by kernel_rfl)
              clear hk
              go_simp
              exact ⟨_, rfl, hK _ _ rfl (Below.refl _ _)⟩
            · intro a W hbW hk K hK
              have e40 := kvalT hk 40 (Value.pointer (some ⟨ga, oa + k * 4 + 2, none⟩)) (by kernel_rfl)
              clear hk
              obtain ⟨a0, a1, a2, a3⟩ := pc_at HS.out HGET.out (HB.out.trans (hbW.mono HB.out.size))
              dsimp only at a0 a1 a2 a3
              rw [← HDD.out] at a1
              go_simp
              exact ⟨_, rfl, hK _ _ rfl (Below.refl _ _)⟩
            · intro a W hbW hk K hK
              have e0 := kvalT hk 0 (Value.slice (some ⟨ga, oa, none⟩) n c) (by kernel_rfl)
              clear hk
              go_simp
              exact ⟨_, rfl, hK _ _ rfl (Below.refl _ _)⟩
            · intro a W hbW hk K hK
              have e4 := kvalT hk 4 (Value.int .i64 (k : Int)) (by kernel_rfl)
              clear hk
              go_simp
              exact ⟨_, rfl, hK _ _ rfl (Below.refl _ _)⟩
            · intro a W hbW hk K hK
              have e42 := kvalT hk 42 (Value.slice (some ⟨ga, oa, none⟩) n c) (by kernel_rfl)
              have e43 := kvalT hk 43 (Value.int .i64 (k : Int)) (by kernel_rfl)
              clear hk
              go_simp
              exact ⟨_, rfl, hK _ _ rfl (Below.refl _ _)⟩
            · intro a W hbW hk K hK
              have e44 := kvalT hk 44 (Value.pointer (some ⟨ga, oa + k * 4, none⟩)) (by kernel_rfl)
              clear hk
              go_simp
              exact ⟨_, rfl, hK _ _ rfl (Below.refl _ _)⟩
            · intro a W hbW hk K hK
              have e45 := kvalT hk 45 (Value.pointer (some ⟨ga, oa + k * 4 + 3, none⟩)) (by kernel_rfl)
              clear hk
              obtain ⟨a0, a1, a2, a3⟩ := pc_at HS.out HGET.out (HB.out.trans (hbW.mono HB.out.size))
              dsimp only at a0 a1 a2 a3
              rw [← HDD.out] at a1
              go_simp
              exact ⟨_, rfl, hK _ _ rfl (Below.refl _ _)⟩
            · intro a W hbW hk K hK
              have e29 := kvalT hk 29 (Value.int .i64 z) (by kernel_rfl)
              have e36 := kvalT hk 36 (Value.int .u8 (x : Int)) (by kernel_rfl)
              have e41 := kvalT hk 41 (Value.int .i64 fr) (by kernel_rfl)
              have e46 := kvalT hk 46 (Value.int .i64 to_) (by kernel_rfl)
              clear hk
              go_simp
              exact ⟨_, rfl, hK _ _ rfl (Below.refl _ _)⟩
            · intro a W hbW hk K hK
              have e47 := kvalT hk 47 (Value.agg #[.int .i64 z, .int .u8 (x : Int), .int .i64 fr, .int .i64 to_]) (by kernel_rfl)
              clear hk
              go_simp
              exact ⟨_, rfl, hK _ _ ⟨W.heap.size, rfl, hbW.size, heap_alloc_new W _⟩ (below_alloc6 W _)⟩
          · intro W9 hb9
            simp only [List.take_succ_cons, List.take_zero, List.drop_succ_cons, List.drop_zero, endT]
            intro gr hgr hcr
            have HO9 := HO.out.kept hb9
            have hB9 := HB.out.trans (hb9.mono HB.out.size)
            have hs9 : w.heap.size ≤ W9.heap.size := hB9.size
            go_simp
            refine wpList_push (E := ECe) ceTy (by rfl) _ _ (by rfl) w.heap.size _ m (cels (l.take k) ++ celF fr to_ p (dat.take q)) [⟨z, bq, fr, to_⟩] (by rfl) HO9.2 gr 1 1 #[.int .i64 z, .int .u8 (x : Int), .int .i64 fr, .int .i64 to_] (0, 0) (by rfl) hcr (by rw [HXB.out]; rfl) rfl (by omega) (by omega) (by decide) hs9 ?_
            intro g2 cap2 wz hown hgrow hat hlt2
            have HOz := Lib.hid (show OwnE ECe 51 wz w.heap.size (some ⟨g2, 0, none⟩) (m + 1) cap2 (cels (l.take k) ++ celF fr to_ p (dat.take (q + 1))) by rw [HNX.out, ← List.append_assoc]; exact HO9.push rfl hown)
            have HBz := Lib.hid (HO9.below0 hB9 hs9 (Nat.le_refl _) hgrow)
            clear hown hgrow hat hlt2 HO9 hB9 hs9 hcr hgr hb9 HO HB HX HXB HNX
            go_wp2_with fail
            go_roundw
            case rel => exact ⟨q + 1, m + 1, cap2, some ⟨g2, 0, none⟩, rfl, by go_num, by omega, HOz, HBz⟩
            case measure => simp [intOf]; omega
        · obtain rfl : q = D.size := by omega
          have dlt2 : decide ((D.size : Int) < (D.size : Int)) = false := by simp
          have nlt2 : ¬ (D.size : Int) < (D.size : Int) := by omega
          have HO1 := Lib.hid (show OwnE ECe 51 wr w.heap.size A2 m c2 (cels (l.take (k + 1))) by
            rw [HCT.out]
            have := HO.out
            rw [HDS.out, List.take_length] at this
            exact this)
          clear HO
          go_wp2_with fail
          go_roundw
          case rel => exact ⟨k + 1, m, c2, A2, rfl, by go_num, by omega, HO1, HB⟩
          case measure => simp [intOf]; omega
    · obtain rfl : k = n := by omega
      have hd : decide ((k : Int) < (k : Int)) = false := by simp
      have HE := Lib.hid (show OwnE ECe 51 wr w.heap.size A0 m0 c0 (cels l) by have := HO0.out; rwa [HN.out, List.take_length] at this)
      go_wp2_with fail
      go_ret
      exact ⟨A0, c0, by rw [HE.out.1]; rfl, by have := HE.out; rw [this.1] at this; exact this, HB0.out⟩
end Go.Proofs.Ytafpmlikocchpaa
