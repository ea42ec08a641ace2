/- Contracts of the functions, further part 1: SpecsR, UNot. -/
import Derived.Deep.Cut
import Derived.Deep.WholeRow
import Derived.Test.YtnpklepafpdadaaDoorPA27
import Derived.Test.YtnpklepafpdadaaDoorPA29
/- A region that draws its order: as in XSpecs, but what an operation leaves may also be said by a predicate, an operation may make a box, and one may store a whole struct into such a box: blocks of the box's type T may change, all others stay. -/
namespace Go.Proofs.YtnpklepafpdadaaDoor
open Go.ChangeShapes Go.WideShapes Go.ChangeAt Go.RowKit
set_option linter.unusedVariables false

/-- Memory grows; blocks stay, but those of type T may get other cells. -/
def RelT (T : TypeId) (w w' : World) : Prop := w.heap.size ≤ w'.heap.size ∧ ∀ (b : Nat) (cs : Array Value) (e : TypeId) (fr : Nat × Nat), w.heap[b]? = some (.cells cs e fr) → ∃ cs', w'.heap[b]? = some (.cells cs' e fr) ∧ cs'.size = cs.size ∧ (e ≠ T → cs' = cs)
def RelB (T : TypeId) (w0 w w' : World) : Prop := RelT T w w' ∧ (Below w0.heap.size w0 w → Below w0.heap.size w0 w')
theorem relB_below {T : TypeId} {w0 w w' : World} (h : Below w.heap.size w w') : RelB T w0 w w' :=
  ⟨⟨h.size, fun b cs e fr hb => ⟨cs, (h.block b (Array.getElem?_eq_some_iff.1 hb).1).trans hb, rfl, fun _ => rfl⟩⟩, fun h0 => h0.trans (h.mono h0.size)⟩
theorem relB_row {T : TypeId} {w0 w : World} {g : Nat} {old cs : Array Value} {fr : Nat × Nat} (hg : w0.heap.size ≤ g) (h : w.heap[g]? = some (.cells old T fr)) (hs : cs.size = old.size) : RelB T w0 w (w.setRow g cs) := by
  refine ⟨⟨by rw [setRow_size]; exact Nat.le_refl _, fun b cs0 e fr0 hb => ?_⟩, fun h0 => below_row h0 g hg cs⟩
  by_cases hbg : b = g
  · subst hbg
    rw [h] at hb
    cases hb
    exact ⟨cs, setRow_heap w _ _ _ _ _ h, hs, fun hn => absurd rfl hn⟩
  · exact ⟨cs0, (setRow_other w g b cs hbg).trans hb, rfl, fun _ => rfl⟩
/-- What an operation leaves in its slot. -/
inductive SpecP where
  | val (v : Value)
  | row (cs : Array Value) (e : TypeId) (n : Nat)
  | any (f : Value → Prop)
  | box (k : Nat)
def SpecP.ok (T : TypeId) (base : Nat) (u : Value) (w : World) : SpecP → Prop
  | .val v => u = v
  | .row cs e n => e ≠ T ∧ ∃ g, u = .slice (some ⟨g, 0, none⟩) n n ∧ base ≤ g ∧ w.heap[g]? = some (.cells cs e (0, 0))
  | .any f => f u
  | .box k => ∃ g cs, u = .pointer (some ⟨g, 0, none⟩) ∧ base ≤ g ∧ w.heap[g]? = some (.cells cs T (0, 0)) ∧ cs.size = k
theorem SpecP.kept {T : TypeId} {base : Nat} {u : Value} {w w' : World} : ∀ {s : SpecP}, s.ok T base u w → RelT T w w' → s.ok T base u w'
  | .val v, h, _ => h
  | .row cs e n, ⟨h0, g, h1, h2, h3⟩, hb => by
    obtain ⟨cs', k1, _, k3⟩ := hb.2 g cs e (0, 0) h3
    exact ⟨h0, g, h1, h2, by rw [k1, k3 h0]⟩
  | .any f, h, _ => h
  | .box k, ⟨g, cs, h1, h2, h3, h4⟩, hb => by
    obtain ⟨cs', k1, k2, _⟩ := hb.2 g cs T (0, 0) h3
    exact ⟨g, cs', h1, h2, k1, k2.trans h4⟩
def knownP (l : List Oper) (ss : List SpecP) (a0 : Act) (o : Oper) (k : Nat) : Option SpecP :=
  match (List.range l.length).find? (fun j => (l[j]?).bind (·.dst) == some k) with
  | some j => if o.after.any (fun e => Region.binds .any e && e.on == j) then ss[j]? else none
  | none => some (.val (a0.tmps.getD k undef))
/-- What is to be shown of one operation. -/
def StepP (P : Program) (T : TypeId) (l : List Oper) (ss : List SpecP) (a0 : Act) (base : Nat) (w0 : World) (Q : Exit → Act → World → Prop) (o : Oper) (s : SpecP) : Prop :=
  o.guard = none ∧ ∀ (a : Act) (w : World), Below w0.heap.size w0 w → (∀ k s', knownP l ss a0 o k = some s' → s'.ok T base (a.tmps.getD k undef) w) →
    ∀ K : Value → World → Prop, (∀ v w', s.ok T base v w' → RelB T w0 w w' → K v w') → o.wp P a w (fun a' w' => ∃ v, a' = a.put o.dst v ∧ K v w') Q
def allP (R : Oper → SpecP → Prop) : List Oper → List SpecP → Prop
  | o :: l, s :: ss => R o s ∧ allP R l ss
  | _, _ => True
theorem allP_get {R : Oper → SpecP → Prop} : ∀ {l : List Oper} {ss : List SpecP}, allP R l ss → ∀ {i : Nat} {o : Oper} {s : SpecP}, l[i]? = some o → ss[i]? = some s → R o s
  | [], _, _, i, o, s, h, _ => by simp at h
  | o :: l, [], _, i, o', s', _, h => by simp at h
  | o :: l, s :: ss, h, 0, o', s', h1, h2 => by
    obtain rfl := Option.some.inj h1
    obtain rfl := Option.some.inj h2
    exact h.1
  | o :: l, s :: ss, h, i + 1, o', s', h1, h2 => allP_get h.2 (i := i) (by simpa using h1) (by simpa using h2)
/-- What is to be shown behind the region. -/
def putP (base : Nat) (R : Act → Prop) (d : Tmp) (a : Act) : SpecP → Prop
  | .val v => R (a.put (some d) v)
  | .row cs e n => ∀ g, base ≤ g → R (a.put (some d) (.slice (some ⟨g, 0, none⟩) n n))
  | .any f => ∀ v, f v → R (a.put (some d) v)
  | .box k => ∀ g, base ≤ g → R (a.put (some d) (.pointer (some ⟨g, 0, none⟩)))
theorem putP_use {T : TypeId} {base : Nat} {R : Act → Prop} {d : Tmp} {a : Act} {v : Value} {w : World} : ∀ {s : SpecP}, putP base R d a s → s.ok T base v w → R (a.put (some d) v)
  | .val _, h, rfl => h
  | .row _ _ _, h, ⟨_, g, h1, h2, _⟩ => by subst h1; exact h g h2
  | .any _, h, hf => h v hf
  | .box _, h, ⟨g, cs, h1, h2, _⟩ => by subst h1; exact h g h2
def endP (base : Nat) (R : Act → Prop) : List Oper → List SpecP → Act → Prop
  | o :: l, s :: ss, a => match o.dst with
    | none => endP base R l ss a
    | some d => putP base (endP base R l ss) d a s
  | _, _, a => R a
/-- Slots: each operation writes one of its own, or none. -/
def dstsP : List Oper → Nat → Bool
  | [], _ => true
  | o :: l, n => (match o.dst with
    | some d => decide (d < n) && l.all (fun o' => o'.dst != some d)
    | none => true) && dstsP l n
theorem dstsP_get : ∀ {l : List Oper} {n : Nat}, dstsP l n = true → ∀ {i : Nat} {o : Oper} {d : Tmp}, l[i]? = some o → o.dst = some d → d < n ∧ ∀ (j : Nat) (o' : Oper), l[j]? = some o' → o'.dst = some d → j = i
  | [], n, h, i, o, d, h1, _ => by simp at h1
  | o0 :: l, n, h, i, o, d, h1, hd => by
    rw [dstsP, Bool.and_eq_true] at h
    obtain ⟨ha, hb⟩ := h
    cases i with
    | zero =>
      obtain rfl := Option.some.inj h1
      rw [hd] at ha
      simp only [Bool.and_eq_true, decide_eq_true_eq, List.all_eq_true] at ha
      obtain ⟨h2, h3⟩ := ha
      refine ⟨h2, fun j o' h4 h5 => ?_⟩
      cases j with
      | zero => rfl
      | succ j =>
        have hm := List.mem_of_getElem? (show l[j]? = some o' by simpa using h4)
        have := h3 o' hm
        rw [h5] at this
        simp at this
    | succ i =>
      have h1' : l[i]? = some o := by simpa using h1
      obtain ⟨e2, e3⟩ := dstsP_get hb h1' hd
      refine ⟨e2, fun j o' h4 h5 => ?_⟩
      cases j with
      | zero =>
        obtain rfl := Option.some.inj h4
        rw [h5] at ha
        simp only [Bool.and_eq_true, decide_eq_true_eq, List.all_eq_true] at ha
        have := ha.2 o (List.mem_of_getElem? h1')
        rw [hd] at this
        simp at this
      | succ j => rw [e3 j o' (by simpa using h4) h5]
/-- Between two operations. -/
structure InvP (T : TypeId) (l : List Oper) (ss : List SpecP) (a0 : Act) (base : Nat) (w0 : World) (listed : Array Bool) (a : Act) (w : World) : Prop where
  ls : listed.size = l.length
  df : a.defers = a0.defers
  sz : a.tmps.size = a0.tmps.size
  old : ∀ k, (∀ (i : Nat) (o : Oper), l[i]? = some o → o.dst = some k → listed.getD i false = false) → a.tmps[k]? = a0.tmps[k]?
  done : ∀ (i : Nat) (o : Oper) (s : SpecP) (d : Nat), l[i]? = some o → ss[i]? = some s → o.dst = some d → listed.getD i false = true → s.ok T base (a.tmps.getD d undef) w
  bel : Below w0.heap.size w0 w
theorem endP_use {T : TypeId} {base : Nat} {R : Act → Prop} {w : World} : ∀ {l : List Oper} {ss : List SpecP} {a1 a : Act}, endP base R l ss a1 → ss.length = l.length → dstsP l a.tmps.size = true → a.defers = a1.defers → a.tmps.size = a1.tmps.size →
    (∀ k, (∀ (i : Nat) (o : Oper), l[i]? = some o → o.dst ≠ some k) → a.tmps[k]? = a1.tmps[k]?) →
    (∀ (i : Nat) (o : Oper) (s : SpecP) (d : Nat), l[i]? = some o → ss[i]? = some s → o.dst = some d → s.ok T base (a.tmps.getD d undef) w) → R a
  | [], ss, a1, a, h, hl, hd, h1, h2, h3, h4 => by
    have e : a = a1 := by
      obtain ⟨t, d⟩ := a
      obtain ⟨t1, d1⟩ := a1
      simp only at h1 h2 h3
      subst h1
      congr 1
      exact Array.ext_getElem? fun k => h3 k (fun i o h => by simp at h)
    rw [e]
    cases ss with
    | nil => exact h
    | cons s r => simp at hl
  | o :: l, [], a1, a, h, hl, hd, h1, h2, h3, h4 => by simp at hl
  | o :: l, s :: ss, a1, a, h, hl, hd, h1, h2, h3, h4 => by
    have hdl : dstsP l a.tmps.size = true := by rw [dstsP, Bool.and_eq_true] at hd; exact hd.2
    cases hd0 : o.dst with
    | none =>
      rw [endP, hd0] at h
      refine endP_use (T := T) (w := w) h (by simpa using hl) hdl h1 h2 (fun k hk => h3 k (fun i o' hi hh' => ?_)) (fun i o' s' d' hi hs' hd' => h4 (i + 1) o' s' d' (by simpa using hi) (by simpa using hs') hd')
      cases i with
      | zero =>
        obtain rfl := Option.some.inj hi
        rw [hd0] at hh'
        cases hh'
      | succ i => exact hk i o' (by simpa using hi) hh'
    | some d =>
      obtain ⟨hdn, huniq⟩ := dstsP_get hd (i := 0) rfl hd0
      have hok := h4 0 o s d rfl rfl hd0
      rw [endP, hd0] at h
      obtain ⟨v, hv⟩ : ∃ v, a.tmps.getD d undef = v := ⟨_, rfl⟩
      rw [hv] at hok
      have hh := putP_use h hok
      refine endP_use (T := T) (w := w) hh (by simpa using hl) hdl h1 ?_ ?_ ?_
      · rw [h2]; unfold Act.put; simp
      · intro k hk
        unfold Act.put
        simp only
        by_cases hkd : k = d
        · subst hkd
          rw [Array.getElem?_setIfInBounds, if_pos rfl, if_pos (by rw [← h2]; exact hdn)]
          rw [← hv, Array.getD_eq_getD_getElem?, Array.getElem?_eq_getElem hdn]
          rfl
        · rw [Array.getElem?_setIfInBounds, if_neg (fun e => hkd e.symm)]
          refine h3 k (fun i o' hi hh' => ?_)
          cases i with
          | zero =>
            obtain rfl := Option.some.inj hi
            rw [hd0] at hh'
            exact hkd (Option.some.inj hh').symm
          | succ i => exact hk i o' (by simpa using hi) hh'
      · intro i o' s' d' hi hs' hd'
        exact h4 (i + 1) o' s' d' (by simpa using hi) (by simpa using hs') hd'
theorem kvalP {T : TypeId} {l : List Oper} {ss : List SpecP} {a0 a : Act} {o : Oper} {base : Nat} {w : World} (hk : ∀ k s', knownP l ss a0 o k = some s' → s'.ok T base (a.tmps.getD k undef) w) (k : Nat) (v : Value) (h : knownP l ss a0 o k = some (.val v)) : a.tmps[k]?.getD undef = v := by
  have := hk k _ h
  rw [Array.getD_eq_getD_getElem?] at this
  exact this
theorem krowP {T : TypeId} {l : List Oper} {ss : List SpecP} {a0 a : Act} {o : Oper} {base : Nat} {w : World} (hk : ∀ k s', knownP l ss a0 o k = some s' → s'.ok T base (a.tmps.getD k undef) w) (k : Nat) (cs : Array Value) (e : TypeId) (n : Nat) (h : knownP l ss a0 o k = some (.row cs e n)) : ∃ g, a.tmps[k]?.getD undef = .slice (some ⟨g, 0, none⟩) n n ∧ base ≤ g ∧ w.heap[g]? = some (.cells cs e (0, 0)) := by
  have := hk k _ h
  rw [Array.getD_eq_getD_getElem?] at this
  exact this.2
theorem kanyP {T : TypeId} {l : List Oper} {ss : List SpecP} {a0 a : Act} {o : Oper} {base : Nat} {w : World} (hk : ∀ k s', knownP l ss a0 o k = some s' → s'.ok T base (a.tmps.getD k undef) w) (k : Nat) (f : Value → Prop) (h : knownP l ss a0 o k = some (.any f)) : f (a.tmps[k]?.getD undef) := by
  have := hk k _ h
  rw [Array.getD_eq_getD_getElem?] at this
  exact this
theorem kboxP {T : TypeId} {l : List Oper} {ss : List SpecP} {a0 a : Act} {o : Oper} {base : Nat} {w : World} (hk : ∀ k s', knownP l ss a0 o k = some s' → s'.ok T base (a.tmps.getD k undef) w) (k n : Nat) (h : knownP l ss a0 o k = some (.box n)) : ∃ g cs, a.tmps[k]?.getD undef = .pointer (some ⟨g, 0, none⟩) ∧ base ≤ g ∧ w.heap[g]? = some (.cells cs T (0, 0)) ∧ cs.size = n := by
  have := hk k _ h
  rw [Array.getD_eq_getD_getElem?] at this
  exact this
theorem specsP_any {P : Program} {T : TypeId} {Q : Exit → Act → World → Prop} {l : List Oper} {ss : List SpecP} {a0 : Act} {base : Nat} {w0 : World} (hlen : ss.length = l.length) (hdst : dstsP l a0.tmps.size = true) (hback : backB l 0 = true)
    (hstep : allP (StepP P T l ss a0 base w0 Q) l ss) (hend : ∀ w', Below w0.heap.size w0 w' → endP base (fun a => Q .normal a w') l ss a0) :
    ∀ (fuel : Nat) (listed : Array Bool) (a : Act) (w : World), InvP T l ss a0 base w0 listed a w → listed.toList.countP (fun b => !b) ≤ fuel → wpAny P .any l.toArray Q fuel listed a w := by
  have hfin : ∀ (listed : Array Bool) (a : Act) (w : World), InvP T l ss a0 base w0 listed a w → Region.ready .any l.toArray listed = [] → Q .normal a w := by
    intro listed a w hI hr
    have hall : ∀ i, i < l.length → listed.getD i false = true := by
      intro i
      induction i using Nat.strongRecOn with
      | _ i ih =>
        intro hi
        refine Decidable.byContradiction fun hn => ?_
        have hn' : listed.getD i true = false := by
          rw [Array.getD_eq_getD_getElem?, Array.getElem?_eq_getElem (by rw [hI.ls]; exact hi)] at hn ⊢
          simpa using hn
        have hmem : i ∈ Region.ready .any l.toArray listed := by
          unfold Region.ready
          rw [List.mem_filter]
          refine ⟨by simp [hi], ?_⟩
          rw [hn']
          have ho : l.toArray[i]? = some l[i] := by simp [hi]
          rw [ho]
          simp only [Bool.not_false, Bool.true_and, Option.map_some, Option.getD_some]
          rw [Array.all_eq_true']
          intro e he
          cases hb : Region.binds .any e with
          | false => rfl
          | true =>
            have h1 := backB_get hback (show l[i]? = some l[i] from List.getElem?_eq_getElem hi) e he hb
            rw [Nat.zero_add] at h1
            rw [ih e.on h1 (by omega)]
            rfl
        rw [hr] at hmem
        cases hmem
    refine endP_use (T := T) (w := w) (hend w hI.bel) hlen (by rw [hI.sz]; exact hdst) hI.df hI.sz (fun k hk => hI.old k (fun i o hi hd => absurd hd (hk i o hi))) (fun i o s d hi hs hd => hI.done i o s d hi hs hd (hall i ?_))
    exact (List.getElem?_eq_some_iff.1 hi).1
  intro fuel
  induction fuel with
  | zero =>
    intro listed a w hI hc
    have hr : Region.ready .any l.toArray listed = [] := by
      unfold Region.ready
      rw [List.filter_eq_nil_iff]
      intro i hi
      have hil : i < listed.size := by rw [hI.ls]; simpa using hi
      have h0 : listed.toList.countP (fun b => !b) = 0 := by omega
      rw [List.countP_eq_zero] at h0
      have := h0 listed[i] (by simp)
      have e : listed.getD i true = true := by
        rw [Array.getD_eq_getD_getElem?, Array.getElem?_eq_getElem hil]
        simpa using this
      rw [e]
      simp
    exact ⟨hr, hfin listed a w hI hr⟩
  | succ fuel ih =>
    intro listed a w hI hc
    refine ⟨fun hr => hfin listed a w hI hr, fun i hi => ?_⟩
    unfold Region.ready at hi
    rw [List.mem_filter] at hi
    obtain ⟨hi1, hi2⟩ := hi
    have hil : i < l.length := by simpa using hi1
    rw [Bool.and_eq_true] at hi2
    obtain ⟨hun, hdeps⟩ := hi2
    have ho : l[i]? = some l[i] := List.getElem?_eq_getElem hil
    have ho' : l.toArray[i]? = some l[i] := by simp [hil]
    rw [ho'] at hdeps
    simp only [Option.map_some, Option.getD_some] at hdeps
    rw [Array.all_eq_true'] at hdeps
    have hs : ss[i]? = some (ss[i]'(by omega)) := List.getElem?_eq_getElem (by omega)
    obtain ⟨hgd, hst⟩ := allP_get hstep ho hs
    have hlz : i < listed.size := by rw [hI.ls]; exact hil
    have hlf : listed.toList[i]? = some false := by
      rw [Array.getD_eq_getD_getElem?, Array.getElem?_eq_getElem hlz] at hun
      rw [Array.getElem?_toList, Array.getElem?_eq_getElem hlz]
      simpa using hun
    unfold wpOp
    rw [ho']
    simp only
    rw [if_pos (by simp [Region.wanted, hgd])]
    left
    refine Oper.wp_mono ?_ (hst a w hI.bel ?_ (fun v w' => (ss[i]'(by omega)).ok T base v w' ∧ RelB T w0 w w') (fun v w' h1 h2 => ⟨h1, h2⟩))
    · rintro a' w' ⟨v, rfl, hok, hb⟩
      refine ih _ _ _ ⟨?_, ?_, ?_, ?_, ?_, hb.2 hI.bel⟩ ?_
      · simp [hI.ls]
      · rw [← hI.df]; unfold Act.put; split <;> rfl
      · rw [← hI.sz]; unfold Act.put; split <;> simp
      · intro k hk
        have hkd : l[i].dst ≠ some k := fun e => by
          have := hk i _ ho e
          rw [Array.getD_eq_getD_getElem?, Array.getElem?_setIfInBounds, if_pos rfl, if_pos hlz] at this
          simp at this
        have hput : (a.put l[i].dst v).tmps[k]? = a.tmps[k]? := by
          unfold Act.put
          split
          · next d hd =>
            rw [Array.getElem?_setIfInBounds, if_neg (fun e => hkd (by rw [hd, e]))]
          · rfl
        rw [hput]
        refine hI.old k (fun j o' hj hdj => ?_)
        have h3 := hk j o' hj hdj
        by_cases hji : j = i
        · subst hji
          rw [Array.getD_eq_getD_getElem?, Array.getElem?_setIfInBounds, if_pos rfl, if_pos hlz] at h3
          simp at h3
        · rw [Array.getD_eq_getD_getElem?, Array.getElem?_setIfInBounds, if_neg (fun e => hji e.symm), ← Array.getD_eq_getD_getElem?] at h3
          exact h3
      · intro j o' s' d' hj hs' hd' hlj
        by_cases hji : j = i
        · subst hji
          obtain rfl := Option.some.inj (ho.symm.trans hj)
          obtain rfl := Option.some.inj (hs.symm.trans hs')
          obtain ⟨hdn, _⟩ := dstsP_get hdst ho hd'
          unfold Act.put
          rw [hd']
          simp only
          rw [Array.getD_eq_getD_getElem?, Array.getElem?_setIfInBounds, if_pos rfl, if_pos (by rw [hI.sz]; exact hdn)]
          exact hok
        · obtain ⟨_, huniq⟩ := dstsP_get hdst hj hd'
          have hdd : l[i].dst ≠ some d' := fun e => hji (huniq i _ ho e).symm
          have hput : (a.put l[i].dst v).tmps.getD d' undef = a.tmps.getD d' undef := by
            unfold Act.put
            split
            · next d hd =>
              rw [Array.getD_eq_getD_getElem?, Array.getElem?_setIfInBounds, if_neg (fun e => hdd (by rw [hd, e])), ← Array.getD_eq_getD_getElem?]
            · rfl
          rw [hput]
          rw [Array.getD_eq_getD_getElem?, Array.getElem?_setIfInBounds, if_neg (fun e => hji e.symm), ← Array.getD_eq_getD_getElem?] at hlj
          exact SpecP.kept (hI.done j o' s' d' hj hs' hd' hlj) hb.1
      · have hcs := cnt_set _ _ hlf
        rw [Array.toList_setIfInBounds]
        omega
    · intro k s' hk
      unfold knownP at hk
      cases hf : (List.range l.length).find? (fun j => (l[j]?).bind (·.dst) == some k) with
      | none =>
        rw [hf] at hk
        obtain rfl := Option.some.inj hk
        show a.tmps.getD k undef = a0.tmps.getD k undef
        rw [Array.getD_eq_getD_getElem?, Array.getD_eq_getD_getElem?]
        rw [hI.old k (fun j o' hj hdj => ?_)]
        exfalso
        rw [List.find?_eq_none] at hf
        have hjl := (List.getElem?_eq_some_iff.1 hj).1
        have := hf j (by simp [hjl])
        rw [hj] at this
        simp [hdj] at this
      | some j =>
        rw [hf] at hk
        simp only at hk
        have h5 := List.find?_some hf
        have hjl : j < l.length := by have := List.mem_of_find?_eq_some hf; simpa using this
        have hj : l[j]? = some l[j] := List.getElem?_eq_getElem hjl
        rw [hj] at h5
        have hdj : l[j].dst = some k := by simpa using h5
        split at hk
        · rename_i hany
          rw [Array.any_eq_true'] at hany
          obtain ⟨e, he, hb⟩ := hany
          rw [Bool.and_eq_true, beq_iff_eq] at hb
          have h6 := hdeps e he
          rw [hb.1, hb.2] at h6
          exact hI.done j _ s' k hj hk hdj (by simpa using h6)
        · cases hk
/-- THE LAW. -/
theorem wp_region_specs_row {P : Program} (T : TypeId) {id : Nat} {Q : Exit → Act → World → Prop} {a0 : Act} {w : World} {l : List Oper} (ss : List SpecP) (hm : P.follows .mixedOrders = true) (hlen : ss.length = l.length) (hdst : dstsP l a0.tmps.size = true) (hback : backB l 0 = true)
    (hstep : allP (StepP P T l ss a0 w.heap.size w Q) l ss) (hend : ∀ w', Below w.heap.size w w' → endP w.heap.size (fun a => Q .normal a w') l ss a0) : (Code.region id l.toArray true).wp P Q a0 w := by
  refine wp_region_any hm ?_
  have hbw : Below w.heap.size w { w with drawn := w.drawn + 1 } := ⟨rfl, rfl, rfl, Nat.le_refl _, fun _ _ => rfl⟩
  refine specsP_any (w0 := w) hlen hdst hback hstep hend _ _ _ _ ⟨by simp, rfl, rfl, fun _ _ => rfl, fun i o s d hi hs hd hl => ?_, hbw⟩ ?_
  · exfalso
    rw [Array.getD_eq_getD_getElem?, Array.getElem?_replicate] at hl
    split at hl <;> simp at hl
  · have := List.countP_le_length (p := fun b => !b) (l := (Array.replicate l.toArray.size false).toList)
    simpa using this
end Go.Proofs.YtnpklepafpdadaaDoor

/- The law of layer 13 about a changed byte: the walk, over the bundle. -/
namespace Go.Proofs.YtnpklepafpdadaaDoor
open Go.ChangeShapes Go.WideShapes Go.ChangeAt Go.RowKit
set_option linter.unusedVariables false

/-- string([]byte{a}). -/
theorem one_strW (W : World) (g : Nat) (a : Nat) (ha : a < 256) (h : W.heap[g]? = some (.cells #[.int .u8 (a : Int)] 5 (0, 0))) : (convert 39 9 (.slice (some ⟨g, 0, none⟩) 1 1)).run Tryd.prog W = .ok (.string (str [UInt8.ofNat a])) W := by
  have hla : (UInt8.ofNat a).toNat = a := by rw [UInt8.toNat_ofNat']; omega
  have hbs : BS W 0 (.slice (some ⟨g, 0, none⟩) [UInt8.ofNat a].length 1) [UInt8.ofNat a] := by
    refine ⟨some ⟨g, 0, none⟩, 1, rfl, Nat.le_refl _, fun _ => ⟨g, 0, rfl, Nat.zero_le _, (Array.getElem?_eq_some_iff.1 h).1, fun j hj => ?_⟩⟩
    have hj2 : j = 0 := by simp at hj; omega
    subst hj2
    simp [World.cell?, World.frozen?, h, hla]
  exact bs_string hbs
theorem set_cut {S : List UInt8} {i : Nat} {c : UInt8} (h : i < S.length) : S.set i c = S.take i ++ (c :: S.drop (i + 1)) := by
  rw [List.set_eq_take_append_cons_drop, if_pos h]
theorem s0_at13 {s : ByteArray} {S : List UInt8} (h : s = str S) (i : Nat) (h1 : i < s.size) : s[i].toNat = byt S i := by
  subst h
  have h2 : i < S.length := by rw [str_size] at h1; exact h1
  unfold byt
  rw [List.getD_eq_getElem?_getD, List.getElem?_eq_getElem h2]
  show ((str S).data[i]).toNat = _
  simp [str]
theorem nm2_byt {S : List UInt8} {i : Nat} (h : nm2 S i = 0) (hl : i + 2 ≤ S.length) : byt S i = 0 ∧ byt S (i + 1) = 0 := by
  have e : (S.drop i).take 2 = [S[i]'(by omega), S[i + 1]'(by omega)] := by
    rw [List.drop_eq_getElem_cons (by omega), List.drop_eq_getElem_cons (by omega)]
    rfl
  have hn : nm2 S i = (S[i]'(by omega)).toNat * 256 + (S[i + 1]'(by omega)).toNat := by
    unfold nm2
    rw [e]
    simp [num]
  unfold byt
  rw [List.getD_eq_getElem?_getD, List.getD_eq_getElem?_getD, List.getElem?_eq_getElem (by omega), List.getElem?_eq_getElem (by omega)]
  simp only [Option.getD_some]
  omega
set_option maxHeartbeats 8000000 in
set_option maxRecDepth 20000 in
theorem walkN13 {T : World → Prop} (H : P13 T) (v1 v2 : Bool) (h1 l1 h2 l2 : Nat) (src dst : Int) (pay : List UInt8) (k : Nat) (w : World) (hT : T w) (ha : fits13 ⟨v1, h1, l1⟩) (hb : fits13 ⟨v2, h2, l2⟩) (hw : udpWf ⟨src, dst, pay⟩) (hk : k < 65536) :
    Calls Tryd.prog 6 #[.agg #[.bool v1, .int .u64 (h1 : Int), .int .u64 (l1 : Int), .bool v2, .int .u64 (h2 : Int), .int .u64 (l2 : Int)], .agg #[.int .i64 src, .int .i64 dst, .string (str pay)], .int .u16 (k : Int)] w fun e w' => e = .returned (.bool true) ∧ Below w.heap.size w w' := by
  obtain ⟨P, hP⟩ : ∃ P, P = str pay := ⟨_, rfl⟩
  have hPs : P.size = pay.length := by rw [hP, str_size]
  rw [← hP]
  obtain ⟨W0, hW0⟩ : ∃ W, W = (w.alloc (.cells #[.bool v1, .int .u64 (h1 : Int), .int .u64 (l1 : Int), .bool v2, .int .u64 (h2 : Int), .int .u64 (l2 : Int)] 26)).alloc (.cells #[.int .i64 src, .int .i64 dst, .string P] 29) := ⟨_, rfl⟩
  obtain ⟨g0, hg0⟩ : ∃ g, g = w.heap.size := ⟨_, rfl⟩
  obtain ⟨g1, hg1⟩ : ∃ g, g = w.heap.size + 1 := ⟨_, rfl⟩
  have P0 := Lib.hid (show Cells W0 g0 26 #[.bool v1, .int .u64 (h1 : Int), .int .u64 (l1 : Int), .bool v2, .int .u64 (h2 : Int), .int .u64 (l2 : Int)] by rw [hW0, hg0]; exact alloc2_0 w _ _)
  have Q0 := Lib.hid (show Cells W0 g1 29 #[.int .i64 src, .int .i64 dst, .string P] by rw [hW0, hg1]; exact heap2 w _ _)
  have B0 := Lib.hid (show Below w.heap.size w W0 by rw [hW0]; exact ((Below.refl _ _).alloc (Nat.le_refl _) _).alloc (by simp) _)
  have K0 := Lib.hid (H.keep w W0 hT B0.out)
  have HL := Lib.hid (fun (W : World) (hW : T W) => awk13 H W hW)
  have HK := Lib.hid H.keep
  obtain ⟨R, hR⟩ : ∃ R, R = encU ⟨v1, h1, l1⟩ ⟨v2, h2, l2⟩ ⟨src, dst, pay⟩ := ⟨_, rfl⟩
  have H1 := Lib.hid (fun (W : World) (hW : T W) => show Calls Tryd.prog 10 #[.agg #[.bool v1, .int .u64 (h1 : Int), .int .u64 (l1 : Int)], .agg #[.bool v2, .int .u64 (h2 : Int), .int .u64 (l2 : Int)], .agg #[.int .i64 src, .int .i64 dst, .string P]] W fun e w' => e = .returned (.tuple #[.string (str R.1), .int .i64 (R.2 : Int)]) ∧ Below W.heap.size W w' from by rw [hP, hR]; exact H.enc v1 v2 h1 l1 h2 l2 src dst pay W hW ha hb hw)
  by_cases hl : 300 < P.size
  · have d0 : decide ((300 : Int) < (P.size : Int)) = true := by simp; omega
    have n0 : (300 : Int) < (P.size : Int) := by omega
    clear hl hR hT hP hw ha hb hPs
    go_enter Tryd.func6, Tryd.ntmps6
    go_upto_region 1 with fail
    rw [← hW0, ← hg1, ← hg0]
    clear hW0 hg0 hg1
    have x0 := (Cells.cell P0.out 0).trans (show _ = some (Value.bool v1) from rfl)
    have x1 := (Cells.cell P0.out 1).trans (show _ = some (Value.int .u64 (h1 : Int)) from rfl)
    have x2 := (Cells.cell P0.out 2).trans (show _ = some (Value.int .u64 (l1 : Int)) from rfl)
    have x3 := (Cells.cell P0.out 3).trans (show _ = some (Value.bool v2) from rfl)
    have x4 := (Cells.cell P0.out 4).trans (show _ = some (Value.int .u64 (h2 : Int)) from rfl)
    have x5 := (Cells.cell P0.out 5).trans (show _ = some (Value.int .u64 (l2 : Int)) from rfl)
    have u0 := (Cells.cell Q0.out 0).trans (show _ = some (Value.int .i64 src) from rfl)
    have u1 := (Cells.cell Q0.out 1).trans (show _ = some (Value.int .i64 dst) from rfl)
    have u2 := (Cells.cell Q0.out 2).trans (show _ = some (Value.string P) from rfl)
    go_wp2_with fail
    refine (HL.out _ K0.out).mono ?_
    rintro e w9 ⟨rfl, b9⟩
    go_wp2_with fail
    go_ret
    exact ⟨rfl, B0.out.trans (b9.mono B0.out.size)⟩
  have d0 : decide ((300 : Int) < (P.size : Int)) = false := by simp; omega
  have n0 : ¬ (300 : Int) < (P.size : Int) := by omega
  obtain ⟨⟨es, er⟩, hRR⟩ : ∃ Q, Q = R := ⟨_, rfl⟩
  rw [← hRR] at H1 hR
  dsimp only at H1
  by_cases he : er ≠ 0
  · have hes : es = [] := by have := encU_bad (show (encU ⟨v1, h1, l1⟩ ⟨v2, h2, l2⟩ ⟨src, dst, pay⟩).2 ≠ 0 by rw [← hR]; exact he); rwa [← hR] at this
    subst hes
    have H1' := Lib.hid (fun (W : World) (hW : T W) => show Calls Tryd.prog 10 #[.agg #[.bool v1, .int .u64 (h1 : Int), .int .u64 (l1 : Int)], .agg #[.bool v2, .int .u64 (h2 : Int), .int .u64 (l2 : Int)], .agg #[.int .i64 src, .int .i64 dst, .string P]] W fun e w' => e = .returned (.tuple #[.string ⟨#[]⟩, .int .i64 (er : Int)]) ∧ Below W.heap.size W w' from H1.out W hW)
    have z1 : ((er : Int) != 0) = true := by rw [bne_iff_ne]; omega
    have z2 : ¬ (er : Int) = 0 := by omega
    clear hl hR hT hP hw ha hb hPs hRR he H1
    go_enter Tryd.func6, Tryd.ntmps6
    go_upto_region 1 with fail
    rw [← hW0, ← hg1, ← hg0]
    clear hW0 hg0 hg1
    have x0 := (Cells.cell P0.out 0).trans (show _ = some (Value.bool v1) from rfl)
    have x1 := (Cells.cell P0.out 1).trans (show _ = some (Value.int .u64 (h1 : Int)) from rfl)
    have x2 := (Cells.cell P0.out 2).trans (show _ = some (Value.int .u64 (l1 : Int)) from rfl)
    have x3 := (Cells.cell P0.out 3).trans (show _ = some (Value.bool v2) from rfl)
    have x4 := (Cells.cell P0.out 4).trans (show _ = some (Value.int .u64 (h2 : Int)) from rfl)
    have x5 := (Cells.cell P0.out 5).trans (show _ = some (Value.int .u64 (l2 : Int)) from rfl)
    have u0 := (Cells.cell Q0.out 0).trans (show _ = some (Value.int .i64 src) from rfl)
    have u1 := (Cells.cell Q0.out 1).trans (show _ = some (Value.int .i64 dst) from rfl)
    have u2 := (Cells.cell Q0.out 2).trans (show _ = some (Value.string P) from rfl)
    go_wp2_with fail
    refine (H1'.out _ K0.out).mono ?_
    rintro e w1 ⟨rfl, b1⟩
    have P1 := Lib.hid (P0.out.kept b1 P0.out.lt)
    have Q1 := Lib.hid (Q0.out.kept b1 Q0.out.lt)
    have K1 := Lib.hid (HK.out _ _ K0.out b1)
    have B1 := Lib.hid (B0.out.trans (b1.mono B0.out.size))
    clear b1 P0 Q0 K0 B0 x0 x1 x2 x3 x4 x5 u0 u1 u2
    have x0 := (Cells.cell P1.out 0).trans (show _ = some (Value.bool v1) from rfl)
    have x1 := (Cells.cell P1.out 1).trans (show _ = some (Value.int .u64 (h1 : Int)) from rfl)
    have x2 := (Cells.cell P1.out 2).trans (show _ = some (Value.int .u64 (l1 : Int)) from rfl)
    have x3 := (Cells.cell P1.out 3).trans (show _ = some (Value.bool v2) from rfl)
    have x4 := (Cells.cell P1.out 4).trans (show _ = some (Value.int .u64 (h2 : Int)) from rfl)
    have x5 := (Cells.cell P1.out 5).trans (show _ = some (Value.int .u64 (l2 : Int)) from rfl)
    have u0 := (Cells.cell Q1.out 0).trans (show _ = some (Value.int .i64 src) from rfl)
    have u1 := (Cells.cell Q1.out 1).trans (show _ = some (Value.int .i64 dst) from rfl)
    have u2 := (Cells.cell Q1.out 2).trans (show _ = some (Value.string P) from rfl)
    go_wp2_with fail
    refine (HL.out _ K1.out).mono ?_
    rintro e w9 ⟨rfl, b9⟩
    go_wp2_with fail
    go_ret
    exact ⟨rfl, B1.out.trans (b9.mono B1.out.size)⟩
  obtain rfl : er = 0 := Classical.not_not.1 he
  have henc : encU ⟨v1, h1, l1⟩ ⟨v2, h2, l2⟩ ⟨src, dst, pay⟩ = (es, 0) := hR.symm
  obtain ⟨-, g3, g4⟩ := dec_encU henc []
  obtain ⟨E, hE⟩ : ∃ E, E = str es := ⟨_, rfl⟩
  have hEz : E.size = es.length := by rw [hE, str_size]
  rw [← hE] at H1
  dsimp only at g3
  have hE8 : 8 ≤ E.size := by omega
  have hE3 : E.size ≤ 308 := by omega
  have m1 : decide ((E.size : Int) < 8) = false := by simp; omega
  have m2 : ¬ (E.size : Int) < 8 := by omega
  have m3 : ¬ (E.size : Int) = 0 := by omega
  have m4 : ((E.size : Int) == 0) = false := by rw [beq_eq_false_iff_ne]; exact m3
  have kw : IntKind.i64.wrap (k : Int) = (k : Int) := by rw [IntKind.wrap_i64]; omega
  obtain ⟨i, hi⟩ : ∃ i, i = k % E.size := ⟨_, rfl⟩
  have hi2 : i < E.size := by rw [hi]; exact Nat.mod_lt _ (by omega)
  have ki : (k : Int) % (E.size : Int) = (i : Int) := by rw [hi]; rfl
  have ki' : (k : Int).tmod (E.size : Int) = (i : Int) := by rw [Int.tmod_eq_emod_of_nonneg (by omega)]; exact ki
  obtain ⟨q1, hq1⟩ : ∃ q, q = k / 256 := ⟨_, rfl⟩
  obtain ⟨q2, hq2⟩ : ∃ q, q = q1 % 255 := ⟨_, rfl⟩
  obtain ⟨d, hd⟩ : ∃ d, d = 1 + q2 := ⟨_, rfl⟩
  have k1 : (k : Int) / 256 = (q1 : Int) := by omega
  have k1' : (k : Int).tdiv 256 = (q1 : Int) := by rw [Int.tdiv_eq_ediv_of_nonneg (by omega)]; exact k1
  have k2 : (q1 : Int) % 255 = (q2 : Int) := by omega
  have k2' : (q1 : Int).tmod 255 = (q2 : Int) := by rw [Int.tmod_eq_emod_of_nonneg (by omega)]; exact k2
  have k3 : (1 : Int) + (q2 : Int) = (d : Int) := by omega
  have hd1 : 1 ≤ d ∧ d ≤ 255 := by omega
  have wi : IntKind.i64.wrap (i : Int) = (i : Int) := by rw [IntKind.wrap_i64]; omega
  have wq1 : IntKind.i64.wrap (q1 : Int) = (q1 : Int) := by rw [IntKind.wrap_i64]; omega
  have wq2 : IntKind.i64.wrap (q2 : Int) = (q2 : Int) := by rw [IntKind.wrap_i64]; omega
  have wd : IntKind.i64.wrap (d : Int) = (d : Int) := by rw [IntKind.wrap_i64]; omega
  by_cases h45 : i = 4 ∨ i = 5
  · have hcs : ((i : Int) == 4) = true ∨ (((i : Int) == 4) = false ∧ ((i : Int) == 5) = true) := by
      rcases h45 with rfl | rfl
      · exact .inl rfl
      · exact .inr ⟨rfl, rfl⟩
    clear hl hR hT hP hw ha hb hPs hRR he henc g3 g4 hE hEz hi hq1 hq2 hd h45
    rcases hcs with d1 | ⟨d1, d2⟩
    · go_enter Tryd.func6, Tryd.ntmps6
      go_upto_region 1 with fail
      rw [← hW0, ← hg1, ← hg0]
      clear hW0 hg0 hg1
      have x0 := (Cells.cell P0.out 0).trans (show _ = some (Value.bool v1) from rfl)
      have x1 := (Cells.cell P0.out 1).trans (show _ = some (Value.int .u64 (h1 : Int)) from rfl)
      have x2 := (Cells.cell P0.out 2).trans (show _ = some (Value.int .u64 (l1 : Int)) from rfl)
      have x3 := (Cells.cell P0.out 3).trans (show _ = some (Value.bool v2) from rfl)
      have x4 := (Cells.cell P0.out 4).trans (show _ = some (Value.int .u64 (h2 : Int)) from rfl)
      have x5 := (Cells.cell P0.out 5).trans (show _ = some (Value.int .u64 (l2 : Int)) from rfl)
      have u0 := (Cells.cell Q0.out 0).trans (show _ = some (Value.int .i64 src) from rfl)
      have u1 := (Cells.cell Q0.out 1).trans (show _ = some (Value.int .i64 dst) from rfl)
      have u2 := (Cells.cell Q0.out 2).trans (show _ = some (Value.string P) from rfl)
      go_wp2_with fail
      refine (H1.out _ K0.out).mono ?_
      rintro e w1 ⟨rfl, b1⟩
      have P1 := Lib.hid (P0.out.kept b1 P0.out.lt)
      have Q1 := Lib.hid (Q0.out.kept b1 Q0.out.lt)
      have K1 := Lib.hid (HK.out _ _ K0.out b1)
      have B1 := Lib.hid (B0.out.trans (b1.mono B0.out.size))
      clear b1 P0 Q0 K0 B0 H1 x0 x1 x2 x3 x4 x5 u0 u1 u2
      have x0 := (Cells.cell P1.out 0).trans (show _ = some (Value.bool v1) from rfl)
      have x1 := (Cells.cell P1.out 1).trans (show _ = some (Value.int .u64 (h1 : Int)) from rfl)
      have x2 := (Cells.cell P1.out 2).trans (show _ = some (Value.int .u64 (l1 : Int)) from rfl)
      have x3 := (Cells.cell P1.out 3).trans (show _ = some (Value.bool v2) from rfl)
      have x4 := (Cells.cell P1.out 4).trans (show _ = some (Value.int .u64 (h2 : Int)) from rfl)
      have x5 := (Cells.cell P1.out 5).trans (show _ = some (Value.int .u64 (l2 : Int)) from rfl)
      have u0 := (Cells.cell Q1.out 0).trans (show _ = some (Value.int .i64 src) from rfl)
      have u1 := (Cells.cell Q1.out 1).trans (show _ = some (Value.int .i64 dst) from rfl)
      have u2 := (Cells.cell Q1.out 2).trans (show _ = some (Value.string P) from rfl)
      go_wp2_with fail
      refine (HL.out _ K1.out).mono ?_
      rintro e w9 ⟨rfl, b9⟩
      go_wp2_with fail
      go_ret
      exact ⟨rfl, B1.out.trans (b9.mono B1.out.size)⟩
    · go_enter Tryd.func6, Tryd.ntmps6
      go_upto_region 1 with fail
      rw [← hW0, ← hg1, ← hg0]
      clear hW0 hg0 hg1
      have x0 := (Cells.cell P0.out 0).trans (show _ = some (Value.bool v1) from rfl)
      have x1 := (Cells.cell P0.out 1).trans (show _ = some (Value.int .u64 (h1 : Int)) from rfl)
      have x2 := (Cells.cell P0.out 2).trans (show _ = some (Value.int .u64 (l1 : Int)) from rfl)
      have x3 := (Cells.cell P0.out 3).trans (show _ = some (Value.bool v2) from rfl)
      have x4 := (Cells.cell P0.out 4).trans (show _ = some (Value.int .u64 (h2 : Int)) from rfl)
      have x5 := (Cells.cell P0.out 5).trans (show _ = some (Value.int .u64 (l2 : Int)) from rfl)
      have u0 := (Cells.cell Q0.out 0).trans (show _ = some (Value.int .i64 src) from rfl)
      have u1 := (Cells.cell Q0.out 1).trans (show _ = some (Value.int .i64 dst) from rfl)
      have u2 := (Cells.cell Q0.out 2).trans (show _ = some (Value.string P) from rfl)
      go_wp2_with fail
      refine (H1.out _ K0.out).mono ?_
      rintro e w1 ⟨rfl, b1⟩
      have P1 := Lib.hid (P0.out.kept b1 P0.out.lt)
      have Q1 := Lib.hid (Q0.out.kept b1 Q0.out.lt)
      have K1 := Lib.hid (HK.out _ _ K0.out b1)
      have B1 := Lib.hid (B0.out.trans (b1.mono B0.out.size))
      clear b1 P0 Q0 K0 B0 H1 x0 x1 x2 x3 x4 x5 u0 u1 u2
      have x0 := (Cells.cell P1.out 0).trans (show _ = some (Value.bool v1) from rfl)
      have x1 := (Cells.cell P1.out 1).trans (show _ = some (Value.int .u64 (h1 : Int)) from rfl)
      have x2 := (Cells.cell P1.out 2).trans (show _ = some (Value.int .u64 (l1 : Int)) from rfl)
      have x3 := (Cells.cell P1.out 3).trans (show _ = some (Value.bool v2) from rfl)
      have x4 := (Cells.cell P1.out 4).trans (show _ = some (Value.int .u64 (h2 : Int)) from rfl)
      have x5 := (Cells.cell P1.out 5).trans (show _ = some (Value.int .u64 (l2 : Int)) from rfl)
      have u0 := (Cells.cell Q1.out 0).trans (show _ = some (Value.int .i64 src) from rfl)
      have u1 := (Cells.cell Q1.out 1).trans (show _ = some (Value.int .i64 dst) from rfl)
      have u2 := (Cells.cell Q1.out 2).trans (show _ = some (Value.string P) from rfl)
      go_wp2_with fail
      refine (HL.out _ K1.out).mono ?_
      rintro e w9 ⟨rfl, b9⟩
      go_wp2_with fail
      go_ret
      exact ⟨rfl, B1.out.trans (b9.mono B1.out.size)⟩
  have d4 : ((i : Int) == 4) = false := by rw [beq_eq_false_iff_ne]; omega
  have d5 : ((i : Int) == 5) = false := by rw [beq_eq_false_iff_ne]; omega
  have hi1 : i < es.length := by omega
  obtain ⟨x, hx⟩ : ∃ x, x = (E[i]'hi2).toNat := ⟨_, rfl⟩
  have hx8 : x < 256 := by rw [hx]; exact u8_lt _
  have hxS : x = (es[i]'hi1).toNat := by
    rw [hx, s0_at13 hE i hi2]
    unfold byt
    rw [List.getD_eq_getElem?_getD, List.getElem?_eq_getElem hi1]
    rfl
  obtain ⟨z, hz⟩ : ∃ z, z = x + d := ⟨_, rfl⟩
  have kz : (x : Int) + (d : Int) = (z : Int) := by omega
  have wx : IntKind.i64.wrap (x : Int) = (x : Int) := by rw [IntKind.wrap_i64]; omega
  have wz : IntKind.i64.wrap (z : Int) = (z : Int) := by rw [IntKind.wrap_i64]; omega
  obtain ⟨y, hy⟩ : ∃ y, y = z % 256 := ⟨_, rfl⟩
  have hy8 : y < 256 := by omega
  have wy : IntKind.u8.wrap (z : Int) = (y : Int) := by rw [IntKind.wrap_u8]; omega
  have hne : UInt8.ofNat y ≠ es[i]'hi1 := fun e => by
    have h1 : (UInt8.ofNat y).toNat = (es[i]'hi1).toNat := by rw [e]
    rw [UInt8.toNat_ofNat', ← hxS] at h1
    omega
  obtain ⟨X1, hX1⟩ : ∃ X, X = E.extract 0 i := ⟨_, rfl⟩
  obtain ⟨X2', hX2⟩ : ∃ X, X = E.extract (i + 1) E.size := ⟨_, rfl⟩
  obtain ⟨C1, hC1⟩ : ∃ X, X = str [UInt8.ofNat y] := ⟨_, rfl⟩
  have hX1s : X1 = str (es.take i) := by rw [hX1, extract_str10 E es hE, List.drop_zero, Nat.sub_zero]
  have hX2s : X2' = str (es.drop (i + 1)) := by rw [hX2, extract_str10 E es hE, List.take_of_length_le (by rw [List.length_drop, hEz]; exact Nat.le_refl _)]
  obtain ⟨ds, hds⟩ : ∃ l, l = es.set i (UInt8.ofNat y) := ⟨_, rfl⟩
  obtain ⟨D, hD⟩ : ∃ D, D = str ds := ⟨_, rfl⟩
  have hcat : X1 ++ C1 ++ X2' = D := by
    rw [hD, hds, hX1s, hX2s, hC1, str_append, str_append, set_cut hi1, List.append_assoc]
    rfl
  have HDD := Lib.hid hcat
  have hdl : ds.length = es.length := by rw [hds, List.length_set]
  have hDz : D.size = es.length := by rw [hD, str_size, hdl]
  have hset := dec_setU henc hi1 (fun e => h45 (.inl e)) (fun e => h45 (.inr e)) hne
  rw [← hds] at hset
  obtain ⟨⟨⟨rs, rd, py⟩, e2⟩, hQ⟩ : ∃ Q, Q = decU ⟨v1, h1, l1⟩ ⟨v2, h2, l2⟩ ds := ⟨_, rfl⟩
  obtain ⟨Y, hY⟩ : ∃ Y, Y = str py := ⟨_, rfl⟩
  have H2 := Lib.hid (fun (W : World) (hW : T W) => show Calls Tryd.prog 8 #[.agg #[.bool v1, .int .u64 (h1 : Int), .int .u64 (l1 : Int)], .agg #[.bool v2, .int .u64 (h2 : Int), .int .u64 (l2 : Int)], .string D] W fun e w' => e = .returned (.tuple #[.agg #[.int .i64 rs, .int .i64 rd, .string Y], .int .i64 (e2 : Int)]) ∧ Below W.heap.size W w' from by
    have := H.dec v1 v2 h1 l1 h2 l2 ds W hW ha hb (by omega)
    rw [← hQ] at this
    rw [hD, hY]
    exact this)
  rw [← hQ] at hset
  have s1 : X1.size = i := by rw [hX1s, str_size, List.length_take]; omega
  have s2 : C1.size = 1 := by rw [hC1, str_size]; rfl
  have s3 : X2'.size ≤ 308 := by rw [hX2s, str_size, List.length_drop]; omega
  have HX1 := Lib.hid hX1
  have HC1 := Lib.hid hC1
  have HX := Lib.hid hx
  obtain ⟨i1, hi1e⟩ : ∃ k, k = i + 1 := ⟨_, rfl⟩
  rw [← hi1e] at hX2
  have HX2 := Lib.hid hX2
  have hI1 : (i : Int) + 1 = (i1 : Int) := by omega
  have hI4 : i1 ≤ E.size := by omega
  have hI5 : (i1 : Int) ≤ (E.size : Int) := by omega
  have j1 : (9223372036854775807 < i + 1) = False := by simp only [eq_iff_iff, iff_false]; omega
  have j2 : (9223372036854775807 < i + 1 + X2'.size) = False := by simp only [eq_iff_iff, iff_false]; omega
  have j3 : IntKind.i64.wrap (i1 : Int) = (i1 : Int) := by rw [IntKind.wrap_i64]; omega
  have hI2 : (i : Int) ≤ (E.size : Int) := by omega
  have hI3 : (i : Int) < (E.size : Int) := by omega
  have hI0 : (0 : Int) ≤ (i : Int) := by omega
  have hD6 : 6 < D.size := by omega
  have hD7 : 7 < D.size := by omega
  have hJ6 : (6 : Int) < (D.size : Int) := by omega
  have hJ7 : (7 : Int) < (D.size : Int) := by omega
  have hcs : (e2 = 8) ∨ (e2 = 0 ∧ v1 = false ∧ (D[6]'hD6).toNat = 0 ∧ (D[7]'hD7).toNat = 0) := by
    rcases hset with h | ⟨h, h', h''⟩
    · exact .inl h
    · obtain ⟨b6, b7⟩ := nm2_byt h'' (by omega)
      exact .inr ⟨h, h', (s0_at13 hD 6 hD6).trans b6, (s0_at13 hD 7 hD7).trans b7⟩
  clear hl hR hT hP hw ha hb hPs hRR he henc g3 g4 hE hEz hi hq1 hq2 hd h45 hi1 hx hxS hz hy hne hX1 hX2 hC1 hX1s hX2s hds hD hcat hdl hset hQ hY hi1e hDz
  rcases hcs with rfl | ⟨rfl, rfl, c6, c7⟩
  · clear hD6 hD7 hJ6 hJ7
    go_enter Tryd.func6, Tryd.ntmps6
    go_upto_region 1 with fail
    rw [← hW0, ← hg1, ← hg0]
    clear hW0 hg0 hg1
    have x0 := (Cells.cell P0.out 0).trans (show _ = some (Value.bool v1) from rfl)
    have x1 := (Cells.cell P0.out 1).trans (show _ = some (Value.int .u64 (h1 : Int)) from rfl)
    have x2 := (Cells.cell P0.out 2).trans (show _ = some (Value.int .u64 (l1 : Int)) from rfl)
    have x3 := (Cells.cell P0.out 3).trans (show _ = some (Value.bool v2) from rfl)
    have x4 := (Cells.cell P0.out 4).trans (show _ = some (Value.int .u64 (h2 : Int)) from rfl)
    have x5 := (Cells.cell P0.out 5).trans (show _ = some (Value.int .u64 (l2 : Int)) from rfl)
    have u0 := (Cells.cell Q0.out 0).trans (show _ = some (Value.int .i64 src) from rfl)
    have u1 := (Cells.cell Q0.out 1).trans (show _ = some (Value.int .i64 dst) from rfl)
    have u2 := (Cells.cell Q0.out 2).trans (show _ = some (Value.string P) from rfl)
    go_wp2_with fail
    refine (H1.out _ K0.out).mono ?_
    rintro e w1 ⟨rfl, b1⟩
    have P1 := Lib.hid (P0.out.kept b1 P0.out.lt)
    have Q1 := Lib.hid (Q0.out.kept b1 Q0.out.lt)
    have K1 := Lib.hid (HK.out _ _ K0.out b1)
    have B1 := Lib.hid (B0.out.trans (b1.mono B0.out.size))
    clear b1 P0 Q0 K0 B0 H1 x0 x1 x2 x3 x4 x5 u0 u1 u2
    have x0 := (Cells.cell P1.out 0).trans (show _ = some (Value.bool v1) from rfl)
    have x1 := (Cells.cell P1.out 1).trans (show _ = some (Value.int .u64 (h1 : Int)) from rfl)
    have x2 := (Cells.cell P1.out 2).trans (show _ = some (Value.int .u64 (l1 : Int)) from rfl)
    have x3 := (Cells.cell P1.out 3).trans (show _ = some (Value.bool v2) from rfl)
    have x4 := (Cells.cell P1.out 4).trans (show _ = some (Value.int .u64 (h2 : Int)) from rfl)
    have x5 := (Cells.cell P1.out 5).trans (show _ = some (Value.int .u64 (l2 : Int)) from rfl)
    have u0 := (Cells.cell Q1.out 0).trans (show _ = some (Value.int .i64 src) from rfl)
    have u1 := (Cells.cell Q1.out 1).trans (show _ = some (Value.int .i64 dst) from rfl)
    have u2 := (Cells.cell Q1.out 2).trans (show _ = some (Value.string P) from rfl)
    go_upto_region 12 with fail
    refine wp_region_specs_row 29 [.val (Value.string E), .val (Value.int .i64 (i : Int)), .val (Value.string X1), .val (Value.string E), .val (Value.int .i64 (i : Int)), .val (Value.int .u8 (x : Int)), .val (Value.int .i64 (x : Int)), .val (Value.int .i64 (d : Int)), .val (Value.int .i64 (z : Int)), .val (Value.int .u8 (y : Int)), .row #[Value.int .u8 (y : Int)] 5 1, .val (Value.string C1), .val (Value.string (X1 ++ C1)), .val (Value.string E), .val (Value.int .i64 (i : Int)), .val (Value.int .i64 ((i1 : Nat) : Int)), .val (Value.string X2'), .val (Value.string (X1 ++ C1 ++ X2')), .val (Value.string (X1 ++ C1 ++ X2'))] (by kernel_rfl) (by kernel_rfl) (by kernel_rfl) (by kernel_rfl) ?_ ?_
    · refine ⟨⟨rfl, ?_⟩, ⟨rfl, ?_⟩, ⟨rfl, ?_⟩, ⟨rfl, ?_⟩, ⟨rfl, ?_⟩, ⟨rfl, ?_⟩, ⟨rfl, ?_⟩, ⟨rfl, ?_⟩, ⟨rfl, ?_⟩, ⟨rfl, ?_⟩, ⟨rfl, ?_⟩, ⟨rfl, ?_⟩, ⟨rfl, ?_⟩, ⟨rfl, ?_⟩, ⟨rfl, ?_⟩, ⟨rfl, ?_⟩, ⟨rfl, ?_⟩, ⟨rfl, ?_⟩, ⟨rfl, ?_⟩, trivial⟩
      · intro a W hbW hk K hK
        have e7 := kvalP hk 7 (Value.string E) (by kernel_rfl)
        clear hk
        go_simp
        exact ⟨_, rfl, hK _ _ rfl (relB_below (Below.refl _ _))⟩
      · intro a W hbW hk K hK
        have e9 := kvalP hk 9 (Value.int .i64 (i : Int)) (by kernel_rfl)
        clear hk
        go_simp
        exact ⟨_, rfl, hK _ _ rfl (relB_below (Below.refl _ _))⟩
      · intro a W hbW hk K hK
        have e55 := kvalP hk 55 (Value.string E) (by kernel_rfl)
        have e56 := kvalP hk 56 (Value.int .i64 (i : Int)) (by kernel_rfl)
        clear hk
        rw [HX1.out] at hK
        go_simp
        exact ⟨_, rfl, hK _ _ rfl (relB_below (Below.refl _ _))⟩
      · intro a W hbW hk K hK
        have e7 := kvalP hk 7 (Value.string E) (by kernel_rfl)
        clear hk
        go_simp
        exact ⟨_, rfl, hK _ _ rfl (relB_below (Below.refl _ _))⟩
      · intro a W hbW hk K hK
        have e9 := kvalP hk 9 (Value.int .i64 (i : Int)) (by kernel_rfl)
        clear hk
        go_simp
        exact ⟨_, rfl, hK _ _ rfl (relB_below (Below.refl _ _))⟩
      · intro a W hbW hk K hK
        have e58 := kvalP hk 58 (Value.string E) (by kernel_rfl)
        have e59 := kvalP hk 59 (Value.int .i64 (i : Int)) (by kernel_rfl)
        clear hk
        rw [HX.out] at hK
        go_simp
        exact ⟨_, rfl, hK _ _ rfl (relB_below (Below.refl _ _))⟩
      · intro a W hbW hk K hK
        have e60 := kvalP hk 60 (Value.int .u8 (x : Int)) (by kernel_rfl)
        clear hk
        go_simp
        exact ⟨_, rfl, hK _ _ rfl (relB_below (Below.refl _ _))⟩
      · intro a W hbW hk K hK
        have e10 := kvalP hk 10 (Value.int .i64 (d : Int)) (by kernel_rfl)
        clear hk
        go_simp
        exact ⟨_, rfl, hK _ _ rfl (relB_below (Below.refl _ _))⟩
      · intro a W hbW hk K hK
        have e61 := kvalP hk 61 (Value.int .i64 (x : Int)) (by kernel_rfl)
        have e62 := kvalP hk 62 (Value.int .i64 (d : Int)) (by kernel_rfl)
        clear hk
        go_simp
        exact ⟨_, rfl, hK _ _ rfl (relB_below (Below.refl _ _))⟩
      · intro a W hbW hk K hK
        have e63 := kvalP hk 63 (Value.int .i64 (z : Int)) (by kernel_rfl)
        clear hk
        go_simp
        exact ⟨_, rfl, hK _ _ rfl (relB_below (Below.refl _ _))⟩
      · intro a W hbW hk K hK
        have e64 := kvalP hk 64 (Value.int .u8 (y : Int)) (by kernel_rfl)
        clear hk
        go_simp
        exact ⟨_, rfl, hK _ _ ⟨by decide, W.heap.size, rfl, hbW.size, heap_alloc_new W _⟩ (relB_below (below_alloc6 W _))⟩
      · intro a W hbW hk K hK
        obtain ⟨gr, er0, _, hgr⟩ := krowP hk 65 #[Value.int .u8 (y : Int)] 5 1 (by kernel_rfl)
        clear hk
        have hcv := one_strW W gr y hy8 hgr
        rw [← HC1.out] at hcv
        go_simp
        exact ⟨_, rfl, hK _ _ rfl (relB_below (Below.refl _ _))⟩
      · intro a W hbW hk K hK
        have e57 := kvalP hk 57 (Value.string X1) (by kernel_rfl)
        have e66 := kvalP hk 66 (Value.string C1) (by kernel_rfl)
        clear hk
        go_simp
        exact ⟨_, rfl, hK _ _ rfl (relB_below (Below.refl _ _))⟩
      · intro a W hbW hk K hK
        have e7 := kvalP hk 7 (Value.string E) (by kernel_rfl)
        clear hk
        go_simp
        exact ⟨_, rfl, hK _ _ rfl (relB_below (Below.refl _ _))⟩
      · intro a W hbW hk K hK
        have e9 := kvalP hk 9 (Value.int .i64 (i : Int)) (by kernel_rfl)
        clear hk
        go_simp
        exact ⟨_, rfl, hK _ _ rfl (relB_below (Below.refl _ _))⟩
      · intro a W hbW hk K hK
        have e69 := kvalP hk 69 (Value.int .i64 (i : Int)) (by kernel_rfl)
        clear hk
        go_simp
        exact ⟨_, rfl, hK _ _ rfl (relB_below (Below.refl _ _))⟩
      · intro a W hbW hk K hK
        have e68 := kvalP hk 68 (Value.string E) (by kernel_rfl)
        have e70 := kvalP hk 70 (Value.int .i64 ((i1 : Nat) : Int)) (by kernel_rfl)
        clear hk
        rw [HX2.out] at hK
        go_simp
        exact ⟨_, rfl, hK _ _ rfl (relB_below (Below.refl _ _))⟩
      · intro a W hbW hk K hK
        have e67 := kvalP hk 67 (Value.string (X1 ++ C1)) (by kernel_rfl)
        have e71 := kvalP hk 71 (Value.string X2') (by kernel_rfl)
        clear hk
        go_simp
        exact ⟨_, rfl, hK _ _ rfl (relB_below (Below.refl _ _))⟩
      · intro a W hbW hk K hK
        have e72 := kvalP hk 72 (Value.string (X1 ++ C1 ++ X2')) (by kernel_rfl)
        clear hk
        go_simp
        exact ⟨_, rfl, hK _ _ rfl (relB_below (Below.refl _ _))⟩
    · intro w5 hb5
      simp only [endP, putP]
      intro gr hgr
      go_simp
      clear hgr
      have P5 := Lib.hid (P1.out.kept hb5 P1.out.lt)
      have K5 := Lib.hid (HK.out _ _ K1.out hb5)
      have B5 := Lib.hid (B1.out.trans (hb5.mono B1.out.size))
      rw [HDD.out]
      clear hb5 P1 Q1 K1 B1 x0 x1 x2 x3 x4 x5 u0 u1 u2 HX1 HX2 HC1 HX
      have x0 := (Cells.cell P5.out 0).trans (show _ = some (Value.bool v1) from rfl)
      have x1 := (Cells.cell P5.out 1).trans (show _ = some (Value.int .u64 (h1 : Int)) from rfl)
      have x2 := (Cells.cell P5.out 2).trans (show _ = some (Value.int .u64 (l1 : Int)) from rfl)
      have x3 := (Cells.cell P5.out 3).trans (show _ = some (Value.bool v2) from rfl)
      have x4 := (Cells.cell P5.out 4).trans (show _ = some (Value.int .u64 (h2 : Int)) from rfl)
      have x5 := (Cells.cell P5.out 5).trans (show _ = some (Value.int .u64 (l2 : Int)) from rfl)
      go_wp2_with fail
      refine (H2.out _ K5.out).mono ?_
      rintro e w6 ⟨rfl, hb6⟩
      have P6 := Lib.hid (P5.out.kept hb6 P5.out.lt)
      have K6 := Lib.hid (HK.out _ _ K5.out hb6)
      have B6 := Lib.hid (B5.out.trans (hb6.mono B5.out.size))
      clear hb6 P5 K5 B5 H2 x0 x1 x2 x3 x4 x5
      go_upto_region 14 with fail
      obtain ⟨W7, hW7⟩ : ∃ W, W = w6.alloc (.cells #[.int .i64 rs, .int .i64 rd, .string Y] 29) := ⟨_, rfl⟩
      have kW7 : Below w6.heap.size w6 W7 := by rw [hW7]; exact below_alloc6 w6 _
      have P7 := Lib.hid (P6.out.kept kW7 P6.out.lt)
      have K7 := Lib.hid (HK.out _ _ K6.out kW7)
      have B7 := Lib.hid (B6.out.trans (kW7.mono B6.out.size))
      rw [← hW7]
      clear hW7 kW7 P6 K6 B6
      have x0 := (Cells.cell P7.out 0).trans (show _ = some (Value.bool v1) from rfl)
      have x1 := (Cells.cell P7.out 1).trans (show _ = some (Value.int .u64 (h1 : Int)) from rfl)
      have x2 := (Cells.cell P7.out 2).trans (show _ = some (Value.int .u64 (l1 : Int)) from rfl)
      have x3 := (Cells.cell P7.out 3).trans (show _ = some (Value.bool v2) from rfl)
      have x4 := (Cells.cell P7.out 4).trans (show _ = some (Value.int .u64 (h2 : Int)) from rfl)
      have x5 := (Cells.cell P7.out 5).trans (show _ = some (Value.int .u64 (l2 : Int)) from rfl)
      go_wp2_with fail
      refine (HL.out _ K7.out).mono ?_
      rintro e w9 ⟨rfl, b9⟩
      go_wp2_with fail
      go_ret
      exact ⟨rfl, B7.out.trans (b9.mono B7.out.size)⟩
  · obtain ⟨u6, hu6⟩ : ∃ u, D[6]'hD6 = u := ⟨_, rfl⟩
    obtain ⟨u7, hu7⟩ : ∃ u, D[7]'hD7 = u := ⟨_, rfl⟩
    rw [hu6] at c6
    rw [hu7] at c7
    go_enter Tryd.func6, Tryd.ntmps6
    go_upto_region 1 with fail
    rw [← hW0, ← hg1, ← hg0]
    clear hW0 hg0 hg1
    have x0 := (Cells.cell P0.out 0).trans (show _ = some (Value.bool false) from rfl)
    have x1 := (Cells.cell P0.out 1).trans (show _ = some (Value.int .u64 (h1 : Int)) from rfl)
    have x2 := (Cells.cell P0.out 2).trans (show _ = some (Value.int .u64 (l1 : Int)) from rfl)
    have x3 := (Cells.cell P0.out 3).trans (show _ = some (Value.bool v2) from rfl)
    have x4 := (Cells.cell P0.out 4).trans (show _ = some (Value.int .u64 (h2 : Int)) from rfl)
    have x5 := (Cells.cell P0.out 5).trans (show _ = some (Value.int .u64 (l2 : Int)) from rfl)
    have u0 := (Cells.cell Q0.out 0).trans (show _ = some (Value.int .i64 src) from rfl)
    have u1 := (Cells.cell Q0.out 1).trans (show _ = some (Value.int .i64 dst) from rfl)
    have u2 := (Cells.cell Q0.out 2).trans (show _ = some (Value.string P) from rfl)
    go_wp2_with fail
    refine (H1.out _ K0.out).mono ?_
    rintro e w1 ⟨rfl, b1⟩
    have P1 := Lib.hid (P0.out.kept b1 P0.out.lt)
    have Q1 := Lib.hid (Q0.out.kept b1 Q0.out.lt)
    have K1 := Lib.hid (HK.out _ _ K0.out b1)
    have B1 := Lib.hid (B0.out.trans (b1.mono B0.out.size))
    clear b1 P0 Q0 K0 B0 H1 x0 x1 x2 x3 x4 x5 u0 u1 u2
    have x0 := (Cells.cell P1.out 0).trans (show _ = some (Value.bool false) from rfl)
    have x1 := (Cells.cell P1.out 1).trans (show _ = some (Value.int .u64 (h1 : Int)) from rfl)
    have x2 := (Cells.cell P1.out 2).trans (show _ = some (Value.int .u64 (l1 : Int)) from rfl)
    have x3 := (Cells.cell P1.out 3).trans (show _ = some (Value.bool v2) from rfl)
    have x4 := (Cells.cell P1.out 4).trans (show _ = some (Value.int .u64 (h2 : Int)) from rfl)
    have x5 := (Cells.cell P1.out 5).trans (show _ = some (Value.int .u64 (l2 : Int)) from rfl)
    have u0 := (Cells.cell Q1.out 0).trans (show _ = some (Value.int .i64 src) from rfl)
    have u1 := (Cells.cell Q1.out 1).trans (show _ = some (Value.int .i64 dst) from rfl)
    have u2 := (Cells.cell Q1.out 2).trans (show _ = some (Value.string P) from rfl)
    go_upto_region 12 with fail
    refine wp_region_specs_row 29 [.val (Value.string E), .val (Value.int .i64 (i : Int)), .val (Value.string X1), .val (Value.string E), .val (Value.int .i64 (i : Int)), .val (Value.int .u8 (x : Int)), .val (Value.int .i64 (x : Int)), .val (Value.int .i64 (d : Int)), .val (Value.int .i64 (z : Int)), .val (Value.int .u8 (y : Int)), .row #[Value.int .u8 (y : Int)] 5 1, .val (Value.string C1), .val (Value.string (X1 ++ C1)), .val (Value.string E), .val (Value.int .i64 (i : Int)), .val (Value.int .i64 ((i1 : Nat) : Int)), .val (Value.string X2'), .val (Value.string (X1 ++ C1 ++ X2')), .val (Value.string (X1 ++ C1 ++ X2'))] (by kernel_rfl) (by kernel_rfl) (by kernel_rfl) (by kernel_rfl) ?_ ?_
    · refine ⟨⟨rfl, ?_⟩, ⟨rfl, ?_⟩, ⟨rfl, ?_⟩, ⟨rfl, ?_⟩, ⟨rfl, ?_⟩, ⟨rfl, ?_⟩, ⟨rfl, ?_⟩, ⟨rfl, ?_⟩, ⟨rfl, ?_⟩, ⟨rfl, ?_⟩, ⟨rfl, ?_⟩, ⟨rfl, ?_⟩, ⟨rfl, ?_⟩, ⟨rfl, ?_⟩, ⟨rfl, ?_⟩, ⟨rfl, ?_⟩, ⟨rfl, ?_⟩, ⟨rfl, ?_⟩, ⟨rfl, ?_⟩, trivial⟩
      · intro a W hbW hk K hK
        have e7 := kvalP hk 7 (Value.string E) (by kernel_rfl)
        clear hk
        go_simp
        exact ⟨_, rfl, hK _ _ rfl (relB_below (Below.refl _ _))⟩
      · intro a W hbW hk K hK
        have e9 := kvalP hk 9 (Value.int .i64 (i : Int)) (by kernel_rfl)
        clear hk
        go_simp
        exact ⟨_, rfl, hK _ _ rfl (relB_below (Below.refl _ _))⟩
      · intro a W hbW hk K hK
        have e55 := kvalP hk 55 (Value.string E) (by kernel_rfl)
        have e56 := kvalP hk 56 (Value.int .i64 (i : Int)) (by kernel_rfl)
        clear hk
        rw [HX1.out] at hK
        go_simp
        exact ⟨_, rfl, hK _ _ rfl (relB_below (Below.refl _ _))⟩
      · intro a W hbW hk K hK
        have e7 := kvalP hk 7 (Value.string E) (by kernel_rfl)
        clear hk
        go_simp
        exact ⟨_, rfl, hK _ _ rfl (relB_below (Below.refl _ _))⟩
      · intro a W hbW hk K hK
        have e9 := kvalP hk 9 (Value.int .i64 (i : Int)) (by kernel_rfl)
        clear hk
        go_simp
        exact ⟨_, rfl, hK _ _ rfl (relB_below (Below.refl _ _))⟩
      · intro a W hbW hk K hK
        have e58 := kvalP hk 58 (Value.string E) (by kernel_rfl)
        have e59 := kvalP hk 59 (Value.int .i64 (i : Int)) (by kernel_rfl)
        clear hk
        rw [HX.out] at hK
        go_simp
        exact ⟨_, rfl, hK _ _ rfl (relB_below (Below.refl _ _))⟩
      · intro a W hbW hk K hK
        have e60 := kvalP hk 60 (Value.int .u8 (x : Int)) (by kernel_rfl)
        clear hk
        go_simp
        exact ⟨_, rfl, hK _ _ rfl (relB_below (Below.refl _ _))⟩
      · intro a W hbW hk K hK
        have e10 := kvalP hk 10 (Value.int .i64 (d : Int)) (by kernel_rfl)
        clear hk
        go_simp
        exact ⟨_, rfl, hK _ _ rfl (relB_below (Below.refl _ _))⟩
      · intro a W hbW hk K hK
        have e61 := kvalP hk 61 (Value.int .i64 (x : Int)) (by kernel_rfl)
        have e62 := kvalP hk 62 (Value.int .i64 (d : Int)) (by kernel_rfl)
        clear hk
        go_simp
        exact ⟨_, rfl, hK _ _ rfl (relB_below (Below.refl _ _))⟩
      · intro a W hbW hk K hK
        have e63 := kvalP hk 63 (Value.int .i64 (z : Int)) (by kernel_rfl)
        clear hk
        go_simp
        exact ⟨_, rfl, hK _ _ rfl (relB_below (Below.refl _ _))⟩
      · intro a W hbW hk K hK
        have e64 := kvalP hk 64 (Value.int .u8 (y : Int)) (by kernel_rfl)
        clear hk
        go_simp
        exact ⟨_, rfl, hK _ _ ⟨by decide, W.heap.size, rfl, hbW.size, heap_alloc_new W _⟩ (relB_below (below_alloc6 W _))⟩
      · intro a W hbW hk K hK
        obtain ⟨gr, er0, _, hgr⟩ := krowP hk 65 #[Value.int .u8 (y : Int)] 5 1 (by kernel_rfl)
        clear hk
        have hcv := one_strW W gr y hy8 hgr
        rw [← HC1.out] at hcv
        go_simp
        exact ⟨_, rfl, hK _ _ rfl (relB_below (Below.refl _ _))⟩
      · intro a W hbW hk K hK
        have e57 := kvalP hk 57 (Value.string X1) (by kernel_rfl)
        have e66 := kvalP hk 66 (Value.string C1) (by kernel_rfl)
        clear hk
        go_simp
        exact ⟨_, rfl, hK _ _ rfl (relB_below (Below.refl _ _))⟩
      · intro a W hbW hk K hK
        have e7 := kvalP hk 7 (Value.string E) (by kernel_rfl)
        clear hk
        go_simp
        exact ⟨_, rfl, hK _ _ rfl (relB_below (Below.refl _ _))⟩
      · intro a W hbW hk K hK
        have e9 := kvalP hk 9 (Value.int .i64 (i : Int)) (by kernel_rfl)
        clear hk
        go_simp
        exact ⟨_, rfl, hK _ _ rfl (relB_below (Below.refl _ _))⟩
      · intro a W hbW hk K hK
        have e69 := kvalP hk 69 (Value.int .i64 (i : Int)) (by kernel_rfl)
        clear hk
        go_simp
        exact ⟨_, rfl, hK _ _ rfl (relB_below (Below.refl _ _))⟩
      · intro a W hbW hk K hK
        have e68 := kvalP hk 68 (Value.string E) (by kernel_rfl)
        have e70 := kvalP hk 70 (Value.int .i64 ((i1 : Nat) : Int)) (by kernel_rfl)
        clear hk
        rw [HX2.out] at hK
        go_simp
        exact ⟨_, rfl, hK _ _ rfl (relB_below (Below.refl _ _))⟩
      · intro a W hbW hk K hK
        have e67 := kvalP hk 67 (Value.string (X1 ++ C1)) (by kernel_rfl)
        have e71 := kvalP hk 71 (Value.string X2') (by kernel_rfl)
        clear hk
        go_simp
        exact ⟨_, rfl, hK _ _ rfl (relB_below (Below.refl _ _))⟩
      · intro a W hbW hk K hK
        have e72 := kvalP hk 72 (Value.string (X1 ++ C1 ++ X2')) (by kernel_rfl)
        clear hk
        go_simp
        exact ⟨_, rfl, hK _ _ rfl (relB_below (Below.refl _ _))⟩
    · intro w5 hb5
      simp only [endP, putP]
      intro gr hgr
      go_simp
      clear hgr
      have P5 := Lib.hid (P1.out.kept hb5 P1.out.lt)
      have K5 := Lib.hid (HK.out _ _ K1.out hb5)
      have B5 := Lib.hid (B1.out.trans (hb5.mono B1.out.size))
      rw [HDD.out]
      clear hb5 P1 Q1 K1 B1 x0 x1 x2 x3 x4 x5 u0 u1 u2 HX1 HX2 HC1 HX
      have x0 := (Cells.cell P5.out 0).trans (show _ = some (Value.bool false) from rfl)
      have x1 := (Cells.cell P5.out 1).trans (show _ = some (Value.int .u64 (h1 : Int)) from rfl)
      have x2 := (Cells.cell P5.out 2).trans (show _ = some (Value.int .u64 (l1 : Int)) from rfl)
      have x3 := (Cells.cell P5.out 3).trans (show _ = some (Value.bool v2) from rfl)
      have x4 := (Cells.cell P5.out 4).trans (show _ = some (Value.int .u64 (h2 : Int)) from rfl)
      have x5 := (Cells.cell P5.out 5).trans (show _ = some (Value.int .u64 (l2 : Int)) from rfl)
      go_wp2_with fail
      refine (H2.out _ K5.out).mono ?_
      rintro e w6 ⟨rfl, hb6⟩
      have P6 := Lib.hid (P5.out.kept hb6 P5.out.lt)
      have K6 := Lib.hid (HK.out _ _ K5.out hb6)
      have B6 := Lib.hid (B5.out.trans (hb6.mono B5.out.size))
      clear hb6 P5 K5 B5 H2 x0 x1 x2 x3 x4 x5
      go_upto_region 14 with fail
      obtain ⟨W7, hW7⟩ : ∃ W, W = w6.alloc (.cells #[.int .i64 rs, .int .i64 rd, .string Y] 29) := ⟨_, rfl⟩
      have kW7 : Below w6.heap.size w6 W7 := by rw [hW7]; exact below_alloc6 w6 _
      have P7 := Lib.hid (P6.out.kept kW7 P6.out.lt)
      have K7 := Lib.hid (HK.out _ _ K6.out kW7)
      have B7 := Lib.hid (B6.out.trans (kW7.mono B6.out.size))
      rw [← hW7]
      clear hW7 kW7 P6 K6 B6
      have x0 := (Cells.cell P7.out 0).trans (show _ = some (Value.bool false) from rfl)
      have x1 := (Cells.cell P7.out 1).trans (show _ = some (Value.int .u64 (h1 : Int)) from rfl)
      have x2 := (Cells.cell P7.out 2).trans (show _ = some (Value.int .u64 (l1 : Int)) from rfl)
      have x3 := (Cells.cell P7.out 3).trans (show _ = some (Value.bool v2) from rfl)
      have x4 := (Cells.cell P7.out 4).trans (show _ = some (Value.int .u64 (h2 : Int)) from rfl)
      have x5 := (Cells.cell P7.out 5).trans (show _ = some (Value.int .u64 (l2 : Int)) from rfl)
      go_wp2_with fail
      refine (HL.out _ K7.out).mono ?_
      rintro e w9 ⟨rfl, b9⟩
      go_wp2_with fail
      go_ret
      exact ⟨rfl, B7.out.trans (b9.mono B7.out.size)⟩
end Go.Proofs.YtnpklepafpdadaaDoor
