/- Contracts of the functions, further part 1: SpecsR, TNot. -/
import Derived.Deep.Cut
import Derived.Deep.WholeRow
import Derived.Laws.BitsAllLaws
import Derived.Test.YtmfoionlapcgkaaDoorPA22
import Derived.Test.YtmfoionlapcgkaaDoorPA27
import Derived.Test.YtmfoionlapcgkaaDoorPA6
/- A region that draws its order: as in XSpecs, but what an operation leaves may also be said by a predicate, an operation may make a box, and one may store a whole struct into such a box: blocks of the box's type T may change, all others stay. -/
namespace Go.Proofs.YtmfoionlapcgkaaDoor
open Go.ChangeShapes Go.WideShapes Go.ChangeAt Go.RowKit
set_option linter.unusedVariables false

/-- Memory grows; blocks stay, but those of type T may get other cells. -/
def RelT (T : TypeId) (w w' : World) : Prop := w.heap.size ≤ w'.heap.size ∧ ∀ (b : Nat) (cs : Array Value) (e : TypeId) (fr : Nat × Nat), w.heap[b]? = some (.cells cs e fr) → ∃ cs', w'.heap[b]? = some (.cells cs' e fr) ∧ cs'.size = cs.size ∧ (e ≠ T → cs' = cs)
def RelB (T : TypeId) (w0 w w' : World) : Prop := RelT T w w' ∧ (Below w0.heap.size w0 w → Below w0.heap.size w0 w')
theorem relB_below {T : TypeId} {w0 w w' : World} (h : Below w.heap.size w w') : RelB T w0 w w' :=
  ⟨⟨h.size, fun b cs e fr hb => ⟨cs, (h.block b (Array.getElem?_eq_some_iff.1 hb).1).trans hb, rfl, fun _ => rfl⟩⟩, fun h0 => h0.trans (h.mono h0.size)⟩
theorem relB_row {T : TypeId} {w0 w : World} {g : Nat} {old cs : Array Value} {fr : Nat × Nat} (hg : w0.heap.size ≤ g) (h : w.heap[g]? = some (.cells old T fr)) (hs : cs.size = old.size) : RelB T w0 w (w.setRow g cs) := by
  refine ⟨⟨by rw [setRow_size]; exact Nat.le_refl _, fun b cs0 e fr0 hb => ?_⟩, fun h0 => below_row h0 g hg cs⟩
  by_cases hbg : b = g
  · subst hbg
    rw [h] at hb
    cases hb
    exact ⟨cs, setRow_heap w _ _ _ _ _ h, hs, fun hn => absurd rfl hn⟩
  · exact ⟨cs0, (setRow_other w g b cs hbg).trans hb, rfl, fun _ => rfl⟩
/-- What an operation leaves in its slot. -/
inductive SpecP where
  | val (v : Value)
  | row (cs : Array Value) (e : TypeId) (n : Nat)
  | any (f : Value → Prop)
  | box (k : Nat)
def SpecP.ok (T : TypeId) (base : Nat) (u : Value) (w : World) : SpecP → Prop
  | .val v => u = v
  | .row cs e n => e ≠ T ∧ ∃ g, u = .slice (some ⟨g, 0, none⟩) n n ∧ base ≤ g ∧ w.heap[g]? = some (.cells cs e (0, 0))
  | .any f => f u
  | .box k => ∃ g cs, u = .pointer (some ⟨g, 0, none⟩) ∧ base ≤ g ∧ w.heap[g]? = some (.cells cs T (0, 0)) ∧ cs.size = k
theorem SpecP.kept {T : TypeId} {base : Nat} {u : Value} {w w' : World} : ∀ {s : SpecP}, s.ok T base u w → RelT T w w' → s.ok T base u w'
  | .val v, h, _ => h
  | .row cs e n, ⟨h0, g, h1, h2, h3⟩, hb => by
    obtain ⟨cs', k1, _, k3⟩ := hb.2 g cs e (0, 0) h3
    exact ⟨h0, g, h1, h2, by rw [k1, k3 h0]⟩
  | .any f, h, _ => h
  | .box k, ⟨g, cs, h1, h2, h3, h4⟩, hb => by
    obtain ⟨cs', k1, k2, _⟩ := hb.2 g cs T (0, 0) h3
    exact ⟨g, cs', h1, h2, k1, k2.trans h4⟩
def knownP (l : List Oper) (ss : List SpecP) (a0 : Act) (o : Oper) (k : Nat) : Option SpecP :=
  match (List.range l.length).find? (fun j => (l[j]?).bind (·.dst) == some k) with
  | some j => if o.after.any (fun e => Region.binds .any e && e.on == j) then ss[j]? else none
  | none => some (.val (a0.tmps.getD k undef))
/-- What is to be shown of one operation. -/
def StepP (P : Program) (T : TypeId) (l : List Oper) (ss : List SpecP) (a0 : Act) (base : Nat) (w0 : World) (Q : Exit → Act → World → Prop) (o : Oper) (s : SpecP) : Prop :=
  o.guard = none ∧ ∀ (a : Act) (w : World), Below w0.heap.size w0 w → (∀ k s', knownP l ss a0 o k = some s' → s'.ok T base (a.tmps.getD k undef) w) →
    ∀ K : Value → World → Prop, (∀ v w', s.ok T base v w' → RelB T w0 w w' → K v w') → o.wp P a w (fun a' w' => ∃ v, a' = a.put o.dst v ∧ K v w') Q
def allP (R : Oper → SpecP → Prop) : List Oper → List SpecP → Prop
  | o :: l, s :: ss => R o s ∧ allP R l ss
  | _, _ => True
theorem allP_get {R : Oper → SpecP → Prop} : ∀ {l : List Oper} {ss : List SpecP}, allP R l ss → ∀ {i : Nat} {o : Oper} {s : SpecP}, l[i]? = some o → ss[i]? = some s → R o s
  | [], _, _, i, o, s, h, _ => by simp at h
  | o :: l, [], _, i, o', s', _, h => by simp at h
  | o :: l, s :: ss, h, 0, o', s', h1, h2 => by
    obtain rfl := Option.some.inj h1
    obtain rfl := Option.some.inj h2
    exact h.1
  | o :: l, s :: ss, h, i + 1, o', s', h1, h2 => allP_get h.2 (i := i) (by simpa using h1) (by simpa using h2)
/-- What is to be shown behind the region. -/
def putP (base : Nat) (R : Act → Prop) (d : Tmp) (a : Act) : SpecP → Prop
  | .val v => R (a.put (some d) v)
  | .row cs e n => ∀ g, base ≤ g → R (a.put (some d) (.slice (some ⟨g, 0, none⟩) n n))
  | .any f => ∀ v, f v → R (a.put (some d) v)
  | .box k => ∀ g, base ≤ g → R (a.put (some d) (.pointer (some ⟨g, 0, none⟩)))
theorem putP_use {T : TypeId} {base : Nat} {R : Act → Prop} {d : Tmp} {a : Act} {v : Value} {w : World} : ∀ {s : SpecP}, putP base R d a s → s.ok T base v w → R (a.put (some d) v)
  | .val _, h, rfl => h
  | .row _ _ _, h, ⟨_, g, h1, h2, _⟩ => by subst h1; exact h g h2
  | .any _, h, hf => h v hf
  | .box _, h, ⟨g, cs, h1, h2, _⟩ => by subst h1; exact h g h2
def endP (base : Nat) (R : Act → Prop) : List Oper → List SpecP → Act → Prop
  | o :: l, s :: ss, a => match o.dst with
    | none => endP base R l ss a
    | some d => putP base (endP base R l ss) d a s
  | _, _, a => R a
/-- Slots: each operation writes one of its own, or none. -/
def dstsP : List Oper → Nat → Bool
  | [], _ => true
  | o :: l, n => (match o.dst with
    | some d => decide (d < n) && l.all (fun o' => o'.dst != some d)
    | none => true) && dstsP l n
theorem dstsP_get : ∀ {l : List Oper} {n : Nat}, dstsP l n = true → ∀ {i : Nat} {o : Oper} {d : Tmp}, l[i]? = some o → o.dst = some d → d < n ∧ ∀ (j : Nat) (o' : Oper), l[j]? = some o' → o'.dst = some d → j = i
  | [], n, h, i, o, d, h1, _ => by simp at h1
  | o0 :: l, n, h, i, o, d, h1, hd => by
    rw [dstsP, Bool.and_eq_true] at h
    obtain ⟨ha, hb⟩ := h
    cases i with
    | zero =>
      obtain rfl := Option.some.inj h1
      rw [hd] at ha
      simp only [Bool.and_eq_true, decide_eq_true_eq, List.all_eq_true] at ha
      obtain ⟨h2, h3⟩ := ha
      refine ⟨h2, fun j o' h4 h5 => ?_⟩
      cases j with
      | zero => rfl
      | succ j =>
        have hm := List.mem_of_getElem? (show l[j]? = some o' by simpa using h4)
        have := h3 o' hm
        rw [h5] at this
        simp at this
    | succ i =>
      have h1' : l[i]? = some o := by simpa using h1
      obtain ⟨e2, e3⟩ := dstsP_get hb h1' hd
      refine ⟨e2, fun j o' h4 h5 => ?_⟩
      cases j with
      | zero =>
        obtain rfl := Option.some.inj h4
        rw [h5] at ha
        simp only [Bool.and_eq_true, decide_eq_true_eq, List.all_eq_true] at ha
        have := ha.2 o (List.mem_of_getElem? h1')
        rw [hd] at this
        simp at this
      | succ j => rw [e3 j o' (by simpa using h4) h5]
/-- Between two operations. -/
structure InvP (T : TypeId) (l : List Oper) (ss : List SpecP) (a0 : Act) (base : Nat) (w0 : World) (listed : Array Bool) (a : Act) (w : World) : Prop where
  ls : listed.size = l.length
  df : a.defers = a0.defers
  sz : a.tmps.size = a0.tmps.size
  old : ∀ k, (∀ (i : Nat) (o : Oper), l[i]? = some o → o.dst = some k → listed.getD i false = false) → a.tmps[k]? = a0.tmps[k]?
  done : ∀ (i : Nat) (o : Oper) (s : SpecP) (d : Nat), l[i]? = some o → ss[i]? = some s → o.dst = some d → listed.getD i false = true → s.ok T base (a.tmps.getD d undef) w
  bel : Below w0.heap.size w0 w
theorem endP_use {T : TypeId} {base : Nat} {R : Act → Prop} {w : World} : ∀ {l : List Oper} {ss : List SpecP} {a1 a : Act}, endP base R l ss a1 → ss.length = l.length → dstsP l a.tmps.size = true → a.defers = a1.defers → a.tmps.size = a1.tmps.size →
    (∀ k, (∀ (i : Nat) (o : Oper), l[i]? = some o → o.dst ≠ some k) → a.tmps[k]? = a1.tmps[k]?) →
    (∀ (i : Nat) (o : Oper) (s : SpecP) (d : Nat), l[i]? = some o → ss[i]? = some s → o.dst = some d → s.ok T base (a.tmps.getD d undef) w) → R a
  | [], ss, a1, a, h, hl, hd, h1, h2, h3, h4 => by
    have e : a = a1 := by
      obtain ⟨t, d⟩ := a
      obtain ⟨t1, d1⟩ := a1
      simp only at h1 h2 h3
      subst h1
      congr 1
      exact Array.ext_getElem? fun k => h3 k (fun i o h => by simp at h)
    rw [e]
    cases ss with
    | nil => exact h
    | cons s r => simp at hl
  | o :: l, [], a1, a, h, hl, hd, h1, h2, h3, h4 => by simp at hl
  | o :: l, s :: ss, a1, a, h, hl, hd, h1, h2, h3, h4 => by
    have hdl : dstsP l a.tmps.size = true := by rw [dstsP, Bool.and_eq_true] at hd; exact hd.2
    cases hd0 : o.dst with
    | none =>
      rw [endP, hd0] at h
      refine endP_use (T := T) (w := w) h (by simpa using hl) hdl h1 h2 (fun k hk => h3 k (fun i o' hi hh' => ?_)) (fun i o' s' d' hi hs' hd' => h4 (i + 1) o' s' d' (by simpa using hi) (by simpa using hs') hd')
      cases i with
      | zero =>
        obtain rfl := Option.some.inj hi
        rw [hd0] at hh'
        cases hh'
      | succ i => exact hk i o' (by simpa using hi) hh'
    | some d =>
      obtain ⟨hdn, huniq⟩ := dstsP_get hd (i := 0) rfl hd0
      have hok := h4 0 o s d rfl rfl hd0
      rw [endP, hd0] at h
      obtain ⟨v, hv⟩ : ∃ v, a.tmps.getD d undef = v := ⟨_, rfl⟩
      rw [hv] at hok
      have hh := putP_use h hok
      refine endP_use (T := T) (w := w) hh (by simpa using hl) hdl h1 ?_ ?_ ?_
      · rw [h2]; unfold Act.put; simp
      · intro k hk
        unfold Act.put
        simp only
        by_cases hkd : k = d
        · subst hkd
          rw [Array.getElem?_setIfInBounds, if_pos rfl, if_pos (by rw [← h2]; exact hdn)]
          rw [← hv, Array.getD_eq_getD_getElem?, Array.getElem?_eq_getElem hdn]
          rfl
        · rw [Array.getElem?_setIfInBounds, if_neg (fun e => hkd e.symm)]
          refine h3 k (fun i o' hi hh' => ?_)
          cases i with
          | zero =>
            obtain rfl := Option.some.inj hi
            rw [hd0] at hh'
            exact hkd (Option.some.inj hh').symm
          | succ i => exact hk i o' (by simpa using hi) hh'
      · intro i o' s' d' hi hs' hd'
        exact h4 (i + 1) o' s' d' (by simpa using hi) (by simpa using hs') hd'
theorem kvalP {T : TypeId} {l : List Oper} {ss : List SpecP} {a0 a : Act} {o : Oper} {base : Nat} {w : World} (hk : ∀ k s', knownP l ss a0 o k = some s' → s'.ok T base (a.tmps.getD k undef) w) (k : Nat) (v : Value) (h : knownP l ss a0 o k = some (.val v)) : a.tmps[k]?.getD undef = v := by
  have := hk k _ h
  rw [Array.getD_eq_getD_getElem?] at this
  exact this
theorem krowP {T : TypeId} {l : List Oper} {ss : List SpecP} {a0 a : Act} {o : Oper} {base : Nat} {w : World} (hk : ∀ k s', knownP l ss a0 o k = some s' → s'.ok T base (a.tmps.getD k undef) w) (k : Nat) (cs : Array Value) (e : TypeId) (n : Nat) (h : knownP l ss a0 o k = some (.row cs e n)) : ∃ g, a.tmps[k]?.getD undef = .slice (some ⟨g, 0, none⟩) n n ∧ base ≤ g ∧ w.heap[g]? = some (.cells cs e (0, 0)) := by
  have := hk k _ h
  rw [Array.getD_eq_getD_getElem?] at this
  exact this.2
theorem kanyP {T : TypeId} {l : List Oper} {ss : List SpecP} {a0 a : Act} {o : Oper} {base : Nat} {w : World} (hk : ∀ k s', knownP l ss a0 o k = some s' → s'.ok T base (a.tmps.getD k undef) w) (k : Nat) (f : Value → Prop) (h : knownP l ss a0 o k = some (.any f)) : f (a.tmps[k]?.getD undef) := by
  have := hk k _ h
  rw [Array.getD_eq_getD_getElem?] at this
  exact this
theorem kboxP {T : TypeId} {l : List Oper} {ss : List SpecP} {a0 a : Act} {o : Oper} {base : Nat} {w : World} (hk : ∀ k s', knownP l ss a0 o k = some s' → s'.ok T base (a.tmps.getD k undef) w) (k n : Nat) (h : knownP l ss a0 o k = some (.box n)) : ∃ g cs, a.tmps[k]?.getD undef = .pointer (some ⟨g, 0, none⟩) ∧ base ≤ g ∧ w.heap[g]? = some (.cells cs T (0, 0)) ∧ cs.size = n := by
  have := hk k _ h
  rw [Array.getD_eq_getD_getElem?] at this
  exact this
theorem specsP_any {P : Program} {T : TypeId} {Q : Exit → Act → World → Prop} {l : List Oper} {ss : List SpecP} {a0 : Act} {base : Nat} {w0 : World} (hlen : ss.length = l.length) (hdst : dstsP l a0.tmps.size = true) (hback : backB l 0 = true)
    (hstep : allP (StepP P T l ss a0 base w0 Q) l ss) (hend : ∀ w', Below w0.heap.size w0 w' → endP base (fun a => Q .normal a w') l ss a0) :
    ∀ (fuel : Nat) (listed : Array Bool) (a : Act) (w : World), InvP T l ss a0 base w0 listed a w → listed.toList.countP (fun b => !b) ≤ fuel → wpAny P .any l.toArray Q fuel listed a w := by
  have hfin : ∀ (listed : Array Bool) (a : Act) (w : World), InvP T l ss a0 base w0 listed a w → Region.ready .any l.toArray listed = [] → Q .normal a w := by
    intro listed a w hI hr
    have hall : ∀ i, i < l.length → listed.getD i false = true := by
      intro i
      induction i using Nat.strongRecOn with
      | _ i ih =>
        intro hi
        refine Decidable.byContradiction fun hn => ?_
        have hn' : listed.getD i true = false := by
          rw [Array.getD_eq_getD_getElem?, Array.getElem?_eq_getElem (by rw [hI.ls]; exact hi)] at hn ⊢
          simpa using hn
        have hmem : i ∈ Region.ready .any l.toArray listed := by
          unfold Region.ready
          rw [List.mem_filter]
          refine ⟨by simp [hi], ?_⟩
          rw [hn']
          have ho : l.toArray[i]? = some l[i] := by simp [hi]
          rw [ho]
          simp only [Bool.not_false, Bool.true_and, Option.map_some, Option.getD_some]
          rw [Array.all_eq_true']
          intro e he
          cases hb : Region.binds .any e with
          | false => rfl
          | true =>
            have h1 := backB_get hback (show l[i]? = some l[i] from List.getElem?_eq_getElem hi) e he hb
            rw [Nat.zero_add] at h1
            rw [ih e.on h1 (by omega)]
            rfl
        rw [hr] at hmem
        cases hmem
    refine endP_use (T := T) (w := w) (hend w hI.bel) hlen (by rw [hI.sz]; exact hdst) hI.df hI.sz (fun k hk => hI.old k (fun i o hi hd => absurd hd (hk i o hi))) (fun i o s d hi hs hd => hI.done i o s d hi hs hd (hall i ?_))
    exact (List.getElem?_eq_some_iff.1 hi).1
  intro fuel
  induction fuel with
  | zero =>
    intro listed a w hI hc
    have hr : Region.ready .any l.toArray listed = [] := by
      unfold Region.ready
      rw [List.filter_eq_nil_iff]
      intro i hi
      have hil : i < listed.size := by rw [hI.ls]; simpa using hi
      have h0 : listed.toList.countP (fun b => !b) = 0 := by omega
      rw [List.countP_eq_zero] at h0
      have := h0 listed[i] (by simp)
      have e : listed.getD i true = true := by
        rw [Array.getD_eq_getD_getElem?, Array.getElem?_eq_getElem hil]
        simpa using this
      rw [e]
      simp
    exact ⟨hr, hfin listed a w hI hr⟩
  | succ fuel ih =>
    intro listed a w hI hc
    refine ⟨fun hr => hfin listed a w hI hr, fun i hi => ?_⟩
    unfold Region.ready at hi
    rw [List.mem_filter] at hi
    obtain ⟨hi1, hi2⟩ := hi
    have hil : i < l.length := by simpa using hi1
    rw [Bool.and_eq_true] at hi2
    obtain ⟨hun, hdeps⟩ := hi2
    have ho : l[i]? = some l[i] := List.getElem?_eq_getElem hil
    have ho' : l.toArray[i]? = some l[i] := by simp [hil]
    rw [ho'] at hdeps
    simp only [Option.map_some, Option.getD_some] at hdeps
    rw [Array.all_eq_true'] at hdeps
    have hs : ss[i]? = some (ss[i]'(by omega)) := List.getElem?_eq_getElem (by omega)
    obtain ⟨hgd, hst⟩ := allP_get hstep ho hs
    have hlz : i < listed.size := by rw [hI.ls]; exact hil
    have hlf : listed.toList[i]? = some false := by
      rw [Array.getD_eq_getD_getElem?, Array.getElem?_eq_getElem hlz] at hun
      rw [Array.getElem?_toList, Array.getElem?_eq_getElem hlz]
      simpa using hun
    unfold wpOp
    rw [ho']
    simp only
    rw [if_pos (by simp [Region.wanted, hgd])]
    left
    refine Oper.wp_mono ?_ (hst a w hI.bel ?_ (fun v w' => (ss[i]'(by omega)).ok T base v w' ∧ RelB T w0 w w') (fun v w' h1 h2 => ⟨h1, h2⟩))
    · rintro a' w' ⟨v, rfl, hok, hb⟩
      refine ih _ _ _ ⟨?_, ?_, ?_, ?_, ?_, hb.2 hI.bel⟩ ?_
      · simp [hI.ls]
      · rw [← hI.df]; unfold Act.put; split <;> rfl
      · rw [← hI.sz]; unfold Act.put; split <;> simp
      · intro k hk
        have hkd : l[i].dst ≠ some k := fun e => by
          have := hk i _ ho e
          rw [Array.getD_eq_getD_getElem?, Array.getElem?_setIfInBounds, if_pos rfl, if_pos hlz] at this
          simp at this
        have hput : (a.put l[i].dst v).tmps[k]? = a.tmps[k]? := by
          unfold Act.put
          split
          · next d hd =>
            rw [Array.getElem?_setIfInBounds, if_neg (fun e => hkd (by rw [hd, e]))]
          · rfl
        rw [hput]
        refine hI.old k (fun j o' hj hdj => ?_)
        have h3 := hk j o' hj hdj
        by_cases hji : j = i
        · subst hji
          rw [Array.getD_eq_getD_getElem?, Array.getElem?_setIfInBounds, if_pos rfl, if_pos hlz] at h3
          simp at h3
        · rw [Array.getD_eq_getD_getElem?, Array.getElem?_setIfInBounds, if_neg (fun e => hji e.symm), ← Array.getD_eq_getD_getElem?] at h3
          exact h3
      · intro j o' s' d' hj hs' hd' hlj
        by_cases hji : j = i
        · subst hji
          obtain rfl := Option.some.inj (ho.symm.trans hj)
          obtain rfl := Option.some.inj (hs.symm.trans hs')
          obtain ⟨hdn, _⟩ := dstsP_get hdst ho hd'
          unfold Act.put
          rw [hd']
          simp only
          rw [Array.getD_eq_getD_getElem?, Array.getElem?_setIfInBounds, if_pos rfl, if_pos (by rw [hI.sz]; exact hdn)]
          exact hok
        · obtain ⟨_, huniq⟩ := dstsP_get hdst hj hd'
          have hdd : l[i].dst ≠ some d' := fun e => hji (huniq i _ ho e).symm
          have hput : (a.put l[i].dst v).tmps.getD d' undef = a.tmps.getD d' undef := by
            unfold Act.put
            split
            · next d hd =>
              rw [Array.getD_eq_getD_getElem?, Array.getElem?_setIfInBounds, if_neg (fun e => hdd (by rw [hd, e])), ← Array.getD_eq_getD_getElem?]
            · rfl
          rw [hput]
          rw [Array.getD_eq_getD_getElem?, Array.getElem?_setIfInBounds, if_neg (fun e => hji e.symm), ← Array.getD_eq_getD_getElem?] at hlj
          exact SpecP.kept (hI.done j o' s' d' hj hs' hd' hlj) hb.1
      · have hcs := cnt_set _ _ hlf
        rw [Array.toList_setIfInBounds]
        omega
    · intro k s' hk
      unfold knownP at hk
      cases hf : (List.range l.length).find? (fun j => (l[j]?).bind (·.dst) == some k) with
      | none =>
        rw [hf] at hk
        obtain rfl := Option.some.inj hk
        show a.tmps.getD k undef = a0.tmps.getD k undef
        rw [Array.getD_eq_getD_getElem?, Array.getD_eq_getD_getElem?]
        rw [hI.old k (fun j o' hj hdj => ?_)]
        exfalso
        rw [List.find?_eq_none] at hf
        have hjl := (List.getElem?_eq_some_iff.1 hj).1
        have := hf j (by simp [hjl])
        rw [hj] at this
        simp [hdj] at this
      | some j =>
        rw [hf] at hk
        simp only at hk
        have h5 := List.find?_some hf
        have hjl : j < l.length := by have := List.mem_of_find?_eq_some hf; simpa using this
        have hj : l[j]? = some l[j] := List.getElem?_eq_getElem hjl
        rw [hj] at h5
        have hdj : l[j].dst = some k := by simpa using h5
        split at hk
        · rename_i hany
          rw [Array.any_eq_true'] at hany
          obtain ⟨e, he, hb⟩ := hany
          rw [Bool.and_eq_true, beq_iff_eq] at hb
          have h6 := hdeps e he
          rw [hb.1, hb.2] at h6
          exact hI.done j _ s' k hj hk hdj (by simpa using h6)
        · cases hk
/-- THE LAW. -/
theorem wp_region_specs_row {P : Program} (T : TypeId) {id : Nat} {Q : Exit → Act → World → Prop} {a0 : Act} {w : World} {l : List Oper} (ss : List SpecP) (hm : P.follows .mixedOrders = true) (hlen : ss.length = l.length) (hdst : dstsP l a0.tmps.size = true) (hback : backB l 0 = true)
    (hstep : allP (StepP P T l ss a0 w.heap.size w Q) l ss) (hend : ∀ w', Below w.heap.size w w' → endP w.heap.size (fun a => Q .normal a w') l ss a0) : (Code.region id l.toArray true).wp P Q a0 w := by
  refine wp_region_any hm ?_
  have hbw : Below w.heap.size w { w with drawn := w.drawn + 1 } := ⟨rfl, rfl, rfl, Nat.le_refl _, fun _ _ => rfl⟩
  refine specsP_any (w0 := w) hlen hdst hback hstep hend _ _ _ _ ⟨by simp, rfl, rfl, fun _ _ => rfl, fun i o s d hi hs hd hl => ?_, hbw⟩ ?_
  · exfalso
    rw [Array.getD_eq_getD_getElem?, Array.getElem?_replicate] at hl
    split at hl <;> simp at hl
  · have := List.countP_le_length (p := fun b => !b) (l := (Array.replicate l.toArray.size false).toList)
    simpa using this
end Go.Proofs.YtmfoionlapcgkaaDoor

/- TcpNotices: the walk, over the bundle P14. -/
namespace Go.Proofs.YtmfoionlapcgkaaDoor
open Go.ChangeShapes Go.WideShapes Go.ChangeAt Go.RowKit
set_option linter.unusedVariables false
set_option maxRecDepth 100000

/-- string([]byte{a}). -/
theorem one_str14 (W : World) (g : Nat) (a : Nat) (ha : a < 256) (h : W.heap[g]? = some (.cells #[.int .u8 (a : Int)] 5 (0, 0))) : (convert 48 9 (.slice (some ⟨g, 0, none⟩) 1 1)).run Tryd.prog W = .ok (.string (str [UInt8.ofNat a])) W := by
  have hla : (UInt8.ofNat a).toNat = a := by rw [UInt8.toNat_ofNat']; omega
  have hbs : BS W 0 (.slice (some ⟨g, 0, none⟩) [UInt8.ofNat a].length 1) [UInt8.ofNat a] := by
    refine ⟨some ⟨g, 0, none⟩, 1, rfl, Nat.le_refl _, fun _ => ⟨g, 0, rfl, Nat.zero_le _, (Array.getElem?_eq_some_iff.1 h).1, fun j hj => ?_⟩⟩
    have hj2 : j = 0 := by simp at hj; omega
    subst hj2
    simp [World.cell?, World.frozen?, h, hla]
  exact bs_string hbs
theorem set_cut14 {S : List UInt8} {i : Nat} {c : UInt8} (h : i < S.length) : S.set i c = S.take i ++ (c :: S.drop (i + 1)) := by
  rw [List.set_eq_take_append_cons_drop, if_pos h]
theorem xor_neq14 {x b : Nat} (hx : x < 256) (hb : b < 256) (h0 : b ≠ 0) : (x ^^^ b) ≠ x := fun e => h0 (by
  have h1 : x ^^^ (x ^^^ b) = x ^^^ x := by rw [e]
  rw [← Nat.xor_assoc, Nat.xor_self, Nat.zero_xor] at h1
  exact h1)
set_option maxHeartbeats 8000000 in
set_option maxRecDepth 100000 in
theorem walkN14 {T : World → Prop} (H : P14 T) (src dst : Int) (sq ak : Nat) (fl win urg : Int) (l : List OpR) (pay : List UInt8) (A : Option Addr) (c : Nat) (at_ : Int) (by_ : Nat) (w : World) (hT : T w) (hw : tcpWf ⟨src, dst, sq, ak, fl, win, urg, l, pay⟩) (hr : RowL EOpt w A l) (hA : A = none → c = 0) (hby : by_ < 256) :
    Calls Tryd.prog 8 #[.agg (tcC ⟨src, dst, sq, ak, fl, win, urg, l, pay⟩ A c (str pay)), .int .i64 at_, .int .u8 (by_ : Int)] w fun e w' => e = .returned (.bool true) ∧ Below w.heap.size w w' := by
  unfold tcC
  dsimp only
  obtain ⟨D, hD⟩ : ∃ Y, Y = str pay := ⟨_, rfl⟩
  obtain ⟨n, hn⟩ : ∃ n, n = l.length := ⟨_, rfl⟩
  have hDs : D.size = pay.length := by rw [hD, str_size]
  rw [← hD, ← hn]
  obtain ⟨W0, hW0⟩ : ∃ W, W = w.alloc (.cells #[.int .i64 src, .int .i64 dst, .int .u32 (sq : Int), .int .u32 (ak : Int), .int .i64 fl, .int .i64 win, .int .i64 urg, .slice A n c, .string D] 31) := ⟨_, rfl⟩
  obtain ⟨gt, hgt⟩ : ∃ g, g = w.heap.size := ⟨_, rfl⟩
  have bt : Below w.heap.size w W0 := by rw [hW0]; exact below_alloc6 w _
  have pt : Cells W0 gt 31 #[.int .i64 src, .int .i64 dst, .int .u32 (sq : Int), .int .u32 (ak : Int), .int .i64 fl, .int .i64 win, .int .i64 urg, .slice A n c, .string D] := by rw [hW0, hgt]; exact heap_alloc_new w _
  have B0 := Lib.hid (show Below w.heap.size w W0 from bt)
  have Pt0 := Lib.hid (show Cells W0 gt 31 #[.int .i64 src, .int .i64 dst, .int .u32 (sq : Int), .int .u32 (ak : Int), .int .i64 fl, .int .i64 win, .int .i64 urg, .slice A n c, .string D] from pt)
  have HK := Lib.hid H.keep
  have HL := Lib.hid (fun (W : World) (hW : T W) => awk14 H W hW)
  have K0 := Lib.hid (H.keep w W0 hT B0.out)
  have Rt0 := Lib.hid (hr.kept B0.out)
  have HLG := Lib.hid (fun (W : World) => show Calls Tryd.prog 13 #[.agg #[.int .i64 src, .int .i64 dst, .int .u32 (sq : Int), .int .u32 (ak : Int), .int .i64 fl, .int .i64 win, .int .i64 urg, .slice A n c, .string D]] W fun e w' => e = .returned (.bool (decide (largeT ⟨src, dst, sq, ak, fl, win, urg, l, pay⟩))) ∧ Below W.heap.size W w' from by rw [hn]; exact large14_any ⟨src, dst, sq, ak, fl, win, urg, l, pay⟩ A c D W hD)
  by_cases hl : largeT ⟨src, dst, sq, ak, fl, win, urg, l, pay⟩
  · rw [decide_eq_true hl] at HLG
    clear hl hr hw hA hD hn hDs hT
    have et : gt = w.heap.size := by exact hgt
    have HW0 := Lib.hid hW0
    have Et := Lib.hid et
    clear hW0 hgt et bt pt
    go_enter Tryd.func8, Tryd.ntmps8
    go_upto_region 1 with fail
    rw [← HW0.out, ← Et.out]
    clear HW0 Et
    go_upto_region 2 with fail
    obtain ⟨W1, hW⟩ : ∃ W, W = (W0.alloc (.cells #[.bool false, .int .u64 0, .int .u64 167772161] 24)).alloc (.cells #[.bool false, .int .u64 0, .int .u64 167772162] 24) := ⟨_, rfl⟩
    obtain ⟨ga, hg⟩ : ∃ g, g = W0.heap.size := ⟨_, rfl⟩
    have hq : Two W1 ga false 0 167772161 false 0 167772162 := by rw [hW, hg]; exact two_new W0 false 0 167772161 false 0 167772162 _
    have hb : Below W0.heap.size W0 W1 := by rw [hW]; exact twoT_below W0 _ _
    rw [← hW, ← hg]
    clear hW hg
    have Pt1 := Lib.hid (Cells.kept Pt0.out hb Pt0.out.lt)
    have Rt1 := Lib.hid (Rt0.out.kept hb)
    have K1 := Lib.hid (HK.out _ _ K0.out hb)
    have B1 := Lib.hid (B0.out.trans (hb.mono B0.out.size))
    clear hb Pt0 Rt0 K0 B0
    have Qa1 := Lib.hid hq
    clear hq
    have xt0 := (Cells.cell Pt1.out 0).trans (show _ = some (Value.int .i64 src) from rfl)
    have xt1 := (Cells.cell Pt1.out 1).trans (show _ = some (Value.int .i64 dst) from rfl)
    have xt2 := (Cells.cell Pt1.out 2).trans (show _ = some (Value.int .u32 (sq : Int)) from rfl)
    have xt3 := (Cells.cell Pt1.out 3).trans (show _ = some (Value.int .u32 (ak : Int)) from rfl)
    have xt4 := (Cells.cell Pt1.out 4).trans (show _ = some (Value.int .i64 fl) from rfl)
    have xt5 := (Cells.cell Pt1.out 5).trans (show _ = some (Value.int .i64 win) from rfl)
    have xt6 := (Cells.cell Pt1.out 6).trans (show _ = some (Value.int .i64 urg) from rfl)
    have xt7 := (Cells.cell Pt1.out 7).trans (show _ = some (Value.slice A n c) from rfl)
    have xt8 := (Cells.cell Pt1.out 8).trans (show _ = some (Value.string D) from rfl)
    go_wp2_with fail
    refine (HLG.out _).mono ?_
    rintro e w2 ⟨rfl, hb⟩
    clear HLG xt0 xt1 xt2 xt3 xt4 xt5 xt6 xt7 xt8
    have Pt2 := Lib.hid (Cells.kept Pt1.out hb Pt1.out.lt)
    have Rt2 := Lib.hid (Rt1.out.kept hb)
    have Qa2 := Lib.hid (Qa1.out.kept hb)
    have K2 := Lib.hid (HK.out _ _ K1.out hb)
    have B2 := Lib.hid (B1.out.trans (hb.mono B1.out.size))
    clear hb Pt1 Rt1 Qa1 K1 B1
    have xt0 := (Cells.cell Pt2.out 0).trans (show _ = some (Value.int .i64 src) from rfl)
    have xt1 := (Cells.cell Pt2.out 1).trans (show _ = some (Value.int .i64 dst) from rfl)
    have xt2 := (Cells.cell Pt2.out 2).trans (show _ = some (Value.int .u32 (sq : Int)) from rfl)
    have xt3 := (Cells.cell Pt2.out 3).trans (show _ = some (Value.int .u32 (ak : Int)) from rfl)
    have xt4 := (Cells.cell Pt2.out 4).trans (show _ = some (Value.int .i64 fl) from rfl)
    have xt5 := (Cells.cell Pt2.out 5).trans (show _ = some (Value.int .i64 win) from rfl)
    have xt6 := (Cells.cell Pt2.out 6).trans (show _ = some (Value.int .i64 urg) from rfl)
    have xt7 := (Cells.cell Pt2.out 7).trans (show _ = some (Value.slice A n c) from rfl)
    have xt8 := (Cells.cell Pt2.out 8).trans (show _ = some (Value.string D) from rfl)
    go_wp2_with fail
    refine (HL.out _ K2.out).mono ?_
    rintro e w99 ⟨rfl, hb⟩
    have BZ := Lib.hid (B2.out.trans (hb.mono B2.out.size))
    clear hb
    go_wp2_with fail
    go_ret
    exact ⟨rfl, BZ.out⟩
  rw [decide_eq_false hl] at HLG
  have hol : l.length ≤ 60 := by unfold largeT at hl; dsimp only at hl; omega
  by_cases hp3 : 3000 < D.size
  · have d3 : decide ((3000 : Int) < (D.size : Int)) = true := by simp; omega
    have n3 : (3000 : Int) < (D.size : Int) := by omega
    clear hl hr hw hA hD hn hDs hT hp3 hol
    have et : gt = w.heap.size := by exact hgt
    have HW0 := Lib.hid hW0
    have Et := Lib.hid et
    clear hW0 hgt et bt pt
    go_enter Tryd.func8, Tryd.ntmps8
    go_upto_region 1 with fail
    rw [← HW0.out, ← Et.out]
    clear HW0 Et
    go_upto_region 2 with fail
    obtain ⟨W1, hW⟩ : ∃ W, W = (W0.alloc (.cells #[.bool false, .int .u64 0, .int .u64 167772161] 24)).alloc (.cells #[.bool false, .int .u64 0, .int .u64 167772162] 24) := ⟨_, rfl⟩
    obtain ⟨ga, hg⟩ : ∃ g, g = W0.heap.size := ⟨_, rfl⟩
    have hq : Two W1 ga false 0 167772161 false 0 167772162 := by rw [hW, hg]; exact two_new W0 false 0 167772161 false 0 167772162 _
    have hb : Below W0.heap.size W0 W1 := by rw [hW]; exact twoT_below W0 _ _
    rw [← hW, ← hg]
    clear hW hg
    have Pt1 := Lib.hid (Cells.kept Pt0.out hb Pt0.out.lt)
    have Rt1 := Lib.hid (Rt0.out.kept hb)
    have K1 := Lib.hid (HK.out _ _ K0.out hb)
    have B1 := Lib.hid (B0.out.trans (hb.mono B0.out.size))
    clear hb Pt0 Rt0 K0 B0
    have Qa1 := Lib.hid hq
    clear hq
    have xt0 := (Cells.cell Pt1.out 0).trans (show _ = some (Value.int .i64 src) from rfl)
    have xt1 := (Cells.cell Pt1.out 1).trans (show _ = some (Value.int .i64 dst) from rfl)
    have xt2 := (Cells.cell Pt1.out 2).trans (show _ = some (Value.int .u32 (sq : Int)) from rfl)
    have xt3 := (Cells.cell Pt1.out 3).trans (show _ = some (Value.int .u32 (ak : Int)) from rfl)
    have xt4 := (Cells.cell Pt1.out 4).trans (show _ = some (Value.int .i64 fl) from rfl)
    have xt5 := (Cells.cell Pt1.out 5).trans (show _ = some (Value.int .i64 win) from rfl)
    have xt6 := (Cells.cell Pt1.out 6).trans (show _ = some (Value.int .i64 urg) from rfl)
    have xt7 := (Cells.cell Pt1.out 7).trans (show _ = some (Value.slice A n c) from rfl)
    have xt8 := (Cells.cell Pt1.out 8).trans (show _ = some (Value.string D) from rfl)
    go_wp2_with fail
    refine (HLG.out _).mono ?_
    rintro e w2 ⟨rfl, hb⟩
    clear HLG xt0 xt1 xt2 xt3 xt4 xt5 xt6 xt7 xt8
    have Pt2 := Lib.hid (Cells.kept Pt1.out hb Pt1.out.lt)
    have Rt2 := Lib.hid (Rt1.out.kept hb)
    have Qa2 := Lib.hid (Qa1.out.kept hb)
    have K2 := Lib.hid (HK.out _ _ K1.out hb)
    have B2 := Lib.hid (B1.out.trans (hb.mono B1.out.size))
    clear hb Pt1 Rt1 Qa1 K1 B1
    have xt0 := (Cells.cell Pt2.out 0).trans (show _ = some (Value.int .i64 src) from rfl)
    have xt1 := (Cells.cell Pt2.out 1).trans (show _ = some (Value.int .i64 dst) from rfl)
    have xt2 := (Cells.cell Pt2.out 2).trans (show _ = some (Value.int .u32 (sq : Int)) from rfl)
    have xt3 := (Cells.cell Pt2.out 3).trans (show _ = some (Value.int .u32 (ak : Int)) from rfl)
    have xt4 := (Cells.cell Pt2.out 4).trans (show _ = some (Value.int .i64 fl) from rfl)
    have xt5 := (Cells.cell Pt2.out 5).trans (show _ = some (Value.int .i64 win) from rfl)
    have xt6 := (Cells.cell Pt2.out 6).trans (show _ = some (Value.int .i64 urg) from rfl)
    have xt7 := (Cells.cell Pt2.out 7).trans (show _ = some (Value.slice A n c) from rfl)
    have xt8 := (Cells.cell Pt2.out 8).trans (show _ = some (Value.string D) from rfl)
    go_wp2_with fail
    refine (HL.out _ K2.out).mono ?_
    rintro e w99 ⟨rfl, hb⟩
    have BZ := Lib.hid (B2.out.trans (hb.mono B2.out.size))
    clear hb
    go_wp2_with fail
    go_ret
    exact ⟨rfl, BZ.out⟩
  have d3 : decide ((3000 : Int) < (D.size : Int)) = false := by simp; omega
  have n3 : ¬ (3000 : Int) < (D.size : Int) := by omega
  obtain ⟨R, hR⟩ : ∃ R, R = encT ⟨false, 0, 167772161⟩ ⟨false, 0, 167772162⟩ ⟨src, dst, sq, ak, fl, win, urg, l, pay⟩ := ⟨_, rfl⟩
  obtain ⟨q, hq⟩ : ∃ q, q = str R.1 := ⟨_, rfl⟩
  have hqs : q.size = R.1.length := by rw [hq, str_size]
  obtain ⟨er, her0⟩ : ∃ e, e = R.2 := ⟨_, rfl⟩
  have fa : fits13 ⟨false, 0, 167772161⟩ := by unfold fits13; decide
  have fb : fits13 ⟨false, 0, 167772162⟩ := by unfold fits13; decide
  have H1 := Lib.hid (fun (W : World) (hW : T W) (h : RowL EOpt W A l) => show Calls Tryd.prog 14 #[.agg #[.bool false, .int .u64 0, .int .u64 167772161], .agg #[.bool false, .int .u64 0, .int .u64 167772162], .agg #[.int .i64 src, .int .i64 dst, .int .u32 (sq : Int), .int .u32 (ak : Int), .int .i64 fl, .int .i64 win, .int .i64 urg, .slice A n c, .string D]] W fun e w' => e = .returned (.tuple #[.string q, .int .i64 (er : Int)]) ∧ Below W.heap.size W w' from by
    rw [hq, her0, hR, hn, hD]
    exact H.enc false false 0 167772161 0 167772162 ⟨src, dst, sq, ak, fl, win, urg, l, pay⟩ A c W hW fa fb ⟨hw, h, by show l.length ≤ 1000; omega, hA⟩ (by show pay.length ≤ 1000000; omega))
  have HFT := Lib.hid hw.2.1
  clear hr hA hT hw
  by_cases he : er ≠ 0
  · have e1 : ((er : Int) != 0) = true := by simp; omega
    clear hl hD hn hDs hR hq hqs her0 he hol hp3
    have et : gt = w.heap.size := by exact hgt
    have HW0 := Lib.hid hW0
    have Et := Lib.hid et
    clear hW0 hgt et bt pt
    go_enter Tryd.func8, Tryd.ntmps8
    go_upto_region 1 with fail
    rw [← HW0.out, ← Et.out]
    clear HW0 Et
    go_upto_region 2 with fail
    obtain ⟨W1, hW⟩ : ∃ W, W = (W0.alloc (.cells #[.bool false, .int .u64 0, .int .u64 167772161] 24)).alloc (.cells #[.bool false, .int .u64 0, .int .u64 167772162] 24) := ⟨_, rfl⟩
    obtain ⟨ga, hg⟩ : ∃ g, g = W0.heap.size := ⟨_, rfl⟩
    have hq : Two W1 ga false 0 167772161 false 0 167772162 := by rw [hW, hg]; exact two_new W0 false 0 167772161 false 0 167772162 _
    have hb : Below W0.heap.size W0 W1 := by rw [hW]; exact twoT_below W0 _ _
    rw [← hW, ← hg]
    clear hW hg
    have Pt1 := Lib.hid (Cells.kept Pt0.out hb Pt0.out.lt)
    have Rt1 := Lib.hid (Rt0.out.kept hb)
    have K1 := Lib.hid (HK.out _ _ K0.out hb)
    have B1 := Lib.hid (B0.out.trans (hb.mono B0.out.size))
    clear hb Pt0 Rt0 K0 B0
    have Qa1 := Lib.hid hq
    clear hq
    have xt0 := (Cells.cell Pt1.out 0).trans (show _ = some (Value.int .i64 src) from rfl)
    have xt1 := (Cells.cell Pt1.out 1).trans (show _ = some (Value.int .i64 dst) from rfl)
    have xt2 := (Cells.cell Pt1.out 2).trans (show _ = some (Value.int .u32 (sq : Int)) from rfl)
    have xt3 := (Cells.cell Pt1.out 3).trans (show _ = some (Value.int .u32 (ak : Int)) from rfl)
    have xt4 := (Cells.cell Pt1.out 4).trans (show _ = some (Value.int .i64 fl) from rfl)
    have xt5 := (Cells.cell Pt1.out 5).trans (show _ = some (Value.int .i64 win) from rfl)
    have xt6 := (Cells.cell Pt1.out 6).trans (show _ = some (Value.int .i64 urg) from rfl)
    have xt7 := (Cells.cell Pt1.out 7).trans (show _ = some (Value.slice A n c) from rfl)
    have xt8 := (Cells.cell Pt1.out 8).trans (show _ = some (Value.string D) from rfl)
    go_wp2_with fail
    refine (HLG.out _).mono ?_
    rintro e w2 ⟨rfl, hb⟩
    clear HLG xt0 xt1 xt2 xt3 xt4 xt5 xt6 xt7 xt8
    have Pt2 := Lib.hid (Cells.kept Pt1.out hb Pt1.out.lt)
    have Rt2 := Lib.hid (Rt1.out.kept hb)
    have Qa2 := Lib.hid (Qa1.out.kept hb)
    have K2 := Lib.hid (HK.out _ _ K1.out hb)
    have B2 := Lib.hid (B1.out.trans (hb.mono B1.out.size))
    clear hb Pt1 Rt1 Qa1 K1 B1
    obtain ⟨qa0, qa1, qa2, qa3, qa4, qa5, qa6⟩ := id Qa2.out
    have xt0 := (Cells.cell Pt2.out 0).trans (show _ = some (Value.int .i64 src) from rfl)
    have xt1 := (Cells.cell Pt2.out 1).trans (show _ = some (Value.int .i64 dst) from rfl)
    have xt2 := (Cells.cell Pt2.out 2).trans (show _ = some (Value.int .u32 (sq : Int)) from rfl)
    have xt3 := (Cells.cell Pt2.out 3).trans (show _ = some (Value.int .u32 (ak : Int)) from rfl)
    have xt4 := (Cells.cell Pt2.out 4).trans (show _ = some (Value.int .i64 fl) from rfl)
    have xt5 := (Cells.cell Pt2.out 5).trans (show _ = some (Value.int .i64 win) from rfl)
    have xt6 := (Cells.cell Pt2.out 6).trans (show _ = some (Value.int .i64 urg) from rfl)
    have xt7 := (Cells.cell Pt2.out 7).trans (show _ = some (Value.slice A n c) from rfl)
    have xt8 := (Cells.cell Pt2.out 8).trans (show _ = some (Value.string D) from rfl)
    go_wp2_with fail
    refine (H1.out _ K2.out Rt2.out).mono ?_
    rintro e w3 ⟨rfl, hb⟩
    clear H1 qa0 qa1 qa2 qa3 qa4 qa5 qa6 xt0 xt1 xt2 xt3 xt4 xt5 xt6 xt7 xt8
    have Pt3 := Lib.hid (Cells.kept Pt2.out hb Pt2.out.lt)
    have Rt3 := Lib.hid (Rt2.out.kept hb)
    have Qa3 := Lib.hid (Qa2.out.kept hb)
    have K3 := Lib.hid (HK.out _ _ K2.out hb)
    have B3 := Lib.hid (B2.out.trans (hb.mono B2.out.size))
    clear hb Pt2 Rt2 Qa2 K2 B2
    go_wp2_with fail
    refine (HL.out _ K3.out).mono ?_
    rintro e w99 ⟨rfl, hb⟩
    have BZ := Lib.hid (B3.out.trans (hb.mono B3.out.size))
    clear hb
    go_wp2_with fail
    go_ret
    exact ⟨rfl, BZ.out⟩
  have he0 : er = 0 := Classical.not_not.1 he
  have e1 : ((er : Int) != 0) = false := by simp; omega
  by_cases hb0 : by_ = 0
  · have e2 : ((by_ : Int) == 0) = true := by simp; omega
    clear hl hD hn hDs hR hq hqs her0 he he0 hol hp3 hb0
    have et : gt = w.heap.size := by exact hgt
    have HW0 := Lib.hid hW0
    have Et := Lib.hid et
    clear hW0 hgt et bt pt
    go_enter Tryd.func8, Tryd.ntmps8
    go_upto_region 1 with fail
    rw [← HW0.out, ← Et.out]
    clear HW0 Et
    go_upto_region 2 with fail
    obtain ⟨W1, hW⟩ : ∃ W, W = (W0.alloc (.cells #[.bool false, .int .u64 0, .int .u64 167772161] 24)).alloc (.cells #[.bool false, .int .u64 0, .int .u64 167772162] 24) := ⟨_, rfl⟩
    obtain ⟨ga, hg⟩ : ∃ g, g = W0.heap.size := ⟨_, rfl⟩
    have hq : Two W1 ga false 0 167772161 false 0 167772162 := by rw [hW, hg]; exact two_new W0 false 0 167772161 false 0 167772162 _
    have hb : Below W0.heap.size W0 W1 := by rw [hW]; exact twoT_below W0 _ _
    rw [← hW, ← hg]
    clear hW hg
    have Pt1 := Lib.hid (Cells.kept Pt0.out hb Pt0.out.lt)
    have Rt1 := Lib.hid (Rt0.out.kept hb)
    have K1 := Lib.hid (HK.out _ _ K0.out hb)
    have B1 := Lib.hid (B0.out.trans (hb.mono B0.out.size))
    clear hb Pt0 Rt0 K0 B0
    have Qa1 := Lib.hid hq
    clear hq
    have xt0 := (Cells.cell Pt1.out 0).trans (show _ = some (Value.int .i64 src) from rfl)
    have xt1 := (Cells.cell Pt1.out 1).trans (show _ = some (Value.int .i64 dst) from rfl)
    have xt2 := (Cells.cell Pt1.out 2).trans (show _ = some (Value.int .u32 (sq : Int)) from rfl)
    have xt3 := (Cells.cell Pt1.out 3).trans (show _ = some (Value.int .u32 (ak : Int)) from rfl)
    have xt4 := (Cells.cell Pt1.out 4).trans (show _ = some (Value.int .i64 fl) from rfl)
    have xt5 := (Cells.cell Pt1.out 5).trans (show _ = some (Value.int .i64 win) from rfl)
    have xt6 := (Cells.cell Pt1.out 6).trans (show _ = some (Value.int .i64 urg) from rfl)
    have xt7 := (Cells.cell Pt1.out 7).trans (show _ = some (Value.slice A n c) from rfl)
    have xt8 := (Cells.cell Pt1.out 8).trans (show _ = some (Value.string D) from rfl)
    go_wp2_with fail
    refine (HLG.out _).mono ?_
    rintro e w2 ⟨rfl, hb⟩
    clear HLG xt0 xt1 xt2 xt3 xt4 xt5 xt6 xt7 xt8
    have Pt2 := Lib.hid (Cells.kept Pt1.out hb Pt1.out.lt)
    have Rt2 := Lib.hid (Rt1.out.kept hb)
    have Qa2 := Lib.hid (Qa1.out.kept hb)
    have K2 := Lib.hid (HK.out _ _ K1.out hb)
    have B2 := Lib.hid (B1.out.trans (hb.mono B1.out.size))
    clear hb Pt1 Rt1 Qa1 K1 B1
    obtain ⟨qa0, qa1, qa2, qa3, qa4, qa5, qa6⟩ := id Qa2.out
    have xt0 := (Cells.cell Pt2.out 0).trans (show _ = some (Value.int .i64 src) from rfl)
    have xt1 := (Cells.cell Pt2.out 1).trans (show _ = some (Value.int .i64 dst) from rfl)
    have xt2 := (Cells.cell Pt2.out 2).trans (show _ = some (Value.int .u32 (sq : Int)) from rfl)
    have xt3 := (Cells.cell Pt2.out 3).trans (show _ = some (Value.int .u32 (ak : Int)) from rfl)
    have xt4 := (Cells.cell Pt2.out 4).trans (show _ = some (Value.int .i64 fl) from rfl)
    have xt5 := (Cells.cell Pt2.out 5).trans (show _ = some (Value.int .i64 win) from rfl)
    have xt6 := (Cells.cell Pt2.out 6).trans (show _ = some (Value.int .i64 urg) from rfl)
    have xt7 := (Cells.cell Pt2.out 7).trans (show _ = some (Value.slice A n c) from rfl)
    have xt8 := (Cells.cell Pt2.out 8).trans (show _ = some (Value.string D) from rfl)
    go_wp2_with fail
    refine (H1.out _ K2.out Rt2.out).mono ?_
    rintro e w3 ⟨rfl, hb⟩
    clear H1 qa0 qa1 qa2 qa3 qa4 qa5 qa6 xt0 xt1 xt2 xt3 xt4 xt5 xt6 xt7 xt8
    have Pt3 := Lib.hid (Cells.kept Pt2.out hb Pt2.out.lt)
    have Rt3 := Lib.hid (Rt2.out.kept hb)
    have Qa3 := Lib.hid (Qa2.out.kept hb)
    have K3 := Lib.hid (HK.out _ _ K2.out hb)
    have B3 := Lib.hid (B2.out.trans (hb.mono B2.out.size))
    clear hb Pt2 Rt2 Qa2 K2 B2
    go_wp2_with fail
    refine (HL.out _ K3.out).mono ?_
    rintro e w99 ⟨rfl, hb⟩
    have BZ := Lib.hid (B3.out.trans (hb.mono B3.out.size))
    clear hb
    go_wp2_with fail
    go_ret
    exact ⟨rfl, BZ.out⟩
  have e2 : ((by_ : Int) == 0) = false := by simp; omega
  by_cases ha0 : at_ < 0
  · have e3 : decide (at_ < (0 : Int)) = true := by simp; omega
    clear hl hD hn hDs hR hq hqs her0 he he0 hol hp3 hb0
    have et : gt = w.heap.size := by exact hgt
    have HW0 := Lib.hid hW0
    have Et := Lib.hid et
    clear hW0 hgt et bt pt
    go_enter Tryd.func8, Tryd.ntmps8
    go_upto_region 1 with fail
    rw [← HW0.out, ← Et.out]
    clear HW0 Et
    go_upto_region 2 with fail
    obtain ⟨W1, hW⟩ : ∃ W, W = (W0.alloc (.cells #[.bool false, .int .u64 0, .int .u64 167772161] 24)).alloc (.cells #[.bool false, .int .u64 0, .int .u64 167772162] 24) := ⟨_, rfl⟩
    obtain ⟨ga, hg⟩ : ∃ g, g = W0.heap.size := ⟨_, rfl⟩
    have hq : Two W1 ga false 0 167772161 false 0 167772162 := by rw [hW, hg]; exact two_new W0 false 0 167772161 false 0 167772162 _
    have hb : Below W0.heap.size W0 W1 := by rw [hW]; exact twoT_below W0 _ _
    rw [← hW, ← hg]
    clear hW hg
    have Pt1 := Lib.hid (Cells.kept Pt0.out hb Pt0.out.lt)
    have Rt1 := Lib.hid (Rt0.out.kept hb)
    have K1 := Lib.hid (HK.out _ _ K0.out hb)
    have B1 := Lib.hid (B0.out.trans (hb.mono B0.out.size))
    clear hb Pt0 Rt0 K0 B0
    have Qa1 := Lib.hid hq
    clear hq
    have xt0 := (Cells.cell Pt1.out 0).trans (show _ = some (Value.int .i64 src) from rfl)
    have xt1 := (Cells.cell Pt1.out 1).trans (show _ = some (Value.int .i64 dst) from rfl)
    have xt2 := (Cells.cell Pt1.out 2).trans (show _ = some (Value.int .u32 (sq : Int)) from rfl)
    have xt3 := (Cells.cell Pt1.out 3).trans (show _ = some (Value.int .u32 (ak : Int)) from rfl)
    have xt4 := (Cells.cell Pt1.out 4).trans (show _ = some (Value.int .i64 fl) from rfl)
    have xt5 := (Cells.cell Pt1.out 5).trans (show _ = some (Value.int .i64 win) from rfl)
    have xt6 := (Cells.cell Pt1.out 6).trans (show _ = some (Value.int .i64 urg) from rfl)
    have xt7 := (Cells.cell Pt1.out 7).trans (show _ = some (Value.slice A n c) from rfl)
    have xt8 := (Cells.cell Pt1.out 8).trans (show _ = some (Value.string D) from rfl)
    go_wp2_with fail
    refine (HLG.out _).mono ?_
    rintro e w2 ⟨rfl, hb⟩
    clear HLG xt0 xt1 xt2 xt3 xt4 xt5 xt6 xt7 xt8
    have Pt2 := Lib.hid (Cells.kept Pt1.out hb Pt1.out.lt)
    have Rt2 := Lib.hid (Rt1.out.kept hb)
    have Qa2 := Lib.hid (Qa1.out.kept hb)
    have K2 := Lib.hid (HK.out _ _ K1.out hb)
    have B2 := Lib.hid (B1.out.trans (hb.mono B1.out.size))
    clear hb Pt1 Rt1 Qa1 K1 B1
    obtain ⟨qa0, qa1, qa2, qa3, qa4, qa5, qa6⟩ := id Qa2.out
    have xt0 := (Cells.cell Pt2.out 0).trans (show _ = some (Value.int .i64 src) from rfl)
    have xt1 := (Cells.cell Pt2.out 1).trans (show _ = some (Value.int .i64 dst) from rfl)
    have xt2 := (Cells.cell Pt2.out 2).trans (show _ = some (Value.int .u32 (sq : Int)) from rfl)
    have xt3 := (Cells.cell Pt2.out 3).trans (show _ = some (Value.int .u32 (ak : Int)) from rfl)
    have xt4 := (Cells.cell Pt2.out 4).trans (show _ = some (Value.int .i64 fl) from rfl)
    have xt5 := (Cells.cell Pt2.out 5).trans (show _ = some (Value.int .i64 win) from rfl)
    have xt6 := (Cells.cell Pt2.out 6).trans (show _ = some (Value.int .i64 urg) from rfl)
    have xt7 := (Cells.cell Pt2.out 7).trans (show _ = some (Value.slice A n c) from rfl)
    have xt8 := (Cells.cell Pt2.out 8).trans (show _ = some (Value.string D) from rfl)
    go_wp2_with fail
    refine (H1.out _ K2.out Rt2.out).mono ?_
    rintro e w3 ⟨rfl, hb⟩
    clear H1 qa0 qa1 qa2 qa3 qa4 qa5 qa6 xt0 xt1 xt2 xt3 xt4 xt5 xt6 xt7 xt8
    have Pt3 := Lib.hid (Cells.kept Pt2.out hb Pt2.out.lt)
    have Rt3 := Lib.hid (Rt2.out.kept hb)
    have Qa3 := Lib.hid (Qa2.out.kept hb)
    have K3 := Lib.hid (HK.out _ _ K2.out hb)
    have B3 := Lib.hid (B2.out.trans (hb.mono B2.out.size))
    clear hb Pt2 Rt2 Qa2 K2 B2
    go_wp2_with fail
    refine (HL.out _ K3.out).mono ?_
    rintro e w99 ⟨rfl, hb⟩
    have BZ := Lib.hid (B3.out.trans (hb.mono B3.out.size))
    clear hb
    go_wp2_with fail
    go_ret
    exact ⟨rfl, BZ.out⟩
  have e3 : decide (at_ < (0 : Int)) = false := by simp; omega
  obtain ⟨i, rfl⟩ : ∃ k : Nat, at_ = (k : Int) := ⟨at_.toNat, by omega⟩
  by_cases ha1 : q.size ≤ i
  · have e4 : decide ((q.size : Int) ≤ (i : Int)) = true := by simp; omega
    have n4 : (q.size : Int) ≤ (i : Int) := by omega
    clear hl hD hn hDs hR hq hqs her0 he he0 hol hp3 hb0
    have et : gt = w.heap.size := by exact hgt
    have HW0 := Lib.hid hW0
    have Et := Lib.hid et
    clear hW0 hgt et bt pt
    go_enter Tryd.func8, Tryd.ntmps8
    go_upto_region 1 with fail
    rw [← HW0.out, ← Et.out]
    clear HW0 Et
    go_upto_region 2 with fail
    obtain ⟨W1, hW⟩ : ∃ W, W = (W0.alloc (.cells #[.bool false, .int .u64 0, .int .u64 167772161] 24)).alloc (.cells #[.bool false, .int .u64 0, .int .u64 167772162] 24) := ⟨_, rfl⟩
    obtain ⟨ga, hg⟩ : ∃ g, g = W0.heap.size := ⟨_, rfl⟩
    have hq : Two W1 ga false 0 167772161 false 0 167772162 := by rw [hW, hg]; exact two_new W0 false 0 167772161 false 0 167772162 _
    have hb : Below W0.heap.size W0 W1 := by rw [hW]; exact twoT_below W0 _ _
    rw [← hW, ← hg]
    clear hW hg
    have Pt1 := Lib.hid (Cells.kept Pt0.out hb Pt0.out.lt)
    have Rt1 := Lib.hid (Rt0.out.kept hb)
    have K1 := Lib.hid (HK.out _ _ K0.out hb)
    have B1 := Lib.hid (B0.out.trans (hb.mono B0.out.size))
    clear hb Pt0 Rt0 K0 B0
    have Qa1 := Lib.hid hq
    clear hq
    have xt0 := (Cells.cell Pt1.out 0).trans (show _ = some (Value.int .i64 src) from rfl)
    have xt1 := (Cells.cell Pt1.out 1).trans (show _ = some (Value.int .i64 dst) from rfl)
    have xt2 := (Cells.cell Pt1.out 2).trans (show _ = some (Value.int .u32 (sq : Int)) from rfl)
    have xt3 := (Cells.cell Pt1.out 3).trans (show _ = some (Value.int .u32 (ak : Int)) from rfl)
    have xt4 := (Cells.cell Pt1.out 4).trans (show _ = some (Value.int .i64 fl) from rfl)
    have xt5 := (Cells.cell Pt1.out 5).trans (show _ = some (Value.int .i64 win) from rfl)
    have xt6 := (Cells.cell Pt1.out 6).trans (show _ = some (Value.int .i64 urg) from rfl)
    have xt7 := (Cells.cell Pt1.out 7).trans (show _ = some (Value.slice A n c) from rfl)
    have xt8 := (Cells.cell Pt1.out 8).trans (show _ = some (Value.string D) from rfl)
    go_wp2_with fail
    refine (HLG.out _).mono ?_
    rintro e w2 ⟨rfl, hb⟩
    clear HLG xt0 xt1 xt2 xt3 xt4 xt5 xt6 xt7 xt8
    have Pt2 := Lib.hid (Cells.kept Pt1.out hb Pt1.out.lt)
    have Rt2 := Lib.hid (Rt1.out.kept hb)
    have Qa2 := Lib.hid (Qa1.out.kept hb)
    have K2 := Lib.hid (HK.out _ _ K1.out hb)
    have B2 := Lib.hid (B1.out.trans (hb.mono B1.out.size))
    clear hb Pt1 Rt1 Qa1 K1 B1
    obtain ⟨qa0, qa1, qa2, qa3, qa4, qa5, qa6⟩ := id Qa2.out
    have xt0 := (Cells.cell Pt2.out 0).trans (show _ = some (Value.int .i64 src) from rfl)
    have xt1 := (Cells.cell Pt2.out 1).trans (show _ = some (Value.int .i64 dst) from rfl)
    have xt2 := (Cells.cell Pt2.out 2).trans (show _ = some (Value.int .u32 (sq : Int)) from rfl)
    have xt3 := (Cells.cell Pt2.out 3).trans (show _ = some (Value.int .u32 (ak : Int)) from rfl)
    have xt4 := (Cells.cell Pt2.out 4).trans (show _ = some (Value.int .i64 fl) from rfl)
    have xt5 := (Cells.cell Pt2.out 5).trans (show _ = some (Value.int .i64 win) from rfl)
    have xt6 := (Cells.cell Pt2.out 6).trans (show _ = some (Value.int .i64 urg) from rfl)
    have xt7 := (Cells.cell Pt2.out 7).trans (show _ = some (Value.slice A n c) from rfl)
    have xt8 := (Cells.cell Pt2.out 8).trans (show _ = some (Value.string D) from rfl)
    go_wp2_with fail
    refine (H1.out _ K2.out Rt2.out).mono ?_
    rintro e w3 ⟨rfl, hb⟩
    clear H1 qa0 qa1 qa2 qa3 qa4 qa5 qa6 xt0 xt1 xt2 xt3 xt4 xt5 xt6 xt7 xt8
    have Pt3 := Lib.hid (Cells.kept Pt2.out hb Pt2.out.lt)
    have Rt3 := Lib.hid (Rt2.out.kept hb)
    have Qa3 := Lib.hid (Qa2.out.kept hb)
    have K3 := Lib.hid (HK.out _ _ K2.out hb)
    have B3 := Lib.hid (B2.out.trans (hb.mono B2.out.size))
    clear hb Pt2 Rt2 Qa2 K2 B2
    go_wp2_with fail
    refine (HL.out _ K3.out).mono ?_
    rintro e w99 ⟨rfl, hb⟩
    have BZ := Lib.hid (B3.out.trans (hb.mono B3.out.size))
    clear hb
    go_wp2_with fail
    go_ret
    exact ⟨rfl, BZ.out⟩
  have e4 : decide ((q.size : Int) ≤ (i : Int)) = false := by simp; omega
  have n4 : ¬ (q.size : Int) ≤ (i : Int) := by omega
  have hE : encT ⟨false, 0, 167772161⟩ ⟨false, 0, 167772162⟩ ⟨src, dst, sq, ak, fl, win, urg, l, pay⟩ = (R.1, 0) := by rw [← hR]; exact Prod.ext rfl (by rw [← her0]; exact he0)
  obtain ⟨S, hS⟩ : ∃ S, S = R.1 := ⟨_, rfl⟩
  rw [← hS] at hE hq hqs
  have hlen : S.length ≤ 100000 := by
    have h1 : totT ⟨src, dst, sq, ak, fl, win, urg, l, pay⟩ = 20 + (wrP l).length + pay.length := rfl
    obtain ⟨-, -, h40, -, hSe⟩ := encT_ok hE
    have h2 := (wrP_len l).1
    have h3 := need_pad (n := (wrOs l).length) h40
    rw [hSe, encT_len]
    omega
  have hi2 : i < q.size := by omega
  have hi1 : i < S.length := by omega
  obtain ⟨x, hx⟩ : ∃ x, x = (q[i]'hi2).toNat := ⟨_, rfl⟩
  have hx8 : x < 256 := by rw [hx]; exact u8_lt _
  have hxS : x = (S[i]'hi1).toNat := by
    rw [hx, s14_at hq i hi2]
    unfold byt
    rw [List.getD_eq_getElem?_getD, List.getElem?_eq_getElem hi1]
    rfl
  obtain ⟨y, hy⟩ : ∃ y, y = x ^^^ by_ := ⟨_, rfl⟩
  have hy8 : y < 256 := by rw [hy]; exact Nat.xor_lt_two_pow (n := 8) hx8 hby
  have hxor : bits .xor .u8 (x : Int) (by_ : Int) = (y : Int) := by rw [hy]; exact u8_xor_nat x by_ hx8 hby
  have hne : UInt8.ofNat y ≠ S[i]'hi1 := fun e => by
    have h1 : (UInt8.ofNat y).toNat = (S[i]'hi1).toNat := by rw [e]
    rw [UInt8.toNat_ofNat', ← hxS] at h1
    exact xor_neq14 hx8 hby hb0 (by rw [← hy]; omega)
  have hset := dec_setT hE hi1 hne
  obtain ⟨ds, hds⟩ : ∃ l, l = S.set i (UInt8.ofNat y) := ⟨_, rfl⟩
  rw [← hds] at hset
  obtain ⟨e2', he2⟩ : ∃ e, e = (decT ⟨false, 0, 167772161⟩ ⟨false, 0, 167772162⟩ ds).2 := ⟨_, rfl⟩
  have hzr : decT ⟨false, 0, 167772161⟩ ⟨false, 0, 167772162⟩ ds = (zeroT, e2') := by rw [he2, ← decT_bad hset]
  have e5 : ((e2' : Int) != 0) = true := by rw [bne_iff_ne]; rw [← he2] at hset; omega
  obtain ⟨X1, hX1⟩ : ∃ X, X = q.extract 0 i := ⟨_, rfl⟩
  obtain ⟨i1, hi1e⟩ : ∃ k, k = i + 1 := ⟨_, rfl⟩
  obtain ⟨X2', hX2⟩ : ∃ X, X = q.extract i1 q.size := ⟨_, rfl⟩
  obtain ⟨C1, hC1⟩ : ∃ X, X = str [UInt8.ofNat y] := ⟨_, rfl⟩
  have hX1s : X1 = str (S.take i) := by rw [hX1, extract_str11 q S hq, List.drop_zero, Nat.sub_zero]
  have hX2s : X2' = str (S.drop (i + 1)) := by rw [hX2, hi1e, extract_str11 q S hq, List.take_of_length_le (by rw [List.length_drop, hqs]; exact Nat.le_refl _)]
  obtain ⟨DD, hDD⟩ : ∃ D, D = str ds := ⟨_, rfl⟩
  have hcat : X1 ++ C1 ++ X2' = DD := by
    rw [hDD, hds, hX1s, hX2s, hC1, str_append, str_append, set_cut14 hi1, List.append_assoc]
    rfl
  have H2 := Lib.hid (fun (W : World) (hW : T W) => show Calls Tryd.prog 10 #[.agg #[.bool false, .int .u64 0, .int .u64 167772161], .agg #[.bool false, .int .u64 0, .int .u64 167772162], .string (X1 ++ C1 ++ X2')] W fun e w' => (∃ A2 c2, e = .returned (.tuple #[.agg #[.int .i64 0, .int .i64 0, .int .u32 0, .int .u32 0, .int .i64 0, .int .i64 0, .int .i64 0, .slice A2 0 c2, .string ⟨#[]⟩], .int .i64 (e2' : Int)])) ∧ Below W.heap.size W w' from by
    have := H.dec false false 0 167772161 0 167772162 ds W hW fa fb (by rw [hds, List.length_set]; omega)
    rw [hzr, ← hDD, ← hcat] at this
    refine this.mono ?_
    rintro e w' ⟨A2, c2, h1, -, -, h4⟩
    exact ⟨⟨A2, c2, h1⟩, h4⟩)
  have s1 : X1.size = i := by rw [hX1s, str_size, List.length_take]; omega
  have s2 : C1.size = 1 := by rw [hC1, str_size]; rfl
  have s3 : X2'.size ≤ 100000 := by rw [hX2s, str_size, List.length_drop]; omega
  have HX1 := Lib.hid hX1
  have HC1 := Lib.hid hC1
  have HX := Lib.hid hx
  have HX2 := Lib.hid hX2
  have hI1 : (i : Int) + 1 = (i1 : Int) := by omega
  have hI5 : (i1 : Int) ≤ (q.size : Int) := by omega
  have hI2 : (i : Int) ≤ (q.size : Int) := by omega
  have hI3 : (i : Int) < (q.size : Int) := by omega
  have hI0 : (0 : Int) ≤ (i : Int) := by omega
  have hI6 : (0 : Int) ≤ (i1 : Int) := by omega
  have j3 : IntKind.i64.wrap (i1 : Int) = (i1 : Int) := by rw [IntKind.wrap_i64]; omega
  have hi10 : i ≤ 100000 := by omega
  have ja0 : (9223372036854775807 < X1.size + C1.size) = False := by simp only [eq_iff_iff, iff_false]; omega
  have ja1 : (9223372036854775807 < X1.size + C1.size + X2'.size) = False := by simp only [eq_iff_iff, iff_false]; omega
  have ja1a : (9223372036854775807 < (X1 ++ C1).size + X2'.size) = False := by simp only [eq_iff_iff, iff_false, ByteArray.size_append]; omega
  have j1 : (9223372036854775807 < i + 1) = False := by simp only [eq_iff_iff, iff_false]; omega
  have j2 : (9223372036854775807 < i + 1 + X2'.size) = False := by simp only [eq_iff_iff, iff_false]; omega
  have HSZ := Lib.hid (And.intro s1 (And.intro s2 s3))
  clear hl hD hn hDs hR hqs her0 he he0 hol hp3 hb0 hE hS hlen hxS hy hne hset hds he2 hzr hX1 hX2 hC1 hX1s hX2s hDD hcat hq hi1e fa fb s1 s2 s3 hx
  have et : gt = w.heap.size := by exact hgt
  have HW0 := Lib.hid hW0
  have Et := Lib.hid et
  clear hW0 hgt et bt pt
  go_enter Tryd.func8, Tryd.ntmps8
  go_upto_region 1 with fail
  rw [← HW0.out, ← Et.out]
  clear HW0 Et
  go_upto_region 2 with fail
  obtain ⟨W1, hW⟩ : ∃ W, W = (W0.alloc (.cells #[.bool false, .int .u64 0, .int .u64 167772161] 24)).alloc (.cells #[.bool false, .int .u64 0, .int .u64 167772162] 24) := ⟨_, rfl⟩
  obtain ⟨ga, hg⟩ : ∃ g, g = W0.heap.size := ⟨_, rfl⟩
  have hq : Two W1 ga false 0 167772161 false 0 167772162 := by rw [hW, hg]; exact two_new W0 false 0 167772161 false 0 167772162 _
  have hb : Below W0.heap.size W0 W1 := by rw [hW]; exact twoT_below W0 _ _
  rw [← hW, ← hg]
  clear hW hg
  have Pt1 := Lib.hid (Cells.kept Pt0.out hb Pt0.out.lt)
  have Rt1 := Lib.hid (Rt0.out.kept hb)
  have K1 := Lib.hid (HK.out _ _ K0.out hb)
  have B1 := Lib.hid (B0.out.trans (hb.mono B0.out.size))
  clear hb Pt0 Rt0 K0 B0
  have Qa1 := Lib.hid hq
  clear hq
  have xt0 := (Cells.cell Pt1.out 0).trans (show _ = some (Value.int .i64 src) from rfl)
  have xt1 := (Cells.cell Pt1.out 1).trans (show _ = some (Value.int .i64 dst) from rfl)
  have xt2 := (Cells.cell Pt1.out 2).trans (show _ = some (Value.int .u32 (sq : Int)) from rfl)
  have xt3 := (Cells.cell Pt1.out 3).trans (show _ = some (Value.int .u32 (ak : Int)) from rfl)
  have xt4 := (Cells.cell Pt1.out 4).trans (show _ = some (Value.int .i64 fl) from rfl)
  have xt5 := (Cells.cell Pt1.out 5).trans (show _ = some (Value.int .i64 win) from rfl)
  have xt6 := (Cells.cell Pt1.out 6).trans (show _ = some (Value.int .i64 urg) from rfl)
  have xt7 := (Cells.cell Pt1.out 7).trans (show _ = some (Value.slice A n c) from rfl)
  have xt8 := (Cells.cell Pt1.out 8).trans (show _ = some (Value.string D) from rfl)
  go_wp2_with fail
  refine (HLG.out _).mono ?_
  rintro e w2 ⟨rfl, hb⟩
  clear HLG xt0 xt1 xt2 xt3 xt4 xt5 xt6 xt7 xt8
  have Pt2 := Lib.hid (Cells.kept Pt1.out hb Pt1.out.lt)
  have Rt2 := Lib.hid (Rt1.out.kept hb)
  have Qa2 := Lib.hid (Qa1.out.kept hb)
  have K2 := Lib.hid (HK.out _ _ K1.out hb)
  have B2 := Lib.hid (B1.out.trans (hb.mono B1.out.size))
  clear hb Pt1 Rt1 Qa1 K1 B1
  obtain ⟨qa0, qa1, qa2, qa3, qa4, qa5, qa6⟩ := id Qa2.out
  have xt0 := (Cells.cell Pt2.out 0).trans (show _ = some (Value.int .i64 src) from rfl)
  have xt1 := (Cells.cell Pt2.out 1).trans (show _ = some (Value.int .i64 dst) from rfl)
  have xt2 := (Cells.cell Pt2.out 2).trans (show _ = some (Value.int .u32 (sq : Int)) from rfl)
  have xt3 := (Cells.cell Pt2.out 3).trans (show _ = some (Value.int .u32 (ak : Int)) from rfl)
  have xt4 := (Cells.cell Pt2.out 4).trans (show _ = some (Value.int .i64 fl) from rfl)
  have xt5 := (Cells.cell Pt2.out 5).trans (show _ = some (Value.int .i64 win) from rfl)
  have xt6 := (Cells.cell Pt2.out 6).trans (show _ = some (Value.int .i64 urg) from rfl)
  have xt7 := (Cells.cell Pt2.out 7).trans (show _ = some (Value.slice A n c) from rfl)
  have xt8 := (Cells.cell Pt2.out 8).trans (show _ = some (Value.string D) from rfl)
  go_wp2_with fail
  refine (H1.out _ K2.out Rt2.out).mono ?_
  rintro e w3 ⟨rfl, hb⟩
  clear H1 qa0 qa1 qa2 qa3 qa4 qa5 qa6 xt0 xt1 xt2 xt3 xt4 xt5 xt6 xt7 xt8
  have Pt3 := Lib.hid (Cells.kept Pt2.out hb Pt2.out.lt)
  have Rt3 := Lib.hid (Rt2.out.kept hb)
  have Qa3 := Lib.hid (Qa2.out.kept hb)
  have K3 := Lib.hid (HK.out _ _ K2.out hb)
  have B3 := Lib.hid (B2.out.trans (hb.mono B2.out.size))
  clear hb Pt2 Rt2 Qa2 K2 B2
  go_upto_region 7 with fail
  refine wp_region_specs_row 31 [.val (Value.agg #[.bool false, .int .u64 0, .int .u64 167772161]), .val (Value.agg #[.bool false, .int .u64 0, .int .u64 167772162]), .val (Value.string q), .val (Value.int .i64 (i : Int)), .val (Value.string X1), .val (Value.string q), .val (Value.int .i64 (i : Int)), .val (Value.int .u8 (x : Int)), .val (Value.int .u8 (by_ : Int)), .val (Value.int .u8 (y : Int)), .row #[.int .u8 (y : Int)] 5 1, .val (Value.string C1), .val (Value.string (X1 ++ C1)), .val (Value.string q), .val (Value.int .i64 (i : Int)), .val (Value.int .i64 (i1 : Int)), .val (Value.string X2'), .val (Value.string (X1 ++ C1 ++ X2')), .any (fun v => ∃ A2 c2, v = Value.tuple #[.agg #[.int .i64 0, .int .i64 0, .int .u32 0, .int .u32 0, .int .i64 0, .int .i64 0, .int .i64 0, .slice A2 0 c2, .string ⟨#[]⟩], .int .i64 (e2' : Int)]), .any (fun v => ∃ A2 c2, v = Value.tuple #[.agg #[.int .i64 0, .int .i64 0, .int .u32 0, .int .u32 0, .int .i64 0, .int .i64 0, .int .i64 0, .slice A2 0 c2, .string ⟨#[]⟩], .int .i64 (e2' : Int)]), .any (fun v => ∃ A2 c2, v = Value.agg #[.int .i64 0, .int .i64 0, .int .u32 0, .int .u32 0, .int .i64 0, .int .i64 0, .int .i64 0, .slice A2 0 c2, .string ⟨#[]⟩]), .val (Value.int .i64 (e2' : Int)), .box 9, .val (undef), .val (Value.int .i64 (e2' : Int))] (by kernel_rfl) (by kernel_rfl) (by kernel_rfl) (by kernel_rfl) ?_ ?_
  · refine ⟨⟨rfl, ?_⟩, ⟨rfl, ?_⟩, ⟨rfl, ?_⟩, ⟨rfl, ?_⟩, ⟨rfl, ?_⟩, ⟨rfl, ?_⟩, ⟨rfl, ?_⟩, ⟨rfl, ?_⟩, ⟨rfl, ?_⟩, ⟨rfl, ?_⟩, ⟨rfl, ?_⟩, ⟨rfl, ?_⟩, ⟨rfl, ?_⟩, ⟨rfl, ?_⟩, ⟨rfl, ?_⟩, ⟨rfl, ?_⟩, ⟨rfl, ?_⟩, ⟨rfl, ?_⟩, ⟨rfl, ?_⟩, ⟨rfl, ?_⟩, ⟨rfl, ?_⟩, ⟨rfl, ?_⟩, ⟨rfl, ?_⟩, ⟨rfl, ?_⟩, ⟨rfl, ?_⟩, trivial⟩
    · intro a W hbW hk K hK
      have e7 := kvalP hk 7 (Value.pointer (some ⟨ga, 0, none⟩)) (by kernel_rfl)
      clear hk
      obtain ⟨q0, q1, q2, q3, q4, q5, q6⟩ := id (Qa3.out.kept hbW)
      go_simp
      exact ⟨_, rfl, hK _ _ rfl (relB_below (Below.refl _ _))⟩
    · intro a W hbW hk K hK
      have e8 := kvalP hk 8 (Value.pointer (some ⟨ga + 1, 0, none⟩)) (by kernel_rfl)
      clear hk
      obtain ⟨q0, q1, q2, q3, q4, q5, q6⟩ := id (Qa3.out.kept hbW)
      go_simp
      exact ⟨_, rfl, hK _ _ rfl (relB_below (Below.refl _ _))⟩
    · intro a W hbW hk K hK
      have e9 := kvalP hk 9 (Value.string q) (by kernel_rfl)
      clear hk
      go_simp
      exact ⟨_, rfl, hK _ _ rfl (relB_below (Below.refl _ _))⟩
    · intro a W hbW hk K hK
      have e1 := kvalP hk 1 (Value.int .i64 (i : Int)) (by kernel_rfl)
      clear hk
      go_simp
      exact ⟨_, rfl, hK _ _ rfl (relB_below (Below.refl _ _))⟩
    · intro a W hbW hk K hK
      have e51 := kvalP hk 51 (Value.string q) (by kernel_rfl)
      have e52 := kvalP hk 52 (Value.int .i64 (i : Int)) (by kernel_rfl)
      clear hk
      rw [HX1.out] at hK
      go_simp
      exact ⟨_, rfl, hK _ _ rfl (relB_below (Below.refl _ _))⟩
    · intro a W hbW hk K hK
      have e9 := kvalP hk 9 (Value.string q) (by kernel_rfl)
      clear hk
      go_simp
      exact ⟨_, rfl, hK _ _ rfl (relB_below (Below.refl _ _))⟩
    · intro a W hbW hk K hK
      have e1 := kvalP hk 1 (Value.int .i64 (i : Int)) (by kernel_rfl)
      clear hk
      go_simp
      exact ⟨_, rfl, hK _ _ rfl (relB_below (Below.refl _ _))⟩
    · intro a W hbW hk K hK
      have e54 := kvalP hk 54 (Value.string q) (by kernel_rfl)
      have e55 := kvalP hk 55 (Value.int .i64 (i : Int)) (by kernel_rfl)
      clear hk
      rw [HX.out] at hK
      go_simp
      exact ⟨_, rfl, hK _ _ rfl (relB_below (Below.refl _ _))⟩
    · intro a W hbW hk K hK
      have e2 := kvalP hk 2 (Value.int .u8 (by_ : Int)) (by kernel_rfl)
      clear hk
      go_simp
      exact ⟨_, rfl, hK _ _ rfl (relB_below (Below.refl _ _))⟩
    · intro a W hbW hk K hK
      have e56 := kvalP hk 56 (Value.int .u8 (x : Int)) (by kernel_rfl)
      have e57 := kvalP hk 57 (Value.int .u8 (by_ : Int)) (by kernel_rfl)
      clear hk
      go_simp
      exact ⟨_, rfl, hK _ _ rfl (relB_below (Below.refl _ _))⟩
    · intro a W hbW hk K hK
      have e58 := kvalP hk 58 (Value.int .u8 (y : Int)) (by kernel_rfl)
      clear hk
      go_simp
      exact ⟨_, rfl, hK _ _ ⟨by decide, W.heap.size, rfl, hbW.size, heap_alloc_new W _⟩ (relB_below (below_alloc6 W _))⟩
    · intro a W hbW hk K hK
      obtain ⟨gr, er, _, hgr⟩ := krowP hk 59 #[.int .u8 (y : Int)] 5 1 (by kernel_rfl)
      clear hk
      have hcv := one_str14 W gr y hy8 hgr
      rw [← HC1.out] at hcv
      go_simp
      exact ⟨_, rfl, hK _ _ rfl (relB_below (Below.refl _ _))⟩
    · intro a W hbW hk K hK
      have e53 := kvalP hk 53 (Value.string X1) (by kernel_rfl)
      have e60 := kvalP hk 60 (Value.string C1) (by kernel_rfl)
      clear hk
      go_simp
      exact ⟨_, rfl, hK _ _ rfl (relB_below (Below.refl _ _))⟩
    · intro a W hbW hk K hK
      have e9 := kvalP hk 9 (Value.string q) (by kernel_rfl)
      clear hk
      go_simp
      exact ⟨_, rfl, hK _ _ rfl (relB_below (Below.refl _ _))⟩
    · intro a W hbW hk K hK
      have e1 := kvalP hk 1 (Value.int .i64 (i : Int)) (by kernel_rfl)
      clear hk
      go_simp
      exact ⟨_, rfl, hK _ _ rfl (relB_below (Below.refl _ _))⟩
    · intro a W hbW hk K hK
      have e63 := kvalP hk 63 (Value.int .i64 (i : Int)) (by kernel_rfl)
      clear hk
      go_simp
      exact ⟨_, rfl, hK _ _ rfl (relB_below (Below.refl _ _))⟩
    · intro a W hbW hk K hK
      have e62 := kvalP hk 62 (Value.string q) (by kernel_rfl)
      have e64 := kvalP hk 64 (Value.int .i64 (i1 : Int)) (by kernel_rfl)
      clear hk
      rw [HX2.out] at hK
      go_simp
      exact ⟨_, rfl, hK _ _ rfl (relB_below (Below.refl _ _))⟩
    · intro a W hbW hk K hK
      have e61 := kvalP hk 61 (Value.string (X1 ++ C1)) (by kernel_rfl)
      have e65 := kvalP hk 65 (Value.string X2') (by kernel_rfl)
      clear hk
      go_simp
      exact ⟨_, rfl, hK _ _ rfl (relB_below (Below.refl _ _))⟩
    · intro a W hbW hk K hK
      have e49 := kvalP hk 49 (Value.agg #[.bool false, .int .u64 0, .int .u64 167772161]) (by kernel_rfl)
      have e50 := kvalP hk 50 (Value.agg #[.bool false, .int .u64 0, .int .u64 167772162]) (by kernel_rfl)
      have e66 := kvalP hk 66 (Value.string (X1 ++ C1 ++ X2')) (by kernel_rfl)
      clear hk
      go_simp
      refine (H2.out W (HK.out _ _ K3.out hbW)).mono ?_
      rintro e w9 ⟨⟨A2, c2, rfl⟩, hb9⟩
      exact ⟨_, rfl, hK _ _ ⟨A2, c2, rfl⟩ (relB_below hb9)⟩
    · intro a W hbW hk K hK
      have e67 := kanyP hk 67 (fun v => ∃ A2 c2, v = Value.tuple #[.agg #[.int .i64 0, .int .i64 0, .int .u32 0, .int .u32 0, .int .i64 0, .int .i64 0, .int .i64 0, .slice A2 0 c2, .string ⟨#[]⟩], .int .i64 (e2' : Int)]) (by kernel_rfl)
      clear hk
      obtain ⟨A2, c2, e67⟩ := e67
      go_simp
      exact ⟨_, rfl, hK _ _ ⟨A2, c2, rfl⟩ (relB_below (Below.refl _ _))⟩
    · intro a W hbW hk K hK
      have e48 := kanyP hk 48 (fun v => ∃ A2 c2, v = Value.tuple #[.agg #[.int .i64 0, .int .i64 0, .int .u32 0, .int .u32 0, .int .i64 0, .int .i64 0, .int .i64 0, .slice A2 0 c2, .string ⟨#[]⟩], .int .i64 (e2' : Int)]) (by kernel_rfl)
      clear hk
      obtain ⟨A2, c2, e48⟩ := e48
      go_simp
      exact ⟨_, rfl, hK _ _ ⟨A2, c2, rfl⟩ (relB_below (Below.refl _ _))⟩
    · intro a W hbW hk K hK
      have e48 := kanyP hk 48 (fun v => ∃ A2 c2, v = Value.tuple #[.agg #[.int .i64 0, .int .i64 0, .int .u32 0, .int .u32 0, .int .i64 0, .int .i64 0, .int .i64 0, .slice A2 0 c2, .string ⟨#[]⟩], .int .i64 (e2' : Int)]) (by kernel_rfl)
      clear hk
      obtain ⟨A2, c2, e48⟩ := e48
      go_simp
      exact ⟨_, rfl, hK _ _ rfl (relB_below (Below.refl _ _))⟩
    · intro a W hbW hk K hK
      clear hk
      go_simp
      exact ⟨_, rfl, hK _ _ ⟨_, _, rfl, hbW.size, heap_alloc_new W _, rfl⟩ (relB_below (below_alloc6 W _))⟩
    · intro a W hbW hk K hK
      obtain ⟨g9, cs9, e11, hg9, hc9, hs9⟩ := kboxP hk 11 9 (by kernel_rfl)
      have e68 := kanyP hk 68 (fun v => ∃ A2 c2, v = Value.agg #[.int .i64 0, .int .i64 0, .int .u32 0, .int .u32 0, .int .i64 0, .int .i64 0, .int .i64 0, .slice A2 0 c2, .string ⟨#[]⟩]) (by kernel_rfl)
      clear hk
      obtain ⟨A2, c2, e68⟩ := e68
      refine wp_store_row 31 _ _ rfl g9 #[.int .i64 0, .int .i64 0, .int .u32 0, .int .u32 0, .int .i64 0, .int .i64 0, .int .i64 0, .slice A2 0 c2, .string ⟨#[]⟩] ?_ ?_ 31 cs9 hc9 (by kernel_rfl) (by rw [hs9]; rfl) (by simp [Value.oneCell']) ⟨undef, rfl, hK _ _ rfl (relB_row hg9 hc9 (by rw [hs9]; rfl))⟩
      · go_simp
      · go_simp
    · intro a W hbW hk K hK
      have e69 := kvalP hk 69 (Value.int .i64 (e2' : Int)) (by kernel_rfl)
      clear hk
      go_simp
      exact ⟨_, rfl, hK _ _ rfl (relB_below (Below.refl _ _))⟩
  · intro w5 hb5
    simp only [endP, putP]
    intro gr hgr v1 hv1 v2 hv2 v3 hv3 g9 hg9
    have B4 := Lib.hid (B3.out.trans (hb5.mono B3.out.size))
    have K4 := Lib.hid (HK.out _ _ K3.out hb5)
    clear hb5 hgr hv1 hv2 hv3 hg9 H2 HX1 HX2 HC1 HX Pt3 Rt3 Qa3 B3 K3
    go_simp
    go_wp2_with fail
    refine (HL.out _ K4.out).mono ?_
    rintro e w99 ⟨rfl, hb⟩
    have BZ := Lib.hid (B4.out.trans (hb.mono B4.out.size))
    clear hb
    go_wp2_with fail
    go_ret
    exact ⟨rfl, BZ.out⟩
end Go.Proofs.YtmfoionlapcgkaaDoor
