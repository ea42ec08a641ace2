/- Contracts of the functions, part 20: SpecsG. -/
import Derived.Test.YtafpmlikocchpaaPA19
/- A region that draws its order: as in XSpecsR, and operations may be guarded by '&&' and '||' whose outcome is known: the guard's operation is specified as a Bool; an operation that is not wanted leaves undef. A value may hold the address of a row (rowIn). -/
namespace Go.Proofs.Ytafpmlikocchpaa
open Go.ChangeShapes Go.WideShapes Go.ChangeAt Go.RowKit
set_option linter.unusedVariables false

/-- What an operation leaves in its slot. -/
inductive SpecG where
  | val (v : Value)
  | row (cs : Array Value) (e : TypeId) (n : Nat)
  | any (f : Value → Prop)
  | box (k : Nat)
  | rowIn (V : Nat → Value) (cs : Array Value) (e : TypeId)
def SpecG.ok (T : TypeId) (base : Nat) (u : Value) (w : World) : SpecG → Prop
  | .val v => u = v
  | .row cs e n => e ≠ T ∧ ∃ g, u = .slice (some ⟨g, 0, none⟩) n n ∧ base ≤ g ∧ w.heap[g]? = some (.cells cs e (0, 0))
  | .any f => f u
  | .box k => ∃ g cs, u = .pointer (some ⟨g, 0, none⟩) ∧ base ≤ g ∧ w.heap[g]? = some (.cells cs T (0, 0)) ∧ cs.size = k
  | .rowIn V cs e => e ≠ T ∧ ∃ g, u = V g ∧ base ≤ g ∧ w.heap[g]? = some (.cells cs e (0, 0))
theorem SpecG.kept {T : TypeId} {base : Nat} {u : Value} {w w' : World} : ∀ {s : SpecG}, s.ok T base u w → RelT T w w' → s.ok T base u w'
  | .val v, h, _ => h
  | .row cs e n, ⟨h0, g, h1, h2, h3⟩, hb => by
    obtain ⟨cs', k1, _, k3⟩ := hb.2 g cs e (0, 0) h3
    exact ⟨h0, g, h1, h2, by rw [k1, k3 h0]⟩
  | .any f, h, _ => h
  | .box k, ⟨g, cs, h1, h2, h3, h4⟩, hb => by
    obtain ⟨cs', k1, k2, _⟩ := hb.2 g cs T (0, 0) h3
    exact ⟨g, cs', h1, h2, k1, k2.trans h4⟩
  | .rowIn V cs e, ⟨h0, g, h1, h2, h3⟩, hb => by
    obtain ⟨cs', k1, _, k3⟩ := hb.2 g cs e (0, 0) h3
    exact ⟨h0, g, h1, h2, by rw [k1, k3 h0]⟩
def knownG (l : List Oper) (ss : List SpecG) (a0 : Act) (o : Oper) (k : Nat) : Option SpecG :=
  match (List.range l.length).find? (fun j => (l[j]?).bind (·.dst) == some k) with
  | some j => if o.after.any (fun e => Region.binds .any e && e.on == j) then ss[j]? else none
  | none => some (.val (a0.tmps.getD k undef))
/-- Is the operation wanted? -/
def wantG (l : List Oper) (ss : List SpecG) (o : Oper) : Option Bool :=
  match o.guard with
  | none => some true
  | some (j, b) => if (o.after.any (fun e => Region.binds .any e && e.on == j) && ((l[j]?).bind (·.dst)).isSome) = true then
      match ss[j]? with
      | some (.val (.bool b')) => some (b' == b)
      | _ => none
    else none
/-- What is to be shown of one operation. -/
def StepG (P : Program) (T : TypeId) (l : List Oper) (ss : List SpecG) (a0 : Act) (base : Nat) (w0 : World) (Q : Exit → Act → World → Prop) (o : Oper) (s : SpecG) : Prop :=
  (wantG l ss o = some false ∧ s = .val undef) ∨ (wantG l ss o = some true ∧ ∀ (a : Act) (w : World), Below w0.heap.size w0 w → (∀ k s', knownG l ss a0 o k = some s' → s'.ok T base (a.tmps.getD k undef) w) →
    ∀ K : Value → World → Prop, (∀ v w', s.ok T base v w' → RelB T w0 w w' → K v w') → o.wp P a w (fun a' w' => ∃ v, a' = a.put o.dst v ∧ K v w') Q)
def allG (R : Oper → SpecG → Prop) : List Oper → List SpecG → Prop
  | o :: l, s :: ss => R o s ∧ allG R l ss
  | _, _ => True
theorem allG_get {R : Oper → SpecG → Prop} : ∀ {l : List Oper} {ss : List SpecG}, allG R l ss → ∀ {i : Nat} {o : Oper} {s : SpecG}, l[i]? = some o → ss[i]? = some s → R o s
  | [], _, _, i, o, s, h, _ => by simp at h
  | o :: l, [], _, i, o', s', _, h => by simp at h
  | o :: l, s :: ss, h, 0, o', s', h1, h2 => by
    obtain rfl := Option.some.inj h1
    obtain rfl := Option.some.inj h2
    exact h.1
  | o :: l, s :: ss, h, i + 1, o', s', h1, h2 => allG_get h.2 (i := i) (by simpa using h1) (by simpa using h2)
/-- What is to be shown behind the region. -/
def putG (base : Nat) (R : Act → Prop) (d : Tmp) (a : Act) : SpecG → Prop
  | .val v => R (a.put (some d) v)
  | .row cs e n => ∀ g, base ≤ g → R (a.put (some d) (.slice (some ⟨g, 0, none⟩) n n))
  | .any f => ∀ v, f v → R (a.put (some d) v)
  | .box k => ∀ g, base ≤ g → R (a.put (some d) (.pointer (some ⟨g, 0, none⟩)))
  | .rowIn V cs e => ∀ g, base ≤ g → R (a.put (some d) (V g))
theorem putG_use {T : TypeId} {base : Nat} {R : Act → Prop} {d : Tmp} {a : Act} {v : Value} {w : World} : ∀ {s : SpecG}, putG base R d a s → s.ok T base v w → R (a.put (some d) v)
  | .val _, h, rfl => h
  | .row _ _ _, h, ⟨_, g, h1, h2, _⟩ => by subst h1; exact h g h2
  | .any _, h, hf => h v hf
  | .box _, h, ⟨g, cs, h1, h2, _⟩ => by subst h1; exact h g h2
  | .rowIn _ _ _, h, ⟨_, g, h1, h2, _⟩ => by subst h1; exact h g h2
def endG (base : Nat) (R : Act → Prop) : List Oper → List SpecG → Act → Prop
  | o :: l, s :: ss, a => match o.dst with
    | none => endG base R l ss a
    | some d => putG base (endG base R l ss) d a s
  | _, _, a => R a
/-- Between two operations. -/
structure InvG (T : TypeId) (l : List Oper) (ss : List SpecG) (a0 : Act) (base : Nat) (w0 : World) (listed : Array Bool) (a : Act) (w : World) : Prop where
  ls : listed.size = l.length
  df : a.defers = a0.defers
  sz : a.tmps.size = a0.tmps.size
  old : ∀ k, (∀ (i : Nat) (o : Oper), l[i]? = some o → o.dst = some k → listed.getD i false = false) → a.tmps[k]? = a0.tmps[k]?
  done : ∀ (i : Nat) (o : Oper) (s : SpecG) (d : Nat), l[i]? = some o → ss[i]? = some s → o.dst = some d → listed.getD i false = true → s.ok T base (a.tmps.getD d undef) w
  bel : Below w0.heap.size w0 w
theorem endG_use {T : TypeId} {base : Nat} {R : Act → Prop} {w : World} : ∀ {l : List Oper} {ss : List SpecG} {a1 a : Act}, endG base R l ss a1 → ss.length = l.length → dstsP l a.tmps.size = true → a.defers = a1.defers → a.tmps.size = a1.tmps.size →
    (∀ k, (∀ (i : Nat) (o : Oper), l[i]? = some o → o.dst ≠ some k) → a.tmps[k]? = a1.tmps[k]?) →
    (∀ (i : Nat) (o : Oper) (s : SpecG) (d : Nat), l[i]? = some o → ss[i]? = some s → o.dst = some d → s.ok T base (a.tmps.getD d undef) w) → R a
  | [], ss, a1, a, h, hl, hd, h1, h2, h3, h4 => by
    have e : a = a1 := by
      obtain ⟨t, d⟩ := a
      obtain ⟨t1, d1⟩ := a1
      simp only at h1 h2 h3
      subst h1
      congr 1
      exact Array.ext_getElem? fun k => h3 k (fun i o h => by simp at h)
    rw [e]
    cases ss with
    | nil => exact h
    | cons s r => simp at hl
  | o :: l, [], a1, a, h, hl, hd, h1, h2, h3, h4 => by simp at hl
  | o :: l, s :: ss, a1, a, h, hl, hd, h1, h2, h3, h4 => by
    have hdl : dstsP l a.tmps.size = true := by rw [dstsP, Bool.and_eq_true] at hd; exact hd.2
    cases hd0 : o.dst with
    | none =>
      rw [endG, hd0] at h
      refine endG_use (T := T) (w := w) h (by simpa using hl) hdl h1 h2 (fun k hk => h3 k (fun i o' hi hh' => ?_)) (fun i o' s' d' hi hs' hd' => h4 (i + 1) o' s' d' (by simpa using hi) (by simpa using hs') hd')
      cases i with
      | zero =>
        obtain rfl := Option.some.inj hi
        rw [hd0] at hh'
        cases hh'
      | succ i => exact hk i o' (by simpa using hi) hh'
    | some d =>
      obtain ⟨hdn, huniq⟩ := dstsP_get hd (i := 0) rfl hd0
      have hok := h4 0 o s d rfl rfl hd0
      rw [endG, hd0] at h
      obtain ⟨v, hv⟩ : ∃ v, a.tmps.getD d undef = v := ⟨_, rfl⟩
      rw [hv] at hok
      have hh := putG_use h hok
      refine endG_use (T := T) (w := w) hh (by simpa using hl) hdl h1 ?_ ?_ ?_
      · rw [h2]; unfold Act.put; simp
      · intro k hk
        unfold Act.put
        simp only
        by_cases hkd : k = d
        · subst hkd
          rw [Array.getElem?_setIfInBounds, if_pos rfl, if_pos (by rw [← h2]; exact hdn)]
          rw [← hv, Array.getD_eq_getD_getElem?, Array.getElem?_eq_getElem hdn]
          rfl
        · rw [Array.getElem?_setIfInBounds, if_neg (fun e => hkd e.symm)]
          refine h3 k (fun i o' hi hh' => ?_)
          cases i with
          | zero =>
            obtain rfl := Option.some.inj hi
            rw [hd0] at hh'
            exact hkd (Option.some.inj hh').symm
          | succ i => exact hk i o' (by simpa using hi) hh'
      · intro i o' s' d' hi hs' hd'
        exact h4 (i + 1) o' s' d' (by simpa using hi) (by simpa using hs') hd'
theorem kvalG {T : TypeId} {l : List Oper} {ss : List SpecG} {a0 a : Act} {o : Oper} {base : Nat} {w : World} (hk : ∀ k s', knownG l ss a0 o k = some s' → s'.ok T base (a.tmps.getD k undef) w) (k : Nat) (v : Value) (h : knownG l ss a0 o k = some (.val v)) : a.tmps[k]?.getD undef = v := by
  have := hk k _ h
  rw [Array.getD_eq_getD_getElem?] at this
  exact this
theorem krowG {T : TypeId} {l : List Oper} {ss : List SpecG} {a0 a : Act} {o : Oper} {base : Nat} {w : World} (hk : ∀ k s', knownG l ss a0 o k = some s' → s'.ok T base (a.tmps.getD k undef) w) (k : Nat) (cs : Array Value) (e : TypeId) (n : Nat) (h : knownG l ss a0 o k = some (.row cs e n)) : ∃ g, a.tmps[k]?.getD undef = .slice (some ⟨g, 0, none⟩) n n ∧ base ≤ g ∧ w.heap[g]? = some (.cells cs e (0, 0)) := by
  have := hk k _ h
  rw [Array.getD_eq_getD_getElem?] at this
  exact this.2
theorem kinG {T : TypeId} {l : List Oper} {ss : List SpecG} {a0 a : Act} {o : Oper} {base : Nat} {w : World} (hk : ∀ k s', knownG l ss a0 o k = some s' → s'.ok T base (a.tmps.getD k undef) w) (k : Nat) (V : Nat → Value) (cs : Array Value) (e : TypeId) (h : knownG l ss a0 o k = some (.rowIn V cs e)) : ∃ g, a.tmps[k]?.getD undef = V g ∧ base ≤ g ∧ w.heap[g]? = some (.cells cs e (0, 0)) := by
  have := hk k _ h
  rw [Array.getD_eq_getD_getElem?] at this
  exact this.2
theorem kanyG {T : TypeId} {l : List Oper} {ss : List SpecG} {a0 a : Act} {o : Oper} {base : Nat} {w : World} (hk : ∀ k s', knownG l ss a0 o k = some s' → s'.ok T base (a.tmps.getD k undef) w) (k : Nat) (f : Value → Prop) (h : knownG l ss a0 o k = some (.any f)) : f (a.tmps[k]?.getD undef) := by
  have := hk k _ h
  rw [Array.getD_eq_getD_getElem?] at this
  exact this
theorem kboxG {T : TypeId} {l : List Oper} {ss : List SpecG} {a0 a : Act} {o : Oper} {base : Nat} {w : World} (hk : ∀ k s', knownG l ss a0 o k = some s' → s'.ok T base (a.tmps.getD k undef) w) (k n : Nat) (h : knownG l ss a0 o k = some (.box n)) : ∃ g cs, a.tmps[k]?.getD undef = .pointer (some ⟨g, 0, none⟩) ∧ base ≤ g ∧ w.heap[g]? = some (.cells cs T (0, 0)) ∧ cs.size = n := by
  have := hk k _ h
  rw [Array.getD_eq_getD_getElem?] at this
  exact this
theorem specsG_any {P : Program} {T : TypeId} {Q : Exit → Act → World → Prop} {l : List Oper} {ss : List SpecG} {a0 : Act} {base : Nat} {w0 : World} (hlen : ss.length = l.length) (hdst : dstsP l a0.tmps.size = true) (hback : backB l 0 = true)
    (hstep : allG (StepG P T l ss a0 base w0 Q) l ss) (hend : ∀ w', Below w0.heap.size w0 w' → endG base (fun a => Q .normal a w') l ss a0) :
    ∀ (fuel : Nat) (listed : Array Bool) (a : Act) (w : World), InvG T l ss a0 base w0 listed a w → listed.toList.countP (fun b => !b) ≤ fuel → wpAny P .any l.toArray Q fuel listed a w := by
  have hfin : ∀ (listed : Array Bool) (a : Act) (w : World), InvG T l ss a0 base w0 listed a w → Region.ready .any l.toArray listed = [] → Q .normal a w := by
    intro listed a w hI hr
    have hall : ∀ i, i < l.length → listed.getD i false = true := by
      intro i
      induction i using Nat.strongRecOn with
      | _ i ih =>
        intro hi
        refine Decidable.byContradiction fun hn => ?_
        have hn' : listed.getD i true = false := by
          rw [Array.getD_eq_getD_getElem?, Array.getElem?_eq_getElem (by rw [hI.ls]; exact hi)] at hn ⊢
          simpa using hn
        have hmem : i ∈ Region.ready .any l.toArray listed := by
          unfold Region.ready
          rw [List.mem_filter]
          refine ⟨by simp [hi], ?_⟩
          rw [hn']
          have ho : l.toArray[i]? = some l[i] := by simp [hi]
          rw [ho]
          simp only [Bool.not_false, Bool.true_and, Option.map_some, Option.getD_some]
          rw [Array.all_eq_true']
          intro e he
          cases hb : Region.binds .any e with
          | false => rfl
          | true =>
            have h1 := backB_get hback (show l[i]? = some l[i] from List.getElem?_eq_getElem hi) e he hb
            rw [Nat.zero_add] at h1
            rw [ih e.on h1 (by omega)]
            rfl
        rw [hr] at hmem
        cases hmem
    refine endG_use (T := T) (w := w) (hend w hI.bel) hlen (by rw [hI.sz]; exact hdst) hI.df hI.sz (fun k hk => hI.old k (fun i o hi hd => absurd hd (hk i o hi))) (fun i o s d hi hs hd => hI.done i o s d hi hs hd (hall i ?_))
    exact (List.getElem?_eq_some_iff.1 hi).1
  intro fuel
  induction fuel with
  | zero =>
    intro listed a w hI hc
    have hr : Region.ready .any l.toArray listed = [] := by
      unfold Region.ready
      rw [List.filter_eq_nil_iff]
      intro i hi
      have hil : i < listed.size := by rw [hI.ls]; simpa using hi
      have h0 : listed.toList.countP (fun b => !b) = 0 := by omega
      rw [List.countP_eq_zero] at h0
      have := h0 listed[i] (by simp)
      have e : listed.getD i true = true := by
        rw [Array.getD_eq_getD_getElem?, Array.getElem?_eq_getElem hil]
        simpa using this
      rw [e]
      simp
    exact ⟨hr, hfin listed a w hI hr⟩
  | succ fuel ih =>
    intro listed a w hI hc
    refine ⟨fun hr => hfin listed a w hI hr, fun i hi => ?_⟩
    unfold Region.ready at hi
    rw [List.mem_filter] at hi
    obtain ⟨hi1, hi2⟩ := hi
    have hil : i < l.length := by simpa using hi1
    rw [Bool.and_eq_true] at hi2
    obtain ⟨hun, hdeps⟩ := hi2
    have ho : l[i]? = some l[i] := List.getElem?_eq_getElem hil
    have ho' : l.toArray[i]? = some l[i] := by simp [hil]
    rw [ho'] at hdeps
    simp only [Option.map_some, Option.getD_some] at hdeps
    rw [Array.all_eq_true'] at hdeps
    have hs : ss[i]? = some (ss[i]'(by omega)) := List.getElem?_eq_getElem (by omega)
    have hstp := allG_get hstep ho hs
    have hlz : i < listed.size := by rw [hI.ls]; exact hil
    have hlf : listed.toList[i]? = some false := by
      rw [Array.getD_eq_getD_getElem?, Array.getElem?_eq_getElem hlz] at hun
      rw [Array.getElem?_toList, Array.getElem?_eq_getElem hlz]
      simpa using hun
    have hnext : ∀ (v : Value) (w' : World), (ss[i]'(by omega)).ok T base v w' → RelB T w0 w w' → wpAny P .any l.toArray Q fuel (listed.setIfInBounds i true) (a.put l[i].dst v) w' := by
      intro v w' hok hb
      refine ih _ _ _ ⟨?_, ?_, ?_, ?_, ?_, hb.2 hI.bel⟩ ?_
      · simp [hI.ls]
      · rw [← hI.df]; unfold Act.put; split <;> rfl
      · rw [← hI.sz]; unfold Act.put; split <;> simp
      · intro k hk
        have hkd : l[i].dst ≠ some k := fun e => by
          have := hk i _ ho e
          rw [Array.getD_eq_getD_getElem?, Array.getElem?_setIfInBounds, if_pos rfl, if_pos hlz] at this
          simp at this
        have hput : (a.put l[i].dst v).tmps[k]? = a.tmps[k]? := by
          unfold Act.put
          split
          · next d hd =>
            rw [Array.getElem?_setIfInBounds, if_neg (fun e => hkd (by rw [hd, e]))]
          · rfl
        rw [hput]
        refine hI.old k (fun j o' hj hdj => ?_)
        have h3 := hk j o' hj hdj
        by_cases hji : j = i
        · subst hji
          rw [Array.getD_eq_getD_getElem?, Array.getElem?_setIfInBounds, if_pos rfl, if_pos hlz] at h3
          simp at h3
        · rw [Array.getD_eq_getD_getElem?, Array.getElem?_setIfInBounds, if_neg (fun e => hji e.symm), ← Array.getD_eq_getD_getElem?] at h3
          exact h3
      · intro j o' s' d' hj hs' hd' hlj
        by_cases hji : j = i
        · subst hji
          obtain rfl := Option.some.inj (ho.symm.trans hj)
          obtain rfl := Option.some.inj (hs.symm.trans hs')
          obtain ⟨hdn, _⟩ := dstsP_get hdst ho hd'
          unfold Act.put
          rw [hd']
          simp only
          rw [Array.getD_eq_getD_getElem?, Array.getElem?_setIfInBounds, if_pos rfl, if_pos (by rw [hI.sz]; exact hdn)]
          exact hok
        · obtain ⟨_, huniq⟩ := dstsP_get hdst hj hd'
          have hdd : l[i].dst ≠ some d' := fun e => hji (huniq i _ ho e).symm
          have hput : (a.put l[i].dst v).tmps.getD d' undef = a.tmps.getD d' undef := by
            unfold Act.put
            split
            · next d hd =>
              rw [Array.getD_eq_getD_getElem?, Array.getElem?_setIfInBounds, if_neg (fun e => hdd (by rw [hd, e])), ← Array.getD_eq_getD_getElem?]
            · rfl
          rw [hput]
          rw [Array.getD_eq_getD_getElem?, Array.getElem?_setIfInBounds, if_neg (fun e => hji e.symm), ← Array.getD_eq_getD_getElem?] at hlj
          exact SpecG.kept (hI.done j o' s' d' hj hs' hd' hlj) hb.1
      · have hcs := cnt_set _ _ hlf
        rw [Array.toList_setIfInBounds]
        omega
    have hyield : ∀ (j : Nat) (want b' : Bool), l[i].after.any (fun e => Region.binds .any e && e.on == j) = true → ((l[j]?).bind (·.dst)).isSome = true → ss[j]? = some (.val (.bool b')) → yielded l.toArray a.tmps j = some b' := by
      intro j want b' hany hds hsj
      rw [Array.any_eq_true'] at hany
      obtain ⟨e, he, hbd⟩ := hany
      rw [Bool.and_eq_true, beq_iff_eq] at hbd
      have h6 := hdeps e he
      rw [hbd.1, hbd.2] at h6
      cases hlj : l[j]? with
      | none => rw [hlj] at hds; simp at hds
      | some oj =>
        rw [hlj] at hds
        cases hdj : oj.dst with
        | none => simp [hdj] at hds
        | some dj =>
          have h7 := hI.done j oj _ dj hlj hsj hdj (by simpa using h6)
          have h8 : a.tmps.getD dj undef = .bool b' := h7
          obtain ⟨hdn, _⟩ := dstsP_get hdst hlj hdj
          rw [Array.getD_eq_getD_getElem?, Array.getElem?_eq_getElem (by rw [hI.sz]; exact hdn)] at h8
          unfold yielded
          rw [show l.toArray[j]? = some oj by simpa using hlj]
          simp only [Option.bind_some, hdj]
          rw [Array.getElem?_eq_getElem (by rw [hI.sz]; exact hdn)]
          simp only [Option.getD_some] at h8
          rw [h8]
    have hwant : ∀ b, wantG l ss l[i] = some b → Region.wanted l[i] (yielded l.toArray a.tmps) = b := by
      intro b hb
      unfold wantG at hb
      unfold Region.wanted
      cases hg : l[i].guard with
      | none =>
        rw [hg] at hb
        simpa using hb
      | some jb =>
        obtain ⟨j, want⟩ := jb
        rw [hg] at hb
        simp only at hb ⊢
        split at hb
        · rename_i hc
          rw [Bool.and_eq_true] at hc
          split at hb
          · rename_i b' hsj
            rw [hyield j want b' hc.1 hc.2 hsj]
            obtain rfl := Option.some.inj hb
            cases b' <;> cases want <;> rfl
          · cases hb
        · cases hb
    unfold wpOp
    rw [ho']
    simp only
    rcases hstp with ⟨hw0, hsu⟩ | ⟨hw1, hst⟩
    · rw [hwant _ hw0, if_neg (by simp)]
      exact hnext undef w (by rw [hsu]; rfl) (relB_below (Below.refl _ _))
    rw [hwant _ hw1, if_pos rfl]
    left
    refine Oper.wp_mono ?_ (hst a w hI.bel ?_ (fun v w' => (ss[i]'(by omega)).ok T base v w' ∧ RelB T w0 w w') (fun v w' h1 h2 => ⟨h1, h2⟩))
    · rintro a' w' ⟨v, rfl, hok, hb⟩
      exact hnext v w' hok hb
    · intro k s' hk
      unfold knownG at hk
      cases hf : (List.range l.length).find? (fun j => (l[j]?).bind (·.dst) == some k) with
      | none =>
        rw [hf] at hk
        obtain rfl := Option.some.inj hk
        show a.tmps.getD k undef = a0.tmps.getD k undef
        rw [Array.getD_eq_getD_getElem?, Array.getD_eq_getD_getElem?]
        rw [hI.old k (fun j o' hj hdj => ?_)]
        exfalso
        rw [List.find?_eq_none] at hf
        have hjl := (List.getElem?_eq_some_iff.1 hj).1
        have := hf j (by simp [hjl])
        rw [hj] at this
        simp [hdj] at this
      | some j =>
        rw [hf] at hk
        simp only at hk
        have h5 := List.find?_some hf
        have hjl : j < l.length := by have := List.mem_of_find?_eq_some hf; simpa using this
        have hj : l[j]? = some l[j] := List.getElem?_eq_getElem hjl
        rw [hj] at h5
        have hdj : l[j].dst = some k := by simpa using h5
        split at hk
        · rename_i hany
          rw [Array.any_eq_true'] at hany
          obtain ⟨e, he, hb⟩ := hany
          rw [Bool.and_eq_true, beq_iff_eq] at hb
          have h6 := hdeps e he
          rw [hb.1, hb.2] at h6
          exact hI.done j _ s' k hj hk hdj (by simpa using h6)
        · cases hk
/-- THE LAW. -/
theorem wp_region_specs_guard {P : Program} (T : TypeId) {id : Nat} {Q : Exit → Act → World → Prop} {a0 : Act} {w : World} {l : List Oper} (ss : List SpecG) (hm : P.follows .mixedOrders = true) (hlen : ss.length = l.length) (hdst : dstsP l a0.tmps.size = true) (hback : backB l 0 = true)
    (hstep : allG (StepG P T l ss a0 w.heap.size w Q) l ss) (hend : ∀ w', Below w.heap.size w w' → endG w.heap.size (fun a => Q .normal a w') l ss a0) : (Code.region id l.toArray true).wp P Q a0 w := by
  refine wp_region_any hm ?_
  have hbw : Below w.heap.size w { w with drawn := w.drawn + 1 } := ⟨rfl, rfl, rfl, Nat.le_refl _, fun _ _ => rfl⟩
  refine specsG_any (w0 := w) hlen hdst hback hstep hend _ _ _ _ ⟨by simp, rfl, rfl, fun _ _ => rfl, fun i o s d hi hs hd hl => ?_, hbw⟩ ?_
  · exfalso
    rw [Array.getD_eq_getD_getElem?, Array.getElem?_replicate] at hl
    split at hl <;> simp at hl
  · have := List.countP_le_length (p := fun b => !b) (l := (Array.replicate l.toArray.size false).toList)
    simpa using this
end Go.Proofs.Ytafpmlikocchpaa
