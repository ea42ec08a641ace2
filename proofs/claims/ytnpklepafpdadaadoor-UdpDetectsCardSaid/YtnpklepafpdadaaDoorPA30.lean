/- Contracts of the functions, part 30: SpecsT, UdpPHd. -/
import Derived.StillTailTactics
import Derived.Deep.Cut
import Derived.Test.YtnpklepafpdadaaDoorPA11
import Derived.Test.YtnpklepafpdadaaDoorPA23
import Derived.Test.YtnpklepafpdadaaDoorPA25
import Derived.Test.YtnpklepafpdadaaDoorPA29
/- A region that draws its order, whose last operations wait for all others: the head by one obligation for each operation (as in XSpecs; what one leaves may also be a box, or be said by a predicate), the tail in the text's order; what boxes and rows hold is known there. -/
namespace Go.Proofs.YtnpklepafpdadaaDoor
open Go.ChangeShapes Go.WideShapes Go.ChangeAt Go.RowKit
set_option linter.unusedVariables false

/-- What an operation leaves in its slot. -/
inductive SpecT where
  | val (v : Value)
  | row (cs : Array Value) (e : TypeId) (n : Nat)
  | any (f : Value → Prop)
  | box (cs : Array Value) (e : TypeId)
  | wp (f : Value → World → Prop) (hf : ∀ (v : Value) (w w' : World), f v w → Below w.heap.size w w' → f v w')
def SpecT.ok (base : Nat) (u : Value) (w : World) : SpecT → Prop
  | .val v => u = v
  | .row cs e n => ∃ g, u = .slice (some ⟨g, 0, none⟩) n n ∧ base ≤ g ∧ w.heap[g]? = some (.cells cs e (0, 0))
  | .any f => f u
  | .box cs e => ∃ g, u = .pointer (some ⟨g, 0, none⟩) ∧ base ≤ g ∧ w.heap[g]? = some (.cells cs e (0, 0))
  | .wp f _ => f u w
theorem SpecT.kept {base : Nat} {u : Value} {w w' : World} : ∀ {s : SpecT}, s.ok base u w → Below w.heap.size w w' → s.ok base u w'
  | .val v, h, _ => h
  | .row cs e n, ⟨g, h1, h2, h3⟩, hb => ⟨g, h1, h2, (hb.block g (Array.getElem?_eq_some_iff.1 h3).1).trans h3⟩
  | .any f, h, _ => h
  | .box cs e, ⟨g, h1, h2, h3⟩, hb => ⟨g, h1, h2, (hb.block g (Array.getElem?_eq_some_iff.1 h3).1).trans h3⟩
  | .wp f hf, h, hb => hf _ _ _ h hb
def knownT (l : List Oper) (ss : List SpecT) (a0 : Act) (o : Oper) (k : Nat) : Option SpecT :=
  match (List.range l.length).find? (fun j => (l[j]?).bind (·.dst) == some k) with
  | some j => if o.after.any (fun e => Region.binds .any e && e.on == j) then ss[j]? else none
  | none => some (.val (a0.tmps.getD k undef))
/-- What is to be shown of one operation. -/
def StepT (P : Program) (l : List Oper) (ss : List SpecT) (a0 : Act) (base : Nat) (w0 : World) (Q : Exit → Act → World → Prop) (o : Oper) (s : SpecT) : Prop :=
  o.guard = none ∧ ∀ (a : Act) (w : World), Below w0.heap.size w0 w → (∀ k s', knownT l ss a0 o k = some s' → s'.ok base (a.tmps.getD k undef) w) →
    ∀ K : Value → World → Prop, (∀ v w', s.ok base v w' → Below w.heap.size w w' → K v w') → o.wp P a w (fun a' w' => ∃ v, a' = a.put o.dst v ∧ K v w') Q
def allT (R : Oper → SpecT → Prop) : List Oper → List SpecT → Prop
  | o :: l, s :: ss => R o s ∧ allT R l ss
  | _, _ => True
theorem allT_get {R : Oper → SpecT → Prop} : ∀ {l : List Oper} {ss : List SpecT}, allT R l ss → ∀ {i : Nat} {o : Oper} {s : SpecT}, l[i]? = some o → ss[i]? = some s → R o s
  | [], _, _, i, o, s, h, _ => by simp at h
  | o :: l, [], _, i, o', s', _, h => by simp at h
  | o :: l, s :: ss, h, 0, o', s', h1, h2 => by
    obtain rfl := Option.some.inj h1
    obtain rfl := Option.some.inj h2
    exact h.1
  | o :: l, s :: ss, h, i + 1, o', s', h1, h2 => allT_get h.2 (i := i) (by simpa using h1) (by simpa using h2)
/-- What is to be shown behind the head. -/
def endT (base : Nat) (w : World) (R : Act → Prop) : List Oper → List SpecT → Act → Prop
  | o :: l, .val v :: ss, a => endT base w R l ss (a.put o.dst v)
  | o :: l, .row cs e n :: ss, a => ∀ g, base ≤ g → w.heap[g]? = some (.cells cs e (0, 0)) → endT base w R l ss (a.put o.dst (.slice (some ⟨g, 0, none⟩) n n))
  | o :: l, .any f :: ss, a => ∀ v, f v → endT base w R l ss (a.put o.dst v)
  | o :: l, .wp f _ :: ss, a => ∀ v, f v w → endT base w R l ss (a.put o.dst v)
  | o :: l, .box cs e :: ss, a => ∀ g, base ≤ g → w.heap[g]? = some (.cells cs e (0, 0)) → endT base w R l ss (a.put o.dst (.pointer (some ⟨g, 0, none⟩)))
  | _, _, a => R a
theorem endT_use {base : Nat} {R : Act → Prop} {w : World} : ∀ {l : List Oper} {ss : List SpecT} {a1 a : Act}, endT base w R l ss a1 → ss.length = l.length → dstsB l a.tmps.size = true → a.defers = a1.defers → a.tmps.size = a1.tmps.size →
    (∀ k, (∀ (i : Nat) (o : Oper), l[i]? = some o → o.dst ≠ some k) → a.tmps[k]? = a1.tmps[k]?) →
    (∀ (i : Nat) (o : Oper) (s : SpecT) (d : Nat), l[i]? = some o → ss[i]? = some s → o.dst = some d → s.ok base (a.tmps.getD d undef) w) → R a
  | [], ss, a1, a, h, hl, hd, h1, h2, h3, h4 => by
    have e : a = a1 := by
      obtain ⟨t, d⟩ := a
      obtain ⟨t1, d1⟩ := a1
      simp only at h1 h2 h3
      subst h1
      congr 1
      exact Array.ext_getElem? fun k => h3 k (fun i o h => by simp at h)
    rw [e]
    cases ss with
    | nil => exact h
    | cons s r => simp at hl
  | o :: l, [], a1, a, h, hl, hd, h1, h2, h3, h4 => by simp at hl
  | o :: l, s :: ss, a1, a, h, hl, hd, h1, h2, h3, h4 => by
    obtain ⟨d, hd0, hdn, huniq⟩ := dstsB_get hd (i := 0) rfl
    have hdl : dstsB l a.tmps.size = true := by rw [dstsB, Bool.and_eq_true] at hd; exact hd.2
    have hok := h4 0 o s d rfl rfl hd0
    have hput : ∀ v, a.tmps.getD d undef = v → endT base w R l ss (a1.put o.dst v) → R a := fun v hv hh => by
      refine endT_use (w := w) hh (by simpa using hl) hdl ?_ ?_ ?_ ?_
      · rw [h1]; unfold Act.put; rw [hd0]
      · rw [h2]; unfold Act.put; rw [hd0]; simp
      · intro k hk
        unfold Act.put
        rw [hd0]
        simp only
        by_cases hkd : k = d
        · subst hkd
          rw [Array.getElem?_setIfInBounds, if_pos rfl, if_pos (by rw [← h2]; exact hdn)]
          rw [← hv, Array.getD_eq_getD_getElem?, Array.getElem?_eq_getElem hdn]
          rfl
        · rw [Array.getElem?_setIfInBounds, if_neg (fun e => hkd e.symm)]
          refine h3 k (fun i o' hi hh' => ?_)
          cases i with
          | zero =>
            obtain rfl := Option.some.inj hi
            rw [hd0] at hh'
            exact hkd (Option.some.inj hh').symm
          | succ i => exact hk i o' (by simpa using hi) hh'
      · intro i o' s' d' hi hs' hd'
        exact h4 (i + 1) o' s' d' (by simpa using hi) (by simpa using hs') hd'
    cases s with
    | val v => exact hput v hok h
    | row cs e n =>
      obtain ⟨g, e1, e2, e3⟩ := hok
      exact hput _ e1 (h g e2 e3)
    | any f => exact hput _ rfl (h _ hok)
    | wp f hf => exact hput _ rfl (h _ hok)
    | box cs e =>
      obtain ⟨g, e1, e2, e3⟩ := hok
      exact hput _ e1 (h g e2 e3)
theorem kvalT {l : List Oper} {ss : List SpecT} {a0 a : Act} {o : Oper} {base : Nat} {w : World} (hk : ∀ k s', knownT l ss a0 o k = some s' → s'.ok base (a.tmps.getD k undef) w) (k : Nat) (v : Value) (h : knownT l ss a0 o k = some (.val v)) : a.tmps[k]?.getD undef = v := by
  have := hk k _ h
  rw [Array.getD_eq_getD_getElem?] at this
  exact this
theorem krowT {l : List Oper} {ss : List SpecT} {a0 a : Act} {o : Oper} {base : Nat} {w : World} (hk : ∀ k s', knownT l ss a0 o k = some s' → s'.ok base (a.tmps.getD k undef) w) (k : Nat) (cs : Array Value) (e : TypeId) (n : Nat) (h : knownT l ss a0 o k = some (.row cs e n)) : ∃ g, a.tmps[k]?.getD undef = .slice (some ⟨g, 0, none⟩) n n ∧ base ≤ g ∧ w.heap[g]? = some (.cells cs e (0, 0)) := by
  have := hk k _ h
  rw [Array.getD_eq_getD_getElem?] at this
  exact this
theorem kanyT {l : List Oper} {ss : List SpecT} {a0 a : Act} {o : Oper} {base : Nat} {w : World} (hk : ∀ k s', knownT l ss a0 o k = some s' → s'.ok base (a.tmps.getD k undef) w) (k : Nat) (f : Value → Prop) (h : knownT l ss a0 o k = some (.any f)) : f (a.tmps[k]?.getD undef) := by
  have := hk k _ h
  rw [Array.getD_eq_getD_getElem?] at this
  exact this
theorem kwpT {l : List Oper} {ss : List SpecT} {a0 a : Act} {o : Oper} {base : Nat} {w : World} (hk : ∀ k s', knownT l ss a0 o k = some s' → s'.ok base (a.tmps.getD k undef) w) (k : Nat) (f : Value → World → Prop) (hf : ∀ (v : Value) (w w' : World), f v w → Below w.heap.size w w' → f v w') (h : knownT l ss a0 o k = some (.wp f hf)) : f (a.tmps[k]?.getD undef) w := by
  have := hk k _ h
  rw [Array.getD_eq_getD_getElem?] at this
  exact this
/-- Between two operations of the head. -/
structure InvT (l : List Oper) (n : Nat) (ss : List SpecT) (a0 : Act) (base : Nat) (w0 : World) (listed : Array Bool) (a : Act) (w : World) : Prop where
  hd : HeadInv .any l.toArray n listed
  df : a.defers = a0.defers
  sz : a.tmps.size = a0.tmps.size
  old : ∀ k, (∀ (i : Nat) (o : Oper), (l.take n)[i]? = some o → o.dst = some k → listed.getD i false = false) → a.tmps[k]? = a0.tmps[k]?
  done : ∀ (i : Nat) (o : Oper) (s : SpecT) (d : Nat), (l.take n)[i]? = some o → ss[i]? = some s → o.dst = some d → listed.getD i false = true → s.ok base (a.tmps.getD d undef) w
  bel : Below w0.heap.size w0 w
def headCnt (n : Nat) (listed : Array Bool) : Nat := (listed.toList.take n).countP (fun b => !b)
def tailAt (m n : Nat) : Array Bool := (List.replicate n true ++ List.replicate (m - n) false).toArray
theorem specs_tail {P : Program} {Q : Exit → Act → World → Prop} {l : List Oper} {n : Nat} {ss : List SpecT} {a0 : Act} {base : Nat} {w0 : World} (hn : n < l.length) (hlen : ss.length = n) (hdst : dstsB (l.take n) a0.tmps.size = true) (hback : backB l 0 = true)
    (hsink : Region.sinkB .any l.toArray n = true) (hchain : Region.chainB .any l.toArray n = true) (hseq : Region.seqB .any l.toArray (l.length - n) n (tailAt l.length n) = true)
    (hstep : allT (StepT P (l.take n) ss a0 base w0 Q) (l.take n) ss) (hend : ∀ w', Below w0.heap.size w0 w' → endT base w' (fun a => wpList P l.toArray Q (l.drop n) a w') (l.take n) ss a0) :
    ∀ (f : Nat) (listed : Array Bool) (a : Act) (w : World), InvT l n ss a0 base w0 listed a w → headCnt n listed = f → wpAny P .any l.toArray Q (f + (l.length - n)) listed a w := by
  have htl : (l.take n).length = n := by rw [List.length_take]; omega
  intro f
  induction f with
  | zero =>
    intro listed a w hI hc
    have hall : ∀ i, i < n → listed.getD i false = true := by
      intro i hi
      unfold headCnt at hc
      rw [List.countP_eq_zero] at hc
      have hil : i < listed.size := by rw [hI.hd.size]; simp; omega
      have := hc listed[i] (by
        have : (listed.toList.take n)[i]? = some listed[i] := by rw [List.getElem?_take, if_pos hi, Array.getElem?_toList, Array.getElem?_eq_getElem hil]
        exact List.mem_of_getElem? this)
      rw [Array.getD_eq_getD_getElem?, Array.getElem?_eq_getElem hil]
      simpa using this
    have hlist : listed = tailAt l.length n := by
      apply Array.ext_getElem?
      intro i
      have hsz : listed.size = l.length := by rw [hI.hd.size]; simp
      have hr : (tailAt l.length n)[i]? = (List.replicate n true ++ List.replicate (l.length - n) false)[i]? := by unfold tailAt; rw [List.getElem?_toArray]
      rw [hr, List.getElem?_append, List.length_replicate]
      by_cases hi : i < n
      · rw [if_pos hi, List.getElem?_replicate, if_pos hi]
        have h1 := hall i hi
        rw [Array.getD_eq_getD_getElem?, Array.getElem?_eq_getElem (by omega)] at h1
        rw [Array.getElem?_eq_getElem (by omega)]
        simpa using h1
      · rw [if_neg hi, List.getElem?_replicate]
        by_cases hm : i < l.length
        · rw [if_pos (by omega)]
          have h1 := hI.hd.tail i (by omega) (by simpa using hm)
          rw [Array.getD_eq_getD_getElem?, Array.getElem?_eq_getElem (by omega)] at h1
          rw [Array.getElem?_eq_getElem (by omega)]
          simpa using h1
        · rw [if_neg (by omega), Array.getElem?_eq_none (by omega)]
    have hw : wpList P l.toArray Q (l.drop n) a w :=
      endT_use (w := w) (hend w hI.bel) (by rw [hlen, htl]) (by rw [hI.sz]; exact hdst) hI.df hI.sz (fun k hk => hI.old k (fun i o hi hd => absurd hd (hk i o hi))) (fun i o s d hi hs hd => hI.done i o s d hi hs hd (hall i (by have := (List.getElem?_eq_some_iff.1 hi).1; omega)))
    have := wpAny_of_seq (md := .any) (Q' := Q) (l.drop n) n listed a w (fun j => by simp [List.getElem?_drop]) (by rw [List.length_drop, hlist]; exact hseq) hw
    rwa [List.length_drop, ← Nat.zero_add (l.length - n)] at this
  | succ f ih =>
    intro listed a w hI hc
    rw [show f + 1 + (l.length - n) = (f + (l.length - n)) + 1 by omega]
    have hls : listed.size = l.length := by rw [hI.hd.size]; simp
    -- an operation of the head that is not listed yet
    obtain ⟨i0, hi0, hun0⟩ : ∃ i, i < n ∧ listed.getD i true = false := by
      refine Classical.byContradiction fun hno => ?_
      have h0 : headCnt n listed = 0 := by
        unfold headCnt
        rw [List.countP_eq_zero]
        intro b hb
        obtain ⟨i, hi⟩ := List.mem_iff_getElem?.1 hb
        have hin : i < n := by
          have := (List.getElem?_eq_some_iff.1 hi).1
          rw [List.length_take] at this
          omega
        rw [List.getElem?_take, if_pos hin, Array.getElem?_toList] at hi
        have h2 : ¬ listed.getD i true = false := fun e => hno ⟨i, hin, e⟩
        rw [Array.getD_eq_getD_getElem?, hi] at h2
        simpa using h2
      omega
    have hnr : ∀ t, n ≤ t → t ∉ Region.ready .any l.toArray listed := tail_waits hsink hchain (by simpa using hn) hI.hd _ i0 rfl hi0 hun0
    -- the least one is ready
    have hne : Region.ready .any l.toArray listed ≠ [] := by
      have hleast : ∀ i, i < n → listed.getD i true = false → Region.ready .any l.toArray listed ≠ [] := by
        intro i
        induction i using Nat.strongRecOn with
        | _ i ih2 =>
          intro hi hun
          by_cases hex : ∃ j, j < i ∧ listed.getD j true = false
          · obtain ⟨j, hj, hju⟩ := hex
            exact ih2 j hj (by omega) hju
          · have hmem : i ∈ Region.ready .any l.toArray listed := by
              unfold Region.ready
              rw [List.mem_filter]
              refine ⟨by simp; omega, ?_⟩
              rw [hun]
              have ho : l.toArray[i]? = some (l[i]'(by omega)) := by simp [show i < l.length by omega]
              rw [ho]
              simp only [Bool.not_false, Bool.true_and, Option.map_some, Option.getD_some]
              rw [Array.all_eq_true']
              intro e he
              cases hb : Region.binds .any e with
              | false => rfl
              | true =>
                have h1 := backB_get hback (show l[i]? = some (l[i]'(by omega)) from List.getElem?_eq_getElem (by omega)) e he hb
                rw [Nat.zero_add] at h1
                have h3 : listed.getD e.on true = true := by
                  cases h4 : listed.getD e.on true with
                  | true => rfl
                  | false => exact absurd ⟨e.on, h1, h4⟩ hex
                have h5 : listed.getD e.on false = true := by
                  have hlt : e.on < listed.size := by omega
                  rw [Array.getD_eq_getD_getElem?, Array.getElem?_eq_getElem hlt] at h3 ⊢
                  simpa using h3
                rw [h5]
                rfl
            intro e
            rw [e] at hmem
            cases hmem
      exact hleast i0 hi0 hun0
    refine ⟨fun hr => absurd hr hne, fun i hi => ?_⟩
    have hin : i < n := by
      rcases Nat.lt_or_ge i n with h | h
      · exact h
      · exact absurd hi (hnr i h)
    have hi' := hi
    unfold Region.ready at hi
    rw [List.mem_filter] at hi
    obtain ⟨hi1, hi2⟩ := hi
    have hil : i < l.length := by omega
    rw [Bool.and_eq_true] at hi2
    obtain ⟨hun, hdeps⟩ := hi2
    have ho : l[i]? = some l[i] := List.getElem?_eq_getElem hil
    have hoh : (l.take n)[i]? = some l[i] := by rw [List.getElem?_take, if_pos hin]; exact ho
    have ho' : l.toArray[i]? = some l[i] := by simp [hil]
    rw [ho'] at hdeps
    simp only [Option.map_some, Option.getD_some] at hdeps
    rw [Array.all_eq_true'] at hdeps
    have hs : ss[i]? = some (ss[i]'(by omega)) := List.getElem?_eq_getElem (by omega)
    obtain ⟨hgd, hst⟩ := allT_get hstep hoh hs
    obtain ⟨d, hd0, hdn, huniq⟩ := dstsB_get hdst hoh
    have hlz : i < listed.size := by omega
    have hlf : listed.toList[i]? = some false := by
      rw [Array.getD_eq_getD_getElem?, Array.getElem?_eq_getElem hlz] at hun
      rw [Array.getElem?_toList, Array.getElem?_eq_getElem hlz]
      simpa using hun
    unfold wpOp
    rw [ho']
    simp only
    rw [if_pos (by simp [Region.wanted, hgd])]
    left
    refine Oper.wp_mono ?_ (hst a w hI.bel ?_ (fun v w' => (ss[i]'(by omega)).ok base v w' ∧ Below w.heap.size w w') (fun v w' h1 h2 => ⟨h1, h2⟩))
    · rintro a' w' ⟨v, rfl, hok, hb⟩
      refine ih _ _ _ ⟨hI.hd.set hi' hin, ?_, ?_, ?_, ?_, hI.bel.trans (hb.mono hI.bel.size)⟩ ?_
      · rw [← hI.df]; unfold Act.put; rw [hd0]
      · rw [← hI.sz]; unfold Act.put; rw [hd0]; simp
      · intro k hk
        have hkd : k ≠ d := fun e => by
          have := hk i _ hoh (by rw [e]; exact hd0)
          rw [Array.getD_eq_getD_getElem?, Array.getElem?_setIfInBounds, if_pos rfl, if_pos hlz] at this
          simp at this
        unfold Act.put
        rw [hd0]
        simp only
        rw [Array.getElem?_setIfInBounds, if_neg (fun e => hkd e.symm)]
        refine hI.old k (fun j o' hj hdj => ?_)
        have h3 := hk j o' hj hdj
        by_cases hji : j = i
        · subst hji
          rw [Array.getD_eq_getD_getElem?, Array.getElem?_setIfInBounds, if_pos rfl, if_pos hlz] at h3
          simp at h3
        · rw [Array.getD_eq_getD_getElem?, Array.getElem?_setIfInBounds, if_neg (fun e => hji e.symm), ← Array.getD_eq_getD_getElem?] at h3
          exact h3
      · intro j o' s' d' hj hs' hd' hlj
        unfold Act.put
        rw [hd0]
        simp only
        by_cases hji : j = i
        · subst hji
          obtain rfl := Option.some.inj (hoh.symm.trans hj)
          obtain rfl := Option.some.inj (hs.symm.trans hs')
          rw [hd0] at hd'
          obtain rfl := Option.some.inj hd'
          rw [Array.getD_eq_getD_getElem?, Array.getElem?_setIfInBounds, if_pos rfl, if_pos (by rw [hI.sz]; exact hdn)]
          exact hok
        · have hdd : d ≠ d' := fun e => hji (huniq j o' hj (by rw [hd', e]))
          rw [Array.getD_eq_getD_getElem?, Array.getElem?_setIfInBounds, if_neg hdd, ← Array.getD_eq_getD_getElem?]
          rw [Array.getD_eq_getD_getElem?, Array.getElem?_setIfInBounds, if_neg (fun e => hji e.symm), ← Array.getD_eq_getD_getElem?] at hlj
          exact SpecT.kept (hI.done j o' s' d' hj hs' hd' hlj) hb
      · unfold headCnt at hc ⊢
        rw [Array.toList_setIfInBounds, List.take_set]
        have hcs := cnt_set (listed.toList.take n) i (by rw [List.getElem?_take, if_pos hin]; exact hlf)
        omega
    · intro k s' hk
      unfold knownT at hk
      rw [htl] at hk
      cases hf : (List.range n).find? (fun j => ((l.take n)[j]?).bind (·.dst) == some k) with
      | none =>
        rw [hf] at hk
        obtain rfl := Option.some.inj hk
        show a.tmps.getD k undef = a0.tmps.getD k undef
        rw [Array.getD_eq_getD_getElem?, Array.getD_eq_getD_getElem?]
        rw [hI.old k (fun j o' hj hdj => ?_)]
        exfalso
        rw [List.find?_eq_none] at hf
        have hjl := (List.getElem?_eq_some_iff.1 hj).1
        have := hf j (by simp; omega)
        rw [hj] at this
        simp [hdj] at this
      | some j =>
        rw [hf] at hk
        simp only at hk
        have h5 := List.find?_some hf
        have hjl : j < n := by have := List.mem_of_find?_eq_some hf; simpa using this
        have hj : (l.take n)[j]? = some ((l.take n)[j]'(by omega)) := List.getElem?_eq_getElem (by omega)
        rw [hj] at h5
        have hdj : ((l.take n)[j]'(by omega)).dst = some k := by simpa using h5
        split at hk
        · rename_i hany
          rw [Array.any_eq_true'] at hany
          obtain ⟨e, he, hb⟩ := hany
          rw [Bool.and_eq_true, beq_iff_eq] at hb
          have h6 := hdeps e he
          rw [hb.1, hb.2] at h6
          exact hI.done j _ s' k hj hk hdj (by simpa using h6)
        · cases hk
/-- THE LAW. -/
theorem wp_region_specs_tail {P : Program} {id : Nat} {Q : Exit → Act → World → Prop} {a0 : Act} {w : World} {l : List Oper} (n : Nat) (ss : List SpecT) (hm : P.follows .mixedOrders = true) (hn : decide (n < l.length) = true) (hlen : ss.length = n) (hdst : dstsB (l.take n) a0.tmps.size = true) (hback : backB l 0 = true)
    (hsink : Region.sinkB .any l.toArray n = true) (hchain : Region.chainB .any l.toArray n = true) (hseq : Region.seqB .any l.toArray (l.length - n) n (tailAt l.length n) = true)
    (hstep : allT (StepT P (l.take n) ss a0 w.heap.size w Q) (l.take n) ss) (hend : ∀ w', Below w.heap.size w w' → endT w.heap.size w' (fun a => wpList P l.toArray Q (l.drop n) a w') (l.take n) ss a0) : (Code.region id l.toArray true).wp P Q a0 w := by
  have hn' : n < l.length := of_decide_eq_true hn
  refine wp_region_any hm ?_
  have hbw : Below w.heap.size w { w with drawn := w.drawn + 1 } := ⟨rfl, rfl, rfl, Nat.le_refl _, fun _ _ => rfl⟩
  have hc0 : headCnt n (Array.replicate l.length false) = n := by
    unfold headCnt
    rw [Array.toList_replicate, List.take_replicate, List.countP_replicate]
    simp
    omega
  have := specs_tail (w0 := w) hn' hlen hdst hback hsink hchain hseq hstep hend n (Array.replicate l.length false) a0 { w with drawn := w.drawn + 1 }
    ⟨⟨by simp, fun j oj _ hl => (by rw [getD_replicate_false] at hl; cases hl), fun t _ ht => getD_in (by simpa using ht) (getD_replicate_false _ _)⟩, rfl, rfl, fun _ _ => rfl, fun i o s d _ _ _ hl => (by rw [getD_replicate_false] at hl; cases hl), hbw⟩ hc0
  rw [show n + (l.length - n) = l.length by omega] at this
  simpa using this
end Go.Proofs.YtnpklepafpdadaaDoor

/- Contract of the program of layer 13: headerOf. -/
namespace Go.Proofs.YtnpklepafpdadaaDoor
open Go.ChangeShapes Go.WideShapes Go.ChangeAt Go.RowKit
set_option linter.unusedVariables false

theorem hdTy : BoxTy 43 4 := ⟨⟨_, Tryd.underlying43⟩, by kernel_rfl⟩
theorem hbU_zero (X Y : Nat) (pay : List UInt8) : hbU X Y (8 + pay.length) 0 ++ pay = hdU ⟨(X : Int), (Y : Int), pay⟩ ++ (0 :: 0 :: pay) := by
  unfold hbU hdU
  have e : beL 2 0 = [0, 0] := by decide
  rw [e]
  simp only [Int.toNat_natCast, List.append_assoc, List.cons_append, List.nil_append]
theorem sum_u (a b : AdR) (s t : List UInt8) (h : s = t) (z : Nat) (hz : z = t.length) : sumU a b t = if csum (psU a b 17 z ++ s) = 0 then 65535 else csum (psU a b 17 z ++ s) := by
  subst h hz
  rfl
set_option maxHeartbeats 8000000 in
set_option maxRecDepth 100000 in
/-- headerOf of addresses that fit. -/
theorem phead13_any (v1 v2 : Bool) (h1 l1 h2 l2 X Y : Nat) (pay : List UInt8) (w : World) (hf : fitU ⟨v1, h1, l1⟩ ⟨v2, h2, l2⟩) (ha : fits13 ⟨v1, h1, l1⟩) (hb : fits13 ⟨v2, h2, l2⟩) (hX : X < 65536) (hY : Y < 65536) (hp : pay.length ≤ 65527) (hsh : Sh w) :
    Calls Tryd.prog 14 #[.agg #[.bool v1, .int .u64 (h1 : Int), .int .u64 (l1 : Int)], .agg #[.bool v2, .int .u64 (h2 : Int), .int .u64 (l2 : Int)], .agg #[.int .i64 (X : Int), .int .i64 (Y : Int), .string (str pay)]] w fun e w' => e = .returned (.agg #[.int .i64 (X : Int), .int .i64 (Y : Int), .int .i64 ((8 + pay.length : Nat) : Int), .int .i64 (sumU ⟨v1, h1, l1⟩ ⟨v2, h2, l2⟩ (hdU ⟨(X : Int), (Y : Int), pay⟩ ++ (0 :: 0 :: pay)) : Int)]) ∧ Below w.heap.size w w' := by
  obtain ⟨Z, hZ⟩ : ∃ z, z = 8 + pay.length := ⟨_, rfl⟩
  obtain ⟨P, hP⟩ : ∃ P, P = str pay := ⟨_, rfl⟩
  have hPs : P.size = pay.length := by rw [hP, str_size]
  have kZ : (8 : Int) + (P.size : Int) = (Z : Int) := by omega
  have hZl : Z < 65536 := by omega
  obtain ⟨D, hD⟩ : ∃ D, D = str (psU ⟨v1, h1, l1⟩ ⟨v2, h2, l2⟩ 17 Z) := ⟨_, rfl⟩
  have hDs : D.size ≤ 40 := by rw [hD, str_size]; exact psU_size _ _ _ _
  obtain ⟨H, hH⟩ : ∃ H, H = str (hbU X Y Z 0) := ⟨_, rfl⟩
  have hHs : H.size = 8 := by rw [hH, str_size, hbU_len]
  obtain ⟨q, hq⟩ : ∃ q, q = csum (psU ⟨v1, h1, l1⟩ ⟨v2, h2, l2⟩ 17 Z ++ (hbU X Y Z 0 ++ pay)) := ⟨_, rfl⟩
  obtain ⟨Cc, hCc⟩ : ∃ c, c = sumU ⟨v1, h1, l1⟩ ⟨v2, h2, l2⟩ (hdU ⟨(X : Int), (Y : Int), pay⟩ ++ (0 :: 0 :: pay)) := ⟨_, rfl⟩
  have HCQ := Lib.hid (show Cc = if q = 0 then 65535 else q by
    rw [hCc, hq]
    exact sum_u _ _ _ _ (by rw [hZ]; exact hbU_zero X Y pay) Z (by rw [hZ]; simp [hdU_len]; omega))
  have HPS := Lib.hid (fun (W : World) (h : Sh W) => show Calls Tryd.prog 21 #[.agg #[.bool v1, .int .u64 (h1 : Int), .int .u64 (l1 : Int)], .agg #[.bool v2, .int .u64 (h2 : Int), .int .u64 (l2 : Int)], .int .i64 17, .int .i64 (Z : Int)] W fun e w' => e = .returned (.string D) ∧ Below W.heap.size W w' from by
    rw [hD]
    have := ppseudo13_any ⟨v1, h1, l1⟩ ⟨v2, h2, l2⟩ Z ha hb (by omega) W h
    rwa [if_pos hf] at this)
  have HHB := Lib.hid (fun (W : World) => show Calls Tryd.prog 19 #[.agg #[.int .i64 (X : Int), .int .i64 (Y : Int), .int .i64 (Z : Int), .int .i64 0]] W fun e w' => e = .returned (.string H) ∧ Below W.heap.size W w' from by rw [hH]; exact phbytes13_any X Y Z 0 W hX hY hZl (by decide))
  have HSUM := Lib.hid (fun (W : World) => show Calls Tryd.prog 25 #[.string (D ++ H ++ P)] W fun e w' => e = .returned (.int .i64 (q : Int)) ∧ W = w' from by
    have := sum_any (D ++ H ++ P) W (by rw [ByteArray.size_append, ByteArray.size_append]; omega)
    rw [hD, hH, hP, str_append, str_append] at this ⊢
    rw [hq, ← List.append_assoc]
    simpa [str] using this)
  have hPl : P.size ≤ 65527 := by omega
  rw [← hZ, ← hCc, ← hP]
  clear hD hH hq hCc hP hPs hf ha hb hX hY hp hZ
  have r0 : (9223372036854775807 < D.size + H.size) = False := by simp only [eq_iff_iff, iff_false]; omega
  have r1 : (9223372036854775807 < D.size + H.size + P.size) = False := by simp only [eq_iff_iff, iff_false]; omega
  have r1a : (9223372036854775807 < (D ++ H).size + P.size) = False := by simp only [eq_iff_iff, iff_false, ByteArray.size_append]; omega
  clear hHs hDs
  obtain ⟨W0, hW0⟩ : ∃ W0, W0 = (w.alloc (.cells #[.bool v1, .int .u64 (h1 : Int), .int .u64 (l1 : Int)] 24)).alloc (.cells #[.bool v2, .int .u64 (h2 : Int), .int .u64 (l2 : Int)] 24) := ⟨_, rfl⟩
  obtain ⟨W1, hW1⟩ : ∃ W1, W1 = W0.alloc (.cells #[.int .i64 (X : Int), .int .i64 (Y : Int), .string P] 29) := ⟨_, rfl⟩
  obtain ⟨W2, hW2⟩ : ∃ W1', W1' = W1.alloc (.cells #[.int .i64 0, .int .i64 0, .int .i64 0, .int .i64 0] 43) := ⟨_, rfl⟩
  obtain ⟨W3, hW3⟩ : ∃ W1', W1' = W2.alloc (.cells #[.int .i64 (X : Int), .int .i64 (Y : Int), .int .i64 (Z : Int), .int .i64 0] 43) := ⟨_, rfl⟩
  have z0 : W0.heap.size = w.heap.size + 2 := by rw [hW0]; simp
  have z1 : W1.heap.size = w.heap.size + 3 := by rw [hW1]; simp; omega
  have z2 : W2.heap.size = w.heap.size + 4 := by rw [hW2]; simp; omega
  obtain ⟨gz, hgz⟩ : ∃ g, g = w.heap.size + 2 := ⟨_, rfl⟩
  obtain ⟨gr, hgr⟩ : ∃ g, g = w.heap.size + 3 := ⟨_, rfl⟩
  obtain ⟨gh, hgh⟩ : ∃ g, g = w.heap.size + 4 := ⟨_, rfl⟩
  have B01 : Below W0.heap.size W0 W1 := by rw [hW1]; exact below_alloc6 W0 _
  have B12 : Below W1.heap.size W1 W2 := by rw [hW2]; exact below_alloc6 W1 _
  have B23 : Below W2.heap.size W2 W3 := by rw [hW3]; exact below_alloc6 W2 _
  have B13 : Below W1.heap.size W1 W3 := B12.trans (B23.mono (by omega))
  have B03 : Below W0.heap.size W0 W3 := B01.trans (B13.mono (by omega))
  have Bw0 : Below w.heap.size w W0 := by rw [hW0]; exact ((Below.refl _ _).alloc (Nat.le_refl _) _).alloc (by simp) _
  have HB3 := Lib.hid (Bw0.trans (B03.mono (by omega)))
  have hT00 : Two W0 w.heap.size v1 h1 l1 v2 h2 l2 := by rw [hW0]; exact two_new ..
  have HT0 := Lib.hid (hT00.kept B03)
  have hU1 : Cells W1 gz 29 #[.int .i64 (X : Int), .int .i64 (Y : Int), .string P] := by rw [hW1, hgz, ← z0]; exact heap_alloc_new W0 _
  have hR2 : Cells W2 gr 43 #[.int .i64 0, .int .i64 0, .int .i64 0, .int .i64 0] := by rw [hW2, hgr, ← z1]; exact heap_alloc_new W1 _
  have hH3 : Cells W3 gh 43 #[.int .i64 (X : Int), .int .i64 (Y : Int), .int .i64 (Z : Int), .int .i64 0] := by rw [hW3, hgh, ← z2]; exact heap_alloc_new W2 _
  have HUC := Lib.hid (hU1.kept B13 hU1.lt)
  have HRC := Lib.hid (hR2.kept B23 hR2.lt)
  have HHC := Lib.hid hH3
  have HSH := Lib.hid (((hsh.kept Bw0).kept B03))
  have HVH := Lib.hid (fun (W : World) (hb : Below W3.heap.size W3 W) (i : Nat) (v : Value) (hv : (#[.int .i64 (X : Int), .int .i64 (Y : Int), .int .i64 (Z : Int), .int .i64 0] : Array Value)[i]? = some v) => show W.cell? ⟨gh, i, none⟩ = some v from box_cell HHC.out hb i v hv)
  have HVU := Lib.hid (fun (W : World) (hb : Below W3.heap.size W3 W) (i : Nat) (v : Value) (hv : (#[.int .i64 (X : Int), .int .i64 (Y : Int), .string P] : Array Value)[i]? = some v) => show W.cell? ⟨gz, i, none⟩ = some v from box_cell HUC.out hb i v hv)
  have HT02 := Lib.hid (hT00.kept (B01.trans (B12.mono (by omega))))
  have u0 := (Cells.cell (hU1.kept B12 hU1.lt) 0).trans (show _ = some (Value.int .i64 (X : Int)) from rfl)
  have u1 := (Cells.cell (hU1.kept B12 hU1.lt) 1).trans (show _ = some (Value.int .i64 (Y : Int)) from rfl)
  have u2 := (Cells.cell (hU1.kept B12 hU1.lt) 2).trans (show _ = some (Value.string P) from rfl)
  have hgl : gz < W2.heap.size := by omega
  have hz2 := Lib.hid z2
  have GW := Lib.hid (And.intro hgz (And.intro hgr hgh))
  clear B01 B12 B23 B13 B03 Bw0 hT00 hU1 hR2 hH3 hsh z0 z1 z2
  go_enter Tryd.func14, Tryd.ntmps14
  go_upto_region 1 with fail
  rw [← hW0, ← hW1, ← hW2, ← hgr, ← hgz]
  have HW3 := Lib.hid hW3
  have HGH := Lib.hid hgh
  clear hW0 hW1 hgz hgr hW2 hW3 hgh
  go_upto_region 2 with fail
  rw [hz2.out, ← HGH.out, ← HW3.out]
  clear HW3 HGH u0 u1 u2 hgl
  have hgne : gr ≠ gh := by have := GW.out; omega
  have hgb : w.heap.size ≤ gh := by have := GW.out; omega
  have hgb2 : w.heap.size ≤ gr := by have := GW.out; omega
  refine wp_region_specs_tail 13 [.val (Value.agg #[.bool v1, .int .u64 (h1 : Int), .int .u64 (l1 : Int)]), .val (Value.agg #[.bool v2, .int .u64 (h2 : Int), .int .u64 (l2 : Int)]), .val (Value.pointer (some ⟨gh, 2, none⟩)), .val (Value.int .i64 (Z : Int)), .val (Value.string D), .val (Value.agg #[.int .i64 (X : Int), .int .i64 (Y : Int), .int .i64 (Z : Int), .int .i64 0]), .val (Value.string H), .val (Value.string (D ++ H)), .val (Value.pointer (some ⟨gz, 2, none⟩)), .val (Value.string P), .val (Value.string (D ++ H ++ P)), .val (Value.int .i64 (q : Int)), .val (Value.pointer (some ⟨gh, 3, none⟩))] (by kernel_rfl) (by kernel_rfl) (by kernel_rfl) (by kernel_rfl) (by kernel_rfl) (by kernel_rfl) (by kernel_rfl) (by kernel_rfl) ?_ ?_
  · refine ⟨⟨rfl, ?_⟩, ⟨rfl, ?_⟩, ⟨rfl, ?_⟩, ⟨rfl, ?_⟩, ⟨rfl, ?_⟩, ⟨rfl, ?_⟩, ⟨rfl, ?_⟩, ⟨rfl, ?_⟩, ⟨rfl, ?_⟩, ⟨rfl, ?_⟩, ⟨rfl, ?_⟩, ⟨rfl, ?_⟩, ⟨rfl, ?_⟩, trivial⟩
    · intro a W hbW hk K hK
      have e3 := kvalT hk 3 (Value.pointer (some ⟨w.heap.size, 0, none⟩)) (by kernel_rfl)
      clear hk
      obtain ⟨q0, q1, q2, q3, q4, q5, q6⟩ := id (HT0.out.kept hbW)
      go_simp
      exact ⟨_, rfl, hK _ _ rfl (Below.refl _ _)⟩
    · intro a W hbW hk K hK
      have e4 := kvalT hk 4 (Value.pointer (some ⟨w.heap.size + 1, 0, none⟩)) (by kernel_rfl)
      clear hk
      obtain ⟨q0, q1, q2, q3, q4, q5, q6⟩ := id (HT0.out.kept hbW)
      go_simp
      exact ⟨_, rfl, hK _ _ rfl (Below.refl _ _)⟩
    · intro a W hbW hk K hK
      have e7 := kvalT hk 7 (Value.pointer (some ⟨gh, 0, none⟩)) (by kernel_rfl)
      clear hk
      go_simp
      exact ⟨_, rfl, hK _ _ rfl (Below.refl _ _)⟩
    · intro a W hbW hk K hK
      have e19 := kvalT hk 19 (Value.pointer (some ⟨gh, 2, none⟩)) (by kernel_rfl)
      clear hk
      have y2 := HVH.out _ hbW 2 (Value.int .i64 (Z : Int)) rfl
      go_simp
      exact ⟨_, rfl, hK _ _ rfl (Below.refl _ _)⟩
    · intro a W hbW hk K hK
      have e17 := kvalT hk 17 (Value.agg #[.bool v1, .int .u64 (h1 : Int), .int .u64 (l1 : Int)]) (by kernel_rfl)
      have e18 := kvalT hk 18 (Value.agg #[.bool v2, .int .u64 (h2 : Int), .int .u64 (l2 : Int)]) (by kernel_rfl)
      have e20 := kvalT hk 20 (Value.int .i64 (Z : Int)) (by kernel_rfl)
      clear hk
      go_simp
      refine (HPS.out W (HSH.out.kept hbW)).mono ?_
      rintro e w9 ⟨rfl, hb9⟩
      exact ⟨_, rfl, hK _ _ rfl hb9⟩
    · intro a W hbW hk K hK
      have e7 := kvalT hk 7 (Value.pointer (some ⟨gh, 0, none⟩)) (by kernel_rfl)
      clear hk
      have y0 := HVH.out _ hbW 0 (Value.int .i64 (X : Int)) rfl
      have y1 := HVH.out _ hbW 1 (Value.int .i64 (Y : Int)) rfl
      have y2 := HVH.out _ hbW 2 (Value.int .i64 (Z : Int)) rfl
      have y3 := HVH.out _ hbW 3 (Value.int .i64 0) rfl
      go_simp
      exact ⟨_, rfl, hK _ _ rfl (Below.refl _ _)⟩
    · intro a W hbW hk K hK
      have e22 := kvalT hk 22 (Value.agg #[.int .i64 (X : Int), .int .i64 (Y : Int), .int .i64 (Z : Int), .int .i64 0]) (by kernel_rfl)
      clear hk
      go_simp
      refine (HHB.out W).mono ?_
      rintro e w9 ⟨rfl, hb9⟩
      exact ⟨_, rfl, hK _ _ rfl hb9⟩
    · intro a W hbW hk K hK
      have e21 := kvalT hk 21 (Value.string D) (by kernel_rfl)
      have e23 := kvalT hk 23 (Value.string H) (by kernel_rfl)
      clear hk
      go_simp
      exact ⟨_, rfl, hK _ _ rfl (Below.refl _ _)⟩
    · intro a W hbW hk K hK
      have e5 := kvalT hk 5 (Value.pointer (some ⟨gz, 0, none⟩)) (by kernel_rfl)
      clear hk
      go_simp
      exact ⟨_, rfl, hK _ _ rfl (Below.refl _ _)⟩
    · intro a W hbW hk K hK
      have e25 := kvalT hk 25 (Value.pointer (some ⟨gz, 2, none⟩)) (by kernel_rfl)
      clear hk
      have y2 := HVU.out _ hbW 2 (Value.string P) rfl
      go_simp
      exact ⟨_, rfl, hK _ _ rfl (Below.refl _ _)⟩
    · intro a W hbW hk K hK
      have e24 := kvalT hk 24 (Value.string (D ++ H)) (by kernel_rfl)
      have e26 := kvalT hk 26 (Value.string P) (by kernel_rfl)
      clear hk
      go_simp
      exact ⟨_, rfl, hK _ _ rfl (Below.refl _ _)⟩
    · intro a W hbW hk K hK
      have e27 := kvalT hk 27 (Value.string (D ++ H ++ P)) (by kernel_rfl)
      clear hk
      go_simp
      refine (HSUM.out W).mono ?_
      rintro e w9 ⟨rfl, rfl⟩
      exact ⟨_, rfl, hK _ _ rfl (Below.refl _ _)⟩
    · intro a W hbW hk K hK
      have e7 := kvalT hk 7 (Value.pointer (some ⟨gh, 0, none⟩)) (by kernel_rfl)
      clear hk
      go_simp
      exact ⟨_, rfl, hK _ _ rfl (Below.refl _ _)⟩
  · intro W9 hb9
    simp only [List.take_succ_cons, List.take_zero, List.drop_succ_cons, List.drop_zero, endT]
    have HX9 := Lib.hid (Cells.kept HHC.out hb9 HHC.out.lt)
    have HR9 := Lib.hid (Cells.kept HRC.out hb9 HRC.out.lt)
    have HB9 := Lib.hid (HB3.out.trans (hb9.mono HB3.out.size))
    clear hb9 HVH HVU HT0 HPS HSUM HHB HSH HUC HHC HRC HB3
    have x3 := (Cells.cell HX9.out 3).trans (show _ = some (Value.int .i64 0) from rfl)
    have z3 := Cells.frozen HX9.out 3
    have hgl := HX9.out.lt
    go_upto_region 3 with fail
    have HX8 := Lib.hid (HX9.out.set 3 (.int .i64 (q : Int)))
    have HR8 := Lib.hid (HR9.out.far (i := 3) (b := gh) (by omega) (.int .i64 (q : Int)))
    have HB8 := Lib.hid (HB9.out.setCell (p := ⟨gh, 3, none⟩) (by simp only; omega) (.int .i64 (q : Int)))
    generalize W9.setCell ⟨gh, 3, none⟩ (.int .i64 (q : Int)) = W8 at *
    clear x3 z3 hgl HX9 HR9 HB9
    by_cases hq0 : q = 0
    · have hqe : ((q : Int) == 0) = true := by simp; omega
      have hCC := Lib.hid (show Cc = 65535 by rw [HCQ.out, if_pos hq0])
      have x0 := (Cells.cell HX8.out 0).trans (show _ = some (Value.int .i64 (X : Int)) from rfl)
      have x1 := (Cells.cell HX8.out 1).trans (show _ = some (Value.int .i64 (Y : Int)) from rfl)
      have x2 := (Cells.cell HX8.out 2).trans (show _ = some (Value.int .i64 (Z : Int)) from rfl)
      have x3 := (Cells.cell HX8.out 3).trans (show _ = some (Value.int .i64 (q : Int)) from rfl)
      have z3 := Cells.frozen HX8.out 3
      have hgl := HX8.out.lt
      have r0 := (Cells.cell HR8.out 0).trans (show _ = some (Value.int .i64 0) from rfl)
      have f0 := Cells.frozen HR8.out 0
      have r1 := (Cells.cell HR8.out 1).trans (show _ = some (Value.int .i64 0) from rfl)
      have f1 := Cells.frozen HR8.out 1
      have r2 := (Cells.cell HR8.out 2).trans (show _ = some (Value.int .i64 0) from rfl)
      have f2 := Cells.frozen HR8.out 2
      have r3 := (Cells.cell HR8.out 3).trans (show _ = some (Value.int .i64 0) from rfl)
      have f3 := Cells.frozen HR8.out 3
      have hgr := HR8.out.lt
      go_wp2_with fail
      refine bodyPost_ret (res_box1 hdTy rfl _ _ rfl ((HR8.out.far (i := 3) (b := gh) (by omega) (.int .i64 65535)).put [.int .i64 (X : Int), .int .i64 (Y : Int), .int .i64 (Z : Int), .int .i64 65535] rfl)) rfl ?_
      refine ⟨by rw [hCC.out]; try rfl, ?_⟩
      exact putB_below (by omega) [.int .i64 (X : Int), .int .i64 (Y : Int), .int .i64 (Z : Int), .int .i64 65535] 0 _ (HB8.out.setCell (p := ⟨gh, 3, none⟩) (by simp only; omega) _)
    · have hqe : ((q : Int) == 0) = false := by simp; omega
      have hCC := Lib.hid (show Cc = q by rw [HCQ.out, if_neg hq0])
      have x0 := (Cells.cell HX8.out 0).trans (show _ = some (Value.int .i64 (X : Int)) from rfl)
      have x1 := (Cells.cell HX8.out 1).trans (show _ = some (Value.int .i64 (Y : Int)) from rfl)
      have x2 := (Cells.cell HX8.out 2).trans (show _ = some (Value.int .i64 (Z : Int)) from rfl)
      have x3 := (Cells.cell HX8.out 3).trans (show _ = some (Value.int .i64 (q : Int)) from rfl)
      have z3 := Cells.frozen HX8.out 3
      have hgl := HX8.out.lt
      have r0 := (Cells.cell HR8.out 0).trans (show _ = some (Value.int .i64 0) from rfl)
      have f0 := Cells.frozen HR8.out 0
      have r1 := (Cells.cell HR8.out 1).trans (show _ = some (Value.int .i64 0) from rfl)
      have f1 := Cells.frozen HR8.out 1
      have r2 := (Cells.cell HR8.out 2).trans (show _ = some (Value.int .i64 0) from rfl)
      have f2 := Cells.frozen HR8.out 2
      have r3 := (Cells.cell HR8.out 3).trans (show _ = some (Value.int .i64 0) from rfl)
      have f3 := Cells.frozen HR8.out 3
      have hgr := HR8.out.lt
      go_wp2_with fail
      refine bodyPost_ret (res_box1 hdTy rfl _ _ rfl (HR8.out.put [.int .i64 (X : Int), .int .i64 (Y : Int), .int .i64 (Z : Int), .int .i64 (q : Int)] rfl)) rfl ?_
      refine ⟨by rw [hCC.out]; try rfl, ?_⟩
      exact putB_below (by omega) [.int .i64 (X : Int), .int .i64 (Y : Int), .int .i64 (Z : Int), .int .i64 (q : Int)] 0 _ HB8.out
end Go.Proofs.YtnpklepafpdadaaDoor
