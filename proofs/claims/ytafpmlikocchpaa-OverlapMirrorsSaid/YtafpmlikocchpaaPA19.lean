/- Contracts of the functions, part 19: P15, OvEx, SpecsR. -/
import Derived.Test.YtafpmlikocchpaaPA10
import Derived.Test.YtafpmlikocchpaaPA11
import Derived.Test.YtafpmlikocchpaaPA13
import Derived.Test.YtafpmlikocchpaaPA17
import Derived.Test.YtafpmlikocchpaaPA18
/- What the laws of layer 15 use of the program: its six functions, as a bundle (T: what its tables hold). -/
namespace Go.Proofs.Ytafpmlikocchpaa
open Go.ChangeShapes Go.WideShapes Go.ChangeAt Go.RowKit
set_option linter.unusedVariables false
set_option maxRecDepth 100000

/-- A list that comes back, wherever it lies. -/
def LsP (w : World) (R : List PcR) (e : Ending) (w' : World) : Prop :=
  ∃ A c, e = .returned (.slice A R.length c) ∧ RowL EPc w' A R ∧ (A = none → c = 0) ∧ Below w.heap.size w w'
/-- Bytes and a list that come back. -/
def StP (w : World) (S : List UInt8) (R : List PcR) (e : Ending) (w' : World) : Prop :=
  ∃ A c, e = .returned (.tuple #[.string (str S), .slice A R.length c]) ∧ RowL EPc w' A R ∧ (A = none → c = 0) ∧ Below w.heap.size w w'
structure P15 (T : World → Prop) : Prop where
  keep : ∀ (w w' : World), T w → Below w.heap.size w w' → T w'
  val : ∀ (l : List PcR) (A : Option Addr) (c : Nat) (w : World), T w → RowL EPc w A l → (A = none → c = 0) → l.length ≤ 1000 → (∀ y ∈ l, pcWf y ∧ y.dat.length ≤ 1000) →
    Calls Try.prog 18 #[.slice A l.length c] w fun e w' => e = .returned (.bool (decide (vldL l))) ∧ Below w.heap.size w w'
  win : ∀ (pol a1 f1 t1 a2 f2 t2 : Int) (D1 D2 : ByteArray) (w : World), T w → (Lit.int .i64 pol).wf = true → (Lit.int .i64 a1).wf = true → (Lit.int .i64 f1).wf = true → (Lit.int .i64 t1).wf = true → (Lit.int .i64 a2).wf = true → (Lit.int .i64 f2).wf = true → (Lit.int .i64 t2).wf = true → D1.size ≤ 281474976710656 → D2.size ≤ 281474976710656 →
    Calls Try.prog 10 #[.int .i64 pol, .agg #[.int .i64 a1, .string D1, .int .i64 f1, .int .i64 t1], .agg #[.int .i64 a2, .string D2, .int .i64 f2, .int .i64 t2]] w fun e w' => e = .returned (.bool (winsB pol f1 t1 f2 t2)) ∧ Below w.heap.size w w'
  ins : ∀ (l : List PcR) (A : Option Addr) (c : Nat) (a pf pt pol : Int) (b : List UInt8) (w : World), T w → RowL EPc w A l → (A = none → c = 0) → l.length ≤ 1000 → vldL l → sizeL l ≤ 10000 → b.length ≤ 10000 → (Lit.int .i64 a).wf = true → (Lit.int .i64 pf).wf = true → (Lit.int .i64 pt).wf = true → (Lit.int .i64 pol).wf = true → 
    Calls Try.prog 15 #[.slice A l.length c, .agg #[.int .i64 a, .string (str b), .int .i64 pf, .int .i64 pt], .int .i64 pol] w (InP w (insL l a b pol))
  tak : ∀ (l : List PcR) (A : Option Addr) (c : Nat) (a : Int) (w : World), T w → RowL EPc w A l → (A = none → c = 0) → l.length ≤ 1000 → vldL l → sizeL l ≤ 10000 → (Lit.int .i64 a).wf = true → 
    Calls Try.prog 19 #[.slice A l.length c, .int .i64 a] w (StP w (takL l a) (cutL l (a + (takL l a).length)))
  cut : ∀ (l : List PcR) (A : Option Addr) (c : Nat) (a : Int) (w : World), T w → RowL EPc w A l → (A = none → c = 0) → l.length ≤ 1000 → vldL l → sizeL l ≤ 10000 → (Lit.int .i64 a).wf = true → 
    Calls Try.prog 21 #[.slice A l.length c, .int .i64 a] w (LsP w (cutL l a))
  siz : ∀ (l : List PcR) (A : Option Addr) (c : Nat) (w : World), T w → RowL EPc w A l → (A = none → c = 0) → l.length ≤ 1000 → vldL l → sizeL l ≤ 10000 → 
    Calls Try.prog 23 #[.slice A l.length c] w fun e w' => e = .returned (.int .i64 (sizeL l : Int)) ∧ Below w.heap.size w w'
end Go.Proofs.Ytafpmlikocchpaa

/- The chapter's examples of layer 15, reckoned. -/
namespace Go.Proofs.Ytafpmlikocchpaa
set_option linter.unusedVariables false
set_option maxRecDepth 100000

def exL15 : List PcR := [⟨0, [97, 97, 97, 97], 0, 4⟩]
def exM15 : List PcR := [⟨0, [97, 97], 0, 4⟩, ⟨2, [98, 98, 98, 98], 2, 6⟩]
set_option maxRecDepth 100000 in
theorem ins_ex15 : insL exL15 2 [98, 98, 98, 98] 2 = (exM15, 2, 0) := by kernel_rfl
theorem tak_ex15 : takL exM15 1 = [97, 98, 98, 98, 98] := by kernel_rfl
theorem cut_ex15 : cutL exM15 6 = [] := by kernel_rfl
theorem siz_ex15 : sizeL exM15 = 6 := by kernel_rfl
theorem vld_ex15 : decide (vldL exM15) = true := by kernel_rfl
theorem win_ex15a : winsB 3 0 4 2 6 = false := by kernel_rfl
theorem win_ex15b : winsB 3 2 6 0 4 = true := by kernel_rfl
end Go.Proofs.Ytafpmlikocchpaa

/- A region that draws its order: as in XSpecs, but what an operation leaves may also be said by a predicate, an operation may make a box, and one may store a whole struct into such a box: blocks of the box's type T may change, all others stay. -/
namespace Go.Proofs.Ytafpmlikocchpaa
open Go.ChangeShapes Go.WideShapes Go.ChangeAt Go.RowKit
set_option linter.unusedVariables false

/-- Memory grows; blocks stay, but those of type T may get other cells. -/
def RelT (T : TypeId) (w w' : World) : Prop := w.heap.size ≤ w'.heap.size ∧ ∀ (b : Nat) (cs : Array Value) (e : TypeId) (fr : Nat × Nat), w.heap[b]? = some (.cells cs e fr) → ∃ cs', w'.heap[b]? = some (.cells cs' e fr) ∧ cs'.size = cs.size ∧ (e ≠ T → cs' = cs)
def RelB (T : TypeId) (w0 w w' : World) : Prop := RelT T w w' ∧ (Below w0.heap.size w0 w → Below w0.heap.size w0 w')
theorem relB_below {T : TypeId} {w0 w w' : World} (h : Below w.heap.size w w') : RelB T w0 w w' :=
  ⟨⟨h.size, fun b cs e fr hb => ⟨cs, (h.block b (Array.getElem?_eq_some_iff.1 hb).1).trans hb, rfl, fun _ => rfl⟩⟩, fun h0 => h0.trans (h.mono h0.size)⟩
theorem relB_row {T : TypeId} {w0 w : World} {g : Nat} {old cs : Array Value} {fr : Nat × Nat} (hg : w0.heap.size ≤ g) (h : w.heap[g]? = some (.cells old T fr)) (hs : cs.size = old.size) : RelB T w0 w (w.setRow g cs) := by
  refine ⟨⟨by rw [setRow_size]; exact Nat.le_refl _, fun b cs0 e fr0 hb => ?_⟩, fun h0 => below_row h0 g hg cs⟩
  by_cases hbg : b = g
  · subst hbg
    rw [h] at hb
    cases hb
    exact ⟨cs, setRow_heap w _ _ _ _ _ h, hs, fun hn => absurd rfl hn⟩
  · exact ⟨cs0, (setRow_other w g b cs hbg).trans hb, rfl, fun _ => rfl⟩
/-- What an operation leaves in its slot. -/
inductive SpecP where
  | val (v : Value)
  | row (cs : Array Value) (e : TypeId) (n : Nat)
  | any (f : Value → Prop)
  | box (k : Nat)
def SpecP.ok (T : TypeId) (base : Nat) (u : Value) (w : World) : SpecP → Prop
  | .val v => u = v
  | .row cs e n => e ≠ T ∧ ∃ g, u = .slice (some ⟨g, 0, none⟩) n n ∧ base ≤ g ∧ w.heap[g]? = some (.cells cs e (0, 0))
  | .any f => f u
  | .box k => ∃ g cs, u = .pointer (some ⟨g, 0, none⟩) ∧ base ≤ g ∧ w.heap[g]? = some (.cells cs T (0, 0)) ∧ cs.size = k
theorem SpecP.kept {T : TypeId} {base : Nat} {u : Value} {w w' : World} : ∀ {s : SpecP}, s.ok T base u w → RelT T w w' → s.ok T base u w'
  | .val v, h, _ => h
  | .row cs e n, ⟨h0, g, h1, h2, h3⟩, hb => by
    obtain ⟨cs', k1, _, k3⟩ := hb.2 g cs e (0, 0) h3
    exact ⟨h0, g, h1, h2, by rw [k1, k3 h0]⟩
  | .any f, h, _ => h
  | .box k, ⟨g, cs, h1, h2, h3, h4⟩, hb => by
    obtain ⟨cs', k1, k2, _⟩ := hb.2 g cs T (0, 0) h3
    exact ⟨g, cs', h1, h2, k1, k2.trans h4⟩
def knownP (l : List Oper) (ss : List SpecP) (a0 : Act) (o : Oper) (k : Nat) : Option SpecP :=
  match (List.range l.length).find? (fun j => (l[j]?).bind (·.dst) == some k) with
  | some j => if o.after.any (fun e => Region.binds .any e && e.on == j) then ss[j]? else none
  | none => some (.val (a0.tmps.getD k undef))
/-- What is to be shown of one operation. -/
def StepP (P : Program) (T : TypeId) (l : List Oper) (ss : List SpecP) (a0 : Act) (base : Nat) (w0 : World) (Q : Exit → Act → World → Prop) (o : Oper) (s : SpecP) : Prop :=
  o.guard = none ∧ ∀ (a : Act) (w : World), Below w0.heap.size w0 w → (∀ k s', knownP l ss a0 o k = some s' → s'.ok T base (a.tmps.getD k undef) w) →
    ∀ K : Value → World → Prop, (∀ v w', s.ok T base v w' → RelB T w0 w w' → K v w') → o.wp P a w (fun a' w' => ∃ v, a' = a.put o.dst v ∧ K v w') Q
def allP (R : Oper → SpecP → Prop) : List Oper → List SpecP → Prop
  | o :: l, s :: ss => R o s ∧ allP R l ss
  | _, _ => True
theorem allP_get {R : Oper → SpecP → Prop} : ∀ {l : List Oper} {ss : List SpecP}, allP R l ss → ∀ {i : Nat} {o : Oper} {s : SpecP}, l[i]? = some o → ss[i]? = some s → R o s
  | [], _, _, i, o, s, h, _ => by simp at h
  | o :: l, [], _, i, o', s', _, h => by simp at h
  | o :: l, s :: ss, h, 0, o', s', h1, h2 => by
    obtain rfl := Option.some.inj h1
    obtain rfl := Option.some.inj h2
    exact h.1
  | o :: l, s :: ss, h, i + 1, o', s', h1, h2 => allP_get h.2 (i := i) (by simpa using h1) (by simpa using h2)
/-- What is to be shown behind the region. -/
def putP (base : Nat) (R : Act → Prop) (d : Tmp) (a : Act) : SpecP → Prop
  | .val v => R (a.put (some d) v)
  | .row cs e n => ∀ g, base ≤ g → R (a.put (some d) (.slice (some ⟨g, 0, none⟩) n n))
  | .any f => ∀ v, f v → R (a.put (some d) v)
  | .box k => ∀ g, base ≤ g → R (a.put (some d) (.pointer (some ⟨g, 0, none⟩)))
theorem putP_use {T : TypeId} {base : Nat} {R : Act → Prop} {d : Tmp} {a : Act} {v : Value} {w : World} : ∀ {s : SpecP}, putP base R d a s → s.ok T base v w → R (a.put (some d) v)
  | .val _, h, rfl => h
  | .row _ _ _, h, ⟨_, g, h1, h2, _⟩ => by subst h1; exact h g h2
  | .any _, h, hf => h v hf
  | .box _, h, ⟨g, cs, h1, h2, _⟩ => by subst h1; exact h g h2
def endP (base : Nat) (R : Act → Prop) : List Oper → List SpecP → Act → Prop
  | o :: l, s :: ss, a => match o.dst with
    | none => endP base R l ss a
    | some d => putP base (endP base R l ss) d a s
  | _, _, a => R a
/-- Slots: each operation writes one of its own, or none. -/
def dstsP : List Oper → Nat → Bool
  | [], _ => true
  | o :: l, n => (match o.dst with
    | some d => decide (d < n) && l.all (fun o' => o'.dst != some d)
    | none => true) && dstsP l n
theorem dstsP_get : ∀ {l : List Oper} {n : Nat}, dstsP l n = true → ∀ {i : Nat} {o : Oper} {d : Tmp}, l[i]? = some o → o.dst = some d → d < n ∧ ∀ (j : Nat) (o' : Oper), l[j]? = some o' → o'.dst = some d → j = i
  | [], n, h, i, o, d, h1, _ => by simp at h1
  | o0 :: l, n, h, i, o, d, h1, hd => by
    rw [dstsP, Bool.and_eq_true] at h
    obtain ⟨ha, hb⟩ := h
    cases i with
    | zero =>
      obtain rfl := Option.some.inj h1
      rw [hd] at ha
      simp only [Bool.and_eq_true, decide_eq_true_eq, List.all_eq_true] at ha
      obtain ⟨h2, h3⟩ := ha
      refine ⟨h2, fun j o' h4 h5 => ?_⟩
      cases j with
      | zero => rfl
      | succ j =>
        have hm := List.mem_of_getElem? (show l[j]? = some o' by simpa using h4)
        have := h3 o' hm
        rw [h5] at this
        simp at this
    | succ i =>
      have h1' : l[i]? = some o := by simpa using h1
      obtain ⟨e2, e3⟩ := dstsP_get hb h1' hd
      refine ⟨e2, fun j o' h4 h5 => ?_⟩
      cases j with
      | zero =>
        obtain rfl := Option.some.inj h4
        rw [h5] at ha
        simp only [Bool.and_eq_true, decide_eq_true_eq, List.all_eq_true] at ha
        have := ha.2 o (List.mem_of_getElem? h1')
        rw [hd] at this
        simp at this
      | succ j => rw [e3 j o' (by simpa using h4) h5]
/-- Between two operations. -/
structure InvP (T : TypeId) (l : List Oper) (ss : List SpecP) (a0 : Act) (base : Nat) (w0 : World) (listed : Array Bool) (a : Act) (w : World) : Prop where
  ls : listed.size = l.length
  df : a.defers = a0.defers
  sz : a.tmps.size = a0.tmps.size
  old : ∀ k, (∀ (i : Nat) (o : Oper), l[i]? = some o → o.dst = some k → listed.getD i false = false) → a.tmps[k]? = a0.tmps[k]?
  done : ∀ (i : Nat) (o : Oper) (s : SpecP) (d : Nat), l[i]? = some o → ss[i]? = some s → o.dst = some d → listed.getD i false = true → s.ok T base (a.tmps.getD d undef) w
  bel : Below w0.heap.size w0 w
theorem endP_use {T : TypeId} {base : Nat} {R : Act → Prop} {w : World} : ∀ {l : List Oper} {ss : List SpecP} {a1 a : Act}, endP base R l ss a1 → ss.length = l.length → dstsP l a.tmps.size = true → a.defers = a1.defers → a.tmps.size = a1.tmps.size →
    (∀ k, (∀ (i : Nat) (o : Oper), l[i]? = some o → o.dst ≠ some k) → a.tmps[k]? = a1.tmps[k]?) →
    (∀ (i : Nat) (o : Oper) (s : SpecP) (d : Nat), l[i]? = some o → ss[i]? = some s → o.dst = some d → s.ok T base (a.tmps.getD d undef) w) → R a
  | [], ss, a1, a, h, hl, hd, h1, h2, h3, h4 => by
    have e : a = a1 := by
      obtain ⟨t, d⟩ := a
      obtain ⟨t1, d1⟩ := a1
      simp only at h1 h2 h3
      subst h1
      congr 1
      exact Array.ext_getElem? fun k => h3 k (fun i o h => by simp at h)
    rw [e]
    cases ss with
    | nil => exact h
    | cons s r => simp at hl
  | o :: l, [], a1, a, h, hl, hd, h1, h2, h3, h4 => by simp at hl
  | o :: l, s :: ss, a1, a, h, hl, hd, h1, h2, h3, h4 => by
    have hdl : dstsP l a.tmps.size = true := by rw [dstsP, Bool.and_eq_true] at hd; exact hd.2
    cases hd0 : o.dst with
    | none =>
      rw [endP, hd0] at h
      refine endP_use (T := T) (w := w) h (by simpa using hl) hdl h1 h2 (fun k hk => h3 k (fun i o' hi hh' => ?_)) (fun i o' s' d' hi hs' hd' => h4 (i + 1) o' s' d' (by simpa using hi) (by simpa using hs') hd')
      cases i with
      | zero =>
        obtain rfl := Option.some.inj hi
        rw [hd0] at hh'
        cases hh'
      | succ i => exact hk i o' (by simpa using hi) hh'
    | some d =>
      obtain ⟨hdn, huniq⟩ := dstsP_get hd (i := 0) rfl hd0
      have hok := h4 0 o s d rfl rfl hd0
      rw [endP, hd0] at h
      obtain ⟨v, hv⟩ : ∃ v, a.tmps.getD d undef = v := ⟨_, rfl⟩
      rw [hv] at hok
      have hh := putP_use h hok
      refine endP_use (T := T) (w := w) hh (by simpa using hl) hdl h1 ?_ ?_ ?_
      · rw [h2]; unfold Act.put; simp
      · intro k hk
        unfold Act.put
        simp only
        by_cases hkd : k = d
        · subst hkd
          rw [Array.getElem?_setIfInBounds, if_pos rfl, if_pos (by rw [← h2]; exact hdn)]
          rw [← hv, Array.getD_eq_getD_getElem?, Array.getElem?_eq_getElem hdn]
          rfl
        · rw [Array.getElem?_setIfInBounds, if_neg (fun e => hkd e.symm)]
          refine h3 k (fun i o' hi hh' => ?_)
          cases i with
          | zero =>
            obtain rfl := Option.some.inj hi
            rw [hd0] at hh'
            exact hkd (Option.some.inj hh').symm
          | succ i => exact hk i o' (by simpa using hi) hh'
      · intro i o' s' d' hi hs' hd'
        exact h4 (i + 1) o' s' d' (by simpa using hi) (by simpa using hs') hd'
theorem kvalP {T : TypeId} {l : List Oper} {ss : List SpecP} {a0 a : Act} {o : Oper} {base : Nat} {w : World} (hk : ∀ k s', knownP l ss a0 o k = some s' → s'.ok T base (a.tmps.getD k undef) w) (k : Nat) (v : Value) (h : knownP l ss a0 o k = some (.val v)) : a.tmps[k]?.getD undef = v := by
  have := hk k _ h
  rw [Array.getD_eq_getD_getElem?] at this
  exact this
theorem krowP {T : TypeId} {l : List Oper} {ss : List SpecP} {a0 a : Act} {o : Oper} {base : Nat} {w : World} (hk : ∀ k s', knownP l ss a0 o k = some s' → s'.ok T base (a.tmps.getD k undef) w) (k : Nat) (cs : Array Value) (e : TypeId) (n : Nat) (h : knownP l ss a0 o k = some (.row cs e n)) : ∃ g, a.tmps[k]?.getD undef = .slice (some ⟨g, 0, none⟩) n n ∧ base ≤ g ∧ w.heap[g]? = some (.cells cs e (0, 0)) := by
  have := hk k _ h
  rw [Array.getD_eq_getD_getElem?] at this
  exact this.2
theorem kanyP {T : TypeId} {l : List Oper} {ss : List SpecP} {a0 a : Act} {o : Oper} {base : Nat} {w : World} (hk : ∀ k s', knownP l ss a0 o k = some s' → s'.ok T base (a.tmps.getD k undef) w) (k : Nat) (f : Value → Prop) (h : knownP l ss a0 o k = some (.any f)) : f (a.tmps[k]?.getD undef) := by
  have := hk k _ h
  rw [Array.getD_eq_getD_getElem?] at this
  exact this
theorem kboxP {T : TypeId} {l : List Oper} {ss : List SpecP} {a0 a : Act} {o : Oper} {base : Nat} {w : World} (hk : ∀ k s', knownP l ss a0 o k = some s' → s'.ok T base (a.tmps.getD k undef) w) (k n : Nat) (h : knownP l ss a0 o k = some (.box n)) : ∃ g cs, a.tmps[k]?.getD undef = .pointer (some ⟨g, 0, none⟩) ∧ base ≤ g ∧ w.heap[g]? = some (.cells cs T (0, 0)) ∧ cs.size = n := by
  have := hk k _ h
  rw [Array.getD_eq_getD_getElem?] at this
  exact this
theorem specsP_any {P : Program} {T : TypeId} {Q : Exit → Act → World → Prop} {l : List Oper} {ss : List SpecP} {a0 : Act} {base : Nat} {w0 : World} (hlen : ss.length = l.length) (hdst : dstsP l a0.tmps.size = true) (hback : backB l 0 = true)
    (hstep : allP (StepP P T l ss a0 base w0 Q) l ss) (hend : ∀ w', Below w0.heap.size w0 w' → endP base (fun a => Q .normal a w') l ss a0) :
    ∀ (fuel : Nat) (listed : Array Bool) (a : Act) (w : World), InvP T l ss a0 base w0 listed a w → listed.toList.countP (fun b => !b) ≤ fuel → wpAny P .any l.toArray Q fuel listed a w := by
  have hfin : ∀ (listed : Array Bool) (a : Act) (w : World), InvP T l ss a0 base w0 listed a w → Region.ready .any l.toArray listed = [] → Q .normal a w := by
    intro listed a w hI hr
    have hall : ∀ i, i < l.length → listed.getD i false = true := by
      intro i
      induction i using Nat.strongRecOn with
      | _ i ih =>
        intro hi
        refine Decidable.byContradiction fun hn => ?_
        have hn' : listed.getD i true = false := by
          rw [Array.getD_eq_getD_getElem?, Array.getElem?_eq_getElem (by rw [hI.ls]; exact hi)] at hn ⊢
          simpa using hn
        have hmem : i ∈ Region.ready .any l.toArray listed := by
          unfold Region.ready
          rw [List.mem_filter]
          refine ⟨by simp [hi], ?_⟩
          rw [hn']
          have ho : l.toArray[i]? = some l[i] := by simp [hi]
          rw [ho]
          simp only [Bool.not_false, Bool.true_and, Option.map_some, Option.getD_some]
          rw [Array.all_eq_true']
          intro e he
          cases hb : Region.binds .any e with
          | false => rfl
          | true =>
            have h1 := backB_get hback (show l[i]? = some l[i] from List.getElem?_eq_getElem hi) e he hb
            rw [Nat.zero_add] at h1
            rw [ih e.on h1 (by omega)]
            rfl
        rw [hr] at hmem
        cases hmem
    refine endP_use (T := T) (w := w) (hend w hI.bel) hlen (by rw [hI.sz]; exact hdst) hI.df hI.sz (fun k hk => hI.old k (fun i o hi hd => absurd hd (hk i o hi))) (fun i o s d hi hs hd => hI.done i o s d hi hs hd (hall i ?_))
    exact (List.getElem?_eq_some_iff.1 hi).1
  intro fuel
  induction fuel with
  | zero =>
    intro listed a w hI hc
    have hr : Region.ready .any l.toArray listed = [] := by
      unfold Region.ready
      rw [List.filter_eq_nil_iff]
      intro i hi
      have hil : i < listed.size := by rw [hI.ls]; simpa using hi
      have h0 : listed.toList.countP (fun b => !b) = 0 := by omega
      rw [List.countP_eq_zero] at h0
      have := h0 listed[i] (by simp)
      have e : listed.getD i true = true := by
        rw [Array.getD_eq_getD_getElem?, Array.getElem?_eq_getElem hil]
        simpa using this
      rw [e]
      simp
    exact ⟨hr, hfin listed a w hI hr⟩
  | succ fuel ih =>
    intro listed a w hI hc
    refine ⟨fun hr => hfin listed a w hI hr, fun i hi => ?_⟩
    unfold Region.ready at hi
    rw [List.mem_filter] at hi
    obtain ⟨hi1, hi2⟩ := hi
    have hil : i < l.length := by simpa using hi1
    rw [Bool.and_eq_true] at hi2
    obtain ⟨hun, hdeps⟩ := hi2
    have ho : l[i]? = some l[i] := List.getElem?_eq_getElem hil
    have ho' : l.toArray[i]? = some l[i] := by simp [hil]
    rw [ho'] at hdeps
    simp only [Option.map_some, Option.getD_some] at hdeps
    rw [Array.all_eq_true'] at hdeps
    have hs : ss[i]? = some (ss[i]'(by omega)) := List.getElem?_eq_getElem (by omega)
    obtain ⟨hgd, hst⟩ := allP_get hstep ho hs
    have hlz : i < listed.size := by rw [hI.ls]; exact hil
    have hlf : listed.toList[i]? = some false := by
      rw [Array.getD_eq_getD_getElem?, Array.getElem?_eq_getElem hlz] at hun
      rw [Array.getElem?_toList, Array.getElem?_eq_getElem hlz]
      simpa using hun
    unfold wpOp
    rw [ho']
    simp only
    rw [if_pos (by simp [Region.wanted, hgd])]
    left
    refine Oper.wp_mono ?_ (hst a w hI.bel ?_ (fun v w' => (ss[i]'(by omega)).ok T base v w' ∧ RelB T w0 w w') (fun v w' h1 h2 => ⟨h1, h2⟩))
    · rintro a' w' ⟨v, rfl, hok, hb⟩
      refine ih _ _ _ ⟨?_, ?_, ?_, ?_, ?_, hb.2 hI.bel⟩ ?_
      · simp [hI.ls]
      · rw [← hI.df]; unfold Act.put; split <;> rfl
      · rw [← hI.sz]; unfold Act.put; split <;> simp
      · intro k hk
        have hkd : l[i].dst ≠ some k := fun e => by
          have := hk i _ ho e
          rw [Array.getD_eq_getD_getElem?, Array.getElem?_setIfInBounds, if_pos rfl, if_pos hlz] at this
          simp at this
        have hput : (a.put l[i].dst v).tmps[k]? = a.tmps[k]? := by
          unfold Act.put
          split
          · next d hd =>
            rw [Array.getElem?_setIfInBounds, if_neg (fun e => hkd (by rw [hd, e]))]
          · rfl
        rw [hput]
        refine hI.old k (fun j o' hj hdj => ?_)
        have h3 := hk j o' hj hdj
        by_cases hji : j = i
        · subst hji
          rw [Array.getD_eq_getD_getElem?, Array.getElem?_setIfInBounds, if_pos rfl, if_pos hlz] at h3
          simp at h3
        · rw [Array.getD_eq_getD_getElem?, Array.getElem?_setIfInBounds, if_neg (fun e => hji e.symm), ← Array.getD_eq_getD_getElem?] at h3
          exact h3
      · intro j o' s' d' hj hs' hd' hlj
        by_cases hji : j = i
        · subst hji
          obtain rfl := Option.some.inj (ho.symm.trans hj)
          obtain rfl := Option.some.inj (hs.symm.trans hs')
          obtain ⟨hdn, _⟩ := dstsP_get hdst ho hd'
          unfold Act.put
          rw [hd']
          simp only
          rw [Array.getD_eq_getD_getElem?, Array.getElem?_setIfInBounds, if_pos rfl, if_pos (by rw [hI.sz]; exact hdn)]
          exact hok
        · obtain ⟨_, huniq⟩ := dstsP_get hdst hj hd'
          have hdd : l[i].dst ≠ some d' := fun e => hji (huniq i _ ho e).symm
          have hput : (a.put l[i].dst v).tmps.getD d' undef = a.tmps.getD d' undef := by
            unfold Act.put
            split
            · next d hd =>
              rw [Array.getD_eq_getD_getElem?, Array.getElem?_setIfInBounds, if_neg (fun e => hdd (by rw [hd, e])), ← Array.getD_eq_getD_getElem?]
            · rfl
          rw [hput]
          rw [Array.getD_eq_getD_getElem?, Array.getElem?_setIfInBounds, if_neg (fun e => hji e.symm), ← Array.getD_eq_getD_getElem?] at hlj
          exact SpecP.kept (hI.done j o' s' d' hj hs' hd' hlj) hb.1
      · have hcs := cnt_set _ _ hlf
        rw [Array.toList_setIfInBounds]
        omega
    · intro k s' hk
      unfold knownP at hk
      cases hf : (List.range l.length).find? (fun j => (l[j]?).bind (·.dst) == some k) with
      | none =>
        rw [hf] at hk
        obtain rfl := Option.some.inj hk
        show a.tmps.getD k undef = a0.tmps.getD k undef
        rw [Array.getD_eq_getD_getElem?, Array.getD_eq_getD_getElem?]
        rw [hI.old k (fun j o' hj hdj => ?_)]
        exfalso
        rw [List.find?_eq_none] at hf
        have hjl := (List.getElem?_eq_some_iff.1 hj).1
        have := hf j (by simp [hjl])
        rw [hj] at this
        simp [hdj] at this
      | some j =>
        rw [hf] at hk
        simp only at hk
        have h5 := List.find?_some hf
        have hjl : j < l.length := by have := List.mem_of_find?_eq_some hf; simpa using this
        have hj : l[j]? = some l[j] := List.getElem?_eq_getElem hjl
        rw [hj] at h5
        have hdj : l[j].dst = some k := by simpa using h5
        split at hk
        · rename_i hany
          rw [Array.any_eq_true'] at hany
          obtain ⟨e, he, hb⟩ := hany
          rw [Bool.and_eq_true, beq_iff_eq] at hb
          have h6 := hdeps e he
          rw [hb.1, hb.2] at h6
          exact hI.done j _ s' k hj hk hdj (by simpa using h6)
        · cases hk
/-- THE LAW. -/
theorem wp_region_specs_row {P : Program} (T : TypeId) {id : Nat} {Q : Exit → Act → World → Prop} {a0 : Act} {w : World} {l : List Oper} (ss : List SpecP) (hm : P.follows .mixedOrders = true) (hlen : ss.length = l.length) (hdst : dstsP l a0.tmps.size = true) (hback : backB l 0 = true)
    (hstep : allP (StepP P T l ss a0 w.heap.size w Q) l ss) (hend : ∀ w', Below w.heap.size w w' → endP w.heap.size (fun a => Q .normal a w') l ss a0) : (Code.region id l.toArray true).wp P Q a0 w := by
  refine wp_region_any hm ?_
  have hbw : Below w.heap.size w { w with drawn := w.drawn + 1 } := ⟨rfl, rfl, rfl, Nat.le_refl _, fun _ _ => rfl⟩
  refine specsP_any (w0 := w) hlen hdst hback hstep hend _ _ _ _ ⟨by simp, rfl, rfl, fun _ _ => rfl, fun i o s d hi hs hd hl => ?_, hbw⟩ ?_
  · exfalso
    rw [Array.getD_eq_getD_getElem?, Array.getElem?_replicate] at hl
    split at hl <;> simp at hl
  · have := List.countP_le_length (p := fun b => !b) (l := (Array.replicate l.toArray.size false).toList)
    simpa using this
end Go.Proofs.Ytafpmlikocchpaa
