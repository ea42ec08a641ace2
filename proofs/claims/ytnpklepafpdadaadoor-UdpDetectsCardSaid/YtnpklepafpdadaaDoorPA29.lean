/- Contracts of the functions, part 29: UdpPSm, Specs. -/
import Derived.Deep.Cut
import Derived.Test.YtnpklepafpdadaaDoorPA11
import Derived.Test.YtnpklepafpdadaaDoorPA19
import Derived.Test.YtnpklepafpdadaaDoorPA22
import Derived.Test.YtnpklepafpdadaaDoorPA23
import Derived.Test.YtnpklepafpdadaaDoorPA24
import Derived.Test.YtnpklepafpdadaaDoorPA25
import Derived.Test.YtnpklepafpdadaaDoorPA28
/- Contracts of the program of layer 13: isPort, headerBytes, fit. -/
namespace Go.Proofs.YtnpklepafpdadaaDoor
open Go.ChangeShapes Go.WideShapes Go.ChangeAt Go.RowKit
set_option linter.unusedVariables false

/-- What isPort says. -/
def portB (n : Int) : Bool := decide (0 ≤ n ∧ n ≤ 65535)
set_option maxHeartbeats 4000000 in
theorem pport13_any (n : Int) (w : World) : Calls Tryd.prog 18 #[.int .i64 n] w fun e w' => e = .returned (.bool (portB n)) ∧ w = w' := by
  by_cases h0 : 0 ≤ n
  · have d0 : decide ((0 : Int) ≤ n) = true := by simp; omega
    by_cases h1 : n ≤ 65535
    · have d1 : decide (n ≤ (65535 : Int)) = true := by simp; omega
      have hR := Lib.hid (show portB n = true by unfold portB; exact decide_eq_true ⟨h0, h1⟩)
      go_enter Tryd.func18, Tryd.ntmps18
      go_wp2_with fail
      go_ret
      exact ⟨by rw [hR.out]; rfl, rfl⟩
    · have d1 : decide (n ≤ (65535 : Int)) = false := by simp; omega
      have hR := Lib.hid (show portB n = false by unfold portB; exact decide_eq_false (fun h => h1 h.2))
      go_enter Tryd.func18, Tryd.ntmps18
      go_wp2_with fail
      go_ret
      exact ⟨by rw [hR.out]; rfl, rfl⟩
  · have d0 : decide ((0 : Int) ≤ n) = false := by simp; omega
    have hR := Lib.hid (show portB n = false by unfold portB; exact decide_eq_false (fun h => h0 h.1))
    go_enter Tryd.func18, Tryd.ntmps18
    go_wp2_with fail
    go_ret
    exact ⟨by rw [hR.out]; rfl, rfl⟩
/-- The bytes of a header. -/
def hbU (X Y Z C : Nat) : List UInt8 := beL 2 X ++ (beL 2 Y ++ (beL 2 Z ++ beL 2 C))
theorem hbU_len (X Y Z C : Nat) : (hbU X Y Z C).length = 8 := by unfold hbU; simp [beL_len]
set_option maxHeartbeats 8000000 in
set_option maxRecDepth 100000 in
theorem phbytes13_any (X Y Z C : Nat) (w : World) (hX : X < 65536) (hY : Y < 65536) (hZ : Z < 65536) (hC : C < 65536) :
    Calls Tryd.prog 19 #[.agg #[.int .i64 (X : Int), .int .i64 (Y : Int), .int .i64 (Z : Int), .int .i64 (C : Int)]] w fun e w' => e = .returned (.string (str (hbU X Y Z C))) ∧ Below w.heap.size w w' := by
  have hT1 : ∃ T, T = str (beL 2 X) := ⟨_, rfl⟩
  obtain ⟨T1, hT1⟩ := hT1
  have s1 : T1.size = 2 := by rw [hT1, str_size, beL_len]
  have HP1 := Lib.hid (fun (W : World) => show Calls Tryd.prog 29 #[.int .i64 (X : Int), .int .i64 2] W fun e w' => e = .returned (.string T1) ∧ Below W.heap.size W w' from by rw [hT1]; exact pputB_any 2 X (X : Int) 2 rfl rfl (by decide) (by decide) (by omega) (by omega) W)
  have hT2 : ∃ T, T = str (beL 2 Y) := ⟨_, rfl⟩
  obtain ⟨T2, hT2⟩ := hT2
  have s2 : T2.size = 2 := by rw [hT2, str_size, beL_len]
  have HP2 := Lib.hid (fun (W : World) => show Calls Tryd.prog 29 #[.int .i64 (Y : Int), .int .i64 2] W fun e w' => e = .returned (.string T2) ∧ Below W.heap.size W w' from by rw [hT2]; exact pputB_any 2 Y (Y : Int) 2 rfl rfl (by decide) (by decide) (by omega) (by omega) W)
  have hT3 : ∃ T, T = str (beL 2 Z) := ⟨_, rfl⟩
  obtain ⟨T3, hT3⟩ := hT3
  have s3 : T3.size = 2 := by rw [hT3, str_size, beL_len]
  have HP3 := Lib.hid (fun (W : World) => show Calls Tryd.prog 29 #[.int .i64 (Z : Int), .int .i64 2] W fun e w' => e = .returned (.string T3) ∧ Below W.heap.size W w' from by rw [hT3]; exact pputB_any 2 Z (Z : Int) 2 rfl rfl (by decide) (by decide) (by omega) (by omega) W)
  have hT4 : ∃ T, T = str (beL 2 C) := ⟨_, rfl⟩
  obtain ⟨T4, hT4⟩ := hT4
  have s4 : T4.size = 2 := by rw [hT4, str_size, beL_len]
  have HP4 := Lib.hid (fun (W : World) => show Calls Tryd.prog 29 #[.int .i64 (C : Int), .int .i64 2] W fun e w' => e = .returned (.string T4) ∧ Below W.heap.size W w' from by rw [hT4]; exact pputB_any 2 C (C : Int) 2 rfl rfl (by decide) (by decide) (by omega) (by omega) W)
  have HF := Lib.hid (show T1 ++ T2 ++ T3 ++ T4 = str (hbU X Y Z C) by rw [hT1, hT2, hT3, hT4]; unfold hbU; simp only [str_append, List.append_assoc])
  clear hT1 hT2 hT3 hT4 hX hY hZ hC
  have r0 : (9223372036854775807 < T1.size + T2.size) = False := by simp only [eq_iff_iff, iff_false]; omega
  have r1 : (9223372036854775807 < T1.size + T2.size + T3.size) = False := by simp only [eq_iff_iff, iff_false]; omega
  have r1a : (9223372036854775807 < (T1 ++ T2).size + T3.size) = False := by simp only [eq_iff_iff, iff_false, ByteArray.size_append]; omega
  have r2 : (9223372036854775807 < T1.size + T2.size + T3.size + T4.size) = False := by simp only [eq_iff_iff, iff_false]; omega
  have r2a : (9223372036854775807 < (T1 ++ T2 ++ T3).size + T4.size) = False := by simp only [eq_iff_iff, iff_false, ByteArray.size_append]; omega
  obtain ⟨W1, hW1⟩ : ∃ W, W = w.alloc (.cells #[.int .i64 (X : Int), .int .i64 (Y : Int), .int .i64 (Z : Int), .int .i64 (C : Int)] 43) := ⟨_, rfl⟩
  obtain ⟨g, hg⟩ : ∃ g, g = w.heap.size := ⟨_, rfl⟩
  have HX := Lib.hid (show Cells W1 g 43 #[.int .i64 (X : Int), .int .i64 (Y : Int), .int .i64 (Z : Int), .int .i64 (C : Int)] by rw [hW1, hg]; exact heap_alloc_new w _)
  have HB1 := Lib.hid (show Below w.heap.size w W1 by rw [hW1]; exact below_alloc6 w _)
  have HV := Lib.hid (fun (W : World) (hb : Below W1.heap.size W1 W) (i : Nat) (v : Value) (hv : (#[.int .i64 (X : Int), .int .i64 (Y : Int), .int .i64 (Z : Int), .int .i64 (C : Int)] : Array Value)[i]? = some v) => show W.cell? ⟨g, i, none⟩ = some v from box_cell HX.out hb i v hv)
  go_enter Tryd.func19, Tryd.ntmps19
  go_upto_region 1 with fail
  rw [← hW1, ← hg]
  clear hW1 hg
  refine wp_region_pick (fun w' => Below W1.heap.size W1 w') (by kernel_rfl) (by kernel_rfl) (Below.refl _ _) ⟨rfl, rfl, rfl, Nat.le_refl _, fun _ _ => rfl⟩ (fun pw hp hq => ?_)
  have y0 : ∀ u, (pw u).cell? ⟨g, 0, none⟩ = some (Value.int .i64 (X : Int)) := fun u => HV.out _ (hp u) 0 _ rfl
  have y1 : ∀ u, (pw u).cell? ⟨g, 1, none⟩ = some (Value.int .i64 (Y : Int)) := fun u => HV.out _ (hp u) 1 _ rfl
  have y2 : ∀ u, (pw u).cell? ⟨g, 2, none⟩ = some (Value.int .i64 (Z : Int)) := fun u => HV.out _ (hp u) 2 _ rfl
  have y3 : ∀ u, (pw u).cell? ⟨g, 3, none⟩ = some (Value.int .i64 (C : Int)) := fun u => HV.out _ (hp u) 3 _ rfl
  have HP := Lib.hid hp
  have HQ := Lib.hid hq
  clear hp hq
  repeat (go_big_quiet_step ((first | with_reducible exact Calls.pick_of HQ.out (fun W' hb => (HP.out _).trans (hb.mono (HP.out _).size)) (HP1.out _) | with_reducible exact Calls.pick_of HQ.out (fun W' hb => (HP.out _).trans (hb.mono (HP.out _).size)) (HP2.out _) | with_reducible exact Calls.pick_of HQ.out (fun W' hb => (HP.out _).trans (hb.mono (HP.out _).size)) (HP3.out _) | with_reducible exact Calls.pick_of HQ.out (fun W' hb => (HP.out _).trans (hb.mono (HP.out _).size)) (HP4.out _))))
  refine wpQuiet_nil ?_
  rintro _ ⟨u, rfl⟩
  have HB2 := Lib.hid (HB1.out.trans ((HP.out u).mono HB1.out.size))
  generalize pw u = w6 at *
  clear HP HQ y0 y1 y2 y3
  go_wp2_with fail
  go_ret
  exact ⟨by rw [← HF.out]; rfl, HB2.out⟩
/-- The program's pseudo header, of any addresses. -/
theorem ppseudo13_any (a b : AdR) (z : Nat) (ha : fits13 a) (hb : fits13 b) (hz : z ≤ 65535) (w : World) (hsh : Sh w) :
    Calls Tryd.prog 21 #[.agg #[.bool a.v6, .int .u64 (a.hi : Int), .int .u64 (a.lo : Int)], .agg #[.bool b.v6, .int .u64 (b.hi : Int), .int .u64 (b.lo : Int)], .int .i64 17, .int .i64 (z : Int)] w fun e w' => e = .returned (.string (str (if fitU a b then psU a b 17 z else []))) ∧ Below w.heap.size w w' := by
  by_cases hf : fitU a b
  · rw [if_pos hf]
    exact ppseudoU a b z hf ha hb hz w hsh
  · rw [if_neg hf]
    cases hv1 : vadr a.v6 a.hi a.lo with
    | false => exact pseudo_bad1 _ _ _ _ _ _ _ _ w hv1
    | true =>
      cases hv2 : vadr b.v6 b.hi b.lo with
      | false => exact pseudo_bad2 _ _ _ _ _ _ _ _ w hv1 hv2
      | true =>
        refine pseudo_bad3 _ _ _ _ _ _ _ _ w hv1 hv2 ?_
        rw [beq_eq_false_iff_ne]
        exact fun e => hf ⟨(vadr_fine a).1 hv1, (vadr_fine b).1 hv2, e⟩
theorem psU_ne (a b : AdR) (z : Nat) : (str (psU a b 17 z)).toList.isEmpty = false := by
  rw [str_isEmpty]
  have h : 0 < (psU a b 17 z).length := by
    unfold psU
    simp only [List.length_append]
    split <;> simp [beL_len] <;> omega
  cases hq : psU a b 17 z with
  | nil => rw [hq] at h; simp at h
  | cons x r => rfl
set_option maxHeartbeats 4000000 in
theorem pfit13_any (v1 v2 : Bool) (h1 l1 h2 l2 : Nat) (w : World) (ha : fits13 ⟨v1, h1, l1⟩) (hb : fits13 ⟨v2, h2, l2⟩) (hsh : Sh w) :
    Calls Tryd.prog 12 #[.agg #[.bool v1, .int .u64 (h1 : Int), .int .u64 (l1 : Int)], .agg #[.bool v2, .int .u64 (h2 : Int), .int .u64 (l2 : Int)]] w fun e w' => e = .returned (.bool (decide (fitU ⟨v1, h1, l1⟩ ⟨v2, h2, l2⟩))) ∧ Below w.heap.size w w' := by
  obtain ⟨D, hD⟩ : ∃ D, D = str (if fitU ⟨v1, h1, l1⟩ ⟨v2, h2, l2⟩ then psU ⟨v1, h1, l1⟩ ⟨v2, h2, l2⟩ 17 8 else []) := ⟨_, rfl⟩
  obtain ⟨V, hV⟩ : ∃ V, V = decide (fitU ⟨v1, h1, l1⟩ ⟨v2, h2, l2⟩) := ⟨_, rfl⟩
  have HPS := Lib.hid (fun (W : World) (h : Sh W) => show Calls Tryd.prog 21 #[.agg #[.bool v1, .int .u64 (h1 : Int), .int .u64 (l1 : Int)], .agg #[.bool v2, .int .u64 (h2 : Int), .int .u64 (l2 : Int)], .int .i64 17, .int .i64 8] W fun e w' => e = .returned (.string D) ∧ Below W.heap.size W w' from by rw [hD]; exact ppseudo13_any ⟨v1, h1, l1⟩ ⟨v2, h2, l2⟩ 8 ha hb (by decide) W h)
  have hE : D.toList.isEmpty = !V := by
    rw [hD, hV]
    by_cases hf : fitU ⟨v1, h1, l1⟩ ⟨v2, h2, l2⟩
    · rw [if_pos hf, decide_eq_true hf, psU_ne]; rfl
    · rw [if_neg hf, decide_eq_false hf, str_isEmpty]; rfl
  rw [← hV]
  clear hD hV ha hb
  obtain ⟨W1, hW1⟩ : ∃ W0, W0 = (w.alloc (.cells #[.bool v1, .int .u64 h1, .int .u64 l1] 24)).alloc (.cells #[.bool v2, .int .u64 h2, .int .u64 l2] 24) := ⟨_, rfl⟩
  have hT0 : Two W1 w.heap.size v1 h1 l1 v2 h2 l2 := by rw [hW1]; exact two_new ..
  have HB0 := Lib.hid (show Below w.heap.size w W1 by rw [hW1]; exact ((Below.refl _ _).alloc (Nat.le_refl _) _).alloc (by simp) _)
  have HS0 := Lib.hid (show Sh W1 by rw [hW1]; exact (hsh.alloc _).alloc _)
  obtain ⟨q0, q1, q2, q3, q4, q5, q6⟩ := id hT0
  clear hsh hT0
  go_enter Tryd.func12, Tryd.ntmps12
  go_upto_region 1 with fail
  rw [← hW1]
  clear hW1
  cases V <;> (
    go_wp2_with fail
    refine (HPS.out _ HS0.out).mono ?_
    rintro e w2 ⟨rfl, hb2⟩
    go_wp2_with fail
    go_ret
    exact ⟨rfl, HB0.out.trans (hb2.mono HB0.out.size)⟩)
end Go.Proofs.YtnpklepafpdadaaDoor

/- A region that draws its order: ONE obligation for each operation, whatever the order: what each leaves in its slot is said beforehand (a value, or a new row of given cells); calls may make memory. Serves 'string([]byte{..}) + Put(..) + ..', where the orders are too many to be walked. -/
namespace Go.Proofs.YtnpklepafpdadaaDoor
open Go.ChangeShapes Go.WideShapes Go.ChangeAt Go.RowKit
set_option linter.unusedVariables false

/-- What an operation leaves in its slot. -/
inductive Spec where
  | val (v : Value)
  | row (cs : Array Value) (e : TypeId) (n : Nat)
def Spec.ok (base : Nat) (u : Value) (w : World) : Spec → Prop
  | .val v => u = v
  | .row cs e n => ∃ g, u = .slice (some ⟨g, 0, none⟩) n n ∧ base ≤ g ∧ w.heap[g]? = some (.cells cs e (0, 0))
theorem Spec.kept {base : Nat} {u : Value} {w w' : World} : ∀ {s : Spec}, s.ok base u w → Below w.heap.size w w' → s.ok base u w'
  | .val v, h, _ => h
  | .row cs e n, ⟨g, h1, h2, h3⟩, hb => ⟨g, h1, h2, (hb.block g (Array.getElem?_eq_some_iff.1 h3).1).trans h3⟩
def knownS (l : List Oper) (ss : List Spec) (a0 : Act) (o : Oper) (k : Nat) : Option Spec :=
  match (List.range l.length).find? (fun j => (l[j]?).bind (·.dst) == some k) with
  | some j => if o.after.any (fun e => Region.binds .any e && e.on == j) then ss[j]? else none
  | none => some (.val (a0.tmps.getD k undef))
/-- What is to be shown of one operation. -/
def StepS (P : Program) (l : List Oper) (ss : List Spec) (a0 : Act) (base : Nat) (w0 : World) (Q : Exit → Act → World → Prop) (o : Oper) (s : Spec) : Prop :=
  o.guard = none ∧ ∀ (a : Act) (w : World), Below w0.heap.size w0 w → (∀ k s', knownS l ss a0 o k = some s' → s'.ok base (a.tmps.getD k undef) w) →
    ∀ K : Value → World → Prop, (∀ v w', s.ok base v w' → Below w.heap.size w w' → K v w') → o.wp P a w (fun a' w' => ∃ v, a' = a.put o.dst v ∧ K v w') Q
def allS (R : Oper → Spec → Prop) : List Oper → List Spec → Prop
  | o :: l, s :: ss => R o s ∧ allS R l ss
  | _, _ => True
theorem allS_get {R : Oper → Spec → Prop} : ∀ {l : List Oper} {ss : List Spec}, allS R l ss → ∀ {i : Nat} {o : Oper} {s : Spec}, l[i]? = some o → ss[i]? = some s → R o s
  | [], _, _, i, o, s, h, _ => by simp at h
  | o :: l, [], _, i, o', s', _, h => by simp at h
  | o :: l, s :: ss, h, 0, o', s', h1, h2 => by
    obtain rfl := Option.some.inj h1
    obtain rfl := Option.some.inj h2
    exact h.1
  | o :: l, s :: ss, h, i + 1, o', s', h1, h2 => allS_get h.2 (i := i) (by simpa using h1) (by simpa using h2)
/-- What is to be shown behind the region. -/
def endS (base : Nat) (R : Act → Prop) : List Oper → List Spec → Act → Prop
  | o :: l, .val v :: ss, a => endS base R l ss (a.put o.dst v)
  | o :: l, .row cs e n :: ss, a => ∀ g, base ≤ g → endS base R l ss (a.put o.dst (.slice (some ⟨g, 0, none⟩) n n))
  | _, _, a => R a
/-- Slots: each operation writes one of its own. -/
def dstsB : List Oper → Nat → Bool
  | [], _ => true
  | o :: l, n => (match o.dst with
    | some d => decide (d < n) && l.all (fun o' => o'.dst != some d)
    | none => false) && dstsB l n
def backB : List Oper → Nat → Bool
  | [], _ => true
  | o :: l, i => o.after.all (fun e => !Region.binds .any e || decide (e.on < i)) && backB l (i + 1)
theorem dstsB_get : ∀ {l : List Oper} {n : Nat}, dstsB l n = true → ∀ {i : Nat} {o : Oper}, l[i]? = some o → ∃ d, o.dst = some d ∧ d < n ∧ ∀ (j : Nat) (o' : Oper), l[j]? = some o' → o'.dst = some d → j = i
  | [], n, h, i, o, h1 => by simp at h1
  | o0 :: l, n, h, i, o, h1 => by
    rw [dstsB, Bool.and_eq_true] at h
    obtain ⟨ha, hb⟩ := h
    cases hd : o0.dst with
    | none => rw [hd] at ha; cases ha
    | some d0 =>
      rw [hd] at ha
      simp only [Bool.and_eq_true, decide_eq_true_eq, List.all_eq_true] at ha
      obtain ⟨h2, h3⟩ := ha
      cases i with
      | zero =>
        obtain rfl := Option.some.inj h1
        refine ⟨d0, hd, h2, fun j o' h4 h5 => ?_⟩
        cases j with
        | zero => rfl
        | succ j =>
          have hm := List.mem_of_getElem? (show l[j]? = some o' by simpa using h4)
          have := h3 o' hm
          rw [h5] at this
          simp at this
      | succ i =>
        have h1' : l[i]? = some o := by simpa using h1
        obtain ⟨d, e1, e2, e3⟩ := dstsB_get hb h1'
        refine ⟨d, e1, e2, fun j o' h4 h5 => ?_⟩
        cases j with
        | zero =>
          obtain rfl := Option.some.inj h4
          rw [hd] at h5
          obtain rfl := Option.some.inj h5
          have := h3 o (List.mem_of_getElem? h1')
          rw [e1] at this
          simp at this
        | succ j => rw [e3 j o' (by simpa using h4) h5]
theorem backB_get : ∀ {l : List Oper} {k : Nat}, backB l k = true → ∀ {i : Nat} {o : Oper}, l[i]? = some o → ∀ e ∈ o.after, Region.binds .any e = true → e.on < k + i
  | [], k, h, i, o, h1 => by simp at h1
  | o0 :: l, k, h, i, o, h1 => by
    rw [backB, Bool.and_eq_true] at h
    cases i with
    | zero =>
      obtain rfl := Option.some.inj h1
      intro e he hb
      have := Array.all_eq_true'.1 h.1 e he
      rw [hb] at this
      simpa using this
    | succ i =>
      have := backB_get h.2 (i := i) (show l[i]? = some o by simpa using h1)
      intro e he hb
      have := this e he hb
      omega
theorem cnt_set : ∀ (l : List Bool) (i : Nat), l[i]? = some false → (l.set i true).countP (fun b => !b) + 1 = l.countP (fun b => !b)
  | [], i, h => by simp at h
  | b :: r, 0, h => by
    obtain rfl := Option.some.inj h
    simp
  | b :: r, i + 1, h => by
    have := cnt_set r i (by simpa using h)
    simp only [List.set_cons_succ, List.countP_cons]
    omega
/-- Between two operations. -/
structure InvS (l : List Oper) (ss : List Spec) (a0 : Act) (base : Nat) (w0 : World) (listed : Array Bool) (a : Act) (w : World) : Prop where
  ls : listed.size = l.length
  df : a.defers = a0.defers
  sz : a.tmps.size = a0.tmps.size
  old : ∀ k, (∀ (i : Nat) (o : Oper), l[i]? = some o → o.dst = some k → listed.getD i false = false) → a.tmps[k]? = a0.tmps[k]?
  done : ∀ (i : Nat) (o : Oper) (s : Spec) (d : Nat), l[i]? = some o → ss[i]? = some s → o.dst = some d → listed.getD i false = true → s.ok base (a.tmps.getD d undef) w
  bel : Below w0.heap.size w0 w
theorem endS_use {base : Nat} {R : Act → Prop} {w : World} : ∀ {l : List Oper} {ss : List Spec} {a1 a : Act}, endS base R l ss a1 → ss.length = l.length → dstsB l a.tmps.size = true → a.defers = a1.defers → a.tmps.size = a1.tmps.size →
    (∀ k, (∀ (i : Nat) (o : Oper), l[i]? = some o → o.dst ≠ some k) → a.tmps[k]? = a1.tmps[k]?) →
    (∀ (i : Nat) (o : Oper) (s : Spec) (d : Nat), l[i]? = some o → ss[i]? = some s → o.dst = some d → s.ok base (a.tmps.getD d undef) w) → R a
  | [], ss, a1, a, h, hl, hd, h1, h2, h3, h4 => by
    have e : a = a1 := by
      obtain ⟨t, d⟩ := a
      obtain ⟨t1, d1⟩ := a1
      simp only at h1 h2 h3
      subst h1
      congr 1
      exact Array.ext_getElem? fun k => h3 k (fun i o h => by simp at h)
    rw [e]
    cases ss with
    | nil => exact h
    | cons s r => simp at hl
  | o :: l, [], a1, a, h, hl, hd, h1, h2, h3, h4 => by simp at hl
  | o :: l, s :: ss, a1, a, h, hl, hd, h1, h2, h3, h4 => by
    obtain ⟨d, hd0, hdn, huniq⟩ := dstsB_get hd (i := 0) rfl
    have hdl : dstsB l a.tmps.size = true := by rw [dstsB, Bool.and_eq_true] at hd; exact hd.2
    have hok := h4 0 o s d rfl rfl hd0
    have hput : ∀ v, a.tmps.getD d undef = v → endS base R l ss (a1.put o.dst v) → R a := fun v hv hh => by
      refine endS_use (w := w) hh (by simpa using hl) hdl ?_ ?_ ?_ ?_
      · rw [h1]; unfold Act.put; rw [hd0]
      · rw [h2]; unfold Act.put; rw [hd0]; simp
      · intro k hk
        unfold Act.put
        rw [hd0]
        simp only
        by_cases hkd : k = d
        · subst hkd
          rw [Array.getElem?_setIfInBounds, if_pos rfl, if_pos (by rw [← h2]; exact hdn)]
          rw [← hv, Array.getD_eq_getD_getElem?, Array.getElem?_eq_getElem hdn]
          rfl
        · rw [Array.getElem?_setIfInBounds, if_neg (fun e => hkd e.symm)]
          refine h3 k (fun i o' hi hh' => ?_)
          cases i with
          | zero =>
            obtain rfl := Option.some.inj hi
            rw [hd0] at hh'
            exact hkd (Option.some.inj hh').symm
          | succ i => exact hk i o' (by simpa using hi) hh'
      · intro i o' s' d' hi hs' hd'
        exact h4 (i + 1) o' s' d' (by simpa using hi) (by simpa using hs') hd'
    cases s with
    | val v => exact hput v hok h
    | row cs e n =>
      obtain ⟨g, e1, e2, _⟩ := hok
      exact hput _ e1 (h g e2)
theorem specs_any {P : Program} {Q : Exit → Act → World → Prop} {l : List Oper} {ss : List Spec} {a0 : Act} {base : Nat} {w0 : World} (hlen : ss.length = l.length) (hdst : dstsB l a0.tmps.size = true) (hback : backB l 0 = true)
    (hstep : allS (StepS P l ss a0 base w0 Q) l ss) (hend : ∀ w', Below w0.heap.size w0 w' → endS base (fun a => Q .normal a w') l ss a0) :
    ∀ (fuel : Nat) (listed : Array Bool) (a : Act) (w : World), InvS l ss a0 base w0 listed a w → listed.toList.countP (fun b => !b) ≤ fuel → wpAny P .any l.toArray Q fuel listed a w := by
  have hfin : ∀ (listed : Array Bool) (a : Act) (w : World), InvS l ss a0 base w0 listed a w → Region.ready .any l.toArray listed = [] → Q .normal a w := by
    intro listed a w hI hr
    have hall : ∀ i, i < l.length → listed.getD i false = true := by
      intro i
      induction i using Nat.strongRecOn with
      | _ i ih =>
        intro hi
        refine Decidable.byContradiction fun hn => ?_
        have hn' : listed.getD i true = false := by
          rw [Array.getD_eq_getD_getElem?, Array.getElem?_eq_getElem (by rw [hI.ls]; exact hi)] at hn ⊢
          simpa using hn
        have hmem : i ∈ Region.ready .any l.toArray listed := by
          unfold Region.ready
          rw [List.mem_filter]
          refine ⟨by simp [hi], ?_⟩
          rw [hn']
          have ho : l.toArray[i]? = some l[i] := by simp [hi]
          rw [ho]
          simp only [Bool.not_false, Bool.true_and, Option.map_some, Option.getD_some]
          rw [Array.all_eq_true']
          intro e he
          cases hb : Region.binds .any e with
          | false => rfl
          | true =>
            have h1 := backB_get hback (show l[i]? = some l[i] from List.getElem?_eq_getElem hi) e he hb
            rw [Nat.zero_add] at h1
            rw [ih e.on h1 (by omega)]
            rfl
        rw [hr] at hmem
        cases hmem
    refine endS_use (w := w) (hend w hI.bel) hlen (by rw [hI.sz]; exact hdst) hI.df hI.sz (fun k hk => hI.old k (fun i o hi hd => absurd hd (hk i o hi))) (fun i o s d hi hs hd => hI.done i o s d hi hs hd (hall i ?_))
    exact (List.getElem?_eq_some_iff.1 hi).1
  intro fuel
  induction fuel with
  | zero =>
    intro listed a w hI hc
    have hr : Region.ready .any l.toArray listed = [] := by
      unfold Region.ready
      rw [List.filter_eq_nil_iff]
      intro i hi
      have hil : i < listed.size := by rw [hI.ls]; simpa using hi
      have h0 : listed.toList.countP (fun b => !b) = 0 := by omega
      rw [List.countP_eq_zero] at h0
      have := h0 listed[i] (by simp)
      have e : listed.getD i true = true := by
        rw [Array.getD_eq_getD_getElem?, Array.getElem?_eq_getElem hil]
        simpa using this
      rw [e]
      simp
    exact ⟨hr, hfin listed a w hI hr⟩
  | succ fuel ih =>
    intro listed a w hI hc
    refine ⟨fun hr => hfin listed a w hI hr, fun i hi => ?_⟩
    unfold Region.ready at hi
    rw [List.mem_filter] at hi
    obtain ⟨hi1, hi2⟩ := hi
    have hil : i < l.length := by simpa using hi1
    rw [Bool.and_eq_true] at hi2
    obtain ⟨hun, hdeps⟩ := hi2
    have ho : l[i]? = some l[i] := List.getElem?_eq_getElem hil
    have ho' : l.toArray[i]? = some l[i] := by simp [hil]
    rw [ho'] at hdeps
    simp only [Option.map_some, Option.getD_some] at hdeps
    rw [Array.all_eq_true'] at hdeps
    have hs : ss[i]? = some (ss[i]'(by omega)) := List.getElem?_eq_getElem (by omega)
    obtain ⟨hgd, hst⟩ := allS_get hstep ho hs
    obtain ⟨d, hd0, hdn, huniq⟩ := dstsB_get hdst ho
    have hlz : i < listed.size := by rw [hI.ls]; exact hil
    have hlf : listed.toList[i]? = some false := by
      rw [Array.getD_eq_getD_getElem?, Array.getElem?_eq_getElem hlz] at hun
      rw [Array.getElem?_toList, Array.getElem?_eq_getElem hlz]
      simpa using hun
    unfold wpOp
    rw [ho']
    simp only
    rw [if_pos (by simp [Region.wanted, hgd])]
    left
    refine Oper.wp_mono ?_ (hst a w hI.bel ?_ (fun v w' => (ss[i]'(by omega)).ok base v w' ∧ Below w.heap.size w w') (fun v w' h1 h2 => ⟨h1, h2⟩))
    · rintro a' w' ⟨v, rfl, hok, hb⟩
      refine ih _ _ _ ⟨?_, ?_, ?_, ?_, ?_, hI.bel.trans (hb.mono hI.bel.size)⟩ ?_
      · simp [hI.ls]
      · rw [← hI.df]; unfold Act.put; rw [hd0]
      · rw [← hI.sz]; unfold Act.put; rw [hd0]; simp
      · intro k hk
        have hkd : k ≠ d := fun e => by
          have := hk i _ ho (by rw [e]; exact hd0)
          rw [Array.getD_eq_getD_getElem?, Array.getElem?_setIfInBounds, if_pos rfl, if_pos hlz] at this
          simp at this
        unfold Act.put
        rw [hd0]
        simp only
        rw [Array.getElem?_setIfInBounds, if_neg (fun e => hkd e.symm)]
        refine hI.old k (fun j o' hj hdj => ?_)
        have h3 := hk j o' hj hdj
        by_cases hji : j = i
        · subst hji
          rw [Array.getD_eq_getD_getElem?, Array.getElem?_setIfInBounds, if_pos rfl, if_pos hlz] at h3
          simp at h3
        · rw [Array.getD_eq_getD_getElem?, Array.getElem?_setIfInBounds, if_neg (fun e => hji e.symm), ← Array.getD_eq_getD_getElem?] at h3
          exact h3
      · intro j o' s' d' hj hs' hd' hlj
        unfold Act.put
        rw [hd0]
        simp only
        by_cases hji : j = i
        · subst hji
          obtain rfl := Option.some.inj (ho.symm.trans hj)
          obtain rfl := Option.some.inj (hs.symm.trans hs')
          rw [hd0] at hd'
          obtain rfl := Option.some.inj hd'
          rw [Array.getD_eq_getD_getElem?, Array.getElem?_setIfInBounds, if_pos rfl, if_pos (by rw [hI.sz]; exact hdn)]
          exact hok
        · have hdd : d ≠ d' := fun e => hji (huniq j o' hj (by rw [hd', e]))
          rw [Array.getD_eq_getD_getElem?, Array.getElem?_setIfInBounds, if_neg hdd, ← Array.getD_eq_getD_getElem?]
          rw [Array.getD_eq_getD_getElem?, Array.getElem?_setIfInBounds, if_neg (fun e => hji e.symm), ← Array.getD_eq_getD_getElem?] at hlj
          exact Spec.kept (hI.done j o' s' d' hj hs' hd' hlj) hb
      · have hcs := cnt_set _ _ hlf
        rw [Array.toList_setIfInBounds]
        omega
    · intro k s' hk
      unfold knownS at hk
      cases hf : (List.range l.length).find? (fun j => (l[j]?).bind (·.dst) == some k) with
      | none =>
        rw [hf] at hk
        obtain rfl := Option.some.inj hk
        show a.tmps.getD k undef = a0.tmps.getD k undef
        rw [Array.getD_eq_getD_getElem?, Array.getD_eq_getD_getElem?]
        rw [hI.old k (fun j o' hj hdj => ?_)]
        exfalso
        rw [List.find?_eq_none] at hf
        have hjl := (List.getElem?_eq_some_iff.1 hj).1
        have := hf j (by simp [hjl])
        rw [hj] at this
        simp [hdj] at this
      | some j =>
        rw [hf] at hk
        simp only at hk
        have h5 := List.find?_some hf
        have hjl : j < l.length := by have := List.mem_of_find?_eq_some hf; simpa using this
        have hj : l[j]? = some l[j] := List.getElem?_eq_getElem hjl
        rw [hj] at h5
        have hdj : l[j].dst = some k := by simpa using h5
        split at hk
        · rename_i hany
          rw [Array.any_eq_true'] at hany
          obtain ⟨e, he, hb⟩ := hany
          rw [Bool.and_eq_true, beq_iff_eq] at hb
          have h6 := hdeps e he
          rw [hb.1, hb.2] at h6
          exact hI.done j _ s' k hj hk hdj (by simpa using h6)
        · cases hk
/-- THE LAW. -/
theorem wp_region_specs {P : Program} {id : Nat} {Q : Exit → Act → World → Prop} {a0 : Act} {w : World} {l : List Oper} (ss : List Spec) (hm : P.follows .mixedOrders = true) (hlen : ss.length = l.length) (hdst : dstsB l a0.tmps.size = true) (hback : backB l 0 = true)
    (hstep : allS (StepS P l ss a0 w.heap.size w Q) l ss) (hend : ∀ w', Below w.heap.size w w' → endS w.heap.size (fun a => Q .normal a w') l ss a0) : (Code.region id l.toArray true).wp P Q a0 w := by
  refine wp_region_any hm ?_
  have hbw : Below w.heap.size w { w with drawn := w.drawn + 1 } := ⟨rfl, rfl, rfl, Nat.le_refl _, fun _ _ => rfl⟩
  refine specs_any (w0 := w) hlen hdst hback hstep hend _ _ _ _ ⟨by simp, rfl, rfl, fun _ _ => rfl, fun i o s d hi hs hd hl => ?_, hbw⟩ ?_
  · exfalso
    rw [Array.getD_eq_getD_getElem?, Array.getElem?_replicate] at hl
    split at hl <;> simp at hl
  · have := List.countP_le_length (p := fun b => !b) (l := (Array.replicate l.toArray.size false).toList)
    simpa using this
end Go.Proofs.YtnpklepafpdadaaDoor
