/- Contracts of the functions, part 11: Pseudo, PseudoRef, PseudoBoth. -/
import Derived.Test.YtmfoionlapcgkaaDoorPA10
/- Contract: the program's Pseudo. -/
namespace Go.Proofs.YtmfoionlapcgkaaDoor
open Go.ChangeShapes Go.WideShapes Go.ChangeAt Go.RowKit

/-- Blocks g and g + 1 hold two addresses. -/
def Two (W : World) (g : Nat) (v1 : Bool) (h1 l1 : Nat) (v2 : Bool) (h2 l2 : Nat) : Prop :=
  g + 1 < W.heap.size ∧ W.cell? ⟨g, 0, none⟩ = some (.bool v1) ∧ W.cell? ⟨g, 1, none⟩ = some (.int .u64 h1) ∧ W.cell? ⟨g, 2, none⟩ = some (.int .u64 l1) ∧
    W.cell? ⟨g + 1, 0, none⟩ = some (.bool v2) ∧ W.cell? ⟨g + 1, 1, none⟩ = some (.int .u64 h2) ∧ W.cell? ⟨g + 1, 2, none⟩ = some (.int .u64 l2)
theorem Two.kept {W W' : World} {g : Nat} {v1 : Bool} {h1 l1 : Nat} {v2 : Bool} {h2 l2 : Nat} (h : Two W g v1 h1 l1 v2 h2 l2) (hb : Below W.heap.size W W') : Two W' g v1 h1 l1 v2 h2 l2 := by
  obtain ⟨hg, a, b, c, d, e, f⟩ := h
  have k := fun x o (hx : x < W.heap.size) => kept_cells hb x o hx
  exact ⟨Nat.lt_of_lt_of_le hg hb.size, (k _ _ (by omega)).trans a, (k _ _ (by omega)).trans b, (k _ _ (by omega)).trans c, (k _ _ hg).trans d, (k _ _ hg).trans e, (k _ _ hg).trans f⟩
theorem two_new (w : World) (v1 : Bool) (h1 l1 : Nat) (v2 : Bool) (h2 l2 : Nat) (t : TypeId) :
    Two ((w.alloc (.cells #[.bool v1, .int .u64 h1, .int .u64 l1] t)).alloc (.cells #[.bool v2, .int .u64 h2, .int .u64 l2] t)) w.heap.size v1 h1 l1 v2 h2 l2 := by
  have e : (w.alloc (.cells #[.bool v1, .int .u64 h1, .int .u64 l1] t)).heap.size = w.heap.size + 1 := by simp
  refine ⟨by simp, ?_, ?_, ?_, ?_, ?_, ?_⟩
  · rw [World.cell?_alloc_past _ _ _ (by omega), World.cell?_alloc_at _ _ _ _ rfl]; rfl
  · rw [World.cell?_alloc_past _ _ _ (by omega), World.cell?_alloc_at _ _ _ _ rfl]; rfl
  · rw [World.cell?_alloc_past _ _ _ (by omega), World.cell?_alloc_at _ _ _ _ rfl]; rfl
  · rw [World.cell?_alloc_at _ _ _ _ e.symm]; rfl
  · rw [World.cell?_alloc_at _ _ _ _ e.symm]; rfl
  · rw [World.cell?_alloc_at _ _ _ _ e.symm]; rfl

theorem pseudo_bad1 (v1 : Bool) (h1 l1 : Nat) (v2 : Bool) (h2 l2 : Nat) (p z : Int) (w : World) (hv : vadr v1 h1 l1 = false) :
    Calls Tryd.prog 23 #[.agg #[.bool v1, .int .u64 h1, .int .u64 l1], .agg #[.bool v2, .int .u64 h2, .int .u64 l2], .int .i64 p, .int .i64 z] w fun e w' => e = .returned (.string (str [])) ∧ Below w.heap.size w w' := by
  have c1 := fun W => valid_addr v1 h1 l1 W
  rw [hv] at c1
  have C1 := Lib.hid c1
  clear c1
  go_enter Tryd.func23, Tryd.ntmps23
  go_wp2_with fail
  refine (C1.out _).mono ?_
  rintro e w1 ⟨rfl, hb1⟩
  go_wp2_with fail
  go_ret
  refine ⟨rfl, (((Below.refl _ _).alloc (Nat.le_refl _) _).alloc (by simp) _).trans (hb1.mono (by simp; omega))⟩

theorem pseudo_bad2 (v1 : Bool) (h1 l1 : Nat) (v2 : Bool) (h2 l2 : Nat) (p z : Int) (w : World) (hv : vadr v1 h1 l1 = true) (hv2 : vadr v2 h2 l2 = false) :
    Calls Tryd.prog 23 #[.agg #[.bool v1, .int .u64 h1, .int .u64 l1], .agg #[.bool v2, .int .u64 h2, .int .u64 l2], .int .i64 p, .int .i64 z] w fun e w' => e = .returned (.string (str [])) ∧ Below w.heap.size w w' := by
  have c1 := fun W => valid_addr v1 h1 l1 W
  rw [hv] at c1
  have C1 := Lib.hid c1
  have c2 := fun W => valid_addr v2 h2 l2 W
  rw [hv2] at c2
  have C2 := Lib.hid c2
  clear c1 c2
  go_enter Tryd.func23, Tryd.ntmps23
  go_wp2_with fail
  obtain ⟨W0, hW⟩ : ∃ W0, W0 = (w.alloc (.cells #[.bool v1, .int .u64 h1, .int .u64 l1] 24)).alloc (.cells #[.bool v2, .int .u64 h2, .int .u64 l2] 24) := ⟨_, rfl⟩
  rw [← hW]
  have hT0 : Two W0 w.heap.size v1 h1 l1 v2 h2 l2 := by rw [hW]; exact two_new ..
  have hB0 : Below w.heap.size w W0 := by rw [hW]; exact ((Below.refl _ _).alloc (Nat.le_refl _) _).alloc (by simp) _
  have hS0 : Sh w → Sh W0 := fun h => by rw [hW]; exact (h.alloc _).alloc _
  clear hW
  refine (C1.out _).mono ?_
  rintro e w1 ⟨rfl, hb1⟩
  have hT1 := hT0.kept hb1
  have hB1 := hB0.trans (hb1.mono hB0.size)
  obtain ⟨q0, q1, q2, q3, q4, q5, q6⟩ := id hT1
  clear hS0
  go_wp2_with fail
  refine (C2.out _).mono ?_
  rintro e w2 ⟨rfl, hb2⟩
  go_wp2_with fail
  go_ret
  exact ⟨rfl, hB1.trans (hb2.mono hB1.size)⟩

theorem pseudo_bad3 (v1 : Bool) (h1 l1 : Nat) (v2 : Bool) (h2 l2 : Nat) (p z : Int) (w : World) (hv : vadr v1 h1 l1 = true) (hv2 : vadr v2 h2 l2 = true) (hne : (v1 == v2) = false) :
    Calls Tryd.prog 23 #[.agg #[.bool v1, .int .u64 h1, .int .u64 l1], .agg #[.bool v2, .int .u64 h2, .int .u64 l2], .int .i64 p, .int .i64 z] w fun e w' => e = .returned (.string (str [])) ∧ Below w.heap.size w w' := by
  have c1 := fun W => valid_addr v1 h1 l1 W
  rw [hv] at c1
  have C1 := Lib.hid c1
  have c2 := fun W => valid_addr v2 h2 l2 W
  rw [hv2] at c2
  have C2 := Lib.hid c2
  clear c1 c2
  go_enter Tryd.func23, Tryd.ntmps23
  go_wp2_with fail
  obtain ⟨W0, hW⟩ : ∃ W0, W0 = (w.alloc (.cells #[.bool v1, .int .u64 h1, .int .u64 l1] 24)).alloc (.cells #[.bool v2, .int .u64 h2, .int .u64 l2] 24) := ⟨_, rfl⟩
  rw [← hW]
  have hT0 : Two W0 w.heap.size v1 h1 l1 v2 h2 l2 := by rw [hW]; exact two_new ..
  have hB0 : Below w.heap.size w W0 := by rw [hW]; exact ((Below.refl _ _).alloc (Nat.le_refl _) _).alloc (by simp) _
  have hS0 : Sh w → Sh W0 := fun h => by rw [hW]; exact (h.alloc _).alloc _
  clear hW
  refine (C1.out _).mono ?_
  rintro e w1 ⟨rfl, hb1⟩
  have hT1 := hT0.kept hb1
  have hB1 := hB0.trans (hb1.mono hB0.size)
  obtain ⟨q0, q1, q2, q3, q4, q5, q6⟩ := id hT1
  clear hS0
  go_wp2_with fail
  refine (C2.out _).mono ?_
  rintro e w2 ⟨rfl, hb2⟩
  have hT2 := hT1.kept hb2
  clear q0 q1 q2 q3 q4 q5 q6
  obtain ⟨q0, q1, q2, q3, q4, q5, q6⟩ := id hT2
  go_wp2_with fail
  go_ret
  exact ⟨rfl, hB1.trans (hb2.mono hB1.size)⟩

theorem pseudo_put_bad (v : Bool) (h1 l1 : Nat) (h2 l2 : Nat) (p z : Int) (k : Nat) (S1 S2 : ByteArray) (w : World) (hk : k = if v then 4 else 2) (hv : vadr v h1 l1 = true) (hv2 : vadr v h2 l2 = true)
    (p1 : ∀ W, Calls Tryd.prog 39 #[.int .i64 p, .int .i64 1] W fun e w' => e = .returned (.string S1) ∧ Below W.heap.size W w')
    (p2 : ∀ W, Calls Tryd.prog 39 #[.int .i64 z, .int .i64 k] W fun e w' => e = .returned (.string S2) ∧ Below W.heap.size W w')
    (hbad : S1.toList.isEmpty = true ∨ (S1.toList.isEmpty = false ∧ S2.toList.isEmpty = true)) :
    Calls Tryd.prog 23 #[.agg #[.bool v, .int .u64 h1, .int .u64 l1], .agg #[.bool v, .int .u64 h2, .int .u64 l2], .int .i64 p, .int .i64 z] w fun e w' => e = .returned (.string (str [])) ∧ Below w.heap.size w w' := by
  have P1 := Lib.hid p1
  have c1 := fun W => valid_addr v h1 l1 W
  rw [hv] at c1
  have C1 := Lib.hid c1
  have c2 := fun W => valid_addr v h2 l2 W
  rw [hv2] at c2
  have C2 := Lib.hid c2
  clear c1 c2 p1 hv hv2
  cases v with
  | true =>
    obtain rfl : k = 4 := hk
    have P2 := Lib.hid p2
    clear p2
    rcases hbad with e1 | ⟨e1, e2⟩
    · go_enter Tryd.func23, Tryd.ntmps23
      go_wp2_with fail
      obtain ⟨W0, hW⟩ : ∃ W0, W0 = (w.alloc (.cells #[.bool true, .int .u64 h1, .int .u64 l1] 24)).alloc (.cells #[.bool true, .int .u64 h2, .int .u64 l2] 24) := ⟨_, rfl⟩
      rw [← hW]
      have hT0 : Two W0 w.heap.size true h1 l1 true h2 l2 := by rw [hW]; exact two_new ..
      have hB0 : Below w.heap.size w W0 := by rw [hW]; exact ((Below.refl _ _).alloc (Nat.le_refl _) _).alloc (by simp) _
      have hS0 : Sh w → Sh W0 := fun h => by rw [hW]; exact (h.alloc _).alloc _
      clear hW
      refine (C1.out _).mono ?_
      rintro e w1 ⟨rfl, hb1⟩
      have hT1 := hT0.kept hb1
      have hB1 := hB0.trans (hb1.mono hB0.size)
      obtain ⟨q0, q1, q2, q3, q4, q5, q6⟩ := id hT1
      go_wp2_with fail
      refine (C2.out _).mono ?_
      rintro e w2 ⟨rfl, hb2⟩
      have hT2 := hT1.kept hb2
      have hB2 := hB1.trans (hb2.mono hB1.size)
      clear q0 q1 q2 q3 q4 q5 q6
      obtain ⟨q0, q1, q2, q3, q4, q5, q6⟩ := id hT2
      go_wp2_with fail
      refine (P1.out _).mono ?_
      rintro e w3 ⟨rfl, hb3⟩
      go_wp2_with fail
      refine (P2.out _).mono ?_
      rintro e w4 ⟨rfl, hb4⟩
      have hB3 := hB2.trans (hb3.mono hB2.size)
      have hB4 := hB3.trans (hb4.mono hB3.size)
      have hT4 := (hT2.kept hb3).kept hb4
      have hS4 : Sh w → Sh w4 := fun h => ((((hS0 h).kept hb1).kept hb2).kept hb3).kept hb4
      clear q0 q1 q2 q3 q4 q5 q6 hS0 hb1 hb2 hb3 hb4 hT0 hT1 hT2 hB0 hB1 hB2 hB3
      obtain ⟨q0, q1, q2, q3, q4, q5, q6⟩ := id hT4
      clear hS4
      go_wp2_with fail
      go_ret
      exact ⟨rfl, hB4⟩
    · go_enter Tryd.func23, Tryd.ntmps23
      go_wp2_with fail
      obtain ⟨W0, hW⟩ : ∃ W0, W0 = (w.alloc (.cells #[.bool true, .int .u64 h1, .int .u64 l1] 24)).alloc (.cells #[.bool true, .int .u64 h2, .int .u64 l2] 24) := ⟨_, rfl⟩
      rw [← hW]
      have hT0 : Two W0 w.heap.size true h1 l1 true h2 l2 := by rw [hW]; exact two_new ..
      have hB0 : Below w.heap.size w W0 := by rw [hW]; exact ((Below.refl _ _).alloc (Nat.le_refl _) _).alloc (by simp) _
      have hS0 : Sh w → Sh W0 := fun h => by rw [hW]; exact (h.alloc _).alloc _
      clear hW
      refine (C1.out _).mono ?_
      rintro e w1 ⟨rfl, hb1⟩
      have hT1 := hT0.kept hb1
      have hB1 := hB0.trans (hb1.mono hB0.size)
      obtain ⟨q0, q1, q2, q3, q4, q5, q6⟩ := id hT1
      go_wp2_with fail
      refine (C2.out _).mono ?_
      rintro e w2 ⟨rfl, hb2⟩
      have hT2 := hT1.kept hb2
      have hB2 := hB1.trans (hb2.mono hB1.size)
      clear q0 q1 q2 q3 q4 q5 q6
      obtain ⟨q0, q1, q2, q3, q4, q5, q6⟩ := id hT2
      go_wp2_with fail
      refine (P1.out _).mono ?_
      rintro e w3 ⟨rfl, hb3⟩
      go_wp2_with fail
      refine (P2.out _).mono ?_
      rintro e w4 ⟨rfl, hb4⟩
      have hB3 := hB2.trans (hb3.mono hB2.size)
      have hB4 := hB3.trans (hb4.mono hB3.size)
      have hT4 := (hT2.kept hb3).kept hb4
      have hS4 : Sh w → Sh w4 := fun h => ((((hS0 h).kept hb1).kept hb2).kept hb3).kept hb4
      clear q0 q1 q2 q3 q4 q5 q6 hS0 hb1 hb2 hb3 hb4 hT0 hT1 hT2 hB0 hB1 hB2 hB3
      obtain ⟨q0, q1, q2, q3, q4, q5, q6⟩ := id hT4
      clear hS4
      go_wp2_with fail
      go_ret
      exact ⟨rfl, hB4⟩
  | false =>
    obtain rfl : k = 2 := hk
    have P2 := Lib.hid p2
    clear p2
    rcases hbad with e1 | ⟨e1, e2⟩
    · go_enter Tryd.func23, Tryd.ntmps23
      go_wp2_with fail
      obtain ⟨W0, hW⟩ : ∃ W0, W0 = (w.alloc (.cells #[.bool false, .int .u64 h1, .int .u64 l1] 24)).alloc (.cells #[.bool false, .int .u64 h2, .int .u64 l2] 24) := ⟨_, rfl⟩
      rw [← hW]
      have hT0 : Two W0 w.heap.size false h1 l1 false h2 l2 := by rw [hW]; exact two_new ..
      have hB0 : Below w.heap.size w W0 := by rw [hW]; exact ((Below.refl _ _).alloc (Nat.le_refl _) _).alloc (by simp) _
      have hS0 : Sh w → Sh W0 := fun h => by rw [hW]; exact (h.alloc _).alloc _
      clear hW
      refine (C1.out _).mono ?_
      rintro e w1 ⟨rfl, hb1⟩
      have hT1 := hT0.kept hb1
      have hB1 := hB0.trans (hb1.mono hB0.size)
      obtain ⟨q0, q1, q2, q3, q4, q5, q6⟩ := id hT1
      go_wp2_with fail
      refine (C2.out _).mono ?_
      rintro e w2 ⟨rfl, hb2⟩
      have hT2 := hT1.kept hb2
      have hB2 := hB1.trans (hb2.mono hB1.size)
      clear q0 q1 q2 q3 q4 q5 q6
      obtain ⟨q0, q1, q2, q3, q4, q5, q6⟩ := id hT2
      go_wp2_with fail
      refine (P1.out _).mono ?_
      rintro e w3 ⟨rfl, hb3⟩
      go_wp2_with fail
      refine (P2.out _).mono ?_
      rintro e w4 ⟨rfl, hb4⟩
      have hB3 := hB2.trans (hb3.mono hB2.size)
      have hB4 := hB3.trans (hb4.mono hB3.size)
      have hT4 := (hT2.kept hb3).kept hb4
      have hS4 : Sh w → Sh w4 := fun h => ((((hS0 h).kept hb1).kept hb2).kept hb3).kept hb4
      clear q0 q1 q2 q3 q4 q5 q6 hS0 hb1 hb2 hb3 hb4 hT0 hT1 hT2 hB0 hB1 hB2 hB3
      obtain ⟨q0, q1, q2, q3, q4, q5, q6⟩ := id hT4
      clear hS4
      go_wp2_with fail
      go_ret
      exact ⟨rfl, hB4⟩
    · go_enter Tryd.func23, Tryd.ntmps23
      go_wp2_with fail
      obtain ⟨W0, hW⟩ : ∃ W0, W0 = (w.alloc (.cells #[.bool false, .int .u64 h1, .int .u64 l1] 24)).alloc (.cells #[.bool false, .int .u64 h2, .int .u64 l2] 24) := ⟨_, rfl⟩
      rw [← hW]
      have hT0 : Two W0 w.heap.size false h1 l1 false h2 l2 := by rw [hW]; exact two_new ..
      have hB0 : Below w.heap.size w W0 := by rw [hW]; exact ((Below.refl _ _).alloc (Nat.le_refl _) _).alloc (by simp) _
      have hS0 : Sh w → Sh W0 := fun h => by rw [hW]; exact (h.alloc _).alloc _
      clear hW
      refine (C1.out _).mono ?_
      rintro e w1 ⟨rfl, hb1⟩
      have hT1 := hT0.kept hb1
      have hB1 := hB0.trans (hb1.mono hB0.size)
      obtain ⟨q0, q1, q2, q3, q4, q5, q6⟩ := id hT1
      go_wp2_with fail
      refine (C2.out _).mono ?_
      rintro e w2 ⟨rfl, hb2⟩
      have hT2 := hT1.kept hb2
      have hB2 := hB1.trans (hb2.mono hB1.size)
      clear q0 q1 q2 q3 q4 q5 q6
      obtain ⟨q0, q1, q2, q3, q4, q5, q6⟩ := id hT2
      go_wp2_with fail
      refine (P1.out _).mono ?_
      rintro e w3 ⟨rfl, hb3⟩
      go_wp2_with fail
      refine (P2.out _).mono ?_
      rintro e w4 ⟨rfl, hb4⟩
      have hB3 := hB2.trans (hb3.mono hB2.size)
      have hB4 := hB3.trans (hb4.mono hB3.size)
      have hT4 := (hT2.kept hb3).kept hb4
      have hS4 : Sh w → Sh w4 := fun h => ((((hS0 h).kept hb1).kept hb2).kept hb3).kept hb4
      clear q0 q1 q2 q3 q4 q5 q6 hS0 hb1 hb2 hb3 hb4 hT0 hT1 hT2 hB0 hB1 hB2 hB3
      obtain ⟨q0, q1, q2, q3, q4, q5, q6⟩ := id hT4
      clear hS4
      go_wp2_with fail
      go_ret
      exact ⟨rfl, hB4⟩

theorem pseudo_good (v : Bool) (h1 l1 : Nat) (h2 l2 : Nat) (p z : Int) (k : Nat) (S1 S2 : ByteArray) (A1 A2 : ByteArray) (w : World) (hsh : Sh w) (hk : k = if v then 4 else 2) (hv : vadr v h1 l1 = true) (hv2 : vadr v h2 l2 = true)
    (p1 : ∀ W, Calls Tryd.prog 39 #[.int .i64 p, .int .i64 1] W fun e w' => e = .returned (.string S1) ∧ Below W.heap.size W w')
    (p2 : ∀ W, Calls Tryd.prog 39 #[.int .i64 z, .int .i64 k] W fun e w' => e = .returned (.string S2) ∧ Below W.heap.size W w')
    (a1 : ∀ W, Sh W → Calls Tryd.prog 53 #[.agg #[.bool v, .int .u64 h1, .int .u64 l1]] W fun e w' => e = .returned (.string A1) ∧ Below W.heap.size W w')
    (a2 : ∀ W, Sh W → Calls Tryd.prog 53 #[.agg #[.bool v, .int .u64 h2, .int .u64 l2]] W fun e w' => e = .returned (.string A2) ∧ Below W.heap.size W w')
    (e1 : S1.toList.isEmpty = false) (e2 : S2.toList.isEmpty = false) (b1 : S1.size ≤ 7) (b2 : S2.size ≤ 7) (b3 : A1.size ≤ 16) (b4 : A2.size ≤ 16) :
    Calls Tryd.prog 23 #[.agg #[.bool v, .int .u64 h1, .int .u64 l1], .agg #[.bool v, .int .u64 h2, .int .u64 l2], .int .i64 p, .int .i64 z] w fun e w' => e = .returned (.string (if v then A1 ++ A2 ++ S2 ++ ⟨#[0, 0, 0]⟩ ++ S1 else A1 ++ A2 ++ ⟨#[0]⟩ ++ S1 ++ S2)) ∧ Below w.heap.size w w' := by
  have P1 := Lib.hid p1
  have c1 := fun W => valid_addr v h1 l1 W
  rw [hv] at c1
  have C1 := Lib.hid c1
  have c2 := fun W => valid_addr v h2 l2 W
  rw [hv2] at c2
  have C2 := Lib.hid c2
  clear c1 c2 p1 hv hv2
  have A1c := Lib.hid a1
  have A2c := Lib.hid a2
  clear a1 a2
  have hcat : (9223372036854775807 < A1.size + A2.size) = False := by simp; omega
  cases v with
  | true =>
    obtain rfl : k = 4 := hk
    have P2 := Lib.hid p2
    clear p2
    go_enter Tryd.func23, Tryd.ntmps23
    go_wp2_with fail
    obtain ⟨W0, hW⟩ : ∃ W0, W0 = (w.alloc (.cells #[.bool true, .int .u64 h1, .int .u64 l1] 24)).alloc (.cells #[.bool true, .int .u64 h2, .int .u64 l2] 24) := ⟨_, rfl⟩
    rw [← hW]
    have hT0 : Two W0 w.heap.size true h1 l1 true h2 l2 := by rw [hW]; exact two_new ..
    have hB0 : Below w.heap.size w W0 := by rw [hW]; exact ((Below.refl _ _).alloc (Nat.le_refl _) _).alloc (by simp) _
    have hS0 : Sh w → Sh W0 := fun h => by rw [hW]; exact (h.alloc _).alloc _
    clear hW
    refine (C1.out _).mono ?_
    rintro e w1 ⟨rfl, hb1⟩
    have hT1 := hT0.kept hb1
    have hB1 := hB0.trans (hb1.mono hB0.size)
    obtain ⟨q0, q1, q2, q3, q4, q5, q6⟩ := id hT1
    go_wp2_with fail
    refine (C2.out _).mono ?_
    rintro e w2 ⟨rfl, hb2⟩
    have hT2 := hT1.kept hb2
    have hB2 := hB1.trans (hb2.mono hB1.size)
    clear q0 q1 q2 q3 q4 q5 q6
    obtain ⟨q0, q1, q2, q3, q4, q5, q6⟩ := id hT2
    go_wp2_with fail
    refine (P1.out _).mono ?_
    rintro e w3 ⟨rfl, hb3⟩
    go_wp2_with fail
    refine (P2.out _).mono ?_
    rintro e w4 ⟨rfl, hb4⟩
    have hB3 := hB2.trans (hb3.mono hB2.size)
    have hB4 := hB3.trans (hb4.mono hB3.size)
    have hT4 := (hT2.kept hb3).kept hb4
    have hS4 : Sh w → Sh w4 := fun h => ((((hS0 h).kept hb1).kept hb2).kept hb3).kept hb4
    clear q0 q1 q2 q3 q4 q5 q6 hS0 hb1 hb2 hb3 hb4 hT0 hT1 hT2 hB0 hB1 hB2 hB3
    obtain ⟨q0, q1, q2, q3, q4, q5, q6⟩ := id hT4
    replace hS4 := hS4 hsh
    have B1 : S1.size ≤ 7 := b1
    have B2 : S2.size ≤ 7 := b2
    have B3 : A1.size ≤ 16 := b3
    have B4 : A2.size ≤ 16 := b4
    go_wp2_with fail
    go_region_held3 (fun w' => w'.cell? ⟨w.heap.size, 0, none⟩ = some (.bool true) ∧ w'.cell? ⟨w.heap.size, 1, none⟩ = some (.int .u64 h1) ∧ w'.cell? ⟨w.heap.size, 2, none⟩ = some (.int .u64 l1) ∧ w'.cell? ⟨w.heap.size + 1, 0, none⟩ = some (.bool true) ∧ w'.cell? ⟨w.heap.size + 1, 1, none⟩ = some (.int .u64 h2) ∧ w'.cell? ⟨w.heap.size + 1, 2, none⟩ = some (.int .u64 l2)) (go_keep) (first
      | (go_at_call_of 53 (Value.int .u64 (h1 : Int)); refine (A1c.out _ ?_).mono ?_; exact hS4; rintro e w5 ⟨rfl, hb5d⟩; have hb5 : Below w4.heap.size w4 w5 := ⟨hb5d.os, hb5d.tape, hb5d.output, hb5d.size, hb5d.block⟩; have hT5 := hT4.kept hb5; obtain ⟨r0, r1, r2, r3, r4, r5, r6⟩ := id hT5)
      | (go_at_call_of 53 (Value.int .u64 (h2 : Int)); refine (A2c.out _ ?_).mono ?_; exact (hS4.kept hb5); rintro e w6 ⟨rfl, hb6⟩; have hT6 := hT5.kept hb6; obtain ⟨s0, s1, s2, s3, s4, s5, s6⟩ := id hT6))
    have hB5 := hB4.trans (hb5.mono hB4.size)
    have hB6 := hB5.trans (hb6.mono hB5.size)
    clear q0 q1 q2 q3 q4 q5 q6 r0 r1 r2 r3 r4 r5 r6
    go_wp2_with fail
    go_ret
    exact ⟨rfl, hB6⟩
  | false =>
    obtain rfl : k = 2 := hk
    have P2 := Lib.hid p2
    clear p2
    go_enter Tryd.func23, Tryd.ntmps23
    go_wp2_with fail
    obtain ⟨W0, hW⟩ : ∃ W0, W0 = (w.alloc (.cells #[.bool false, .int .u64 h1, .int .u64 l1] 24)).alloc (.cells #[.bool false, .int .u64 h2, .int .u64 l2] 24) := ⟨_, rfl⟩
    rw [← hW]
    have hT0 : Two W0 w.heap.size false h1 l1 false h2 l2 := by rw [hW]; exact two_new ..
    have hB0 : Below w.heap.size w W0 := by rw [hW]; exact ((Below.refl _ _).alloc (Nat.le_refl _) _).alloc (by simp) _
    have hS0 : Sh w → Sh W0 := fun h => by rw [hW]; exact (h.alloc _).alloc _
    clear hW
    refine (C1.out _).mono ?_
    rintro e w1 ⟨rfl, hb1⟩
    have hT1 := hT0.kept hb1
    have hB1 := hB0.trans (hb1.mono hB0.size)
    obtain ⟨q0, q1, q2, q3, q4, q5, q6⟩ := id hT1
    go_wp2_with fail
    refine (C2.out _).mono ?_
    rintro e w2 ⟨rfl, hb2⟩
    have hT2 := hT1.kept hb2
    have hB2 := hB1.trans (hb2.mono hB1.size)
    clear q0 q1 q2 q3 q4 q5 q6
    obtain ⟨q0, q1, q2, q3, q4, q5, q6⟩ := id hT2
    go_wp2_with fail
    refine (P1.out _).mono ?_
    rintro e w3 ⟨rfl, hb3⟩
    go_wp2_with fail
    refine (P2.out _).mono ?_
    rintro e w4 ⟨rfl, hb4⟩
    have hB3 := hB2.trans (hb3.mono hB2.size)
    have hB4 := hB3.trans (hb4.mono hB3.size)
    have hT4 := (hT2.kept hb3).kept hb4
    have hS4 : Sh w → Sh w4 := fun h => ((((hS0 h).kept hb1).kept hb2).kept hb3).kept hb4
    clear q0 q1 q2 q3 q4 q5 q6 hS0 hb1 hb2 hb3 hb4 hT0 hT1 hT2 hB0 hB1 hB2 hB3
    obtain ⟨q0, q1, q2, q3, q4, q5, q6⟩ := id hT4
    replace hS4 := hS4 hsh
    have B1 : S1.size ≤ 7 := b1
    have B2 : S2.size ≤ 7 := b2
    have B3 : A1.size ≤ 16 := b3
    have B4 : A2.size ≤ 16 := b4
    go_wp2_with fail
    go_region_held3 (fun w' => w'.cell? ⟨w.heap.size, 0, none⟩ = some (.bool false) ∧ w'.cell? ⟨w.heap.size, 1, none⟩ = some (.int .u64 h1) ∧ w'.cell? ⟨w.heap.size, 2, none⟩ = some (.int .u64 l1) ∧ w'.cell? ⟨w.heap.size + 1, 0, none⟩ = some (.bool false) ∧ w'.cell? ⟨w.heap.size + 1, 1, none⟩ = some (.int .u64 h2) ∧ w'.cell? ⟨w.heap.size + 1, 2, none⟩ = some (.int .u64 l2)) (go_keep) (first
      | (go_at_call_of 53 (Value.int .u64 (h1 : Int)); refine (A1c.out _ ?_).mono ?_; exact hS4; rintro e w5 ⟨rfl, hb5d⟩; have hb5 : Below w4.heap.size w4 w5 := ⟨hb5d.os, hb5d.tape, hb5d.output, hb5d.size, hb5d.block⟩; have hT5 := hT4.kept hb5; obtain ⟨r0, r1, r2, r3, r4, r5, r6⟩ := id hT5)
      | (go_at_call_of 53 (Value.int .u64 (h2 : Int)); refine (A2c.out _ ?_).mono ?_; exact (hS4.kept hb5); rintro e w6 ⟨rfl, hb6⟩; have hT6 := hT5.kept hb6; obtain ⟨s0, s1, s2, s3, s4, s5, s6⟩ := id hT6))
    have hB5 := hB4.trans (hb5.mono hB4.size)
    have hB6 := hB5.trans (hb6.mono hB5.size)
    clear q0 q1 q2 q3 q4 q5 q6 r0 r1 r2 r3 r4 r5 r6
    go_wp2_with fail
    go_ret
    exact ⟨rfl, hB6⟩
end Go.Proofs.YtmfoionlapcgkaaDoor

/- Contract: the reference's Pseudo. -/
namespace Go.Proofs.YtmfoionlapcgkaaDoor
open Go.ChangeShapes Go.WideShapes Go.ChangeAt Go.RowKit

theorem rpseudo_bad1 (v1 : Bool) (h1 l1 : Nat) (v2 : Bool) (h2 l2 : Nat) (p z : Int) (w : World) (hv : vadr v1 h1 l1 = false) :
    Calls Tryd.prog 32 #[.agg #[.bool v1, .int .u64 h1, .int .u64 l1], .agg #[.bool v2, .int .u64 h2, .int .u64 l2], .int .i64 p, .int .i64 z] w fun e w' => e = .returned (.string (str [])) ∧ Below w.heap.size w w' := by
  have c1 := fun W => rvalid_addr v1 h1 l1 W
  rw [hv] at c1
  have C1 := Lib.hid c1
  clear c1
  go_enter Tryd.func32, Tryd.ntmps32
  go_wp2_with fail
  refine (C1.out _).mono ?_
  rintro e w1 ⟨rfl, hb1⟩
  go_wp2_with fail
  go_ret
  refine ⟨rfl, (((Below.refl _ _).alloc (Nat.le_refl _) _).alloc (by simp) _).trans (hb1.mono (by simp; omega))⟩

theorem rpseudo_bad2 (v1 : Bool) (h1 l1 : Nat) (v2 : Bool) (h2 l2 : Nat) (p z : Int) (w : World) (hv : vadr v1 h1 l1 = true) (hv2 : vadr v2 h2 l2 = false) :
    Calls Tryd.prog 32 #[.agg #[.bool v1, .int .u64 h1, .int .u64 l1], .agg #[.bool v2, .int .u64 h2, .int .u64 l2], .int .i64 p, .int .i64 z] w fun e w' => e = .returned (.string (str [])) ∧ Below w.heap.size w w' := by
  have c1 := fun W => rvalid_addr v1 h1 l1 W
  rw [hv] at c1
  have C1 := Lib.hid c1
  have c2 := fun W => rvalid_addr v2 h2 l2 W
  rw [hv2] at c2
  have C2 := Lib.hid c2
  clear c1 c2
  go_enter Tryd.func32, Tryd.ntmps32
  go_wp2_with fail
  obtain ⟨W0, hW⟩ : ∃ W0, W0 = (w.alloc (.cells #[.bool v1, .int .u64 h1, .int .u64 l1] 24)).alloc (.cells #[.bool v2, .int .u64 h2, .int .u64 l2] 24) := ⟨_, rfl⟩
  rw [← hW]
  have hT0 : Two W0 w.heap.size v1 h1 l1 v2 h2 l2 := by rw [hW]; exact two_new ..
  have hB0 : Below w.heap.size w W0 := by rw [hW]; exact ((Below.refl _ _).alloc (Nat.le_refl _) _).alloc (by simp) _
  have hS0 : Sh w → Sh W0 := fun h => by rw [hW]; exact (h.alloc _).alloc _
  clear hW
  refine (C1.out _).mono ?_
  rintro e w1 ⟨rfl, hb1⟩
  have hT1 := hT0.kept hb1
  have hB1 := hB0.trans (hb1.mono hB0.size)
  obtain ⟨q0, q1, q2, q3, q4, q5, q6⟩ := id hT1
  clear hS0
  go_wp2_with fail
  refine (C2.out _).mono ?_
  rintro e w2 ⟨rfl, hb2⟩
  go_wp2_with fail
  go_ret
  exact ⟨rfl, hB1.trans (hb2.mono hB1.size)⟩

theorem rpseudo_bad3 (v1 : Bool) (h1 l1 : Nat) (v2 : Bool) (h2 l2 : Nat) (p z : Int) (w : World) (hv : vadr v1 h1 l1 = true) (hv2 : vadr v2 h2 l2 = true) (hne : (v1 == v2) = false) :
    Calls Tryd.prog 32 #[.agg #[.bool v1, .int .u64 h1, .int .u64 l1], .agg #[.bool v2, .int .u64 h2, .int .u64 l2], .int .i64 p, .int .i64 z] w fun e w' => e = .returned (.string (str [])) ∧ Below w.heap.size w w' := by
  have c1 := fun W => rvalid_addr v1 h1 l1 W
  rw [hv] at c1
  have C1 := Lib.hid c1
  have c2 := fun W => rvalid_addr v2 h2 l2 W
  rw [hv2] at c2
  have C2 := Lib.hid c2
  clear c1 c2
  go_enter Tryd.func32, Tryd.ntmps32
  go_wp2_with fail
  obtain ⟨W0, hW⟩ : ∃ W0, W0 = (w.alloc (.cells #[.bool v1, .int .u64 h1, .int .u64 l1] 24)).alloc (.cells #[.bool v2, .int .u64 h2, .int .u64 l2] 24) := ⟨_, rfl⟩
  rw [← hW]
  have hT0 : Two W0 w.heap.size v1 h1 l1 v2 h2 l2 := by rw [hW]; exact two_new ..
  have hB0 : Below w.heap.size w W0 := by rw [hW]; exact ((Below.refl _ _).alloc (Nat.le_refl _) _).alloc (by simp) _
  have hS0 : Sh w → Sh W0 := fun h => by rw [hW]; exact (h.alloc _).alloc _
  clear hW
  refine (C1.out _).mono ?_
  rintro e w1 ⟨rfl, hb1⟩
  have hT1 := hT0.kept hb1
  have hB1 := hB0.trans (hb1.mono hB0.size)
  obtain ⟨q0, q1, q2, q3, q4, q5, q6⟩ := id hT1
  clear hS0
  go_wp2_with fail
  refine (C2.out _).mono ?_
  rintro e w2 ⟨rfl, hb2⟩
  have hT2 := hT1.kept hb2
  clear q0 q1 q2 q3 q4 q5 q6
  obtain ⟨q0, q1, q2, q3, q4, q5, q6⟩ := id hT2
  go_wp2_with fail
  go_ret
  exact ⟨rfl, hB1.trans (hb2.mono hB1.size)⟩


theorem rpseudo_bad4 (v : Bool) (h1 l1 : Nat) (h2 l2 : Nat) (p z : Int) (w : World) (hv : vadr v h1 l1 = true) (hv2 : vadr v h2 l2 = true)
    (hbad : p < 0 ∨ (decide (p < 0) = false ∧ 255 < p) ∨ (decide (p < 0) = false ∧ decide (255 < p) = false ∧ z < 0)) :
    Calls Tryd.prog 32 #[.agg #[.bool v, .int .u64 h1, .int .u64 l1], .agg #[.bool v, .int .u64 h2, .int .u64 l2], .int .i64 p, .int .i64 z] w fun e w' => e = .returned (.string (str [])) ∧ Below w.heap.size w w' := by
  have c1 := fun W => rvalid_addr v h1 l1 W
  rw [hv] at c1
  have C1 := Lib.hid c1
  have c2 := fun W => rvalid_addr v h2 l2 W
  rw [hv2] at c2
  have C2 := Lib.hid c2
  clear c1 c2
  rcases hbad with d1 | ⟨d1, d2⟩ | ⟨d1, d2, d3⟩
  · go_enter Tryd.func32, Tryd.ntmps32
    go_wp2_with fail
    obtain ⟨W0, hW⟩ : ∃ W0, W0 = (w.alloc (.cells #[.bool v, .int .u64 h1, .int .u64 l1] 24)).alloc (.cells #[.bool v, .int .u64 h2, .int .u64 l2] 24) := ⟨_, rfl⟩
    rw [← hW]
    have hT0 : Two W0 w.heap.size v h1 l1 v h2 l2 := by rw [hW]; exact two_new ..
    have hB0 : Below w.heap.size w W0 := by rw [hW]; exact ((Below.refl _ _).alloc (Nat.le_refl _) _).alloc (by simp) _
    clear hW
    refine (C1.out _).mono ?_
    rintro e w1 ⟨rfl, hb1⟩
    have hT1 := hT0.kept hb1
    have hB1 := hB0.trans (hb1.mono hB0.size)
    obtain ⟨q0, q1, q2, q3, q4, q5, q6⟩ := id hT1
    go_wp2_with fail
    refine (C2.out _).mono ?_
    rintro e w4 ⟨rfl, hb2⟩
    have hT4 := hT1.kept hb2
    have hB4 := hB1.trans (hb2.mono hB1.size)
    clear q0 q1 q2 q3 q4 q5 q6 hb1 hb2 hT0 hT1 hB0 hB1
    obtain ⟨q0, q1, q2, q3, q4, q5, q6⟩ := id hT4
    go_wp2_with fail
    go_ret
    exact ⟨rfl, hB4⟩
  · go_enter Tryd.func32, Tryd.ntmps32
    go_wp2_with fail
    obtain ⟨W0, hW⟩ : ∃ W0, W0 = (w.alloc (.cells #[.bool v, .int .u64 h1, .int .u64 l1] 24)).alloc (.cells #[.bool v, .int .u64 h2, .int .u64 l2] 24) := ⟨_, rfl⟩
    rw [← hW]
    have hT0 : Two W0 w.heap.size v h1 l1 v h2 l2 := by rw [hW]; exact two_new ..
    have hB0 : Below w.heap.size w W0 := by rw [hW]; exact ((Below.refl _ _).alloc (Nat.le_refl _) _).alloc (by simp) _
    clear hW
    refine (C1.out _).mono ?_
    rintro e w1 ⟨rfl, hb1⟩
    have hT1 := hT0.kept hb1
    have hB1 := hB0.trans (hb1.mono hB0.size)
    obtain ⟨q0, q1, q2, q3, q4, q5, q6⟩ := id hT1
    go_wp2_with fail
    refine (C2.out _).mono ?_
    rintro e w4 ⟨rfl, hb2⟩
    have hT4 := hT1.kept hb2
    have hB4 := hB1.trans (hb2.mono hB1.size)
    clear q0 q1 q2 q3 q4 q5 q6 hb1 hb2 hT0 hT1 hB0 hB1
    obtain ⟨q0, q1, q2, q3, q4, q5, q6⟩ := id hT4
    go_wp2_with fail
    go_ret
    exact ⟨rfl, hB4⟩
  · go_enter Tryd.func32, Tryd.ntmps32
    go_wp2_with fail
    obtain ⟨W0, hW⟩ : ∃ W0, W0 = (w.alloc (.cells #[.bool v, .int .u64 h1, .int .u64 l1] 24)).alloc (.cells #[.bool v, .int .u64 h2, .int .u64 l2] 24) := ⟨_, rfl⟩
    rw [← hW]
    have hT0 : Two W0 w.heap.size v h1 l1 v h2 l2 := by rw [hW]; exact two_new ..
    have hB0 : Below w.heap.size w W0 := by rw [hW]; exact ((Below.refl _ _).alloc (Nat.le_refl _) _).alloc (by simp) _
    clear hW
    refine (C1.out _).mono ?_
    rintro e w1 ⟨rfl, hb1⟩
    have hT1 := hT0.kept hb1
    have hB1 := hB0.trans (hb1.mono hB0.size)
    obtain ⟨q0, q1, q2, q3, q4, q5, q6⟩ := id hT1
    go_wp2_with fail
    refine (C2.out _).mono ?_
    rintro e w4 ⟨rfl, hb2⟩
    have hT4 := hT1.kept hb2
    have hB4 := hB1.trans (hb2.mono hB1.size)
    clear q0 q1 q2 q3 q4 q5 q6 hb1 hb2 hT0 hT1 hB0 hB1
    obtain ⟨q0, q1, q2, q3, q4, q5, q6⟩ := id hT4
    go_wp2_with fail
    go_ret
    exact ⟨rfl, hB4⟩

theorem rpseudo_big (v : Bool) (h1 l1 : Nat) (h2 l2 : Nat) (p z : Int) (A1 A2 : ByteArray) (w : World) (hv : vadr v h1 l1 = true) (hv2 : vadr v h2 l2 = true)
    (a1 : ∀ W, Calls Tryd.prog 60 #[.agg #[.bool v, .int .u64 h1, .int .u64 l1]] W fun e w' => e = .returned (.string A1) ∧ Below W.heap.size W w')
    (a2 : ∀ W, Calls Tryd.prog 60 #[.agg #[.bool v, .int .u64 h2, .int .u64 l2]] W fun e w' => e = .returned (.string A2) ∧ Below W.heap.size W w')
    (b3 : A1.size ≤ 16) (b4 : A2.size ≤ 16) (d1 : decide (p < 0) = false) (d2 : decide (255 < p) = false) (d3 : decide (z < 0) = false)
    (hz : (if v then 4294967295 else 65535) < z) :
    Calls Tryd.prog 32 #[.agg #[.bool v, .int .u64 h1, .int .u64 l1], .agg #[.bool v, .int .u64 h2, .int .u64 l2], .int .i64 p, .int .i64 z] w fun e w' => e = .returned (.string (str [])) ∧ Below w.heap.size w w' := by
  have c1 := fun W => rvalid_addr v h1 l1 W
  rw [hv] at c1
  have C1 := Lib.hid c1
  have c2 := fun W => rvalid_addr v h2 l2 W
  rw [hv2] at c2
  have C2 := Lib.hid c2
  clear c1 c2
  clear hv hv2
  have A1c := Lib.hid a1
  have A2c := Lib.hid a2
  clear a1 a2
  have hcat : (9223372036854775807 < A1.size + A2.size) = False := by simp; omega
  cases v with
  | true =>
    have d4 : 4294967295 < z := hz
    clear hz
    go_enter Tryd.func32, Tryd.ntmps32
    go_wp2_with fail
    obtain ⟨W0, hW⟩ : ∃ W0, W0 = (w.alloc (.cells #[.bool true, .int .u64 h1, .int .u64 l1] 24)).alloc (.cells #[.bool true, .int .u64 h2, .int .u64 l2] 24) := ⟨_, rfl⟩
    rw [← hW]
    have hT0 : Two W0 w.heap.size true h1 l1 true h2 l2 := by rw [hW]; exact two_new ..
    have hB0 : Below w.heap.size w W0 := by rw [hW]; exact ((Below.refl _ _).alloc (Nat.le_refl _) _).alloc (by simp) _
    clear hW
    refine (C1.out _).mono ?_
    rintro e w1 ⟨rfl, hb1⟩
    have hT1 := hT0.kept hb1
    have hB1 := hB0.trans (hb1.mono hB0.size)
    obtain ⟨q0, q1, q2, q3, q4, q5, q6⟩ := id hT1
    go_wp2_with fail
    refine (C2.out _).mono ?_
    rintro e w4 ⟨rfl, hb2⟩
    have hT4 := hT1.kept hb2
    have hB4 := hB1.trans (hb2.mono hB1.size)
    clear q0 q1 q2 q3 q4 q5 q6 hb1 hb2 hT0 hT1 hB0 hB1
    obtain ⟨q0, q1, q2, q3, q4, q5, q6⟩ := id hT4
    go_wp2_with fail
    go_region_held3 (fun w' => w'.cell? ⟨w.heap.size, 0, none⟩ = some (.bool true) ∧ w'.cell? ⟨w.heap.size, 1, none⟩ = some (.int .u64 h1) ∧ w'.cell? ⟨w.heap.size, 2, none⟩ = some (.int .u64 l1) ∧ w'.cell? ⟨w.heap.size + 1, 0, none⟩ = some (.bool true) ∧ w'.cell? ⟨w.heap.size + 1, 1, none⟩ = some (.int .u64 h2) ∧ w'.cell? ⟨w.heap.size + 1, 2, none⟩ = some (.int .u64 l2)) (go_keep) (first
      | (go_at_call_of 60 (Value.int .u64 (h1 : Int)); refine (A1c.out _).mono ?_; rintro e w5 ⟨rfl, hb5d⟩; have hb5 : Below w4.heap.size w4 w5 := ⟨hb5d.os, hb5d.tape, hb5d.output, hb5d.size, hb5d.block⟩; have hT5 := hT4.kept hb5; obtain ⟨r0, r1, r2, r3, r4, r5, r6⟩ := id hT5)
      | (go_at_call_of 60 (Value.int .u64 (h2 : Int)); refine (A2c.out _).mono ?_; rintro e w6 ⟨rfl, hb6⟩; have hT6 := hT5.kept hb6; obtain ⟨s0, s1, s2, s3, s4, s5, s6⟩ := id hT6))
    have hB5 := hB4.trans (hb5.mono hB4.size)
    have hB6 := hB5.trans (hb6.mono hB5.size)
    clear q0 q1 q2 q3 q4 q5 q6 r0 r1 r2 r3 r4 r5 r6
    go_wp2_with fail
    go_ret
    exact ⟨rfl, hB6⟩
  | false =>
    have d4 : 65535 < z := hz
    clear hz
    go_enter Tryd.func32, Tryd.ntmps32
    go_wp2_with fail
    obtain ⟨W0, hW⟩ : ∃ W0, W0 = (w.alloc (.cells #[.bool false, .int .u64 h1, .int .u64 l1] 24)).alloc (.cells #[.bool false, .int .u64 h2, .int .u64 l2] 24) := ⟨_, rfl⟩
    rw [← hW]
    have hT0 : Two W0 w.heap.size false h1 l1 false h2 l2 := by rw [hW]; exact two_new ..
    have hB0 : Below w.heap.size w W0 := by rw [hW]; exact ((Below.refl _ _).alloc (Nat.le_refl _) _).alloc (by simp) _
    clear hW
    refine (C1.out _).mono ?_
    rintro e w1 ⟨rfl, hb1⟩
    have hT1 := hT0.kept hb1
    have hB1 := hB0.trans (hb1.mono hB0.size)
    obtain ⟨q0, q1, q2, q3, q4, q5, q6⟩ := id hT1
    go_wp2_with fail
    refine (C2.out _).mono ?_
    rintro e w4 ⟨rfl, hb2⟩
    have hT4 := hT1.kept hb2
    have hB4 := hB1.trans (hb2.mono hB1.size)
    clear q0 q1 q2 q3 q4 q5 q6 hb1 hb2 hT0 hT1 hB0 hB1
    obtain ⟨q0, q1, q2, q3, q4, q5, q6⟩ := id hT4
    go_wp2_with fail
    go_region_held3 (fun w' => w'.cell? ⟨w.heap.size, 0, none⟩ = some (.bool false) ∧ w'.cell? ⟨w.heap.size, 1, none⟩ = some (.int .u64 h1) ∧ w'.cell? ⟨w.heap.size, 2, none⟩ = some (.int .u64 l1) ∧ w'.cell? ⟨w.heap.size + 1, 0, none⟩ = some (.bool false) ∧ w'.cell? ⟨w.heap.size + 1, 1, none⟩ = some (.int .u64 h2) ∧ w'.cell? ⟨w.heap.size + 1, 2, none⟩ = some (.int .u64 l2)) (go_keep) (first
      | (go_at_call_of 60 (Value.int .u64 (h1 : Int)); refine (A1c.out _).mono ?_; rintro e w5 ⟨rfl, hb5d⟩; have hb5 : Below w4.heap.size w4 w5 := ⟨hb5d.os, hb5d.tape, hb5d.output, hb5d.size, hb5d.block⟩; have hT5 := hT4.kept hb5; obtain ⟨r0, r1, r2, r3, r4, r5, r6⟩ := id hT5)
      | (go_at_call_of 60 (Value.int .u64 (h2 : Int)); refine (A2c.out _).mono ?_; rintro e w6 ⟨rfl, hb6⟩; have hT6 := hT5.kept hb6; obtain ⟨s0, s1, s2, s3, s4, s5, s6⟩ := id hT6))
    have hB5 := hB4.trans (hb5.mono hB4.size)
    have hB6 := hB5.trans (hb6.mono hB5.size)
    clear q0 q1 q2 q3 q4 q5 q6 r0 r1 r2 r3 r4 r5 r6
    go_wp2_with fail
    go_ret
    exact ⟨rfl, hB6⟩

theorem rpseudo_good (v : Bool) (h1 l1 : Nat) (h2 l2 : Nat) (p z : Int) (k : Nat) (A1 A2 S1 S2 : ByteArray) (w : World) (hk : k = if v then 4 else 2) (hv : vadr v h1 l1 = true) (hv2 : vadr v h2 l2 = true)
    (a1 : ∀ W, Calls Tryd.prog 60 #[.agg #[.bool v, .int .u64 h1, .int .u64 l1]] W fun e w' => e = .returned (.string A1) ∧ Below W.heap.size W w')
    (a2 : ∀ W, Calls Tryd.prog 60 #[.agg #[.bool v, .int .u64 h2, .int .u64 l2]] W fun e w' => e = .returned (.string A2) ∧ Below W.heap.size W w')
    (b3 : A1.size ≤ 16) (b4 : A2.size ≤ 16) (d1 : decide (p < 0) = false) (d2 : decide (255 < p) = false) (d3 : decide (z < 0) = false)
    (p1 : ∀ W, Calls Tryd.prog 61 #[.int .i64 p, .int .i64 k] W fun e w' => e = .returned (.string S1) ∧ Below W.heap.size W w')
    (p2 : ∀ W, Calls Tryd.prog 61 #[.int .i64 z, .int .i64 k] W fun e w' => e = .returned (.string S2) ∧ Below W.heap.size W w')
    (b1 : S1.size ≤ 7) (b2 : S2.size ≤ 7) (hz : decide ((if v then 4294967295 else 65535) < z) = false) :
    Calls Tryd.prog 32 #[.agg #[.bool v, .int .u64 h1, .int .u64 l1], .agg #[.bool v, .int .u64 h2, .int .u64 l2], .int .i64 p, .int .i64 z] w fun e w' => e = .returned (.string (if v then A1 ++ A2 ++ S2 ++ S1 else A1 ++ A2 ++ S1 ++ S2)) ∧ Below w.heap.size w w' := by
  have c1 := fun W => rvalid_addr v h1 l1 W
  rw [hv] at c1
  have C1 := Lib.hid c1
  have c2 := fun W => rvalid_addr v h2 l2 W
  rw [hv2] at c2
  have C2 := Lib.hid c2
  clear c1 c2
  clear hv hv2
  have A1c := Lib.hid a1
  have A2c := Lib.hid a2
  clear a1 a2
  have hcat : (9223372036854775807 < A1.size + A2.size) = False := by simp; omega
  cases v with
  | true =>
    have d4 : decide (4294967295 < z) = false := hz
    clear hz
    obtain rfl : k = 4 := hk
    have P1 := Lib.hid p1
    have P2 := Lib.hid p2
    clear p1 p2
    go_enter Tryd.func32, Tryd.ntmps32
    go_wp2_with fail
    obtain ⟨W0, hW⟩ : ∃ W0, W0 = (w.alloc (.cells #[.bool true, .int .u64 h1, .int .u64 l1] 24)).alloc (.cells #[.bool true, .int .u64 h2, .int .u64 l2] 24) := ⟨_, rfl⟩
    rw [← hW]
    have hT0 : Two W0 w.heap.size true h1 l1 true h2 l2 := by rw [hW]; exact two_new ..
    have hB0 : Below w.heap.size w W0 := by rw [hW]; exact ((Below.refl _ _).alloc (Nat.le_refl _) _).alloc (by simp) _
    clear hW
    refine (C1.out _).mono ?_
    rintro e w1 ⟨rfl, hb1⟩
    have hT1 := hT0.kept hb1
    have hB1 := hB0.trans (hb1.mono hB0.size)
    obtain ⟨q0, q1, q2, q3, q4, q5, q6⟩ := id hT1
    go_wp2_with fail
    refine (C2.out _).mono ?_
    rintro e w4 ⟨rfl, hb2⟩
    have hT4 := hT1.kept hb2
    have hB4 := hB1.trans (hb2.mono hB1.size)
    clear q0 q1 q2 q3 q4 q5 q6 hb1 hb2 hT0 hT1 hB0 hB1
    obtain ⟨q0, q1, q2, q3, q4, q5, q6⟩ := id hT4
    have B1 : S1.size ≤ 7 := b1
    have B2 : S2.size ≤ 7 := b2
    have B3 : A1.size ≤ 16 := b3
    have B4 : A2.size ≤ 16 := b4
    go_wp2_with fail
    go_region_held3 (fun w' => w'.cell? ⟨w.heap.size, 0, none⟩ = some (.bool true) ∧ w'.cell? ⟨w.heap.size, 1, none⟩ = some (.int .u64 h1) ∧ w'.cell? ⟨w.heap.size, 2, none⟩ = some (.int .u64 l1) ∧ w'.cell? ⟨w.heap.size + 1, 0, none⟩ = some (.bool true) ∧ w'.cell? ⟨w.heap.size + 1, 1, none⟩ = some (.int .u64 h2) ∧ w'.cell? ⟨w.heap.size + 1, 2, none⟩ = some (.int .u64 l2)) (go_keep) (first
      | (go_at_call_of 60 (Value.int .u64 (h1 : Int)); refine (A1c.out _).mono ?_; rintro e w5 ⟨rfl, hb5d⟩; have hb5 : Below w4.heap.size w4 w5 := ⟨hb5d.os, hb5d.tape, hb5d.output, hb5d.size, hb5d.block⟩; have hT5 := hT4.kept hb5; obtain ⟨r0, r1, r2, r3, r4, r5, r6⟩ := id hT5)
      | (go_at_call_of 60 (Value.int .u64 (h2 : Int)); refine (A2c.out _).mono ?_; rintro e w6 ⟨rfl, hb6⟩; have hT6 := hT5.kept hb6; obtain ⟨s0, s1, s2, s3, s4, s5, s6⟩ := id hT6))
    have hB5 := hB4.trans (hb5.mono hB4.size)
    have hB6 := hB5.trans (hb6.mono hB5.size)
    clear q0 q1 q2 q3 q4 q5 q6 r0 r1 r2 r3 r4 r5 r6
    go_wp2_with fail
    refine (P2.out _).mono ?_
    rintro e w7 ⟨rfl, hb7⟩
    go_wp2_with fail
    refine (P1.out _).mono ?_
    rintro e w8 ⟨rfl, hb8⟩
    have hB7 := hB6.trans (hb7.mono hB6.size)
    go_wp2_with fail
    go_ret
    exact ⟨rfl, hB7.trans (hb8.mono hB7.size)⟩
  | false =>
    have d4 : decide (65535 < z) = false := hz
    clear hz
    obtain rfl : k = 2 := hk
    have P1 := Lib.hid p1
    have P2 := Lib.hid p2
    clear p1 p2
    go_enter Tryd.func32, Tryd.ntmps32
    go_wp2_with fail
    obtain ⟨W0, hW⟩ : ∃ W0, W0 = (w.alloc (.cells #[.bool false, .int .u64 h1, .int .u64 l1] 24)).alloc (.cells #[.bool false, .int .u64 h2, .int .u64 l2] 24) := ⟨_, rfl⟩
    rw [← hW]
    have hT0 : Two W0 w.heap.size false h1 l1 false h2 l2 := by rw [hW]; exact two_new ..
    have hB0 : Below w.heap.size w W0 := by rw [hW]; exact ((Below.refl _ _).alloc (Nat.le_refl _) _).alloc (by simp) _
    clear hW
    refine (C1.out _).mono ?_
    rintro e w1 ⟨rfl, hb1⟩
    have hT1 := hT0.kept hb1
    have hB1 := hB0.trans (hb1.mono hB0.size)
    obtain ⟨q0, q1, q2, q3, q4, q5, q6⟩ := id hT1
    go_wp2_with fail
    refine (C2.out _).mono ?_
    rintro e w4 ⟨rfl, hb2⟩
    have hT4 := hT1.kept hb2
    have hB4 := hB1.trans (hb2.mono hB1.size)
    clear q0 q1 q2 q3 q4 q5 q6 hb1 hb2 hT0 hT1 hB0 hB1
    obtain ⟨q0, q1, q2, q3, q4, q5, q6⟩ := id hT4
    have B1 : S1.size ≤ 7 := b1
    have B2 : S2.size ≤ 7 := b2
    have B3 : A1.size ≤ 16 := b3
    have B4 : A2.size ≤ 16 := b4
    go_wp2_with fail
    go_region_held3 (fun w' => w'.cell? ⟨w.heap.size, 0, none⟩ = some (.bool false) ∧ w'.cell? ⟨w.heap.size, 1, none⟩ = some (.int .u64 h1) ∧ w'.cell? ⟨w.heap.size, 2, none⟩ = some (.int .u64 l1) ∧ w'.cell? ⟨w.heap.size + 1, 0, none⟩ = some (.bool false) ∧ w'.cell? ⟨w.heap.size + 1, 1, none⟩ = some (.int .u64 h2) ∧ w'.cell? ⟨w.heap.size + 1, 2, none⟩ = some (.int .u64 l2)) (go_keep) (first
      | (go_at_call_of 60 (Value.int .u64 (h1 : Int)); refine (A1c.out _).mono ?_; rintro e w5 ⟨rfl, hb5d⟩; have hb5 : Below w4.heap.size w4 w5 := ⟨hb5d.os, hb5d.tape, hb5d.output, hb5d.size, hb5d.block⟩; have hT5 := hT4.kept hb5; obtain ⟨r0, r1, r2, r3, r4, r5, r6⟩ := id hT5)
      | (go_at_call_of 60 (Value.int .u64 (h2 : Int)); refine (A2c.out _).mono ?_; rintro e w6 ⟨rfl, hb6⟩; have hT6 := hT5.kept hb6; obtain ⟨s0, s1, s2, s3, s4, s5, s6⟩ := id hT6))
    have hB5 := hB4.trans (hb5.mono hB4.size)
    have hB6 := hB5.trans (hb6.mono hB5.size)
    clear q0 q1 q2 q3 q4 q5 q6 r0 r1 r2 r3 r4 r5 r6
    go_wp2_with fail
    refine (P1.out _).mono ?_
    rintro e w7 ⟨rfl, hb7⟩
    go_wp2_with fail
    refine (P2.out _).mono ?_
    rintro e w8 ⟨rfl, hb8⟩
    have hB7 := hB6.trans (hb7.mono hB6.size)
    go_wp2_with fail
    go_ret
    exact ⟨rfl, hB7.trans (hb8.mono hB7.size)⟩
end Go.Proofs.YtmfoionlapcgkaaDoor

/- Both Pseudos answer one string. -/
namespace Go.Proofs.YtmfoionlapcgkaaDoor
open Go.ChangeShapes Go.WideShapes Go.ChangeAt Go.RowKit

theorem str_isEmpty (l : List UInt8) : (str l).toList.isEmpty = l.isEmpty := by
  have h : (str l).toList = l := (ByteArray.toList_eq _).trans (str_toList l)
  rw [h]
theorem be_isEmpty (k n : Nat) : (str (leL (k + 1) n).reverse).toList.isEmpty = false := by
  rw [str_isEmpty]
  simp [leL]
theorem be_size (k n : Nat) : (str (leL k n).reverse).size = k := by rw [str_size, List.length_reverse, leL_length]
theorem be_pad (a n : Nat) (h : n < 256) : (leL (a + 1) n).reverse = (leL a 0).reverse ++ (leL 1 n).reverse := by
  rw [show a + 1 = 1 + a by omega, leL_append, show pw 1 = 256 from rfl, Nat.div_eq_of_lt h, List.reverse_append]

theorem adr_le (v6 : Bool) (hi lo : Nat) : (str (adr v6 hi lo)).size ≤ 16 := by
  rw [str_size, adr_length]; split <;> omega

theorem pseudo_both (v1 : Bool) (h1 l1 : Nat) (v2 : Bool) (h2 l2 : Nat) (p z : Int) (e1 : h1 < 18446744073709551616) (e2 : l1 < 18446744073709551616) (e3 : h2 < 18446744073709551616) (e4 : l2 < 18446744073709551616)
    (p0 : -9223372036854775808 ≤ p) (p1 : p ≤ 9223372036854775807) (z0 : -9223372036854775808 ≤ z) (z1 : z ≤ 9223372036854775807) :
    ∃ R : ByteArray, (∀ W, Sh W → Calls Tryd.prog 23 #[.agg #[.bool v1, .int .u64 h1, .int .u64 l1], .agg #[.bool v2, .int .u64 h2, .int .u64 l2], .int .i64 p, .int .i64 z] W fun e w' => e = .returned (.string R) ∧ Below W.heap.size W w') ∧
      (∀ W, Calls Tryd.prog 32 #[.agg #[.bool v1, .int .u64 h1, .int .u64 l1], .agg #[.bool v2, .int .u64 h2, .int .u64 l2], .int .i64 p, .int .i64 z] W fun e w' => e = .returned (.string R) ∧ Below W.heap.size W w') := by
  cases hv : vadr v1 h1 l1 with
  | false => exact ⟨str [], fun W _ => pseudo_bad1 v1 h1 l1 v2 h2 l2 p z W hv, fun W => rpseudo_bad1 v1 h1 l1 v2 h2 l2 p z W hv⟩
  | true =>
  cases hv2 : vadr v2 h2 l2 with
  | false => exact ⟨str [], fun W _ => pseudo_bad2 v1 h1 l1 v2 h2 l2 p z W hv hv2, fun W => rpseudo_bad2 v1 h1 l1 v2 h2 l2 p z W hv hv2⟩
  | true =>
  cases hne : v1 == v2 with
  | false => exact ⟨str [], fun W _ => pseudo_bad3 v1 h1 l1 v2 h2 l2 p z W hv hv2 hne, fun W => rpseudo_bad3 v1 h1 l1 v2 h2 l2 p z W hv hv2 hne⟩
  | true =>
  obtain rfl : v1 = v2 := by simpa using hne
  clear hne
  have hk : ∃ k : Nat, k = (if v1 then 4 else 2) ∧ 1 ≤ k ∧ k ≤ 4 ∧ (pw k : Int) = (if v1 then 4294967296 else 65536) := by
    cases v1
    · exact ⟨2, rfl, by omega, by omega, by decide⟩
    · exact ⟨4, rfl, by omega, by omega, by decide⟩
  obtain ⟨k, hk, k1, k4, hpk⟩ := hk
  have hpos : 0 < pw k := pw_pos k
  have hlim : ((if v1 then 4294967295 else 65535 : Int)) = (pw k : Int) - 1 := by rw [hpk]; cases v1 <;> rfl
  have pe : (str ([] : List UInt8)).toList.isEmpty = true := by rw [str_isEmpty]; rfl
  -- Put's answers
  have zno : (z < 0 ∨ (pw k : Int) ≤ z) → ∀ W, Calls Tryd.prog 39 #[.int .i64 z, .int .i64 k] W fun e w' => e = .returned (.string (str [])) ∧ Below W.heap.size W w' :=
    fun h W => put_no z k W z1 z0 (by rcases h with h | h
                                      · exact Or.inr (Or.inr (Or.inl h))
                                      · exact Or.inr (Or.inr (Or.inr ⟨by omega, by rw [Int.toNat_natCast]; omega⟩)))
  have pno : (p < 0 ∨ 255 < p) → ∀ W, Calls Tryd.prog 39 #[.int .i64 p, .int .i64 1] W fun e w' => e = .returned (.string (str [])) ∧ Below W.heap.size W w' :=
    fun h W => put_no p 1 W p1 p0 (by rcases h with h | h
                                      · exact Or.inr (Or.inr (Or.inl h))
                                      · exact Or.inr (Or.inr (Or.inr ⟨by omega, by show 256 ≤ _; omega⟩)))
  by_cases hz0 : z < 0 ∨ (pw k : Int) ≤ z
  · -- the size has no bytes
    by_cases hp : p < 0 ∨ 255 < p
    · refine ⟨str [], fun W _ => pseudo_put_bad v1 h1 l1 h2 l2 p z k _ _ W hk hv hv2 (pno hp) (zno hz0) (Or.inl pe), fun W => rpseudo_bad4 v1 h1 l1 h2 l2 p z W hv hv2 ?_⟩
      by_cases hp0 : p < 0
      · exact Or.inl hp0
      · exact Or.inr (Or.inl ⟨by simpa using hp0, by omega⟩)
    have pyes : ∀ W, Calls Tryd.prog 39 #[.int .i64 p, .int .i64 1] W fun e w' => e = .returned (.string (str (leL 1 p.toNat).reverse)) ∧ Below W.heap.size W w' :=
      fun W => put_yes p 1 W (by omega) (by omega) (by omega) p1 (by show _ < 256; omega)
    have bad := fun W => pseudo_put_bad v1 h1 l1 h2 l2 p z k _ _ W hk hv hv2 pyes (zno hz0) (Or.inr ⟨be_isEmpty 0 _, pe⟩)
    have d1 : decide (p < 0) = false := by simp; omega
    have d2 : decide (255 < p) = false := by simp; omega
    by_cases hz : z < 0
    · exact ⟨str [], fun W _ => bad W, fun W => rpseudo_bad4 v1 h1 l1 h2 l2 p z W hv hv2 (Or.inr (Or.inr ⟨d1, d2, hz⟩))⟩
    · have d3 : decide (z < 0) = false := by simp; omega
      exact ⟨str [], fun W _ => bad W, fun W => rpseudo_big v1 h1 l1 h2 l2 p z _ _ W hv hv2 (fun W => raddr_any v1 h1 l1 W e1 e2 hv) (fun W => raddr_any v1 h2 l2 W e3 e4 hv2) (adr_le v1 h1 l1) (adr_le v1 h2 l2) d1 d2 d3 (by rw [hlim]; omega)⟩
  · have zyes : ∀ W, Calls Tryd.prog 39 #[.int .i64 z, .int .i64 k] W fun e w' => e = .returned (.string (str (leL k z.toNat).reverse)) ∧ Below W.heap.size W w' := fun W => by
      have := put_yes z k W (by omega) (by omega) (by omega) z1 (by rw [Int.toNat_natCast]; omega)
      rw [Int.toNat_natCast] at this
      exact this
    by_cases hp : p < 0 ∨ 255 < p
    · refine ⟨str [], fun W _ => pseudo_put_bad v1 h1 l1 h2 l2 p z k _ _ W hk hv hv2 (pno hp) zyes (Or.inl pe), fun W => rpseudo_bad4 v1 h1 l1 h2 l2 p z W hv hv2 ?_⟩
      by_cases hp0 : p < 0
      · exact Or.inl hp0
      · exact Or.inr (Or.inl ⟨by simpa using hp0, by omega⟩)
    have pyes : ∀ W, Calls Tryd.prog 39 #[.int .i64 p, .int .i64 1] W fun e w' => e = .returned (.string (str (leL 1 p.toNat).reverse)) ∧ Below W.heap.size W w' :=
      fun W => put_yes p 1 W (by omega) (by omega) (by omega) p1 (by show _ < 256; omega)
    have d1 : decide (p < 0) = false := by simp; omega
    have d2 : decide (255 < p) = false := by simp; omega
    have d3 : decide (z < 0) = false := by simp; omega
    obtain ⟨k', rfl⟩ : ∃ k', k = k' + 1 := ⟨k - 1, by omega⟩
    have rz : ∀ W, Calls Tryd.prog 61 #[.int .i64 z, .int .i64 (k' + 1 : Nat)] W fun e w' => e = .returned (.string (str (leL (k' + 1) z.toNat).reverse)) ∧ Below W.heap.size W w' := fun W => by
      have := rnum_any z.toNat (k' + 1) W (by omega) (by omega)
      rw [show ((z.toNat : Nat) : Int) = z by omega] at this
      exact this
    have rp : ∀ W, Calls Tryd.prog 61 #[.int .i64 p, .int .i64 (k' + 1 : Nat)] W fun e w' => e = .returned (.string (str (leL (k' + 1) p.toNat).reverse)) ∧ Below W.heap.size W w' := fun W => by
      have := rnum_any p.toNat (k' + 1) W (by omega) (by omega)
      rw [show ((p.toNat : Nat) : Int) = p by omega] at this
      exact this
    have g1 := fun W h => pseudo_good v1 h1 l1 h2 l2 p z (k' + 1) _ _ _ _ W h hk hv hv2 pyes zyes (fun W h => addrb_any v1 h1 l1 W e1 e2 h) (fun W h => addrb_any v1 h2 l2 W e3 e4 h) (be_isEmpty 0 _) (be_isEmpty k' _) (by rw [be_size]; omega) (by rw [be_size]; omega) (adr_le v1 h1 l1) (adr_le v1 h2 l2)
    have g2 := fun W => rpseudo_good v1 h1 l1 h2 l2 p z (k' + 1) _ _ _ _ W hk hv hv2 (fun W => raddr_any v1 h1 l1 W e1 e2 hv) (fun W => raddr_any v1 h2 l2 W e3 e4 hv2) (adr_le v1 h1 l1) (adr_le v1 h2 l2) d1 d2 d3 rp rz (by rw [be_size]; omega) (by rw [be_size]; omega) (by rw [hlim]; simp; omega)
    refine ⟨_, g1, ?_⟩
    have hpl : p.toNat < 256 := by omega
    cases v1 with
    | true =>
      obtain rfl : k' = 3 := by simpa using hk
      rw [be_pad 3 _ hpl, ← str_append] at g2
      simp only [if_true] at g2 ⊢
      rw [show str (leL 3 0).reverse = ⟨#[0, 0, 0]⟩ from rfl, ← ByteArray.append_assoc] at g2
      exact g2
    | false =>
      obtain rfl : k' = 1 := by simpa using hk
      rw [be_pad 1 _ hpl, ← str_append] at g2
      simp only [Bool.false_eq_true, if_false] at g2 ⊢
      rw [show str (leL 1 0).reverse = ⟨#[0]⟩ from rfl, ← ByteArray.append_assoc] at g2
      exact g2
end Go.Proofs.YtmfoionlapcgkaaDoor
