/- Contracts of the functions, part 33: Ip6PRng. -/
import Derived.Deep.Cut
import Derived.Test.YtjjldolafnfpoaaPE32
/- Contract of the program of layer 12: inRange. -/
namespace Go.Proofs.Ytjjldolafnfpoaa
open Go.ChangeShapes Go.WideShapes Go.ChangeAt Go.RowKit
set_option linter.unusedVariables false

set_option maxHeartbeats 8000000 in
set_option maxRecDepth 100000 in
theorem prange12_any (cls lab hops nxt id off : Int) (sv dv frg more : Bool) (sh sl dh dl : Nat) (n : Nat) (A : Option Addr) (c : Nat) (D : ByteArray) (Q : Bool) (w : World) (hQ : Q = true ↔ ¬ ((cls < 0 ∨ 255 < cls) ∨ (hops < 0 ∨ 255 < hops) ∨ (lab < 0 ∨ 1048575 < lab) ∨ (nxt < 0 ∨ 255 < nxt) ∨ extK nxt ∨ nxt = 44 ∨ sv = false ∨ dv = false ∨ (frg = false ∧ (id ≠ 0 ∨ off ≠ 0 ∨ more = true)) ∨ (frg = true ∧ (id < 0 ∨ 4294967296 ≤ id ∨ off < 0 ∨ 65528 < off ∨ off % 8 ≠ 0)))) :
    Calls Try.prog 51 #[.agg #[.int .i64 cls, .int .i64 lab, .int .i64 hops, .int .i64 nxt, .bool sv, .int .u64 (sh : Int), .int .u64 (sl : Int), .bool dv, .int .u64 (dh : Int), .int .u64 (dl : Int), .slice A n c, .bool frg, .int .i64 id, .int .i64 off, .bool more, .string D]] w fun e w' => e = .returned (.bool Q) ∧ Below w.heap.size w w' := by
  have HQ := Lib.hid hQ
  clear hQ
  have HU := Lib.hid (fun (n l : Int) (q : Bool) (hq : decide (0 ≤ n ∧ n ≤ l) = q) (W : World) => show Calls Try.prog 38 #[.int .i64 n, .int .i64 l] W fun e w' => e = .returned (.bool q) ∧ W = w' by rw [← hq]; exact pupto12_any n l W)
  obtain ⟨q1, hq1⟩ : ∃ q : Bool, (decide (0 ≤ cls ∧ cls ≤ 255)) = q := ⟨_, rfl⟩
  have Hq1 := Lib.hid hq1
  clear hq1
  obtain ⟨q2, hq2⟩ : ∃ q : Bool, (decide (0 ≤ hops ∧ hops ≤ 255)) = q := ⟨_, rfl⟩
  have Hq2 := Lib.hid hq2
  clear hq2
  obtain ⟨q3, hq3⟩ : ∃ q : Bool, (decide (0 ≤ lab ∧ lab ≤ 1048575)) = q := ⟨_, rfl⟩
  have Hq3 := Lib.hid hq3
  clear hq3
  obtain ⟨q4, hq4⟩ : ∃ q : Bool, (decide (0 ≤ nxt ∧ nxt ≤ 255)) = q := ⟨_, rfl⟩
  have Hq4 := Lib.hid hq4
  clear hq4
  obtain ⟨q5, hq5⟩ : ∃ q : Bool, (decide (hdKi nxt)) = q := ⟨_, rfl⟩
  have Hq5 := Lib.hid hq5
  clear hq5
  obtain ⟨q6, hq6⟩ : ∃ q : Bool, (decide (0 ≤ id ∧ id ≤ 4294967295)) = q := ⟨_, rfl⟩
  have Hq6 := Lib.hid hq6
  clear hq6
  obtain ⟨q7, hq7⟩ : ∃ q : Bool, (decide (0 ≤ off ∧ off ≤ 65528)) = q := ⟨_, rfl⟩
  have Hq7 := Lib.hid hq7
  clear hq7
  obtain ⟨q8, hq8⟩ : ∃ q : Bool, (off.tmod 8 == 0) = q := ⟨_, rfl⟩
  have Hq8 := Lib.hid hq8
  clear hq8
  obtain ⟨W1, hW1⟩ : ∃ W, W = w.alloc (.cells #[.int .i64 cls, .int .i64 lab, .int .i64 hops, .int .i64 nxt, .bool sv, .int .u64 (sh : Int), .int .u64 (sl : Int), .bool dv, .int .u64 (dh : Int), .int .u64 (dl : Int), .slice A n c, .bool frg, .int .i64 id, .int .i64 off, .bool more, .string D] 28) := ⟨_, rfl⟩
  obtain ⟨g, hg⟩ : ∃ g, g = w.heap.size := ⟨_, rfl⟩
  have HX := Lib.hid (show Cells W1 g 28 #[.int .i64 cls, .int .i64 lab, .int .i64 hops, .int .i64 nxt, .bool sv, .int .u64 (sh : Int), .int .u64 (sl : Int), .bool dv, .int .u64 (dh : Int), .int .u64 (dl : Int), .slice A n c, .bool frg, .int .i64 id, .int .i64 off, .bool more, .string D] by rw [hW1, hg]; exact heap_alloc_new w _)
  have HB1 := Lib.hid (show Below w.heap.size w W1 by rw [hW1]; exact below_alloc6 w _)
  have HV := Lib.hid (fun (W : World) (hb : Below W1.heap.size W1 W) (i : Nat) (v : Value) (hv : (#[.int .i64 cls, .int .i64 lab, .int .i64 hops, .int .i64 nxt, .bool sv, .int .u64 (sh : Int), .int .u64 (sl : Int), .bool dv, .int .u64 (dh : Int), .int .u64 (dl : Int), .slice A n c, .bool frg, .int .i64 id, .int .i64 off, .bool more, .string D])[i]? = some v) => show W.cell? ⟨g, i, none⟩ = some v from box_cell HX.out hb i v hv)
  have HW := Lib.hid (fun (W : World) (hb : Below W1.heap.size W1 W) => HB1.out.trans (hb.mono HB1.out.size))
  have x0 := HV.out _ (Below.refl _ _) 0 (Value.int .i64 cls) rfl
  have x1 := HV.out _ (Below.refl _ _) 1 (Value.int .i64 lab) rfl
  have x2 := HV.out _ (Below.refl _ _) 2 (Value.int .i64 hops) rfl
  have x3 := HV.out _ (Below.refl _ _) 3 (Value.int .i64 nxt) rfl
  have x4 := HV.out _ (Below.refl _ _) 4 (Value.bool sv) rfl
  have x7 := HV.out _ (Below.refl _ _) 7 (Value.bool dv) rfl
  have x11 := HV.out _ (Below.refl _ _) 11 (Value.bool frg) rfl
  have x12 := HV.out _ (Below.refl _ _) 12 (Value.int .i64 id) rfl
  have x13 := HV.out _ (Below.refl _ _) 13 (Value.int .i64 off) rfl
  have x14 := HV.out _ (Below.refl _ _) 14 (Value.bool more) rfl
  have hgl := HX.out.lt
  have HBA := Lib.hid (below_alloc6 W1 (.cells #[.int .i64 0, .int .i64 43, .int .i64 44, .int .i64 60] 3))
  go_enter Try.func51, Try.ntmps51
  go_upto_region 1 with fail
  rw [← hW1, ← hg]
  clear hW1 hg
  cases frg
  · by_cases c1 : id = 0
    · have d1 : (id != 0) = false := by simp [c1]
      have n1 : id = 0 := c1
      by_cases c2 : off = 0
      · have d2 : (off != 0) = false := by simp [c2]
        cases more
        · have HFZ := Lib.hid (And.intro c1 c2)
          clear c1 c2 n1
          go_wp2_with fail
          refine (HU.out cls 255 q1 Hq1.out _).mono ?_
          rintro e w2 ⟨rfl, rfl⟩
          cases q1
          · have hq := of_decide_eq_false Hq1.out
            have HF := Lib.hid (show Q = false by rw [← Bool.not_eq_true]; intro hh; refine HQ.out.1 hh ?_; exact .inl (by omega))
            go_wp2_with fail
            go_ret
            exact ⟨by rw [HF.out]; rfl, HW.out _ (Below.refl _ _)⟩
          have Wq1 := Lib.hid (of_decide_eq_true Hq1.out)
          go_wp2_with fail
          refine (HU.out hops 255 q2 Hq2.out _).mono ?_
          rintro e w2 ⟨rfl, rfl⟩
          cases q2
          · have hq := of_decide_eq_false Hq2.out
            have HF := Lib.hid (show Q = false by rw [← Bool.not_eq_true]; intro hh; refine HQ.out.1 hh ?_; exact .inr (.inl (by omega)))
            go_wp2_with fail
            go_ret
            exact ⟨by rw [HF.out]; rfl, HW.out _ (Below.refl _ _)⟩
          have Wq2 := Lib.hid (of_decide_eq_true Hq2.out)
          go_wp2_with fail
          refine (HU.out lab 1048575 q3 Hq3.out _).mono ?_
          rintro e w2 ⟨rfl, rfl⟩
          cases q3
          · have hq := of_decide_eq_false Hq3.out
            have HF := Lib.hid (show Q = false by rw [← Bool.not_eq_true]; intro hh; refine HQ.out.1 hh ?_; exact .inr (.inr (.inl (by omega))))
            go_wp2_with fail
            go_ret
            exact ⟨by rw [HF.out]; rfl, HW.out _ (Below.refl _ _)⟩
          have Wq3 := Lib.hid (of_decide_eq_true Hq3.out)
          cases sv
          · have HF := Lib.hid (show Q = false by rw [← Bool.not_eq_true]; intro hh; refine HQ.out.1 hh ?_; exact .inr (.inr (.inr (.inr (.inr (.inr (.inl (by trivial))))))))
            go_wp2_with fail
            go_ret
            exact ⟨by rw [HF.out]; rfl, HW.out _ (Below.refl _ _)⟩
          cases dv
          · have HF := Lib.hid (show Q = false by rw [← Bool.not_eq_true]; intro hh; refine HQ.out.1 hh ?_; exact .inr (.inr (.inr (.inr (.inr (.inr (.inr (.inl (by trivial)))))))))
            go_wp2_with fail
            go_ret
            exact ⟨by rw [HF.out]; rfl, HW.out _ (Below.refl _ _)⟩
          go_wp2_with fail
          refine (HU.out nxt 255 q4 Hq4.out _).mono ?_
          rintro e w2 ⟨rfl, rfl⟩
          cases q4
          · have hq := of_decide_eq_false Hq4.out
            have HF := Lib.hid (show Q = false by rw [← Bool.not_eq_true]; intro hh; refine HQ.out.1 hh ?_; exact .inr (.inr (.inr (.inl (by omega)))))
            go_wp2_with fail
            go_ret
            exact ⟨by rw [HF.out]; rfl, HW.out _ (Below.refl _ _)⟩
          have Wq4 := Lib.hid (of_decide_eq_true Hq4.out)
          go_wp2_with fail
          refine (pany4_12 nxt q5 Hq5.out _ _ (heap_alloc_new W1 _)).mono ?_
          rintro e w2 ⟨rfl, rfl⟩
          cases q5
          rotate_left
          · have hq := of_decide_eq_true Hq5.out
            have HF := Lib.hid (show Q = false by
              rw [← Bool.not_eq_true]
              intro hh
              refine HQ.out.1 hh ?_
              rcases hq with h | h | h | h
              · exact .inr (.inr (.inr (.inr (.inl (.inl h)))))
              · exact .inr (.inr (.inr (.inr (.inl (.inr (.inl h))))))
              · exact .inr (.inr (.inr (.inr (.inr (.inl h)))))
              · exact .inr (.inr (.inr (.inr (.inl (.inr (.inr h)))))))
            go_wp2_with fail
            go_ret
            exact ⟨by rw [HF.out]; rfl, HW.out _ HBA.out⟩
          have Wq5 := Lib.hid (of_decide_eq_false Hq5.out)
          go_wp2_with fail
          refine (HU.out id 4294967295 q6 Hq6.out _).mono ?_
          rintro e w2 ⟨rfl, rfl⟩
          cases q6
          · exfalso
            have hq := of_decide_eq_false Hq6.out
            have := HFZ.out
            omega
          have Wq6 := Lib.hid (of_decide_eq_true Hq6.out)
          go_wp2_with fail
          refine (HU.out off 65528 q7 Hq7.out _).mono ?_
          rintro e w2 ⟨rfl, rfl⟩
          cases q7
          · exfalso
            have hq := of_decide_eq_false Hq7.out
            have := HFZ.out
            omega
          have Wq7 := Lib.hid (of_decide_eq_true Hq7.out)
          have htm : off.tmod 8 = off % 8 := Int.tmod_eq_emod_of_nonneg Wq7.out.1
          have HTM := Lib.hid htm
          clear htm
          cases q8
          · exfalso
            have hq8 := Hq8.out
            have nq8 : ¬ off.tmod 8 = 0 := by simpa using hq8
            have h1 := HFZ.out
            have h2 := HTM.out
            omega
          have hq8 := Hq8.out
          have nq8 : off.tmod 8 = 0 := by simpa using hq8
          have HT := Lib.hid (show Q = true by
            refine HQ.out.2 ?_
            have e1 := Wq1.out
            have e2 := Wq2.out
            have e3 := Wq3.out
            have e4 := Wq4.out
            have e5 := Wq5.out
            have e6 := Wq6.out
            have e7 := Wq7.out
            have e8 := HTM.out
            unfold hdKi at e5
            rintro (h | h | h | h | h | h | h | h | h | h)
            · omega
            · omega
            · omega
            · omega
            · rcases h with h | h | h
              · exact e5 (.inl h)
              · exact e5 (.inr (.inl h))
              · exact e5 (.inr (.inr (.inr h)))
            · exact e5 (.inr (.inr (.inl h)))
            · cases h
            · cases h
            · have h1 := HFZ.out
              rcases h.2 with h | h | h
              · exact h h1.1
              · exact h h1.2
              · cases h
            · exact absurd h.1 (by decide))
          go_wp2_with fail
          go_ret
          exact ⟨by rw [HT.out]; rfl, HW.out _ HBA.out⟩
        · have HF := Lib.hid (show Q = false by rw [← Bool.not_eq_true]; intro hh; refine HQ.out.1 hh ?_; exact .inr (.inr (.inr (.inr (.inr (.inr (.inr (.inr (.inl (⟨by trivial, .inr (.inr (by trivial))⟩))))))))))
          go_wp2_with fail
          go_ret
          exact ⟨by rw [HF.out]; rfl, HW.out _ (Below.refl _ _)⟩
      · have d2 : (off != 0) = true := by simp [c2]
        have HF := Lib.hid (show Q = false by rw [← Bool.not_eq_true]; intro hh; refine HQ.out.1 hh ?_; exact .inr (.inr (.inr (.inr (.inr (.inr (.inr (.inr (.inl (⟨by trivial, .inr (.inl c2)⟩))))))))))
        go_wp2_with fail
        go_ret
        exact ⟨by rw [HF.out]; rfl, HW.out _ (Below.refl _ _)⟩
    · have d1 : (id != 0) = true := by simp [c1]
      have HF := Lib.hid (show Q = false by rw [← Bool.not_eq_true]; intro hh; refine HQ.out.1 hh ?_; exact .inr (.inr (.inr (.inr (.inr (.inr (.inr (.inr (.inl (⟨by trivial, .inl c1⟩))))))))))
      go_wp2_with fail
      go_ret
      exact ⟨by rw [HF.out]; rfl, HW.out _ (Below.refl _ _)⟩
  · go_wp2_with fail
    refine (HU.out cls 255 q1 Hq1.out _).mono ?_
    rintro e w2 ⟨rfl, rfl⟩
    cases q1
    · have hq := of_decide_eq_false Hq1.out
      have HF := Lib.hid (show Q = false by rw [← Bool.not_eq_true]; intro hh; refine HQ.out.1 hh ?_; exact .inl (by omega))
      go_wp2_with fail
      go_ret
      exact ⟨by rw [HF.out]; rfl, HW.out _ (Below.refl _ _)⟩
    have Wq1 := Lib.hid (of_decide_eq_true Hq1.out)
    go_wp2_with fail
    refine (HU.out hops 255 q2 Hq2.out _).mono ?_
    rintro e w2 ⟨rfl, rfl⟩
    cases q2
    · have hq := of_decide_eq_false Hq2.out
      have HF := Lib.hid (show Q = false by rw [← Bool.not_eq_true]; intro hh; refine HQ.out.1 hh ?_; exact .inr (.inl (by omega)))
      go_wp2_with fail
      go_ret
      exact ⟨by rw [HF.out]; rfl, HW.out _ (Below.refl _ _)⟩
    have Wq2 := Lib.hid (of_decide_eq_true Hq2.out)
    go_wp2_with fail
    refine (HU.out lab 1048575 q3 Hq3.out _).mono ?_
    rintro e w2 ⟨rfl, rfl⟩
    cases q3
    · have hq := of_decide_eq_false Hq3.out
      have HF := Lib.hid (show Q = false by rw [← Bool.not_eq_true]; intro hh; refine HQ.out.1 hh ?_; exact .inr (.inr (.inl (by omega))))
      go_wp2_with fail
      go_ret
      exact ⟨by rw [HF.out]; rfl, HW.out _ (Below.refl _ _)⟩
    have Wq3 := Lib.hid (of_decide_eq_true Hq3.out)
    cases sv
    · have HF := Lib.hid (show Q = false by rw [← Bool.not_eq_true]; intro hh; refine HQ.out.1 hh ?_; exact .inr (.inr (.inr (.inr (.inr (.inr (.inl (by trivial))))))))
      go_wp2_with fail
      go_ret
      exact ⟨by rw [HF.out]; rfl, HW.out _ (Below.refl _ _)⟩
    cases dv
    · have HF := Lib.hid (show Q = false by rw [← Bool.not_eq_true]; intro hh; refine HQ.out.1 hh ?_; exact .inr (.inr (.inr (.inr (.inr (.inr (.inr (.inl (by trivial)))))))))
      go_wp2_with fail
      go_ret
      exact ⟨by rw [HF.out]; rfl, HW.out _ (Below.refl _ _)⟩
    go_wp2_with fail
    refine (HU.out nxt 255 q4 Hq4.out _).mono ?_
    rintro e w2 ⟨rfl, rfl⟩
    cases q4
    · have hq := of_decide_eq_false Hq4.out
      have HF := Lib.hid (show Q = false by rw [← Bool.not_eq_true]; intro hh; refine HQ.out.1 hh ?_; exact .inr (.inr (.inr (.inl (by omega)))))
      go_wp2_with fail
      go_ret
      exact ⟨by rw [HF.out]; rfl, HW.out _ (Below.refl _ _)⟩
    have Wq4 := Lib.hid (of_decide_eq_true Hq4.out)
    go_wp2_with fail
    refine (pany4_12 nxt q5 Hq5.out _ _ (heap_alloc_new W1 _)).mono ?_
    rintro e w2 ⟨rfl, rfl⟩
    cases q5
    rotate_left
    · have hq := of_decide_eq_true Hq5.out
      have HF := Lib.hid (show Q = false by
        rw [← Bool.not_eq_true]
        intro hh
        refine HQ.out.1 hh ?_
        rcases hq with h | h | h | h
        · exact .inr (.inr (.inr (.inr (.inl (.inl h)))))
        · exact .inr (.inr (.inr (.inr (.inl (.inr (.inl h))))))
        · exact .inr (.inr (.inr (.inr (.inr (.inl h)))))
        · exact .inr (.inr (.inr (.inr (.inl (.inr (.inr h)))))))
      go_wp2_with fail
      go_ret
      exact ⟨by rw [HF.out]; rfl, HW.out _ HBA.out⟩
    have Wq5 := Lib.hid (of_decide_eq_false Hq5.out)
    go_wp2_with fail
    refine (HU.out id 4294967295 q6 Hq6.out _).mono ?_
    rintro e w2 ⟨rfl, rfl⟩
    cases q6
    · have hq := of_decide_eq_false Hq6.out
      have HF := Lib.hid (show Q = false by rw [← Bool.not_eq_true]; intro hh; refine HQ.out.1 hh ?_; exact .inr (.inr (.inr (.inr (.inr (.inr (.inr (.inr (.inr (⟨by trivial, by omega⟩))))))))))
      go_wp2_with fail
      go_ret
      exact ⟨by rw [HF.out]; rfl, HW.out _ HBA.out⟩
    have Wq6 := Lib.hid (of_decide_eq_true Hq6.out)
    go_wp2_with fail
    refine (HU.out off 65528 q7 Hq7.out _).mono ?_
    rintro e w2 ⟨rfl, rfl⟩
    cases q7
    · have hq := of_decide_eq_false Hq7.out
      have HF := Lib.hid (show Q = false by rw [← Bool.not_eq_true]; intro hh; refine HQ.out.1 hh ?_; exact .inr (.inr (.inr (.inr (.inr (.inr (.inr (.inr (.inr (⟨by trivial, by omega⟩))))))))))
      go_wp2_with fail
      go_ret
      exact ⟨by rw [HF.out]; rfl, HW.out _ HBA.out⟩
    have Wq7 := Lib.hid (of_decide_eq_true Hq7.out)
    have htm : off.tmod 8 = off % 8 := Int.tmod_eq_emod_of_nonneg Wq7.out.1
    have HTM := Lib.hid htm
    clear htm
    cases q8
    · have hq8 := Hq8.out
      have nq8 : ¬ off.tmod 8 = 0 := by simpa using hq8
      have HF := Lib.hid (show Q = false by rw [← Bool.not_eq_true]; intro hh; refine HQ.out.1 hh ?_; have := HTM.out; exact .inr (.inr (.inr (.inr (.inr (.inr (.inr (.inr (.inr (⟨by trivial, by omega⟩))))))))))
      go_wp2_with fail
      go_ret
      exact ⟨by rw [HF.out]; rfl, HW.out _ HBA.out⟩
    have hq8 := Hq8.out
    have nq8 : off.tmod 8 = 0 := by simpa using hq8
    have HT := Lib.hid (show Q = true by
      refine HQ.out.2 ?_
      have e1 := Wq1.out
      have e2 := Wq2.out
      have e3 := Wq3.out
      have e4 := Wq4.out
      have e5 := Wq5.out
      have e6 := Wq6.out
      have e7 := Wq7.out
      have e8 := HTM.out
      unfold hdKi at e5
      rintro (h | h | h | h | h | h | h | h | h | h)
      · omega
      · omega
      · omega
      · omega
      · rcases h with h | h | h
        · exact e5 (.inl h)
        · exact e5 (.inr (.inl h))
        · exact e5 (.inr (.inr (.inr h)))
      · exact e5 (.inr (.inr (.inl h)))
      · cases h
      · cases h
      · exact absurd h.1 (by decide)
      · omega)
    go_wp2_with fail
    go_ret
    exact ⟨by rw [HT.out]; rfl, HW.out _ HBA.out⟩
end Go.Proofs.Ytjjldolafnfpoaa
