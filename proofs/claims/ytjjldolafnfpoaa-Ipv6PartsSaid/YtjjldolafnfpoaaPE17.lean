/- Contracts of the functions, part 17: Ip6Rng. -/
import Derived.Deep.Cut
import Derived.Test.YtjjldolafnfpoaaPE10
import Derived.Test.YtjjldolafnfpoaaPE11
import Derived.Test.YtjjldolafnfpoaaPE16
/- Contract of the reference of layer 12: ranges. -/
namespace Go.Proofs.Ytjjldolafnfpoaa
open Go.ChangeShapes Go.WideShapes Go.ChangeAt Go.RowKit
set_option linter.unusedVariables false

set_option maxHeartbeats 8000000 in
set_option maxRecDepth 100000 in
theorem rranges12_any (cls lab hops nxt id off : Int) (sv dv frg more : Bool) (sh sl dh dl : Nat) (n : Nat) (A : Option Addr) (c : Nat) (D : ByteArray) (Q : Bool) (w : World) (hQ : Q = true ↔ ¬ ((cls < 0 ∨ 255 < cls) ∨ (hops < 0 ∨ 255 < hops) ∨ (lab < 0 ∨ 1048575 < lab) ∨ (nxt < 0 ∨ 255 < nxt) ∨ extK nxt ∨ nxt = 44 ∨ sv = false ∨ dv = false ∨ (frg = false ∧ (id ≠ 0 ∨ off ≠ 0 ∨ more = true)) ∨ (frg = true ∧ (id < 0 ∨ 4294967296 ≤ id ∨ off < 0 ∨ 65528 < off ∨ off % 8 ≠ 0)))) :
    Calls Try.prog 35 #[.agg #[.int .i64 cls, .int .i64 lab, .int .i64 hops, .int .i64 nxt, .bool sv, .int .u64 (sh : Int), .int .u64 (sl : Int), .bool dv, .int .u64 (dh : Int), .int .u64 (dl : Int), .slice A n c, .bool frg, .int .i64 id, .int .i64 off, .bool more, .string D]] w fun e w' => e = .returned (.bool Q) ∧ Below w.heap.size w w' := by
  have HQ := Lib.hid hQ
  clear hQ
  obtain ⟨W1, hW1⟩ : ∃ W, W = w.alloc (.cells #[.int .i64 cls, .int .i64 lab, .int .i64 hops, .int .i64 nxt, .bool sv, .int .u64 (sh : Int), .int .u64 (sl : Int), .bool dv, .int .u64 (dh : Int), .int .u64 (dl : Int), .slice A n c, .bool frg, .int .i64 id, .int .i64 off, .bool more, .string D] 28) := ⟨_, rfl⟩
  obtain ⟨g, hg⟩ : ∃ g, g = w.heap.size := ⟨_, rfl⟩
  have HX := Lib.hid (show Cells W1 g 28 #[.int .i64 cls, .int .i64 lab, .int .i64 hops, .int .i64 nxt, .bool sv, .int .u64 (sh : Int), .int .u64 (sl : Int), .bool dv, .int .u64 (dh : Int), .int .u64 (dl : Int), .slice A n c, .bool frg, .int .i64 id, .int .i64 off, .bool more, .string D] by rw [hW1, hg]; exact heap_alloc_new w _)
  have HB1 := Lib.hid (show Below w.heap.size w W1 by rw [hW1]; exact below_alloc6 w _)
  have hX := HX.out
  have x0 := (Cells.cell hX 0).trans (show _ = some (Value.int .i64 cls) from rfl)
  have x1 := (Cells.cell hX 1).trans (show _ = some (Value.int .i64 lab) from rfl)
  have x2 := (Cells.cell hX 2).trans (show _ = some (Value.int .i64 hops) from rfl)
  have x3 := (Cells.cell hX 3).trans (show _ = some (Value.int .i64 nxt) from rfl)
  have x4 := (Cells.cell hX 4).trans (show _ = some (Value.bool sv) from rfl)
  have x5 := (Cells.cell hX 5).trans (show _ = some (Value.int .u64 (sh : Int)) from rfl)
  have x6 := (Cells.cell hX 6).trans (show _ = some (Value.int .u64 (sl : Int)) from rfl)
  have x7 := (Cells.cell hX 7).trans (show _ = some (Value.bool dv) from rfl)
  have x8 := (Cells.cell hX 8).trans (show _ = some (Value.int .u64 (dh : Int)) from rfl)
  have x9 := (Cells.cell hX 9).trans (show _ = some (Value.int .u64 (dl : Int)) from rfl)
  have x10 := (Cells.cell hX 10).trans (show _ = some (Value.slice A n c) from rfl)
  have x11 := (Cells.cell hX 11).trans (show _ = some (Value.bool frg) from rfl)
  have x12 := (Cells.cell hX 12).trans (show _ = some (Value.int .i64 id) from rfl)
  have x13 := (Cells.cell hX 13).trans (show _ = some (Value.int .i64 off) from rfl)
  have x14 := (Cells.cell hX 14).trans (show _ = some (Value.bool more) from rfl)
  have x15 := (Cells.cell hX 15).trans (show _ = some (Value.string D) from rfl)
  clear hX
  by_cases c0 : cls < 0
  · have HF := Lib.hid (show Q = false by rw [← Bool.not_eq_true]; intro hh; exact HQ.out.1 hh (.inl (.inl c0)))
    have i0 : cls < 0 := by omega
    have j0 : decide (cls < 0) = true := decide_eq_true i0
    clear HQ c0
    go_enter Try.func35, Try.ntmps35
    go_upto_region 1 with fail
    rw [← hW1, ← hg]
    clear hW1 hg
    go_wp2_with fail
    go_ret
    exact ⟨by rw [HF.out]; rfl, HB1.out⟩
  by_cases c1 : 255 < cls
  · have HF := Lib.hid (show Q = false by rw [← Bool.not_eq_true]; intro hh; exact HQ.out.1 hh (.inl (.inr c1)))
    have i0 : ¬ cls < 0 := by omega
    have j0 : decide (cls < 0) = false := decide_eq_false i0
    have i1 : 255 < cls := by omega
    have j1 : decide (255 < cls) = true := decide_eq_true i1
    clear HQ c0 c1
    go_enter Try.func35, Try.ntmps35
    go_upto_region 1 with fail
    rw [← hW1, ← hg]
    clear hW1 hg
    go_wp2_with fail
    go_ret
    exact ⟨by rw [HF.out]; rfl, HB1.out⟩
  by_cases c2 : hops < 0
  · have HF := Lib.hid (show Q = false by rw [← Bool.not_eq_true]; intro hh; exact HQ.out.1 hh (.inr (.inl (.inl c2))))
    have i0 : ¬ cls < 0 := by omega
    have j0 : decide (cls < 0) = false := decide_eq_false i0
    have i1 : ¬ 255 < cls := by omega
    have j1 : decide (255 < cls) = false := decide_eq_false i1
    have i2 : hops < 0 := by omega
    have j2 : decide (hops < 0) = true := decide_eq_true i2
    clear HQ c0 c1 c2
    go_enter Try.func35, Try.ntmps35
    go_upto_region 1 with fail
    rw [← hW1, ← hg]
    clear hW1 hg
    go_wp2_with fail
    go_ret
    exact ⟨by rw [HF.out]; rfl, HB1.out⟩
  by_cases c3 : 255 < hops
  · have HF := Lib.hid (show Q = false by rw [← Bool.not_eq_true]; intro hh; exact HQ.out.1 hh (.inr (.inl (.inr c3))))
    have i0 : ¬ cls < 0 := by omega
    have j0 : decide (cls < 0) = false := decide_eq_false i0
    have i1 : ¬ 255 < cls := by omega
    have j1 : decide (255 < cls) = false := decide_eq_false i1
    have i2 : ¬ hops < 0 := by omega
    have j2 : decide (hops < 0) = false := decide_eq_false i2
    have i3 : 255 < hops := by omega
    have j3 : decide (255 < hops) = true := decide_eq_true i3
    clear HQ c0 c1 c2 c3
    go_enter Try.func35, Try.ntmps35
    go_upto_region 1 with fail
    rw [← hW1, ← hg]
    clear hW1 hg
    go_wp2_with fail
    go_ret
    exact ⟨by rw [HF.out]; rfl, HB1.out⟩
  by_cases c4 : lab < 0
  · have HF := Lib.hid (show Q = false by rw [← Bool.not_eq_true]; intro hh; exact HQ.out.1 hh (.inr (.inr (.inl (.inl c4)))))
    have i0 : ¬ cls < 0 := by omega
    have j0 : decide (cls < 0) = false := decide_eq_false i0
    have i1 : ¬ 255 < cls := by omega
    have j1 : decide (255 < cls) = false := decide_eq_false i1
    have i2 : ¬ hops < 0 := by omega
    have j2 : decide (hops < 0) = false := decide_eq_false i2
    have i3 : ¬ 255 < hops := by omega
    have j3 : decide (255 < hops) = false := decide_eq_false i3
    have i4 : lab < 0 := by omega
    have j4 : decide (lab < 0) = true := decide_eq_true i4
    clear HQ c0 c1 c2 c3 c4
    go_enter Try.func35, Try.ntmps35
    go_upto_region 1 with fail
    rw [← hW1, ← hg]
    clear hW1 hg
    go_wp2_with fail
    go_ret
    exact ⟨by rw [HF.out]; rfl, HB1.out⟩
  by_cases c5 : 1048575 < lab
  · have HF := Lib.hid (show Q = false by rw [← Bool.not_eq_true]; intro hh; exact HQ.out.1 hh (.inr (.inr (.inl (.inr c5)))))
    have i0 : ¬ cls < 0 := by omega
    have j0 : decide (cls < 0) = false := decide_eq_false i0
    have i1 : ¬ 255 < cls := by omega
    have j1 : decide (255 < cls) = false := decide_eq_false i1
    have i2 : ¬ hops < 0 := by omega
    have j2 : decide (hops < 0) = false := decide_eq_false i2
    have i3 : ¬ 255 < hops := by omega
    have j3 : decide (255 < hops) = false := decide_eq_false i3
    have i4 : ¬ lab < 0 := by omega
    have j4 : decide (lab < 0) = false := decide_eq_false i4
    have i5 : 1048575 < lab := by omega
    have j5 : decide (1048575 < lab) = true := decide_eq_true i5
    clear HQ c0 c1 c2 c3 c4 c5
    go_enter Try.func35, Try.ntmps35
    go_upto_region 1 with fail
    rw [← hW1, ← hg]
    clear hW1 hg
    go_wp2_with fail
    go_ret
    exact ⟨by rw [HF.out]; rfl, HB1.out⟩
  by_cases c6 : nxt < 0
  · have HF := Lib.hid (show Q = false by rw [← Bool.not_eq_true]; intro hh; exact HQ.out.1 hh (.inr (.inr (.inr (.inl (.inl c6))))))
    have i0 : ¬ cls < 0 := by omega
    have j0 : decide (cls < 0) = false := decide_eq_false i0
    have i1 : ¬ 255 < cls := by omega
    have j1 : decide (255 < cls) = false := decide_eq_false i1
    have i2 : ¬ hops < 0 := by omega
    have j2 : decide (hops < 0) = false := decide_eq_false i2
    have i3 : ¬ 255 < hops := by omega
    have j3 : decide (255 < hops) = false := decide_eq_false i3
    have i4 : ¬ lab < 0 := by omega
    have j4 : decide (lab < 0) = false := decide_eq_false i4
    have i5 : ¬ 1048575 < lab := by omega
    have j5 : decide (1048575 < lab) = false := decide_eq_false i5
    have i6 : nxt < 0 := by omega
    have j6 : decide (nxt < 0) = true := decide_eq_true i6
    clear HQ c0 c1 c2 c3 c4 c5 c6
    go_enter Try.func35, Try.ntmps35
    go_upto_region 1 with fail
    rw [← hW1, ← hg]
    clear hW1 hg
    go_wp2_with fail
    go_ret
    exact ⟨by rw [HF.out]; rfl, HB1.out⟩
  by_cases c7 : 255 < nxt
  · have HF := Lib.hid (show Q = false by rw [← Bool.not_eq_true]; intro hh; exact HQ.out.1 hh (.inr (.inr (.inr (.inl (.inr c7))))))
    have i0 : ¬ cls < 0 := by omega
    have j0 : decide (cls < 0) = false := decide_eq_false i0
    have i1 : ¬ 255 < cls := by omega
    have j1 : decide (255 < cls) = false := decide_eq_false i1
    have i2 : ¬ hops < 0 := by omega
    have j2 : decide (hops < 0) = false := decide_eq_false i2
    have i3 : ¬ 255 < hops := by omega
    have j3 : decide (255 < hops) = false := decide_eq_false i3
    have i4 : ¬ lab < 0 := by omega
    have j4 : decide (lab < 0) = false := decide_eq_false i4
    have i5 : ¬ 1048575 < lab := by omega
    have j5 : decide (1048575 < lab) = false := decide_eq_false i5
    have i6 : ¬ nxt < 0 := by omega
    have j6 : decide (nxt < 0) = false := decide_eq_false i6
    have i7 : 255 < nxt := by omega
    have j7 : decide (255 < nxt) = true := decide_eq_true i7
    clear HQ c0 c1 c2 c3 c4 c5 c6 c7
    go_enter Try.func35, Try.ntmps35
    go_upto_region 1 with fail
    rw [← hW1, ← hg]
    clear hW1 hg
    go_wp2_with fail
    go_ret
    exact ⟨by rw [HF.out]; rfl, HB1.out⟩
  have i0 : ¬ cls < 0 := by omega
  have j0 : decide (cls < 0) = false := decide_eq_false i0
  have i1 : ¬ 255 < cls := by omega
  have j1 : decide (255 < cls) = false := decide_eq_false i1
  have i2 : ¬ hops < 0 := by omega
  have j2 : decide (hops < 0) = false := decide_eq_false i2
  have i3 : ¬ 255 < hops := by omega
  have j3 : decide (255 < hops) = false := decide_eq_false i3
  have i4 : ¬ lab < 0 := by omega
  have j4 : decide (lab < 0) = false := decide_eq_false i4
  have i5 : ¬ 1048575 < lab := by omega
  have j5 : decide (1048575 < lab) = false := decide_eq_false i5
  have i6 : ¬ nxt < 0 := by omega
  have j6 : decide (nxt < 0) = false := decide_eq_false i6
  have i7 : ¬ 255 < nxt := by omega
  have j7 : decide (255 < nxt) = false := decide_eq_false i7
  by_cases c8 : extK nxt
  · have HF := Lib.hid (show Q = false by rw [← Bool.not_eq_true]; intro hh; exact HQ.out.1 hh (.inr (.inr (.inr (.inr (.inl c8))))))
    have HE := Lib.hid (fun (W : World) => show Calls Try.prog 29 #[.int .i64 nxt] W fun e w' => e = .returned (.bool true) ∧ W = w' from by
      have := rextension12_any nxt W
      rwa [decide_eq_true c8] at this)
    clear HQ c8 c0 c1 c2 c3 c4 c5 c6 c7
    go_enter Try.func35, Try.ntmps35
    go_upto_region 1 with fail
    rw [← hW1, ← hg]
    clear hW1 hg
    go_wp2_with fail
    refine (HE.out _).mono ?_
    rintro e w2 ⟨rfl, rfl⟩
    go_wp2_with fail
    go_ret
    exact ⟨by rw [HF.out]; rfl, HB1.out⟩
  have HE := Lib.hid (fun (W : World) => show Calls Try.prog 29 #[.int .i64 nxt] W fun e w' => e = .returned (.bool false) ∧ W = w' from by
    have := rextension12_any nxt W
    rwa [decide_eq_false c8] at this)
  by_cases c9 : nxt = 44
  · have HF := Lib.hid (show Q = false by rw [← Bool.not_eq_true]; intro hh; exact HQ.out.1 hh (.inr (.inr (.inr (.inr (.inr (.inl c9)))))))
    have j9 : (nxt == 44) = true := by simpa using c9
    have J9 := Lib.hid c9
    clear HQ c8 c9 c0 c1 c2 c3 c4 c5 c6 c7
    go_enter Try.func35, Try.ntmps35
    go_upto_region 1 with fail
    rw [← hW1, ← hg]
    clear hW1 hg
    go_wp2_with fail
    refine (HE.out _).mono ?_
    rintro e w2 ⟨rfl, rfl⟩
    go_wp2_with fail
    go_ret
    exact ⟨by rw [HF.out]; rfl, HB1.out⟩
  have j9 : (nxt == 44) = false := by simpa using c9
  have C8 := Lib.hid c8
  have C9 := Lib.hid c9
  have CC := Lib.hid (show ¬ (cls < 0 ∨ 255 < cls) ∧ ¬ (hops < 0 ∨ 255 < hops) ∧ ¬ (lab < 0 ∨ 1048575 < lab) ∧ ¬ (nxt < 0 ∨ 255 < nxt) by omega)
  clear c8 c9 c0 c1 c2 c3 c4 c5 c6 c7
  cases sv
  · have HF := Lib.hid (show Q = false by rw [← Bool.not_eq_true]; intro hh; exact HQ.out.1 hh (.inr (.inr (.inr (.inr (.inr (.inr (.inl rfl))))))))
    clear HQ
    go_enter Try.func35, Try.ntmps35
    go_upto_region 1 with fail
    rw [← hW1, ← hg]
    clear hW1 hg
    go_wp2_with fail
    refine (HE.out _).mono ?_
    rintro e w2 ⟨rfl, rfl⟩
    go_wp2_with fail
    go_ret
    exact ⟨by rw [HF.out]; rfl, HB1.out⟩
  cases dv
  · have HF := Lib.hid (show Q = false by rw [← Bool.not_eq_true]; intro hh; exact HQ.out.1 hh (.inr (.inr (.inr (.inr (.inr (.inr (.inr (.inl rfl)))))))))
    clear HQ
    go_enter Try.func35, Try.ntmps35
    go_upto_region 1 with fail
    rw [← hW1, ← hg]
    clear hW1 hg
    go_wp2_with fail
    refine (HE.out _).mono ?_
    rintro e w2 ⟨rfl, rfl⟩
    go_wp2_with fail
    go_ret
    exact ⟨by rw [HF.out]; rfl, HB1.out⟩
  cases frg
  · by_cases c12 : id = 0
    · subst c12
      by_cases c13 : off = 0
      · subst c13
        cases more
        · have HF := Lib.hid (show Q = true by (refine HQ.out.2 ?_; have h1 := CC.out; rintro (h | h | h | h | h | h | h | h | ⟨h, h'⟩ | ⟨h, h'⟩) <;> first | exact h1.1 h | exact h1.2.1 h | exact h1.2.2.1 h | exact h1.2.2.2 h | exact C8.out h | exact C9.out h | (cases h; done) | (rcases h' with h' | h' | h' <;> simp at h')))
          clear HQ
          go_enter Try.func35, Try.ntmps35
          go_upto_region 1 with fail
          rw [← hW1, ← hg]
          clear hW1 hg
          go_wp2_with fail
          refine (HE.out _).mono ?_
          rintro e w2 ⟨rfl, rfl⟩
          go_wp2_with fail
          go_ret
          exact ⟨by rw [HF.out]; rfl, HB1.out⟩
        · have HF := Lib.hid (show Q = false by rw [← Bool.not_eq_true]; intro hh; exact HQ.out.1 hh (.inr (.inr (.inr (.inr (.inr (.inr (.inr (.inr (.inl ⟨rfl, .inr (.inr rfl)⟩))))))))))
          clear HQ
          go_enter Try.func35, Try.ntmps35
          go_upto_region 1 with fail
          rw [← hW1, ← hg]
          clear hW1 hg
          go_wp2_with fail
          refine (HE.out _).mono ?_
          rintro e w2 ⟨rfl, rfl⟩
          go_wp2_with fail
          go_ret
          exact ⟨by rw [HF.out]; rfl, HB1.out⟩
      have j13 : (off == 0) = false := by simpa using c13
      have HF := Lib.hid (show Q = false by rw [← Bool.not_eq_true]; intro hh; exact HQ.out.1 hh (.inr (.inr (.inr (.inr (.inr (.inr (.inr (.inr (.inl ⟨rfl, .inr (.inl c13)⟩))))))))))
      have C13 := Lib.hid c13
      clear HQ c13
      go_enter Try.func35, Try.ntmps35
      go_upto_region 1 with fail
      rw [← hW1, ← hg]
      clear hW1 hg
      go_wp2_with fail
      refine (HE.out _).mono ?_
      rintro e w2 ⟨rfl, rfl⟩
      go_wp2_with fail
      go_ret
      exact ⟨by rw [HF.out]; rfl, HB1.out⟩
    have j12 : (id == 0) = false := by simpa using c12
    have HF := Lib.hid (show Q = false by rw [← Bool.not_eq_true]; intro hh; exact HQ.out.1 hh (.inr (.inr (.inr (.inr (.inr (.inr (.inr (.inr (.inl ⟨rfl, .inl c12⟩))))))))))
    have C12 := Lib.hid c12
    clear HQ c12
    go_enter Try.func35, Try.ntmps35
    go_upto_region 1 with fail
    rw [← hW1, ← hg]
    clear hW1 hg
    go_wp2_with fail
    refine (HE.out _).mono ?_
    rintro e w2 ⟨rfl, rfl⟩
    go_wp2_with fail
    go_ret
    exact ⟨by rw [HF.out]; rfl, HB1.out⟩
  by_cases c14 : id < 0
  · have HF := Lib.hid (show Q = false by rw [← Bool.not_eq_true]; intro hh; exact HQ.out.1 hh (.inr (.inr (.inr (.inr (.inr (.inr (.inr (.inr (.inr ⟨rfl, .inl c14⟩))))))))))
    have i14 : ¬ 0 ≤ id := by omega
    have j14 : decide (0 ≤ id) = false := by simp; omega
    clear HQ c14
    go_enter Try.func35, Try.ntmps35
    go_upto_region 1 with fail
    rw [← hW1, ← hg]
    clear hW1 hg
    go_wp2_with fail
    refine (HE.out _).mono ?_
    rintro e w2 ⟨rfl, rfl⟩
    go_wp2_with fail
    go_ret
    exact ⟨by rw [HF.out]; rfl, HB1.out⟩
  by_cases c15 : 4294967296 ≤ id
  · have HF := Lib.hid (show Q = false by rw [← Bool.not_eq_true]; intro hh; exact HQ.out.1 hh (.inr (.inr (.inr (.inr (.inr (.inr (.inr (.inr (.inr ⟨rfl, .inr (.inl c15)⟩))))))))))
    have i14 :  0 ≤ id := by omega
    have j14 : decide (0 ≤ id) = true := by simp; omega
    have i15 : ¬ id < 4294967296 := by omega
    have j15 : decide (id < 4294967296) = false := by simp; omega
    clear HQ c14 c15
    go_enter Try.func35, Try.ntmps35
    go_upto_region 1 with fail
    rw [← hW1, ← hg]
    clear hW1 hg
    go_wp2_with fail
    refine (HE.out _).mono ?_
    rintro e w2 ⟨rfl, rfl⟩
    go_wp2_with fail
    go_ret
    exact ⟨by rw [HF.out]; rfl, HB1.out⟩
  by_cases c16 : off < 0
  · have HF := Lib.hid (show Q = false by rw [← Bool.not_eq_true]; intro hh; exact HQ.out.1 hh (.inr (.inr (.inr (.inr (.inr (.inr (.inr (.inr (.inr ⟨rfl, .inr (.inr (.inl c16))⟩))))))))))
    have i14 :  0 ≤ id := by omega
    have j14 : decide (0 ≤ id) = true := by simp; omega
    have i15 :  id < 4294967296 := by omega
    have j15 : decide (id < 4294967296) = true := by simp; omega
    have i16 : ¬ 0 ≤ off := by omega
    have j16 : decide (0 ≤ off) = false := by simp; omega
    clear HQ c14 c15 c16
    go_enter Try.func35, Try.ntmps35
    go_upto_region 1 with fail
    rw [← hW1, ← hg]
    clear hW1 hg
    go_wp2_with fail
    refine (HE.out _).mono ?_
    rintro e w2 ⟨rfl, rfl⟩
    go_wp2_with fail
    go_ret
    exact ⟨by rw [HF.out]; rfl, HB1.out⟩
  by_cases c17 : 65528 < off
  · have HF := Lib.hid (show Q = false by rw [← Bool.not_eq_true]; intro hh; exact HQ.out.1 hh (.inr (.inr (.inr (.inr (.inr (.inr (.inr (.inr (.inr ⟨rfl, .inr (.inr (.inr (.inl c17)))⟩))))))))))
    have i14 :  0 ≤ id := by omega
    have j14 : decide (0 ≤ id) = true := by simp; omega
    have i15 :  id < 4294967296 := by omega
    have j15 : decide (id < 4294967296) = true := by simp; omega
    have i16 :  0 ≤ off := by omega
    have j16 : decide (0 ≤ off) = true := by simp; omega
    have i17 : ¬ off ≤ 65528 := by omega
    have j17 : decide (off ≤ 65528) = false := by simp; omega
    clear HQ c14 c15 c16 c17
    go_enter Try.func35, Try.ntmps35
    go_upto_region 1 with fail
    rw [← hW1, ← hg]
    clear hW1 hg
    go_wp2_with fail
    refine (HE.out _).mono ?_
    rintro e w2 ⟨rfl, rfl⟩
    go_wp2_with fail
    go_ret
    exact ⟨by rw [HF.out]; rfl, HB1.out⟩
  have i14 :  0 ≤ id := by omega
  have j14 : decide (0 ≤ id) = true := by simp; omega
  have i15 :  id < 4294967296 := by omega
  have j15 : decide (id < 4294967296) = true := by simp; omega
  have i16 :  0 ≤ off := by omega
  have j16 : decide (0 ≤ off) = true := by simp; omega
  have i17 :  off ≤ 65528 := by omega
  have j17 : decide (off ≤ 65528) = true := by simp; omega
  have htm : off.tmod 8 = off % 8 := Int.tmod_eq_emod_of_nonneg (by omega)
  by_cases c18 : off % 8 = 0
  · have i18 : off.tmod 8 = 0 := by omega
    have j18 : (off % 8 == 0) = true := by simpa using c18
    have k18 : (off.tmod 8 == 0) = true := by simpa using i18
    have HF := Lib.hid (show Q = true by (refine HQ.out.2 ?_; have h1 := CC.out; rintro (h | h | h | h | h | h | h | h | ⟨h, h'⟩ | ⟨h, h'⟩) <;> first | exact h1.1 h | exact h1.2.1 h | exact h1.2.2.1 h | exact h1.2.2.2 h | exact C8.out h | exact C9.out h | (cases h; done) | omega))
    clear HQ htm c14 c15 c16 c17
    go_enter Try.func35, Try.ntmps35
    go_upto_region 1 with fail
    rw [← hW1, ← hg]
    clear hW1 hg
    go_wp2_with fail
    refine (HE.out _).mono ?_
    rintro e w2 ⟨rfl, rfl⟩
    go_wp2_with fail
    go_ret
    exact ⟨by rw [HF.out]; rfl, HB1.out⟩
  have i18 : ¬ off.tmod 8 = 0 := by omega
  have j18 : (off % 8 == 0) = false := by simpa using c18
  have k18 : (off.tmod 8 == 0) = false := by simpa using i18
  have HF := Lib.hid (show Q = false by rw [← Bool.not_eq_true]; intro hh; exact HQ.out.1 hh (.inr (.inr (.inr (.inr (.inr (.inr (.inr (.inr (.inr ⟨rfl, .inr (.inr (.inr (.inr c18)))⟩))))))))))
  clear HQ htm c14 c15 c16 c17
  go_enter Try.func35, Try.ntmps35
  go_upto_region 1 with fail
  rw [← hW1, ← hg]
  clear hW1 hg
  go_wp2_with fail
  refine (HE.out _).mono ?_
  rintro e w2 ⟨rfl, rfl⟩
  go_wp2_with fail
  go_ret
  exact ⟨by rw [HF.out]; rfl, HB1.out⟩
end Go.Proofs.Ytjjldolafnfpoaa
