/- Contracts of the functions, part 27: P13, Awk13. -/
import Derived.Deep.Cut
import Derived.Deep.WholeRow
import Derived.Test.YtnpklepafpdadaaDoorPA22
import Derived.Test.YtnpklepafpdadaaDoorPA26
/- What the laws of layer 13 use of the program: its two functions, as a bundle (T: what its tables hold). -/
namespace Go.Proofs.YtnpklepafpdadaaDoor
open Go.ChangeShapes Go.WideShapes Go.ChangeAt Go.RowKit
set_option linter.unusedVariables false

structure P13 (T : World → Prop) : Prop where
  keep : ∀ (w w' : World), T w → Below w.heap.size w w' → T w'
  enc : ∀ (v1 v2 : Bool) (h1 l1 h2 l2 : Nat) (src dst : Int) (pay : List UInt8) (w : World), T w → fits13 ⟨v1, h1, l1⟩ → fits13 ⟨v2, h2, l2⟩ → udpWf ⟨src, dst, pay⟩ →
    Calls Tryd.prog 10 #[.agg #[.bool v1, .int .u64 (h1 : Int), .int .u64 (l1 : Int)], .agg #[.bool v2, .int .u64 (h2 : Int), .int .u64 (l2 : Int)], .agg #[.int .i64 src, .int .i64 dst, .string (str pay)]] w fun e w' => e = .returned (.tuple #[.string (str (encU ⟨v1, h1, l1⟩ ⟨v2, h2, l2⟩ ⟨src, dst, pay⟩).1), .int .i64 ((encU ⟨v1, h1, l1⟩ ⟨v2, h2, l2⟩ ⟨src, dst, pay⟩).2 : Int)]) ∧ Below w.heap.size w w'
  dec : ∀ (v1 v2 : Bool) (h1 l1 h2 l2 : Nat) (S : List UInt8) (w : World), T w → fits13 ⟨v1, h1, l1⟩ → fits13 ⟨v2, h2, l2⟩ → S.length ≤ 1000000 →
    Calls Tryd.prog 8 #[.agg #[.bool v1, .int .u64 (h1 : Int), .int .u64 (l1 : Int)], .agg #[.bool v2, .int .u64 (h2 : Int), .int .u64 (l2 : Int)], .string (str S)] w (DecUP w (decU ⟨v1, h1, l1⟩ ⟨v2, h2, l2⟩ S))
end Go.Proofs.YtnpklepafpdadaaDoor

/- The law package of layer 13: lives, over the bundle P13. -/
namespace Go.Proofs.YtnpklepafpdadaaDoor
open Go.ChangeShapes Go.WideShapes Go.ChangeAt Go.RowKit
set_option linter.unusedVariables false

theorem exEnc13 : encU ⟨false, 0, 1⟩ ⟨false, 0, 2⟩ ⟨1, 2, [97]⟩ = ([0, 1, 0, 2, 0, 9, 158, 214, 97], 0) := by decide +kernel
theorem exDec13 : decU ⟨false, 0, 1⟩ ⟨false, 0, 2⟩ [0, 1, 0, 2, 0, 9, 158, 214, 97] = (⟨1, 2, [97]⟩, 0) := by
  have := (dec_encU exEnc13 []).1
  rwa [List.append_nil] at this
set_option maxHeartbeats 4000000 in
set_option maxRecDepth 20000 in
theorem awk13 {T : World → Prop} (H : P13 T) (w : World) (hT : T w) :
    Calls Tryd.prog 7 #[] w fun e w' => e = .returned (.bool true) ∧ Below w.heap.size w w' := by
  have HE := Lib.hid (fun (W : World) (hW : T W) => show Calls Tryd.prog 10 #[.agg #[.bool false, .int .u64 0, .int .u64 1], .agg #[.bool false, .int .u64 0, .int .u64 2], .agg #[.int .i64 1, .int .i64 2, .string ⟨#[97]⟩]] W fun e w' => e = .returned (.tuple #[.string ⟨#[0, 1, 0, 2, 0, 9, 158, 214, 97]⟩, .int .i64 0]) ∧ Below W.heap.size W w' from by
    have := H.enc false false 0 1 0 2 1 2 [97] W hW (by unfold fits13; decide) (by unfold fits13; decide) ⟨by decide, by decide, by decide⟩
    rw [exEnc13] at this
    exact this)
  have HD := Lib.hid (fun (W : World) (hW : T W) => show Calls Tryd.prog 8 #[.agg #[.bool false, .int .u64 0, .int .u64 1], .agg #[.bool false, .int .u64 0, .int .u64 2], .string ⟨#[0, 1, 0, 2, 0, 9, 158, 214, 97]⟩] W fun e w' => e = .returned (.tuple #[.agg #[.int .i64 1, .int .i64 2, .string ⟨#[97]⟩], .int .i64 0]) ∧ Below W.heap.size W w' from by
    have := H.dec false false 0 1 0 2 [0, 1, 0, 2, 0, 9, 158, 214, 97] W hW (by unfold fits13; decide) (by unfold fits13; decide) (by decide)
    rw [exDec13] at this
    exact this)
  obtain ⟨W0, hW0⟩ : ∃ W0, W0 = (w.alloc (.cells #[.bool false, .int .u64 0, .int .u64 1] 24)).alloc (.cells #[.bool false, .int .u64 0, .int .u64 2] 24) := ⟨_, rfl⟩
  have hT0 : Two W0 w.heap.size false 0 1 false 0 2 := by rw [hW0]; exact two_new ..
  have hB0 : Below w.heap.size w W0 := by rw [hW0]; exact ((Below.refl _ _).alloc (Nat.le_refl _) _).alloc (by simp) _
  have K0 := Lib.hid (H.keep w W0 hT hB0)
  go_enter Tryd.func7, Tryd.ntmps7
  go_upto_region 2 with fail
  rw [← hW0]
  clear hW0 hT
  obtain ⟨q0, q1, q2, q3, q4, q5, q6⟩ := id hT0
  go_wp2_with fail
  refine (HE.out _ K0.out).mono ?_
  rintro e w1 ⟨rfl, hb1⟩
  have hT1 := hT0.kept hb1
  have hB1 := hB0.trans (hb1.mono hB0.size)
  have K1 := Lib.hid (H.keep _ _ K0.out hb1)
  clear q0 q1 q2 q3 q4 q5 q6
  obtain ⟨q0, q1, q2, q3, q4, q5, q6⟩ := id hT1
  go_wp2_with fail
  refine (HD.out _ K1.out).mono ?_
  rintro e w2 ⟨rfl, hb2⟩
  have hB2 := hB1.trans (hb2.mono hB1.size)
  clear q0 q1 q2 q3 q4 q5 q6 K0 K1
  go_wp2_with fail
  go_ret
  exact ⟨rfl, hB2.trans (below_alloc6 w2 _ |>.mono hB2.size)⟩
end Go.Proofs.YtnpklepafpdadaaDoor
