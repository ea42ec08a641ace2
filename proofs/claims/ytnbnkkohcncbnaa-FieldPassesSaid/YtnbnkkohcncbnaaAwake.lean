/- The law's examples: awake returns true. -/
import Derived.Test.YtnbnkkohcncbnaaReader
namespace Go.Proofs.Ytnbnkkohcncbnaa
open Go.ChangeShapes Go.WideShapes Go.ChangeAt Go.RowKit
set_option linter.unusedVariables false

theorem i64_of_wf {n : Int} (h : (Lit.int .i64 n).wf = true) : -9223372036854775808 ≤ n ∧ n ≤ 9223372036854775807 := by
  have h' : IntKind.i64.min ≤ n ∧ n ≤ 9223372036854775807 := by simpa [Lit.wf] using h
  exact ⟨Int.le_trans (by decide) h'.1, h'.2⟩

set_option maxHeartbeats 400000 in
theorem awake_any (w : World) :
    Calls Try.prog 12 #[] w fun e w' => e = .returned (.bool true) ∧ Below w.heap.size w w' := by
  have hget := fun W => get_ok ⟨#[0, 1, 2]⟩ 1 2 W (by decide) (by decide) (by decide) (by decide) (by decide)
  rw [show num (sub ⟨#[0, 1, 2]⟩ (Int.toNat 1) (Int.toNat 2)) = 258 from rfl] at hget
  have hput := fun W => put_yes 258 3 W (by decide) (by decide) (by decide) (by decide) (by decide)
  rw [show str (leL (Int.toNat 3) (Int.toNat 258)).reverse = ⟨#[0, 1, 2]⟩ from rfl] at hput
  have hputl := fun W => putl_yes 258 3 W (by decide) (by decide) (by decide) (by decide) (by decide)
  rw [show str (leL (Int.toNat 3) (Int.toNat 258)) = ⟨#[2, 1, 0]⟩ from rfl] at hputl
  have hput2 := fun W => put_no 256 1 W (by decide) (by decide) (by decide)
  rw [show str [] = ⟨#[]⟩ from rfl] at hput2
  have H1 := Lib.hid hget
  have H2 := Lib.hid hput
  have H3 := Lib.hid hputl
  have H4 := Lib.hid hput2
  clear hget hput hputl hput2
  go_enter Try.func12, Try.ntmps12
  go_wp2_with fail
  refine (H1.out _).mono ?_
  rintro e w1 ⟨rfl, hb1⟩
  go_wp2_with fail
  refine (new_any ⟨#[1, 2, 3, 4, 5]⟩ _).mono ?_
  rintro e w2 ⟨p, rfl, hp, hr, hb2⟩
  have hB2 := hb1.trans (hb2.mono hb1.size)
  have hpB : w.heap.size ≤ p := Nat.le_trans hb1.size hp
  clear hb1 hb2
  go_wp2_with fail
  refine (H2.out _).mono ?_
  rintro e w3 ⟨rfl, hb3⟩
  have hr3 := hr.kept hb3
  have hB3 := hB2.trans (hb3.mono hB2.size)
  clear hB2 hb3 hr
  go_wp2_with fail
  refine (H3.out _).mono ?_
  rintro e w4 ⟨rfl, hb4⟩
  have hr4 := hr3.kept hb4
  have hB4 := hB3.trans (hb4.mono hB3.size)
  clear hB3 hb4 hr3
  go_wp2_with fail
  refine (H4.out _).mono ?_
  rintro e w5 ⟨rfl, hb5⟩
  have hr5 := hr4.kept hb5
  have hB5 := hB4.trans (hb5.mono hB4.size)
  clear hB4 hb5 hr4
  have hi := int_ok p [1, 2, 3, 4, 5] 2 w5 hr5 (by decide) (by decide) (by decide) (by decide)
  rw [show ((2 : Nat) : Int) = 2 from rfl, show ((num (List.take 2 [1, 2, 3, 4, 5]) : Nat) : Int) = 258 from rfl, show List.drop 2 ([1, 2, 3, 4, 5] : List UInt8) = [3, 4, 5] from rfl] at hi
  have HI := Lib.hid hi
  clear hi
  go_wp2_with fail
  refine HI.out.mono ?_
  rintro e w6 ⟨rfl, hr6, hg6⟩
  have hB6 := below_only hB5 hg6 hpB hB5.size
  clear hr5 hg6 HI hB5
  have ht := take_ok p [3, 4, 5] 1 w6 hr6 (by decide) (by decide)
  rw [show ((1 : Nat) : Int) = 1 from rfl, show str (List.take 1 ([3, 4, 5] : List UInt8)) = ⟨#[3]⟩ from rfl, show List.drop 1 ([3, 4, 5] : List UInt8) = [4, 5] from rfl] at ht
  have HT := Lib.hid ht
  clear ht
  go_wp2_with fail
  refine HT.out.mono ?_
  rintro e w7 ⟨rfl, hr7, hg7⟩
  have hB7 := below_only hB6 hg7 hpB hB6.size
  clear hr6 hg7 HT hB6
  have hlf := left_any p [4, 5] 0 w7 hr7
  rw [show ((([4, 5] : List UInt8).length : Nat) : Int) = 2 from rfl] at hlf
  have HF := Lib.hid hlf
  clear hlf
  go_wp2_with fail
  refine HF.out.mono ?_
  rintro e w8 ⟨rfl, rfl⟩
  go_wp2_with fail
  go_ret
  exact ⟨rfl, hB7⟩
end Go.Proofs.Ytnbnkkohcncbnaa
