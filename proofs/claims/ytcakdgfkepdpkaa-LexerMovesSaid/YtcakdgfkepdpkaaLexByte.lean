/- Contracts of the lexer's tests of bytes, of the program (over runes) and of the reference (over bytes). -/
import Derived.Test.YtcakdgfkepdpkaaLexMath
import Derived.Test.YtcakdgfkepdpkaaMem2
import Derived.WalkSmall
import Derived.BigQuiet
import Derived.Deep.QuietTactic
import Derived.Deep.RegionWith
namespace Go.Proofs.Ytcakdgfkepdpkaa
open Go.ChangeShapes Go.WideShapes Go.ChangeAt Go.RowKit

/-- A quiet contract that says 'w = w'', met inside a region that draws. -/
theorem quiet_eq4 {P : Program} {f : FuncId} {args : Array Value} {w : World} {n : Nat} {v : Value}
    (h : Calls P f args (w.drewN n) fun e w' => e = .returned v ∧ w.drewN n = w') : Calls P f args (w.drewN n) fun e w'' => e = .returned v ∧ ∃ m, w'' = w.drewN m :=
  h.mono fun _ _ ⟨he, hm⟩ => ⟨he, n, hm.symm⟩

theorem letB_eq (c : UInt8) : letB c = (decide ((97 : Int) ≤ (c.toNat : Int)) && decide ((c.toNat : Int) ≤ 122) || decide ((65 : Int) ≤ (c.toNat : Int)) && decide ((c.toNat : Int) ≤ 90)) := by
  unfold letB
  congr 2 <;> simp <;> omega
theorem digB_eq (c : UInt8) : digB c = (decide ((48 : Int) ≤ (c.toNat : Int)) && decide ((c.toNat : Int) ≤ 57)) := by
  unfold digB
  congr 2 <;> simp <;> omega
theorem nat_beq (n k : Nat) : (n == k) = ((n : Int) == (k : Int)) := by
  rw [Bool.eq_iff_iff]; simp; omega
theorem specB_eq (c : UInt8) : specB c = ((c.toNat : Int) == 34 || (c.toNat : Int) == 92 || (c.toNat : Int) == 124) := by
  unfold specB
  rw [nat_beq, nat_beq, nat_beq]; rfl
theorem nameB_eq (c : UInt8) : nameB c = (letB c || digB c || (c.toNat : Int) == 95) := by
  unfold nameB
  rw [nat_beq]; rfl
theorem wordB_eq (c : UInt8) : wordB c = (letB c || digB c || (c.toNat : Int) == 95 || (c.toNat : Int) == 46 || (c.toNat : Int) == 58 || (c.toNat : Int) == 47) := by
  unfold wordB
  rw [nat_beq, nat_beq, nat_beq, nat_beq]; rfl
theorem wordB_name (c : UInt8) : wordB c = (nameB c || (c.toNat : Int) == 46 || (c.toNat : Int) == 58 || (c.toNat : Int) == 47) := by
  rw [wordB_eq, nameB_eq]
theorem plainB_eq (c : UInt8) : plainB c = (decide ((32 : Int) ≤ (c.toNat : Int)) && decide ((c.toNat : Int) ≤ 126) && !specB c) := by
  unfold plainB
  congr 3 <;> simp <;> omega
def spaceB (c : UInt8) : Bool := c.toNat == 32 || c.toNat == 9 || c.toNat == 10 || c.toNat == 13
theorem spaceB_eq (c : UInt8) : spaceB c = ((c.toNat : Int) == 32 || (c.toNat : Int) == 9 || (c.toNat : Int) == 10 || (c.toNat : Int) == 13) := by
  unfold spaceB
  rw [nat_beq, nat_beq, nat_beq, nat_beq]; rfl

theorem pletter_any (c : UInt8) (w : World) :
    Calls Try.prog 41 #[.int .i32 (c.toNat : Int)] w fun e w' => e = .returned (.bool (letB c)) ∧ w = w' := by
  have hb := u8_lt c
  rw [letB_eq]
  generalize c.toNat = n at *
  go_enter Try.func41, Try.ntmps41
  go_wp2_with fail
  all_goals
    go_ret
    refine ⟨?_, rfl⟩
    first
      | rfl
      | (show Ending.returned (Value.bool _) = Ending.returned (Value.bool _); congr 2; rw [Bool.eq_iff_iff]; simp; try omega)

theorem rletter_any (c : UInt8) (w : World) :
    Calls Try.prog 44 #[.int .u8 (c.toNat : Int)] w fun e w' => e = .returned (.bool (letB c)) ∧ w = w' := by
  have hb := u8_lt c
  rw [letB_eq]
  generalize c.toNat = n at *
  go_enter Try.func44, Try.ntmps44
  go_wp2_with fail
  all_goals
    go_ret
    refine ⟨?_, rfl⟩
    first
      | rfl
      | (show Ending.returned (Value.bool _) = Ending.returned (Value.bool _); congr 2; rw [Bool.eq_iff_iff]; simp; try omega)

theorem pdigit_any (c : UInt8) (w : World) :
    Calls Try.prog 39 #[.int .i32 (c.toNat : Int)] w fun e w' => e = .returned (.bool (digB c)) ∧ w = w' := by
  have hb := u8_lt c
  rw [digB_eq]
  generalize c.toNat = n at *
  go_enter Try.func39, Try.ntmps39
  go_wp2_with fail
  all_goals
    go_ret
    refine ⟨?_, rfl⟩
    first
      | rfl
      | (show Ending.returned (Value.bool _) = Ending.returned (Value.bool _); congr 2; rw [Bool.eq_iff_iff]; simp; try omega)

theorem rdigit_any (c : UInt8) (w : World) :
    Calls Try.prog 40 #[.int .u8 (c.toNat : Int)] w fun e w' => e = .returned (.bool (digB c)) ∧ w = w' := by
  have hb := u8_lt c
  rw [digB_eq]
  generalize c.toNat = n at *
  go_enter Try.func40, Try.ntmps40
  go_wp2_with fail
  all_goals
    go_ret
    refine ⟨?_, rfl⟩
    first
      | rfl
      | (show Ending.returned (Value.bool _) = Ending.returned (Value.bool _); congr 2; rw [Bool.eq_iff_iff]; simp; try omega)

theorem pspecial_any (c : UInt8) (w : World) :
    Calls Try.prog 56 #[.int .i32 (c.toNat : Int)] w fun e w' => e = .returned (.bool (specB c)) ∧ w = w' := by
  have hb := u8_lt c
  rw [specB_eq]
  generalize c.toNat = n at *
  go_enter Try.func56, Try.ntmps56
  go_wp2_with fail
  all_goals
    go_ret
    refine ⟨?_, rfl⟩
    first
      | rfl
      | (show Ending.returned (Value.bool _) = Ending.returned (Value.bool _); congr 2; rw [Bool.eq_iff_iff]; simp; try omega)

theorem rspecial_any (c : UInt8) (w : World) :
    Calls Try.prog 38 #[.int .u8 (c.toNat : Int)] w fun e w' => e = .returned (.bool (specB c)) ∧ w = w' := by
  have hb := u8_lt c
  rw [specB_eq]
  generalize c.toNat = n at *
  go_enter Try.func38, Try.ntmps38
  go_wp2_with fail
  all_goals
    go_ret
    refine ⟨?_, rfl⟩
    first
      | rfl
      | (show Ending.returned (Value.bool _) = Ending.returned (Value.bool _); congr 2; rw [Bool.eq_iff_iff]; simp; try omega)

theorem pspace_any (c : UInt8) (w : World) :
    Calls Try.prog 48 #[.int .i32 (c.toNat : Int)] w fun e w' => e = .returned (.bool (spaceB c)) ∧ w = w' := by
  have hb := u8_lt c
  rw [spaceB_eq]
  generalize c.toNat = n at *
  go_enter Try.func48, Try.ntmps48
  go_wp2_with fail
  all_goals
    go_ret
    refine ⟨?_, rfl⟩
    first
      | rfl
      | (show Ending.returned (Value.bool _) = Ending.returned (Value.bool _); congr 2; rw [Bool.eq_iff_iff]; simp; try omega)

theorem pname_any (c : UInt8) (w : World) :
    Calls Try.prog 43 #[.int .i32 (c.toNat : Int)] w fun e w' => e = .returned (.bool (nameB c)) ∧ w = w' := by
  have hb := u8_lt c
  rw [nameB_eq]
  have h0 := fun W => pletter_any c W
  generalize letB c = b0 at *
  have H0 := Lib.hid h0
  clear h0
  have h1 := fun W => pdigit_any c W
  generalize digB c = b1 at *
  have H1 := Lib.hid h1
  clear h1
  generalize c.toNat = n at *
  cases b0
  case true =>
    go_enter Try.func43, Try.ntmps43
    go_wp2_with fail
    refine (H0.out _).mono ?_
    rintro e w1 ⟨rfl, rfl⟩
    go_wp2_with fail
    all_goals
      go_ret
      refine ⟨?_, rfl⟩
      first
        | rfl
        | (show Ending.returned (Value.bool _) = Ending.returned (Value.bool _); congr 2; rw [Bool.eq_iff_iff]; simp; try omega)
  case false =>
    cases b1
    case true =>
      go_enter Try.func43, Try.ntmps43
      go_wp2_with fail
      refine (H0.out _).mono ?_
      rintro e w1 ⟨rfl, rfl⟩
      go_wp2_with fail
      refine (H1.out _).mono ?_
      rintro e w1 ⟨rfl, rfl⟩
      go_wp2_with fail
      all_goals
        go_ret
        refine ⟨?_, rfl⟩
        first
          | rfl
          | (show Ending.returned (Value.bool _) = Ending.returned (Value.bool _); congr 2; rw [Bool.eq_iff_iff]; simp; try omega)
    case false =>
      go_enter Try.func43, Try.ntmps43
      go_wp2_with fail
      refine (H0.out _).mono ?_
      rintro e w1 ⟨rfl, rfl⟩
      go_wp2_with fail
      refine (H1.out _).mono ?_
      rintro e w1 ⟨rfl, rfl⟩
      go_wp2_with fail
      all_goals
        go_ret
        refine ⟨?_, rfl⟩
        first
          | rfl
          | (show Ending.returned (Value.bool _) = Ending.returned (Value.bool _); congr 2; rw [Bool.eq_iff_iff]; simp; try omega)

theorem rname_any (c : UInt8) (w : World) :
    Calls Try.prog 45 #[.int .u8 (c.toNat : Int)] w fun e w' => e = .returned (.bool (nameB c)) ∧ w = w' := by
  have hb := u8_lt c
  rw [nameB_eq]
  have h0 := fun W => rletter_any c W
  generalize letB c = b0 at *
  have H0 := Lib.hid h0
  clear h0
  have h1 := fun W => rdigit_any c W
  generalize digB c = b1 at *
  have H1 := Lib.hid h1
  clear h1
  generalize c.toNat = n at *
  cases b0
  case true =>
    go_enter Try.func45, Try.ntmps45
    go_wp2_with fail
    refine (H0.out _).mono ?_
    rintro e w1 ⟨rfl, rfl⟩
    go_wp2_with fail
    all_goals
      go_ret
      refine ⟨?_, rfl⟩
      first
        | rfl
        | (show Ending.returned (Value.bool _) = Ending.returned (Value.bool _); congr 2; rw [Bool.eq_iff_iff]; simp; try omega)
  case false =>
    cases b1
    case true =>
      go_enter Try.func45, Try.ntmps45
      go_wp2_with fail
      refine (H0.out _).mono ?_
      rintro e w1 ⟨rfl, rfl⟩
      go_wp2_with fail
      refine (H1.out _).mono ?_
      rintro e w1 ⟨rfl, rfl⟩
      go_wp2_with fail
      all_goals
        go_ret
        refine ⟨?_, rfl⟩
        first
          | rfl
          | (show Ending.returned (Value.bool _) = Ending.returned (Value.bool _); congr 2; rw [Bool.eq_iff_iff]; simp; try omega)
    case false =>
      go_enter Try.func45, Try.ntmps45
      go_wp2_with fail
      refine (H0.out _).mono ?_
      rintro e w1 ⟨rfl, rfl⟩
      go_wp2_with fail
      refine (H1.out _).mono ?_
      rintro e w1 ⟨rfl, rfl⟩
      go_wp2_with fail
      all_goals
        go_ret
        refine ⟨?_, rfl⟩
        first
          | rfl
          | (show Ending.returned (Value.bool _) = Ending.returned (Value.bool _); congr 2; rw [Bool.eq_iff_iff]; simp; try omega)

theorem pword_any (c : UInt8) (w : World) :
    Calls Try.prog 49 #[.int .i32 (c.toNat : Int)] w fun e w' => e = .returned (.bool (wordB c)) ∧ w = w' := by
  have hb := u8_lt c
  rw [wordB_name]
  have h0 := fun W => pname_any c W
  generalize nameB c = b0 at *
  have H0 := Lib.hid h0
  clear h0
  generalize c.toNat = n at *
  cases b0
  case true =>
    go_enter Try.func49, Try.ntmps49
    go_wp2_with fail
    refine (H0.out _).mono ?_
    rintro e w1 ⟨rfl, rfl⟩
    go_wp2_with fail
    all_goals
      go_ret
      refine ⟨?_, rfl⟩
      first
        | rfl
        | (show Ending.returned (Value.bool _) = Ending.returned (Value.bool _); congr 2; rw [Bool.eq_iff_iff]; simp; try omega)
  case false =>
    go_enter Try.func49, Try.ntmps49
    go_wp2_with fail
    refine (H0.out _).mono ?_
    rintro e w1 ⟨rfl, rfl⟩
    go_wp2_with fail
    all_goals
      go_ret
      refine ⟨?_, rfl⟩
      first
        | rfl
        | (show Ending.returned (Value.bool _) = Ending.returned (Value.bool _); congr 2; rw [Bool.eq_iff_iff]; simp; try omega)

theorem rword_any (c : UInt8) (w : World) :
    Calls Try.prog 36 #[.int .u8 (c.toNat : Int)] w fun e w' => e = .returned (.bool (wordB c)) ∧ w = w' := by
  have hb := u8_lt c
  rw [wordB_eq]
  have h0 := fun W => rletter_any c W
  generalize letB c = b0 at *
  have H0 := Lib.hid h0
  clear h0
  have h1 := fun W => rdigit_any c W
  generalize digB c = b1 at *
  have H1 := Lib.hid h1
  clear h1
  generalize c.toNat = n at *
  cases b0
  case true =>
    go_enter Try.func36, Try.ntmps36
    go_wp2_with fail
    refine (H0.out _).mono ?_
    rintro e w1 ⟨rfl, rfl⟩
    go_wp2_with fail
    all_goals
      go_ret
      refine ⟨?_, rfl⟩
      first
        | rfl
        | (show Ending.returned (Value.bool _) = Ending.returned (Value.bool _); congr 2; rw [Bool.eq_iff_iff]; simp; try omega)
  case false =>
    cases b1
    case true =>
      go_enter Try.func36, Try.ntmps36
      go_wp2_with fail
      refine (H0.out _).mono ?_
      rintro e w1 ⟨rfl, rfl⟩
      go_wp2_with fail
      refine (H1.out _).mono ?_
      rintro e w1 ⟨rfl, rfl⟩
      go_wp2_with fail
      all_goals
        go_ret
        refine ⟨?_, rfl⟩
        first
          | rfl
          | (show Ending.returned (Value.bool _) = Ending.returned (Value.bool _); congr 2; rw [Bool.eq_iff_iff]; simp; try omega)
    case false =>
      go_enter Try.func36, Try.ntmps36
      go_wp2_with fail
      refine (H0.out _).mono ?_
      rintro e w1 ⟨rfl, rfl⟩
      go_wp2_with fail
      refine (H1.out _).mono ?_
      rintro e w1 ⟨rfl, rfl⟩
      go_wp2_with fail
      all_goals
        go_ret
        refine ⟨?_, rfl⟩
        first
          | rfl
          | (show Ending.returned (Value.bool _) = Ending.returned (Value.bool _); congr 2; rw [Bool.eq_iff_iff]; simp; try omega)

theorem pplain_any (c : UInt8) (w : World) :
    Calls Try.prog 37 #[.int .i32 (c.toNat : Int)] w fun e w' => e = .returned (.bool (plainB c)) ∧ w = w' := by
  have hb := u8_lt c
  rw [plainB_eq]
  have h0 := fun W => pspecial_any c W
  generalize specB c = b0 at *
  have H0 := Lib.hid h0
  clear h0
  generalize c.toNat = n at *
  by_cases h1 : (32 : Int) ≤ (n : Int)
  · by_cases h2 : (n : Int) ≤ 126
    · go_enter Try.func37, Try.ntmps37
      go_wp2_with fail
      refine (H0.out _).mono ?_
      rintro e w1 ⟨rfl, rfl⟩
      go_wp2_with fail
      go_ret
      refine ⟨?_, rfl⟩
      show Ending.returned (Value.bool _) = Ending.returned (Value.bool _)
      congr 2; rw [Bool.eq_iff_iff]; simp; try (intros; omega)
    · go_enter Try.func37, Try.ntmps37
      go_wp2_with fail
      go_ret
      refine ⟨?_, rfl⟩
      show Ending.returned (Value.bool _) = Ending.returned (Value.bool _)
      congr 2; rw [Bool.eq_iff_iff]; simp; try (intros; omega)
  · go_enter Try.func37, Try.ntmps37
    go_wp2_with fail
    go_ret
    refine ⟨?_, rfl⟩
    show Ending.returned (Value.bool _) = Ending.returned (Value.bool _)
    congr 2; rw [Bool.eq_iff_iff]; simp; try (intros; omega)
end Go.Proofs.Ytcakdgfkepdpkaa
