/- Contracts: marks, hexadecimal digits. -/
import Derived.Test.YtcakdgfkepdpkaaLexName
namespace Go.Proofs.Ytcakdgfkepdpkaa
open Go.ChangeShapes Go.WideShapes Go.ChangeAt Go.RowKit

def isMk (L : List UInt8) : Bool := marks.any fun m => m == L
theorem pismark_any (s : ByteArray) (w : World) :
    Calls Try.prog 55 #[.string s] w fun e w' => e = .returned (.bool (isMk s.data.toList)) ∧ w = w' := by
  have hL : s.toList = s.data.toList := ByteArray.toList_eq _
  rw [← hL]
  clear hL
  have hmk : isMk s.toList = (s.toList == [40] || (s.toList == [41] || (s.toList == [91] || (s.toList == [93] || (s.toList == [123] || (s.toList == [125] || (s.toList == [44] || (s.toList == [59] || (s.toList == [33] || (s.toList == [61] || (s.toList == [60] || (s.toList == [62] || (s.toList == [38] || (s.toList == [43] || (s.toList == [45, 62] || (s.toList == [60, 62] || s.toList == [60, 61])))))))))))))))) := by
    unfold isMk marks
    simp only [List.any_cons, List.any_nil, Bool.or_false]
    rw [Bool.eq_iff_iff]
    simp only [Bool.or_eq_true, beq_iff_eq, eq_comm (a := s.toList)]
    constructor
    · rintro (h | h | h | h | h | h | h | h | h | h | h | h | h | h | h | h | h) <;> simp [h]
    · rintro (h | h | h | h | h | h | h | h | h | h | h | h | h | h | h | h | h) <;> simp [h]
  generalize isMk s.toList = B at *
  go_enter Try.func55, Try.ntmps55
  go_wp2_with fail
  all_goals first
    | (exfalso; clear hmk; simp_all; done)
    | (go_ret
       refine ⟨?_, rfl⟩
       show Ending.returned (Value.bool _) = Ending.returned (Value.bool _)
       simp_all)

theorem phex_no (c : UInt8) (w : World) (h : hexV c = none) :
    Calls Try.prog 59 #[.int .i32 (c.toNat : Int)] w fun e w' => e = .returned (.tuple #[.int .i64 0, .bool false]) ∧ w = w' := by
  have hb := u8_lt c
  have h0 := fun W => pdigit_any c W
  unfold hexV at h
  split at h
  · cases h
  rename_i hd
  split at h
  · cases h
  rename_i h1
  split at h
  · cases h
  rename_i h2
  rw [Bool.not_eq_true] at hd
  rw [hd] at h0
  have H0 := Lib.hid h0
  simp at h1 h2
  generalize c.toNat = n at *
  clear h h0 hd
  go_enter Try.func59, Try.ntmps59
  go_wp2_with fail
  refine (H0.out _).mono ?_
  rintro e w1 ⟨rfl, rfl⟩
  go_wp2_with fail
  all_goals first | omega | (go_ret2; exact ⟨rfl, rfl⟩)
theorem phex_yes (c : UInt8) (v : Nat) (w : World) (h : hexV c = some v) :
    Calls Try.prog 59 #[.int .i32 (c.toNat : Int)] w fun e w' => e = .returned (.tuple #[.int .i64 (v : Int), .bool true]) ∧ w = w' := by
  have hb := u8_lt c
  have h0 := fun W => pdigit_any c W
  unfold hexV at h
  split at h
  · rename_i hd
    rw [hd] at h0
    have H0 := Lib.hid h0
    injection h with h
    obtain ⟨d1, d2⟩ := dig_le hd
    generalize c.toNat = n at *
    clear h0 hd
    go_enter Try.func59, Try.ntmps59
    go_wp2_with fail
    refine (H0.out _).mono ?_
    rintro e w1 ⟨rfl, rfl⟩
    go_wp2_with fail
    all_goals first | omega | (go_ret2; exact ⟨by subst h; go_num, rfl⟩)
  rename_i hd
  rw [Bool.not_eq_true] at hd
  rw [hd] at h0
  have H0 := Lib.hid h0
  split at h
  · rename_i h1
    injection h with h
    simp at h1
    generalize c.toNat = n at *
    clear h0 hd
    go_enter Try.func59, Try.ntmps59
    go_wp2_with fail
    refine (H0.out _).mono ?_
    rintro e w1 ⟨rfl, rfl⟩
    go_wp2_with fail
    all_goals first | omega | (go_ret2; exact ⟨by subst h; go_num, rfl⟩)
  rename_i h1
  split at h
  · rename_i h2
    injection h with h
    simp at h1 h2
    generalize c.toNat = n at *
    clear h0 hd
    go_enter Try.func59, Try.ntmps59
    go_wp2_with fail
    refine (H0.out _).mono ?_
    rintro e w1 ⟨rfl, rfl⟩
    go_wp2_with fail
    all_goals first | omega | (go_ret2; exact ⟨by subst h; go_num, rfl⟩)
  · cases h

def hexI (c : UInt8) : Int := match hexV c with
  | some v => v
  | none => -1
theorem rhex4_any (c : UInt8) (w : World) :
    Calls Try.prog 62 #[.int .u8 (c.toNat : Int)] w fun e w' => e = .returned (.int .i64 (hexI c)) ∧ w = w' := by
  have hb := u8_lt c
  have h0 := fun W => rdigit_any c W
  unfold hexI hexV
  split
  · rename_i v h
    split at h
    · rename_i hd
      rw [hd] at h0
      have H0 := Lib.hid h0
      injection h with h
      obtain ⟨d1, d2⟩ := dig_le hd
      generalize c.toNat = n at *
      clear h0 hd
      go_enter Try.func62, Try.ntmps62
      go_wp2_with fail
      refine (H0.out _).mono ?_
      rintro e w1 ⟨rfl, rfl⟩
      go_wp2_with fail
      all_goals first | omega | (go_ret; exact ⟨by subst h; go_num, rfl⟩)
    rename_i hd
    rw [Bool.not_eq_true] at hd
    rw [hd] at h0
    have H0 := Lib.hid h0
    split at h
    · rename_i h1
      injection h with h
      simp at h1
      generalize c.toNat = n at *
      clear h0 hd
      go_enter Try.func62, Try.ntmps62
      go_wp2_with fail
      refine (H0.out _).mono ?_
      rintro e w1 ⟨rfl, rfl⟩
      go_wp2_with fail
      all_goals first | omega | (go_ret; exact ⟨by subst h; go_num, rfl⟩)
    rename_i h1
    split at h
    · rename_i h2
      injection h with h
      simp at h1 h2
      generalize c.toNat = n at *
      clear h0 hd
      go_enter Try.func62, Try.ntmps62
      go_wp2_with fail
      refine (H0.out _).mono ?_
      rintro e w1 ⟨rfl, rfl⟩
      go_wp2_with fail
      all_goals first | omega | (go_ret; exact ⟨by subst h; go_num, rfl⟩)
    · cases h
  · rename_i h
    split at h
    · cases h
    rename_i hd
    split at h
    · cases h
    rename_i h1
    split at h
    · cases h
    rename_i h2
    rw [Bool.not_eq_true] at hd
    rw [hd] at h0
    have H0 := Lib.hid h0
    simp at h1 h2
    generalize c.toNat = n at *
    clear h h0 hd
    go_enter Try.func62, Try.ntmps62
    go_wp2_with fail
    refine (H0.out _).mono ?_
    rintro e w1 ⟨rfl, rfl⟩
    go_wp2_with fail
    all_goals first | omega | (go_ret; exact ⟨rfl, rfl⟩)
end Go.Proofs.Ytcakdgfkepdpkaa
