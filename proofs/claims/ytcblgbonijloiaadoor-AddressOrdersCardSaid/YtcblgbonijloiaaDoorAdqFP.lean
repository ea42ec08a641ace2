/- Contract of the program's layer 6: FormatPrefix. -/
import Derived.Test.YtcblgbonijloiaaDoorAdqFmt
import Derived.Test.YtcblgbonijloiaaDoorAdqPP
namespace Go.Proofs.YtcblgbonijloiaaDoor
open Go.ChangeShapes Go.WideShapes Go.ChangeAt Go.RowKit
set_option linter.unusedVariables false

theorem fmtA_fmtS {v : Bool} {hi lo : Nat} (hv : vldA v hi lo = true) : fmtA v hi lo = fmtS ⟨v, numA hi lo⟩ := by
  cases v with
  | true => rfl
  | false =>
    unfold vldA at hv
    simp only [Bool.false_or, Bool.and_eq_true, beq_iff_eq, decide_eq_true_eq] at hv
    obtain ⟨rfl, h⟩ := hv
    have : numA 0 lo = lo := by unfold numA; omega
    unfold fmtA fmtS
    rw [this]
theorem adr_ok {v : Bool} {hi lo : Nat} (h1 : hi < 18446744073709551616) (h2 : lo < 18446744073709551616) (hv : vldA v hi lo = true) : (Adr.mk v (numA hi lo)).ok := by
  show numA hi lo < 2 ^ width v
  cases v with
  | true => exact numA_lt h1 h2
  | false =>
    unfold vldA at hv
    simp only [Bool.false_or, Bool.and_eq_true, beq_iff_eq, decide_eq_true_eq] at hv
    obtain ⟨rfl, h⟩ := hv
    have : numA 0 lo = lo := by unfold numA; omega
    rw [this]
    have e : (2 : Nat) ^ width false = 4294967296 := by decide
    rw [e]; exact h
theorem fmtA_len {v : Bool} {hi lo : Nat} (h1 : hi < 18446744073709551616) (h2 : lo < 18446744073709551616) (hv : vldA v hi lo = true) : (fmtA v hi lo).length ≤ 42 := by
  rw [fmtA_fmtS hv]; exact fmt_len (adr_ok h1 h2 hv)
/-- The canonical text of a prefix. -/
def fmtPA (v : Bool) (hi lo k : Nat) : By := fmtA v hi lo ++ 47 :: numL k
set_option maxHeartbeats 2000000 in
set_option maxRecDepth 20000 in
theorem qfmtp_any (v6 : Bool) (hi lo k : Nat) (w : World) (h1 : hi < 18446744073709551616) (h2 : lo < 18446744073709551616) (hv : vldA v6 hi lo = true) (hk : k ≤ 128) (ht : TW w) :
    Calls Tryd.prog 25 #[.agg #[.bool v6, .int .u64 hi, .int .u64 lo, .int .i64 k]] w fun e w' => e = .returned (.string (str (fmtPA v6 hi lo k))) ∧ Below w.heap.size w w' := by
  obtain ⟨W0, hW0⟩ : ∃ W0, W0 = w.alloc (.cells #[.bool v6, .int .u64 hi, .int .u64 lo, .int .i64 k] 30) := ⟨_, rfl⟩
  have HX := Lib.hid (show PB W0 w.heap.size v6 hi lo k by rw [hW0]; exact pb_new w v6 hi lo k)
  have HB := Lib.hid (show Below w.heap.size w W0 by rw [hW0]; exact below_alloc6 w _)
  have HT := Lib.hid (show TW W0 from ht.kept (by rw [hW0]; exact below_alloc6 w _))
  have HF := Lib.hid (fun W t => qfmt_any v6 hi lo W h1 h2 hv t)
  have HI := Lib.hid (fun W t => pitoa6 k W (by omega) t)
  have hl := fmtA_len h1 h2 hv
  have hl2 : (numL k).length ≤ 3 := num_len (by omega)
  have HC := Lib.hid (show str (fmtA v6 hi lo) ++ (⟨#[47]⟩ : ByteArray) ++ str (numL k) = str (fmtPA v6 hi lo k) by
    unfold fmtPA
    rw [show (47 : UInt8) :: numL k = [47] ++ numL k from rfl, ← List.append_assoc, ← str_append, ← str_append]; rfl)
  have hs1 : (str (fmtA v6 hi lo)).size ≤ 42 := by rw [str_size]; exact hl
  have hs2 : (str (numL k)).size ≤ 3 := by rw [str_size]; exact hl2
  generalize str (fmtA v6 hi lo) = P at *
  generalize str (numL k) = Q at *
  generalize hSe : str (fmtPA v6 hi lo k) = S at *
  have HSE := Lib.hid hSe
  have hk1 : (9223372036854775807 < P.size + 1) = False := by simp only [eq_iff_iff, iff_false]; omega
  have hk2 : (9223372036854775807 < P.size + (⟨#[47]⟩ : ByteArray).size) = False := hk1
  have hk3 : (9223372036854775807 < (P ++ (⟨#[47]⟩ : ByteArray)).size + Q.size) = False := by
    rw [ByteArray.size_append]; simp only [eq_iff_iff, iff_false]; show ¬ (_ < P.size + 1 + _); omega
  have hk4 : (9223372036854775807 < P.size + 1 + Q.size) = False := by simp only [eq_iff_iff, iff_false]; omega
  clear h1 h2 hv ht hSe hl hl2
  go_enter Tryd.func25, Tryd.ntmps25
  go_wp2_with fail
  rw [← hW0]
  clear hW0
  have x0 := HX.out.c0
  have x1 := HX.out.c1
  have x2 := HX.out.c2
  have x3 := HX.out.c3
  go_region_held3 (fun w' => w'.cell? ⟨w.heap.size, 0, none⟩ = some (.bool v6) ∧ w'.cell? ⟨w.heap.size, 1, none⟩ = some (.int .u64 hi) ∧ w'.cell? ⟨w.heap.size, 2, none⟩ = some (.int .u64 lo) ∧ w'.cell? ⟨w.heap.size, 3, none⟩ = some (.int .i64 k)) (go_keep) (first
    | (go_at_call 21; refine (HF.out _ ?_).mono ?_; exact ⟨HT.out.mx, HT.out.p10, HT.out.db⟩; rintro e w5 ⟨rfl, hb3d⟩; have hb5 : Below W0.heap.size W0 w5 := ⟨hb3d.os, hb3d.tape, hb3d.output, hb3d.size, hb3d.block⟩; have hx5 := HX.out.kept hb5 HX.out.lt; have ht5 := HT.out.kept hb5; have j0 := hx5.c0; have j1 := hx5.c1; have j2 := hx5.c2; have j3 := hx5.c3)
    | (go_at_call 53; refine (HI.out _ ?_).mono ?_; exact ht5; rintro e w6 ⟨rfl, hb4d⟩; have hb6 : Below W0.heap.size W0 w6 := hb5.trans (hb4d.mono hb5.size); have hx6 := HX.out.kept hb6 HX.out.lt; have i0 := hx6.c0; have i1 := hx6.c1; have i2 := hx6.c2; have i3 := hx6.c3))
  all_goals
    have HB6 := Lib.hid (HB.out.trans (hb6.mono HB.out.size))
    go_wp2_with fail
    go_ret
    exact ⟨ret_str6 HC.out, HB6.out⟩
end Go.Proofs.YtcblgbonijloiaaDoor
