/- Contract: follow, for whatever step. -/
import Derived.Test.YtcakdgfkepdpkaaLexByte
namespace Go.Proofs.Ytcakdgfkepdpkaa
open Go.ChangeShapes Go.WideShapes Go.ChangeAt Go.RowKit

set_option maxRecDepth 20000 in
theorem follow_gen (s : ByteArray) (a : Nat) (g : FuncId) (cap : Array Value) (S D : Nat → World → Prop) (w : World) (ha : a ≤ s.size) (hs : s.size ≤ 4611686018427387903) (h0 : S a w) (eg : ∀ args W, (callFunc g args).run Try.prog W = .ok (.enter g args) W)
    (hstep : ∀ k (h : k < s.size) W, a ≤ k → S k W → Calls Try.prog g (#[.int .i32 (s[k].toNat : Int)] ++ cap) W fun e W' => ∃ b : Bool, e = .returned (.bool b) ∧ Hid (b = true → S (k + 1) W') ∧ Hid (b = false → D k W')) :
    Calls Try.prog 42 #[.string s, .int .i64 (a : Int), .func (.func g) #[] cap] w fun e w' => ∃ k, k ≤ s.size ∧ a ≤ k ∧ e = .returned (.int .i64 (k : Int)) ∧ ((k = s.size ∧ S k w') ∨ (k < s.size ∧ D k w')) := by
  have HST := Lib.hid hstep
  have H0 := Lib.hid h0
  clear hstep h0
  go_enter Try.func42, Try.ntmps42
  go_wp2_with fail
  go_loopw [1] (fun i wr => ∃ k : Nat, k ≤ s.size ∧ a ≤ k ∧ i = .int .i64 k ∧ Hid (S k wr)) (fun i _ => s.size - (intOf i).toNat)
  case atStart => exact ⟨a, ha, Nat.le_refl _, rfl, H0.out⟩
  case round =>
    obtain ⟨k, hk, hak, rfl, HS⟩ := hrel
    by_cases hlt : k < s.size
    · have H1 := Lib.hid (HST.out k hlt)
      have hb8 := u8_lt s[k]
      have hki : (k : Int) < (s.size : Int) := by omega
      have hki0 : (0 : Int) ≤ (k : Int) := by omega
      go_wp2_with fail
      refine (H1.out _ hak HS.out).mono ?_
      rintro e w1 ⟨b, rfl, HT, HF⟩
      cases b with
      | true =>
        go_wp2_with fail
        go_roundw
        case rel => exact ⟨k + 1, by omega, by omega, by go_num, HT.out trivial⟩
        case measure => simp [intOf]; omega
      | false =>
        go_wp2_with fail
        go_ret
        exact ⟨k, hk, hak, rfl, .inr ⟨hlt, HF.out trivial⟩⟩
    · obtain rfl : k = s.size := by omega
      go_wp2_with fail
      go_ret
      exact ⟨_, Nat.le_refl _, hak, rfl, .inl ⟨rfl, HS.out⟩⟩
end Go.Proofs.Ytcakdgfkepdpkaa
