/- Contract of the program of layer 5: Count. -/
import Derived.Test.YtlmjfbgigfmdhaaIntPNorm2
namespace Go.Proofs.Ytlmjfbgigfmdhaa
open Go.ChangeShapes Go.WideShapes Go.ChangeAt Go.RowKit
set_option linter.unusedVariables false

set_option maxRecDepth 20000 in
theorem pcount_any (A : Option Addr) (cap : Nat) (l : List Spn) (w : World) (h : SpL w A l) (hl : l.length ≤ 1000000) :
    Calls Try.prog 16 #[.slice A l.length cap] w (CntP w (memS 4294967296 l) l.length) := by
  have HNM := Lib.hid (pnormal_any A cap l w h hl)
  obtain ⟨n, hn⟩ : ∃ n, n = l.length := ⟨_, rfl⟩
  have hn6 : n ≤ 1000000 := by omega
  rw [← hn] at HNM ⊢
  clear h hn hl
  go_enter Try.func16, Try.ntmps16
  go_wp2_with fail
  refine HNM.out.mono ?_
  rintro e w1 ⟨L, A1, cp1, hok, hany, hle, rfl, hown, hb⟩
  obtain ⟨n1, hn1⟩ : ∃ n, n = L.length := ⟨_, rfl⟩
  have hn16 : n1 ≤ 1000000 := by omega
  have HS := Lib.hid (spl_of_own hown)
  have HOK := Lib.hid hok
  have HANY := Lib.hid hany
  have HLE := Lib.hid hle
  have HB := Lib.hid hb
  rw [← hn1]
  have HN := Lib.hid hn1
  clear hok hany hle hown hb hn1 HNM
  go_wp2_with fail
  go_loopw [3, 9] (fun v4 v5 wr => ∃ k : Nat, k ≤ n1 ∧ v5 = .int .i64 k ∧ v4 = .int .i64 (cntL (L.take k)) ∧ Hid (SpL wr A1 L) ∧ Hid (Below w.heap.size w wr)) (fun _ v5 _ => n1 - (intOf v5).toNat)
  case atStart => exact ⟨0, by omega, rfl, rfl, HS, HB⟩
  case round =>
    clear HS HB
    obtain ⟨k, hk, rfl, rfl, HS, HB⟩ := hrel
    by_cases hlt : k < n1
    · obtain ⟨s, hget⟩ : ∃ s, L[k]? = some s := ⟨L[k]'(by have := HN.out; omega), List.getElem?_eq_getElem _⟩
      obtain ⟨g, o, rfl, hg, hc⟩ := HS.out (by have := HN.out; omega)
      obtain ⟨c0, c1⟩ := hc k _ hget
      have hki : (k : Int) < (n1 : Int) := by omega
      have hki0 : (0 : Int) ≤ (k : Int) := by omega
      have hg1 := okL_get hget HOK.out
      have hct := cnt_take (by decide) k HOK.out
      have hsn : cntL (L.take (k + 1)) = cntL (L.take k) + (s.hi - s.lo + 1) := by
        obtain ⟨hkl, e⟩ := List.getElem?_eq_some_iff.1 hget
        rw [List.take_succ_eq_append_getElem hkl, e, cntL_snoc]
      have hct2 := cnt_take (by decide) (k + 1) HOK.out
      have HSN := Lib.hid (show ∀ x, x = cntL (L.take k) + (s.hi - s.lo + 1) → cntL (L.take (k + 1)) = x from fun x hx => by rw [hx, hsn])
      generalize cntL (L.take k) = c at *
      obtain ⟨lo, hi⟩ := s
      simp only at c0 c1 hg1 hsn HSN
      have HS2 := Lib.hid (HS.out.kept (below_alloc5 wr (.cells #[.int .i64 lo, .int .i64 hi] 34)))
      have HB2 := Lib.hid (HB.out.alloc HB.out.size (.cells #[.int .i64 lo, .int .i64 hi] 34))
      clear hget hc hsn hct2
      go_wp2_with fail
      go_roundw
      case rel => exact ⟨k + 1, by omega, by go_num, by rw [HSN.out (c + (hi - lo + 1)) rfl], HS2, HB2⟩
      case measure => simp [intOf]; omega
    · have hkn : k = L.length := by have := HN.out; omega
      have HE := Lib.hid (show cntL (L.take k) = cntL L by rw [hkn, List.take_length])
      have hd : decide ((k : Int) < (n1 : Int)) = false := by simp; omega
      rw [HE.out]
      clear hkn
      go_wp2_with fail
      go_ret
      exact ⟨L, HOK.out, HANY.out, HLE.out, rfl, HB.out⟩
end Go.Proofs.Ytlmjfbgigfmdhaa
