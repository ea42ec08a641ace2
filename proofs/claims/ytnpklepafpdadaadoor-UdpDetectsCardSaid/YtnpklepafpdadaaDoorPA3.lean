/- Contracts of the functions, part 3: Ref, Ref2. -/
import Derived.Deep.RegionWith
import Derived.OwnWalk
import Derived.Test.YtnpklepafpdadaaDoorPA2
/- Contracts of the reference: Put, Reverse, PutLittle, Get, GetLittle. -/
namespace Go.Proofs.YtnpklepafpdadaaDoor
open Go.ChangeShapes Go.WideShapes Go.ChangeAt Go.RowKit

/-- What lies below the heap's end reads on behind a step that keeps it. -/
theorem kept_cells {a b : World} (h : Below a.heap.size a b) (g o : Nat) (hg : g < a.heap.size) : b.cell? ⟨g, o, none⟩ = a.cell? ⟨g, o, none⟩ := h.cell (p := ⟨g, o, none⟩) hg

/-- 'string([]byte{b})'. -/
theorem one_string (W : World) (g : Nat) (b : Int) (h0 : 0 ≤ b) (h1 : b < 256) (hc : W.cell? ⟨g, 0, none⟩ = some (.int .u8 b)) :
    (convert 39 9 (.slice (some ⟨g, 0, none⟩) 1 1)).run Tryd.prog W = .ok (.string (str [UInt8.ofNat b.toNat])) W := by
  refine run_convert_bytes_back W 39 9 5 ⟨g, 0, none⟩ 1 [UInt8.ofNat b.toNat] Tryd.underlying39 Tryd.underlying5 Tryd.underlying9 (fun j hj => ?_)
  obtain rfl : j = 0 := by simpa using hj
  show W.cell? ⟨g, 0, none⟩ = _
  rw [hc]
  simp
  omega

theorem rput_no (n size : Int) (w : World) (h : size < 1 ∨ 7 < size ∨ n < 0 ∨ (1 ≤ size ∧ pw size.toNat ≤ n.toNat)) :
    Calls Tryd.prog 20 #[.int .i64 n, .int .i64 size] w fun e w' => e = .returned (.string (str [])) ∧ w = w' := by
  by_cases h1 : size < 1
  · go_enter Tryd.func20, Tryd.ntmps20
    go_wp2_with fail
    go_ret
    exact ⟨rfl, rfl⟩
  have d1 : decide (size < 1) = false := by simp; omega
  by_cases h2 : 7 < size
  · go_enter Tryd.func20, Tryd.ntmps20
    go_wp2_with fail
    go_ret
    exact ⟨rfl, rfl⟩
  have d2 : decide (7 < size) = false := by simp; omega
  by_cases h3 : n < 0
  · go_enter Tryd.func20, Tryd.ntmps20
    go_wp2_with fail
    go_ret
    exact ⟨rfl, rfl⟩
  have d3 : decide (n < 0) = false := by simp; omega
  have h4 : (pw size.toNat : Int) ≤ n := by omega
  go_enter Tryd.func20, Tryd.ntmps20
  go_wp2_with fail
  refine (power_any size _ (by omega) (by omega)).mono ?_
  rintro e w1 ⟨rfl, rfl⟩
  go_wp2_with fail
  go_ret
  exact ⟨rfl, rfl⟩

theorem rput_yes (k : Nat) : ∀ (n size : Int) (w : World), size = (k : Int) + 1 → size ≤ 7 → 0 ≤ n → n.toNat < pw (k + 1) →
    Calls Tryd.prog 20 #[.int .i64 n, .int .i64 size] w fun e w' => e = .returned (.string (str (leL (k + 1) n.toNat).reverse)) ∧ Below w.heap.size w w' := by
  induction k with
  | zero =>
    intro n size w hk h7 h0 hlt
    obtain rfl : size = 1 := by omega
    clear hk h7
    obtain ⟨m, rfl⟩ := Int.eq_ofNat_of_zero_le h0
    rw [Int.toNat_natCast] at *
    have hm : m < 256 := hlt
    have d1 : decide ((m : Int) < 0) = false := by simp
    have hcv := fun W g => one_string W g (m : Int) (by omega) (by omega)
    go_enter Tryd.func20, Tryd.ntmps20
    go_wp2_with fail
    refine (power_any 1 _ (by omega) (by omega)).mono ?_
    rintro e w1 ⟨rfl, rfl⟩
    have hlt' : m < pw (Int.toNat 1) := hlt
    clear hlt
    generalize pw (Int.toNat 1) = q at *
    go_wp2_with fail
    go_ret
    refine ⟨?_, (Below.refl _ _).alloc (Nat.le_refl _) _⟩
    rw [show (leL (0 + 1) m).reverse = [UInt8.ofNat m] by simp [leL, Nat.mod_eq_of_lt hm]]
    rfl
  | succ k ih =>
    intro n size w hk h7 h0 hlt
    obtain ⟨m, rfl⟩ := Int.eq_ofNat_of_zero_le h0
    rw [Int.toNat_natCast] at *
    have hlt2 : m / 256 < pw (k + 1) := by
      rw [pw_succ] at hlt
      omega
    have hfin : str (leL (k + 1) (m / 256)).reverse ++ str [UInt8.ofNat (m % 256)] = str (leL (k + 1 + 1) m).reverse := by
      rw [show leL (k + 1 + 1) m = UInt8.ofNat (m % 256) :: leL (k + 1) (m / 256) from rfl, List.reverse_cons, str_append]
    have Hf := Lib.hid hfin
    have Hk := Lib.hid hk
    have ih2 := fun W => ih ((m : Int) / 256) (size - 1) W (by omega) (by omega) (by omega) (by omega)
    rw [show ((m : Int) / 256).toNat = m / 256 by omega] at ih2
    have IH := Lib.hid ih2
    clear ih ih2
    have Hl2 := Lib.hid hlt2
    clear hlt2
    have hs1 : 1 < size := by omega
    have hm7 : m < 72057594037927936 := Nat.lt_of_lt_of_le hlt (pw_le7 (by omega))
    have hw1 : IntKind.i64.wrap ((m : Int) / 256) = (m : Int) / 256 := IntWalk.i64_in _ (by omega)
    have hw2 : IntKind.i64.wrap (size - 1) = size - 1 := IntWalk.i64_in _ (by omega)
    have hw3 : (m : Int).tmod 256 = (m : Int) % 256 := Int.tmod_eq_emod_of_nonneg (by omega)
    have hw4 : IntKind.u8.wrap ((m : Int) % 256) = (m : Int) % 256 := by rw [IntKind.wrap_u8]; omega
    have hsz : size.toNat = k + 1 + 1 := by omega
    have d1 : decide (size < 1) = false := by simp; omega
    have d2 : decide (7 < size) = false := by simp; omega
    have d3 : decide ((m : Int) < 0) = false := by simp
    have d4 : (size == 1) = false := by simp; omega
    have hcv := fun W g => one_string W g ((m : Int) % 256) (by omega) (by omega)
    rw [show ((m : Int) % 256).toNat = m % 256 by omega] at hcv
    have hcat : (9223372036854775807 < (str (leL (k + 1) (m / 256)).reverse).size + (str [UInt8.ofNat (m % 256)]).size) = False := by
      rw [str_size, str_size, List.length_reverse, leL_length]; simp; omega
    clear hfin hk
    go_enter Tryd.func20, Tryd.ntmps20
    go_wp2_with fail
    refine (power_any size _ (by omega) (by omega)).mono ?_
    rintro e w1 ⟨rfl, rfl⟩
    rw [hsz]
    clear hsz
    generalize pw (k + 1 + 1) = q at *
    go_wp2_with fail
    go_region_with (go_at_call 20; refine (IH.out _).mono ?_; rintro e w2 ⟨rfl, hb⟩; have hcc := kept_cells hb)
    all_goals
      go_wp2_with fail
      go_ret
      refine ⟨by rw [← Hf.out]; rfl, ?_⟩
      first
        | exact (Below.trans (Below.drew (Below.refl _ _)) hb).alloc (by have := hb.size; simpa using this) _
        | exact ((Below.refl _ _).drew.alloc (Nat.le_refl _) _).trans (hb.mono (by simp))
end Go.Proofs.YtnpklepafpdadaaDoor

/- Contracts of the reference: Reverse, PutLittle, Get, GetLittle. -/
namespace Go.Proofs.YtnpklepafpdadaaDoor
open Go.ChangeShapes Go.WideShapes Go.ChangeAt Go.RowKit
set_option linter.unusedVariables false

/-- Bytes as cells. -/
def cellsOf (l : List UInt8) : List Value := l.map fun b => .int .u8 (b.toNat : Int)

theorem bs_of_own {w : World} {base : Nat} {A : Option Addr} {cap : Nat} {l : List UInt8} (h : w.ownsRow base 5 1 (.slice A l.length cap) l.length (cellsOf l)) : BS w base (.slice A l.length cap) l := by
  refine ⟨A, cap, rfl, ?_, fun hpos => ?_⟩
  · rcases h.2 with ⟨hv, hn⟩ | ⟨g, c, cur, hv, _, _, hn, _⟩
    · omega
    · cases hv; exact hn
  · rcases h.2 with ⟨hv, hn⟩ | ⟨g, c, cur, hv, hg, hh, hn, _⟩
    · omega
    · cases hv
      have hlt : g < w.heap.size := (h.lt g rfl).2
      refine ⟨g, 0, rfl, hg, hlt, fun j hj => ?_⟩
      rw [Nat.zero_add]
      refine ⟨?_, h.frozenAt j⟩
      rw [h.cellAt j (by omega)]
      simp [cellsOf, hj]

theorem cellsOf_snoc (l : List UInt8) (b : UInt8) : cellsOf l ++ [.int .u8 (b.toNat : Int)] = cellsOf (l ++ [b]) := by simp [cellsOf]
theorem cellsOf_length (l : List UInt8) : (cellsOf l).length = l.length := by simp [cellsOf]

theorem back_take (l : List UInt8) (q : Nat) (h : q < l.length) : (l.drop (q + 1)).reverse ++ [l[q]] = (l.drop q).reverse := by
  rw [List.drop_eq_getElem_cons h, List.reverse_cons]

theorem ext_size (s : ByteArray) (a k : Nat) : (s.extract a (a + k)).size ≤ k := by
  rw [ByteArray.size_extract]; omega

end Go.Proofs.YtnpklepafpdadaaDoor
