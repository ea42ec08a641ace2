/- Contracts of the functions, part 2: Mem2, Ref, Ref2. -/
import Derived.Laws.BitsAllLaws
import Derived.Laws.BitsLemmas
import Derived.WalkSpells
import Derived.Deep.RegionWith
import Derived.OwnWalk
import Derived.Test.YtmfoionlapcgkaaDoorPA1
/- Contracts: number, part, Put, PutLittle, Get, GetLittle of the program. -/
namespace Go.Proofs.YtmfoionlapcgkaaDoor
open Go.ChangeShapes Go.WideShapes Go.ChangeAt Go.RowKit

/-- 'a<<8 | b': the wrap is none where a is small. -/
theorem or_byte (a b : Nat) (ha : a < 281474976710656) (hb : b < 256) : bits .or .i64 ((a : Int) * 256) (b : Int) = (a : Int) * 256 + b := by
  have nn : ∀ x : Nat, x < 2 ^ 63 → (BitVec.ofInt 64 (x : Int)).toNat = x := fun x hx => by
    rw [BitVec.ofInt_natCast, BitVec.toNat_ofNat]
    exact Nat.mod_eq_of_lt (by omega)
  have e : a * 256 ||| b = a * 256 + b := by
    have h := Nat.shiftLeft_add_eq_or_of_lt (i := 8) (b := b) (by omega) a
    rw [Nat.shiftLeft_eq, show 2 ^ 8 = 256 from rfl] at h
    omega
  rw [show ((a : Int) * 256) = ((a * 256 : Nat) : Int) by omega]
  show IntKind.i64.wrap ((BitVec.ofInt 64 ((a * 256 : Nat) : Int) ||| BitVec.ofInt 64 (b : Int)).toNat : Int) = _
  rw [BitVec.toNat_or, nn _ (by omega), nn _ (by omega), e, IntKind.wrap_i64]
  omega

theorem number_any (A : Option Addr) (cap base : Nat) (l : List UInt8) (w : World) (h : BS w base (.slice A l.length cap) l) (hl : l.length ≤ 7) :
    Calls Tryd.prog 70 #[.slice A l.length cap] w fun e w' => e = .returned (.int .i64 (num l : Nat)) ∧ w = w' := by
  obtain ⟨A', cap', hv, hc, hb⟩ := h
  cases hv
  go_enter Tryd.func70, Tryd.ntmps70
  go_wp2
  go_loop [3, 8] (fun p i => ∃ k : Nat, k ≤ l.length ∧ i = .int .i64 k ∧ p = .int .i64 (num (l.take k) : Nat)) (fun _ i => l.length - (intOf i).toNat)
  case atStart => exact ⟨0, by omega, rfl, rfl⟩
  case round =>
    obtain ⟨k, hk, rfl, rfl⟩ := hrel
    by_cases hlt : k < l.length
    · obtain ⟨g, o, rfl, _, _, hcell⟩ := hb (by omega)
      have hck := (hcell k hlt).1
      have hp : num (l.take k) < 281474976710656 := num_lt6 (by rw [List.length_take]; omega)
      have H : Hid (num (l.take (k + 1)) = num (l.take k) * 256 + l[k].toNat) := by
        show num (l.take (k + 1)) = _
        rw [List.take_succ_eq_append_getElem hlt, num_snoc]
      have hbt : l[k].toNat < 256 := u8_lt _
      go_wp2
      go_round
      case rel =>
        refine ⟨k + 1, by omega, by go_num, ?_⟩
        rw [H.out, or_byte _ _ hp hbt]
        go_num
      case measure => simp [intOf]; omega
    · go_wp2
      go_ret
      exact ⟨ret_int (by rw [List.take_of_length_le (by omega)]), rfl⟩

theorem bs_nil (w : World) (base : Nat) : BS w base (.slice none 0 0) [] := ⟨none, 0, rfl, Nat.le_refl _, by simp⟩

theorem str_eq {l : List UInt8} {s : ByteArray} (h : s.data.toList = l) : s = str l := by rw [← h, str_of]

/-- 'string(b)'. -/
theorem bs_string {w : World} {base : Nat} {A : Option Addr} {cap : Nat} {l : List UInt8} (h : BS w base (.slice A l.length cap) l) :
    (convert 48 9 (.slice A l.length cap)).run Tryd.prog w = .ok (.string (str l)) w := by
  obtain ⟨A', cap', hv, hc, hb⟩ := h
  cases hv
  by_cases h0 : l.length = 0
  · have hnil : l = [] := List.eq_nil_of_length_eq_zero h0
    subst hnil
    rw [run_convert_bytes_string w 48 9 5 A _ cap Tryd.underlying48 Tryd.underlying5 Tryd.underlying9]
    cases A with
    | none => rfl
    | some a => simp [Conv.bytesToString, loadCells, loadCellsFrom, str]; rfl
  · obtain ⟨g, o, rfl, _, _, hcell⟩ := hb (by omega)
    refine run_convert_bytes_back w 48 9 5 ⟨g, o, none⟩ cap l Tryd.underlying48 Tryd.underlying5 Tryd.underlying9 (fun j hj => ?_)
    have := (hcell j hj).1
    unfold Addr.add
    split
    · subst_vars; simpa using this
    · exact this

theorem put_yes (n size : Int) (w : World) (h1 : 1 ≤ size) (h2 : size ≤ 7) (h3 : 0 ≤ n) (h5 : n ≤ 9223372036854775807) (h4 : n.toNat < pw size.toNat) :
    Calls Tryd.prog 39 #[.int .i64 n, .int .i64 size] w fun e w' => e = .returned (.string (str (leL size.toNat n.toNat).reverse)) ∧ Below w.heap.size w w' := by
  go_enter Tryd.func39, Tryd.ntmps39
  go_wp2_with fail
  refine (little_yes n size _ h1 h2 h3 h5 h4).mono ?_
  rintro e w1 ⟨v, rfl, hbs, hb1⟩
  obtain ⟨A, cap, rfl, hrest⟩ := id hbs
  clear hrest
  go_wp2_with fail
  refine (reverse_any A cap _ _ _ hbs (by rw [leL_length]; omega)).mono ?_
  rintro e w2 ⟨rfl, hbs2, hb2⟩
  have hcv := bs_string (by rw [List.length_reverse]; exact hbs2)
  rw [List.length_reverse] at hcv
  go_wp2_with fail
  go_ret
  exact ⟨rfl, hb1.trans hb2⟩

theorem put_no (n size : Int) (w : World) (h5 : n ≤ 9223372036854775807) (h6 : -9223372036854775808 ≤ n) (h : size < 1 ∨ 7 < size ∨ n < 0 ∨ (1 ≤ size ∧ pw size.toNat ≤ n.toNat)) :
    Calls Tryd.prog 39 #[.int .i64 n, .int .i64 size] w fun e w' => e = .returned (.string (str [])) ∧ Below w.heap.size w w' := by
  go_enter Tryd.func39, Tryd.ntmps39
  go_wp2_with fail
  refine (little_no n size _ h5 h6 h).mono ?_
  rintro e w1 ⟨rfl, rfl⟩
  go_wp2_with fail
  refine (reverse_any none 0 w.heap.size [] _ (bs_nil _ _) (by simp)).mono ?_
  rintro e w2 ⟨rfl, hbs2, hb2⟩
  have hcv := bs_string (l := []) (A := none) (cap := 0) (bs_nil w2 0)
  simp only [List.length_nil] at hcv
  go_wp2_with fail
  go_ret
  exact ⟨rfl, hb2⟩

/-- k bytes from a place on. -/
def sub (s : ByteArray) (a k : Nat) : List UInt8 := (s.data.toList.drop a).take k
theorem sub_length {s : ByteArray} {a k : Nat} (h : a + k ≤ s.size) : (sub s a k).length = k := by
  unfold sub
  rw [List.length_take, List.length_drop]
  have : s.data.toList.length = s.size := by simp
  omega

/-- '[]byte(s)'. -/
theorem bs_new (w : World) (s : ByteArray) (cap : Nat) (hcap : s.size ≤ cap) :
    BS (w.alloc (.cells (bytesRow s cap) 5 ((bytesRow s cap).size, (bytesRow s cap).size + 1))) w.heap.size (.slice (some ⟨w.heap.size, 0, none⟩) s.size cap) s.data.toList := by
  have hl : s.data.toList.length = s.size := by simp
  refine ⟨some ⟨w.heap.size, 0, none⟩, cap, by rw [hl], by rw [hl]; exact hcap, fun _ => ⟨w.heap.size, 0, rfl, Nat.le_refl _, by simp, fun j hj => ?_⟩⟩
  have hj' : j < s.data.size := by rw [hl] at hj; exact hj
  rw [Nat.zero_add]
  refine ⟨?_, ?_⟩
  · rw [World.cell?_alloc_mark, bytesRow_at s cap j hj']
    simp
  · rw [World.frozen?_alloc_mark]
    have : (bytesRow s cap).size = s.data.size + (cap - s.size) := by simp [bytesRow]
    simp
    intro
    omega

end Go.Proofs.YtmfoionlapcgkaaDoor

/- Contracts of the reference: Put, Reverse, PutLittle, Get, GetLittle. -/
namespace Go.Proofs.YtmfoionlapcgkaaDoor
open Go.ChangeShapes Go.WideShapes Go.ChangeAt Go.RowKit

/-- What lies below the heap's end reads on behind a step that keeps it. -/
theorem kept_cells {a b : World} (h : Below a.heap.size a b) (g o : Nat) (hg : g < a.heap.size) : b.cell? ⟨g, o, none⟩ = a.cell? ⟨g, o, none⟩ := h.cell (p := ⟨g, o, none⟩) hg

/-- 'string([]byte{b})'. -/
theorem one_string (W : World) (g : Nat) (b : Int) (h0 : 0 ≤ b) (h1 : b < 256) (hc : W.cell? ⟨g, 0, none⟩ = some (.int .u8 b)) :
    (convert 48 9 (.slice (some ⟨g, 0, none⟩) 1 1)).run Tryd.prog W = .ok (.string (str [UInt8.ofNat b.toNat])) W := by
  refine run_convert_bytes_back W 48 9 5 ⟨g, 0, none⟩ 1 [UInt8.ofNat b.toNat] Tryd.underlying48 Tryd.underlying5 Tryd.underlying9 (fun j hj => ?_)
  obtain rfl : j = 0 := by simpa using hj
  show W.cell? ⟨g, 0, none⟩ = _
  rw [hc]
  simp
  omega

theorem rput_no (n size : Int) (w : World) (h : size < 1 ∨ 7 < size ∨ n < 0 ∨ (1 ≤ size ∧ pw size.toNat ≤ n.toNat)) :
    Calls Tryd.prog 44 #[.int .i64 n, .int .i64 size] w fun e w' => e = .returned (.string (str [])) ∧ w = w' := by
  by_cases h1 : size < 1
  · go_enter Tryd.func44, Tryd.ntmps44
    go_wp2_with fail
    go_ret
    exact ⟨rfl, rfl⟩
  have d1 : decide (size < 1) = false := by simp; omega
  by_cases h2 : 7 < size
  · go_enter Tryd.func44, Tryd.ntmps44
    go_wp2_with fail
    go_ret
    exact ⟨rfl, rfl⟩
  have d2 : decide (7 < size) = false := by simp; omega
  by_cases h3 : n < 0
  · go_enter Tryd.func44, Tryd.ntmps44
    go_wp2_with fail
    go_ret
    exact ⟨rfl, rfl⟩
  have d3 : decide (n < 0) = false := by simp; omega
  have h4 : (pw size.toNat : Int) ≤ n := by omega
  go_enter Tryd.func44, Tryd.ntmps44
  go_wp2_with fail
  refine (power_any size _ (by omega) (by omega)).mono ?_
  rintro e w1 ⟨rfl, rfl⟩
  go_wp2_with fail
  go_ret
  exact ⟨rfl, rfl⟩

theorem rput_yes (k : Nat) : ∀ (n size : Int) (w : World), size = (k : Int) + 1 → size ≤ 7 → 0 ≤ n → n.toNat < pw (k + 1) →
    Calls Tryd.prog 44 #[.int .i64 n, .int .i64 size] w fun e w' => e = .returned (.string (str (leL (k + 1) n.toNat).reverse)) ∧ Below w.heap.size w w' := by
  induction k with
  | zero =>
    intro n size w hk h7 h0 hlt
    obtain rfl : size = 1 := by omega
    clear hk h7
    obtain ⟨m, rfl⟩ := Int.eq_ofNat_of_zero_le h0
    rw [Int.toNat_natCast] at *
    have hm : m < 256 := hlt
    have d1 : decide ((m : Int) < 0) = false := by simp
    have hcv := fun W g => one_string W g (m : Int) (by omega) (by omega)
    go_enter Tryd.func44, Tryd.ntmps44
    go_wp2_with fail
    refine (power_any 1 _ (by omega) (by omega)).mono ?_
    rintro e w1 ⟨rfl, rfl⟩
    have hlt' : m < pw (Int.toNat 1) := hlt
    clear hlt
    generalize pw (Int.toNat 1) = q at *
    go_wp2_with fail
    go_ret
    refine ⟨?_, (Below.refl _ _).alloc (Nat.le_refl _) _⟩
    rw [show (leL (0 + 1) m).reverse = [UInt8.ofNat m] by simp [leL, Nat.mod_eq_of_lt hm]]
    rfl
  | succ k ih =>
    intro n size w hk h7 h0 hlt
    obtain ⟨m, rfl⟩ := Int.eq_ofNat_of_zero_le h0
    rw [Int.toNat_natCast] at *
    have hlt2 : m / 256 < pw (k + 1) := by
      rw [pw_succ] at hlt
      omega
    have hfin : str (leL (k + 1) (m / 256)).reverse ++ str [UInt8.ofNat (m % 256)] = str (leL (k + 1 + 1) m).reverse := by
      rw [show leL (k + 1 + 1) m = UInt8.ofNat (m % 256) :: leL (k + 1) (m / 256) from rfl, List.reverse_cons, str_append]
    have Hf := Lib.hid hfin
    have Hk := Lib.hid hk
    have ih2 := fun W => ih ((m : Int) / 256) (size - 1) W (by omega) (by omega) (by omega) (by omega)
    rw [show ((m : Int) / 256).toNat = m / 256 by omega] at ih2
    have IH := Lib.hid ih2
    clear ih ih2
    have Hl2 := Lib.hid hlt2
    clear hlt2
    have hs1 : 1 < size := by omega
    have hm7 : m < 72057594037927936 := Nat.lt_of_lt_of_le hlt (pw_le7 (by omega))
    have hw1 : IntKind.i64.wrap ((m : Int) / 256) = (m : Int) / 256 := IntWalk.i64_in _ (by omega)
    have hw2 : IntKind.i64.wrap (size - 1) = size - 1 := IntWalk.i64_in _ (by omega)
    have hw3 : (m : Int).tmod 256 = (m : Int) % 256 := Int.tmod_eq_emod_of_nonneg (by omega)
    have hw4 : IntKind.u8.wrap ((m : Int) % 256) = (m : Int) % 256 := by rw [IntKind.wrap_u8]; omega
    have hsz : size.toNat = k + 1 + 1 := by omega
    have d1 : decide (size < 1) = false := by simp; omega
    have d2 : decide (7 < size) = false := by simp; omega
    have d3 : decide ((m : Int) < 0) = false := by simp
    have d4 : (size == 1) = false := by simp; omega
    have hcv := fun W g => one_string W g ((m : Int) % 256) (by omega) (by omega)
    rw [show ((m : Int) % 256).toNat = m % 256 by omega] at hcv
    have hcat : (9223372036854775807 < (str (leL (k + 1) (m / 256)).reverse).size + (str [UInt8.ofNat (m % 256)]).size) = False := by
      rw [str_size, str_size, List.length_reverse, leL_length]; simp; omega
    clear hfin hk
    go_enter Tryd.func44, Tryd.ntmps44
    go_wp2_with fail
    refine (power_any size _ (by omega) (by omega)).mono ?_
    rintro e w1 ⟨rfl, rfl⟩
    rw [hsz]
    clear hsz
    generalize pw (k + 1 + 1) = q at *
    go_wp2_with fail
    go_region_with (go_at_call 44; refine (IH.out _).mono ?_; rintro e w2 ⟨rfl, hb⟩; have hcc := kept_cells hb)
    all_goals
      go_wp2_with fail
      go_ret
      refine ⟨by rw [← Hf.out]; rfl, ?_⟩
      first
        | exact (Below.trans (Below.drew (Below.refl _ _)) hb).alloc (by have := hb.size; simpa using this) _
        | exact ((Below.refl _ _).drew.alloc (Nat.le_refl _) _).trans (hb.mono (by simp))
end Go.Proofs.YtmfoionlapcgkaaDoor

/- Contracts of the reference: Reverse, PutLittle, Get, GetLittle. -/
namespace Go.Proofs.YtmfoionlapcgkaaDoor
open Go.ChangeShapes Go.WideShapes Go.ChangeAt Go.RowKit
set_option linter.unusedVariables false

/-- Bytes as cells. -/
def cellsOf (l : List UInt8) : List Value := l.map fun b => .int .u8 (b.toNat : Int)

theorem bs_of_own {w : World} {base : Nat} {A : Option Addr} {cap : Nat} {l : List UInt8} (h : w.ownsRow base 5 1 (.slice A l.length cap) l.length (cellsOf l)) : BS w base (.slice A l.length cap) l := by
  refine ⟨A, cap, rfl, ?_, fun hpos => ?_⟩
  · rcases h.2 with ⟨hv, hn⟩ | ⟨g, c, cur, hv, _, _, hn, _⟩
    · omega
    · cases hv; exact hn
  · rcases h.2 with ⟨hv, hn⟩ | ⟨g, c, cur, hv, hg, hh, hn, _⟩
    · omega
    · cases hv
      have hlt : g < w.heap.size := (h.lt g rfl).2
      refine ⟨g, 0, rfl, hg, hlt, fun j hj => ?_⟩
      rw [Nat.zero_add]
      refine ⟨?_, h.frozenAt j⟩
      rw [h.cellAt j (by omega)]
      simp [cellsOf, hj]

theorem cellsOf_snoc (l : List UInt8) (b : UInt8) : cellsOf l ++ [.int .u8 (b.toNat : Int)] = cellsOf (l ++ [b]) := by simp [cellsOf]
theorem cellsOf_length (l : List UInt8) : (cellsOf l).length = l.length := by simp [cellsOf]

theorem back_take (l : List UInt8) (q : Nat) (h : q < l.length) : (l.drop (q + 1)).reverse ++ [l[q]] = (l.drop q).reverse := by
  rw [List.drop_eq_getElem_cons h, List.reverse_cons]

theorem rget_range (s : ByteArray) (at_ size : Int) (w : World) (h : size < 1 ∨ 7 < size ∨ at_ < 0) :
    Calls Tryd.prog 62 #[.string s, .int .i64 at_, .int .i64 size] w fun e w' => e = .returned (.tuple #[.int .i64 0, .int .i64 4]) ∧ w = w' := by
  by_cases h1 : size < 1
  · go_enter Tryd.func62, Tryd.ntmps62
    go_wp2_with fail
    go_ret2
    exact ⟨rfl, rfl⟩
  have d1 : decide (size < 1) = false := by simp; omega
  by_cases h2 : 7 < size
  · go_enter Tryd.func62, Tryd.ntmps62
    go_wp2_with fail
    go_ret2
    exact ⟨rfl, rfl⟩
  have d2 : decide (7 < size) = false := by simp; omega
  have h3 : at_ < 0 := by omega
  go_enter Tryd.func62, Tryd.ntmps62
  go_wp2_with fail
  go_ret2
  exact ⟨rfl, rfl⟩

theorem rget_short (s : ByteArray) (at_ size : Int) (w : World) (hs : s.size ≤ 9223372036854775807) (h1 : 1 ≤ size) (h2 : size ≤ 7) (h3 : 0 ≤ at_) (h5 : at_ ≤ 9223372036854775807) (h : (s.size : Int) - at_ < size) :
    Calls Tryd.prog 62 #[.string s, .int .i64 at_, .int .i64 size] w fun e w' => e = .returned (.tuple #[.int .i64 0, .int .i64 1]) ∧ w = w' := by
  have d1 : decide (size < 1) = false := by simp; omega
  have d2 : decide (7 < size) = false := by simp; omega
  have d3 : decide (at_ < 0) = false := by simp; omega
  by_cases h4 : (s.size : Int) < at_
  · go_enter Tryd.func62, Tryd.ntmps62
    go_wp2_with fail
    go_ret2
    exact ⟨rfl, rfl⟩
  have d4 : decide ((s.size : Int) < at_) = false := by simp; omega
  go_enter Tryd.func62, Tryd.ntmps62
  go_wp2_with fail
  go_ret2
  exact ⟨rfl, rfl⟩

theorem ext_size (s : ByteArray) (a k : Nat) : (s.extract a (a + k)).size ≤ k := by
  rw [ByteArray.size_extract]; omega

theorem rget_ok (s : ByteArray) (at_ size : Int) (w : World) (hs : s.size ≤ 9223372036854775807) (h1 : 1 ≤ size) (h2 : size ≤ 7) (h3 : 0 ≤ at_) (h : at_ + size ≤ s.size) :
    Calls Tryd.prog 62 #[.string s, .int .i64 at_, .int .i64 size] w fun e w' => e = .returned (.tuple #[.int .i64 (num (sub s at_.toNat size.toNat) : Nat), .int .i64 0]) ∧ w = w' := by
  obtain ⟨k, rfl⟩ := Int.eq_ofNat_of_zero_le (show 0 ≤ size by omega)
  obtain ⟨a, rfl⟩ := Int.eq_ofNat_of_zero_le h3
  rw [Int.toNat_natCast, Int.toNat_natCast] at *
  have d1 : decide ((k : Int) < 1) = false := by simp; omega
  have d2 : decide ((7 : Int) < k) = false := by simp; omega
  have d3 : decide ((a : Int) < 0) = false := by simp
  have d4 : decide ((s.size : Int) < a) = false := by simp; omega
  have d4' : decide (s.size < a) = false := by simp; omega
  go_enter Tryd.func62, Tryd.ntmps62
  go_wp2_with fail
  refine (value_any _ _ (Nat.le_trans (ext_size s a k) (by omega))).mono ?_
  rintro e w1 ⟨rfl, rfl⟩
  go_wp2_with fail
  go_ret2
  exact ⟨rfl, rfl⟩

end Go.Proofs.YtmfoionlapcgkaaDoor
