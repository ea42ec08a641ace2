/- Contracts of the functions, part 2: Mem, Mem2. -/
import Derived.Deep.OwnRows
import Derived.Lib.SlBytesRow
import Derived.Laws.IdiomStrings
import Derived.RegionTactic
import Derived.WalkSmall
import Derived.Deep.DeepFit
import Derived.Laws.BitsAllLaws
import Derived.Laws.BitsLemmas
import Derived.WalkSpells
import Derived.Test.YtnpklepafpdadaaDoorPA1
/- Contracts of the functions that make or read byte slices: little, Reverse, number, part. -/
namespace Go.Proofs.YtnpklepafpdadaaDoor
open Go.ChangeShapes Go.WideShapes Go.ChangeAt Go.RowKit

/-- A slice of bytes that reads as l, lies from block base on, and may be written. -/
def BS (w : World) (base : Nat) (v : Value) (l : List UInt8) : Prop :=
  ∃ A cap, v = .slice A l.length cap ∧ l.length ≤ cap ∧
    (0 < l.length → ∃ g o, A = some ⟨g, o, none⟩ ∧ base ≤ g ∧ g < w.heap.size ∧
      ∀ j (hj : j < l.length), w.cell? ⟨g, o + j, none⟩ = some (.int .u8 (l[j].toNat : Int)) ∧ w.frozen? ⟨g, o + j, none⟩ = false)

theorem cell_set_same {w : World} {a : Addr} {u : Value} (v : Value) (h : w.cell? a = some u) : (w.setCell a v).cell? a = some v := World.cell?_setCell_same' w a v (by simp [h])
theorem cell_set_far (w : World) (g x y : Nat) (v : Value) (h : x ≠ y) : (w.setCell ⟨g, x, none⟩ v).cell? ⟨g, y, none⟩ = w.cell? ⟨g, y, none⟩ :=
  World.cell?_setCell_other w ⟨g, x, none⟩ ⟨g, y, none⟩ v (by intro e; injection e with _ e; exact h (by omega))
theorem frozen_set (w : World) (a b : Addr) (v : Value) : (w.setCell a v).frozen? b = w.frozen? b := by simp
theorem size_set (w : World) (a : Addr) (v : Value) : (w.setCell a v).heap.size = w.heap.size := by simp [World.setCell]

theorem info5 : (Tryd.prog.info? 5).map (fun i => (i.zero, i.size, i.bytes)) = some (some (.int .u8 0), 1, 1) := by kernel_rfl

theorem little_yes (n size : Int) (w : World) (h1 : 1 ≤ size) (h2 : size ≤ 7) (h3 : 0 ≤ n) (h5 : n ≤ 9223372036854775807) (h4 : n.toNat < pw size.toNat) :
    Calls Tryd.prog 43 #[.int .i64 n, .int .i64 size] w fun e w' => ∃ v, e = .returned v ∧ BS w' w.heap.size v (leL size.toNat n.toNat) ∧ Below w.heap.size w w' := by
  obtain ⟨k, rfl⟩ := Int.eq_ofNat_of_zero_le (show 0 ≤ size by omega)
  obtain ⟨m, rfl⟩ := Int.eq_ofNat_of_zero_le h3
  rw [Int.toNat_natCast, Int.toNat_natCast] at *
  have hp7 := pw_le7 (k := k) (by omega)
  have hd : decide ((m : Int) < 0) = false := by simp
  have hq : ((m : Int) / 2 ^ (8 * k) != 0) = false := by
    rw [shr_pw', Nat.div_eq_of_lt h4]; rfl
  have hmk := fun W => run_make_row' (P := Tryd.prog) 39 5 (.int .u8 0) 1 Tryd.underlying39 info5 rfl .i64 .i64 k (by omega) (by omega) W
  go_enter Tryd.func43, Tryd.ntmps43
  go_wp2_with (go_at_call 35; refine (valid_yes _ _ (by omega) (by omega)).mono ?_; rintro e w' ⟨rfl, rfl⟩)
  go_loopw [24] (fun i wr => ∃ j : Nat, j ≤ k ∧ i = .int .i64 j ∧ wr.rowIs w.heap.size 5 k (fun x => .int .u8 (if x < j then ((m / pw x % 256 : Nat) : Int) else 0)) ∧ Below w.heap.size w wr) (fun i _ => k - (intOf i).toNat)
  case atStart => exact ⟨0, by omega, rfl, (World.rowIs_made w (.int .u8 0) k 5).congr (fun i _ => by simp), (Below.refl _ _).alloc (Nat.le_refl _) _⟩
  case round =>
    obtain ⟨j, hj, rfl, hrow, hb⟩ := hrel
    by_cases hlt : j < k
    · have hc := hrow.cell hlt
      have hf := hrow.frozen j
      go_wp2
      go_roundw
      case rel =>
        refine ⟨j + 1, by omega, by go_num, (hrow.set j _).congr (fun x hx => ?_), hb.setCell (Nat.le_refl _) _⟩
        by_cases hxj : x = j
        · subst hxj
          rw [if_pos rfl, if_pos (by omega), shr_pw']
          simp
        · rw [if_neg hxj]
          by_cases hx2 : x < j
          · rw [if_pos hx2, if_pos (by omega)]
          · rw [if_neg hx2, if_neg (by omega)]
      case measure => simp [intOf]; omega
    · obtain rfl : j = k := by omega
      go_wp2
      go_ret
      refine ⟨_, rfl, ⟨some ⟨w.heap.size, 0, none⟩, j, by simp [leL_length], by simp [leL_length], fun _ => ⟨w.heap.size, 0, rfl, Nat.le_refl _, hrow.lt, fun x hx => ?_⟩⟩, hb⟩
      have hx' : x < j := by rwa [leL_length] at hx
      rw [Nat.zero_add]
      refine ⟨?_, hrow.frozen x⟩
      rw [hrow.cell hx', if_pos hx', leL_get _ _ _ hx, UInt8.toNat_ofNat']
      simp [pw]

theorem little_no (n size : Int) (w : World) (h5 : n ≤ 9223372036854775807) (h6 : -9223372036854775808 ≤ n) (h : size < 1 ∨ 7 < size ∨ n < 0 ∨ (1 ≤ size ∧ pw size.toNat ≤ n.toNat)) :
    Calls Tryd.prog 43 #[.int .i64 n, .int .i64 size] w fun e w' => e = .returned (.slice none 0 0) ∧ w = w' := by
  by_cases hv : size < 1 ∨ 7 < size
  · go_enter Tryd.func43, Tryd.ntmps43
    go_wp2_with (go_at_call 35; refine (valid_no _ _ hv).mono ?_; rintro e w' ⟨rfl, rfl⟩)
    go_ret
    exact ⟨rfl, rfl⟩
  · obtain ⟨k, rfl⟩ := Int.eq_ofNat_of_zero_le (show 0 ≤ size by omega)
    by_cases hn : n < 0
    · go_enter Tryd.func43, Tryd.ntmps43
      go_wp2_with (go_at_call 35; refine (valid_yes _ _ (by omega) (by omega)).mono ?_; rintro e w' ⟨rfl, rfl⟩)
      go_ret
      exact ⟨rfl, rfl⟩
    · obtain ⟨m, rfl⟩ := Int.eq_ofNat_of_zero_le (show 0 ≤ n by omega)
      have hlt : pw k ≤ m := by
        rcases h with h | h | h | ⟨_, h⟩
        · omega
        · omega
        · omega
        · simpa using h
      have hd : decide ((m : Int) < 0) = false := by simp
      have hq : ((m : Int) / 2 ^ (8 * k) != 0) = true := by
        rw [shr_pw']
        have : 0 < m / pw k := Nat.div_pos hlt (pw_pos k)
        simp only [bne_iff_ne, ne_eq]
        omega
      go_enter Tryd.func43, Tryd.ntmps43
      go_wp2_with (go_at_call 35; refine (valid_yes _ _ (by omega) (by omega)).mono ?_; rintro e w' ⟨rfl, rfl⟩)
      go_ret
      exact ⟨rfl, rfl⟩

theorem reverse_any (A : Option Addr) (cap base : Nat) (l : List UInt8) (w : World) (h : BS w base (.slice A l.length cap) l) (hl : l.length ≤ 9223372036854775807) :
    Calls Tryd.prog 44 #[.slice A l.length cap] w fun e w' => e = .returned (.tuple #[]) ∧ BS w' base (.slice A l.length cap) l.reverse ∧ Below base w w' := by
  obtain ⟨A', cap', hv, hc, hb⟩ := h
  cases hv
  by_cases h0 : l.length = 0
  · have hnil : l = [] := List.eq_nil_of_length_eq_zero h0
    subst hnil
    go_enter Tryd.func44, Tryd.ntmps44
    go_wp2
    go_loop [2, 3] (fun i j => i = .int .i64 0 ∧ j = .int .i64 (-1)) (fun _ _ => 0)
    case atStart => exact ⟨rfl, rfl⟩
    case round =>
      obtain ⟨rfl, rfl⟩ := hrel
      go_wp2
      go_end0
      exact ⟨rfl, ⟨A, cap, rfl, by simp, by simp⟩, Below.refl _ _⟩
  · obtain ⟨g, o, rfl, hg, hlt, hcell⟩ := hb (by omega)
    go_enter Tryd.func44, Tryd.ntmps44
    go_wp2
    go_loopw [2, 3] (fun i j wr => ∃ k q : Nat, k + q + 1 = l.length ∧ k ≤ q + 1 ∧ i = .int .i64 k ∧ j = .int .i64 q ∧ g < wr.heap.size ∧ (∀ x, x < l.length → wr.cell? ⟨g, o + x, none⟩ = some (.int .u8 ((turned l k x).toNat : Int)) ∧ wr.frozen? ⟨g, o + x, none⟩ = false) ∧ Below base w wr) (fun i j _ => (intOf j).toNat - (intOf i).toNat)
    case atStart =>
      refine ⟨0, l.length - 1, by omega, by omega, rfl, by go_num, hlt, fun x hx => ?_, Below.refl _ _⟩
      have := hcell x hx
      rw [turned_zero l x hx]
      exact this
    case round =>
      obtain ⟨k, q, hkq, hle, rfl, rfl, hgl, hcs, hbel⟩ := hrel
      by_cases hr : k < q
      · have hck := (hcs k (by omega)).1
        have hfk := (hcs k (by omega)).2
        have hcq := (hcs q (by omega)).1
        have hfq := (hcs q (by omega)).2
        go_wp2
        go_region
        go_wp2
        go_roundw
        case rel =>
          refine ⟨k + 1, q - 1, by omega, by omega, by go_num, by go_num, ?_, fun x hx => ?_, ((hbel.setCell hg _).setCell hg _).drew⟩
          · show g < (World.setCell _ _ _).heap.size
            rw [size_set, size_set]; exact hgl
          · rw [World.cell?_drew, World.frozen?_drew, frozen_set, frozen_set]
            refine ⟨?_, (hcs x hx).2⟩
            by_cases hxq : x = q
            · subst hxq
              rw [cell_set_same _ (by rw [cell_set_far _ _ _ _ _ (by omega)]; exact hcq), turned_q hkq hr]
            · rw [cell_set_far _ _ _ _ _ (by omega)]
              by_cases hxk : x = k
              · subst hxk
                rw [cell_set_same _ hck, turned_k hkq hr]
              · rw [cell_set_far _ _ _ _ _ (by omega), (hcs x hx).1, turned_far hkq hxk hxq]
        case measure => simp [intOf]; omega
      · go_wp2
        go_end0
        refine ⟨rfl, ⟨_, cap, by rw [List.length_reverse], by rw [List.length_reverse]; exact hc, fun _ => ⟨g, o, rfl, hg, hgl, fun x hx => ?_⟩⟩, hbel⟩
        have hx' : x < l.length := by rwa [List.length_reverse] at hx
        refine ⟨?_, (hcs x hx').2⟩
        rw [(hcs x hx').1, turned_done hkq hr hx]
end Go.Proofs.YtnpklepafpdadaaDoor

/- Contracts: number, part, Put, PutLittle, Get, GetLittle of the program. -/
namespace Go.Proofs.YtnpklepafpdadaaDoor
open Go.ChangeShapes Go.WideShapes Go.ChangeAt Go.RowKit

/-- 'a<<8 | b': the wrap is none where a is small. -/
theorem or_byte (a b : Nat) (ha : a < 281474976710656) (hb : b < 256) : bits .or .i64 ((a : Int) * 256) (b : Int) = (a : Int) * 256 + b := by
  have nn : ∀ x : Nat, x < 2 ^ 63 → (BitVec.ofInt 64 (x : Int)).toNat = x := fun x hx => by
    rw [BitVec.ofInt_natCast, BitVec.toNat_ofNat]
    exact Nat.mod_eq_of_lt (by omega)
  have e : a * 256 ||| b = a * 256 + b := by
    have h := Nat.shiftLeft_add_eq_or_of_lt (i := 8) (b := b) (by omega) a
    rw [Nat.shiftLeft_eq, show 2 ^ 8 = 256 from rfl] at h
    omega
  rw [show ((a : Int) * 256) = ((a * 256 : Nat) : Int) by omega]
  show IntKind.i64.wrap ((BitVec.ofInt 64 ((a * 256 : Nat) : Int) ||| BitVec.ofInt 64 (b : Int)).toNat : Int) = _
  rw [BitVec.toNat_or, nn _ (by omega), nn _ (by omega), e, IntKind.wrap_i64]
  omega

theorem number_any (A : Option Addr) (cap base : Nat) (l : List UInt8) (w : World) (h : BS w base (.slice A l.length cap) l) (hl : l.length ≤ 7) :
    Calls Tryd.prog 33 #[.slice A l.length cap] w fun e w' => e = .returned (.int .i64 (num l : Nat)) ∧ w = w' := by
  obtain ⟨A', cap', hv, hc, hb⟩ := h
  cases hv
  go_enter Tryd.func33, Tryd.ntmps33
  go_wp2
  go_loop [3, 8] (fun p i => ∃ k : Nat, k ≤ l.length ∧ i = .int .i64 k ∧ p = .int .i64 (num (l.take k) : Nat)) (fun _ i => l.length - (intOf i).toNat)
  case atStart => exact ⟨0, by omega, rfl, rfl⟩
  case round =>
    obtain ⟨k, hk, rfl, rfl⟩ := hrel
    by_cases hlt : k < l.length
    · obtain ⟨g, o, rfl, _, _, hcell⟩ := hb (by omega)
      have hck := (hcell k hlt).1
      have hp : num (l.take k) < 281474976710656 := num_lt6 (by rw [List.length_take]; omega)
      have H : Hid (num (l.take (k + 1)) = num (l.take k) * 256 + l[k].toNat) := by
        show num (l.take (k + 1)) = _
        rw [List.take_succ_eq_append_getElem hlt, num_snoc]
      have hbt : l[k].toNat < 256 := u8_lt _
      go_wp2
      go_round
      case rel =>
        refine ⟨k + 1, by omega, by go_num, ?_⟩
        rw [H.out, or_byte _ _ hp hbt]
        go_num
      case measure => simp [intOf]; omega
    · go_wp2
      go_ret
      exact ⟨ret_int (by rw [List.take_of_length_le (by omega)]), rfl⟩

theorem bs_nil (w : World) (base : Nat) : BS w base (.slice none 0 0) [] := ⟨none, 0, rfl, Nat.le_refl _, by simp⟩

theorem str_eq {l : List UInt8} {s : ByteArray} (h : s.data.toList = l) : s = str l := by rw [← h, str_of]

/-- 'string(b)'. -/
theorem bs_string {w : World} {base : Nat} {A : Option Addr} {cap : Nat} {l : List UInt8} (h : BS w base (.slice A l.length cap) l) :
    (convert 39 9 (.slice A l.length cap)).run Tryd.prog w = .ok (.string (str l)) w := by
  obtain ⟨A', cap', hv, hc, hb⟩ := h
  cases hv
  by_cases h0 : l.length = 0
  · have hnil : l = [] := List.eq_nil_of_length_eq_zero h0
    subst hnil
    rw [run_convert_bytes_string w 39 9 5 A _ cap Tryd.underlying39 Tryd.underlying5 Tryd.underlying9]
    cases A with
    | none => rfl
    | some a => simp [Conv.bytesToString, loadCells, loadCellsFrom, str]; rfl
  · obtain ⟨g, o, rfl, _, _, hcell⟩ := hb (by omega)
    refine run_convert_bytes_back w 39 9 5 ⟨g, o, none⟩ cap l Tryd.underlying39 Tryd.underlying5 Tryd.underlying9 (fun j hj => ?_)
    have := (hcell j hj).1
    unfold Addr.add
    split
    · subst_vars; simpa using this
    · exact this

theorem put_yes (n size : Int) (w : World) (h1 : 1 ≤ size) (h2 : size ≤ 7) (h3 : 0 ≤ n) (h5 : n ≤ 9223372036854775807) (h4 : n.toNat < pw size.toNat) :
    Calls Tryd.prog 29 #[.int .i64 n, .int .i64 size] w fun e w' => e = .returned (.string (str (leL size.toNat n.toNat).reverse)) ∧ Below w.heap.size w w' := by
  go_enter Tryd.func29, Tryd.ntmps29
  go_wp2_with fail
  refine (little_yes n size _ h1 h2 h3 h5 h4).mono ?_
  rintro e w1 ⟨v, rfl, hbs, hb1⟩
  obtain ⟨A, cap, rfl, hrest⟩ := id hbs
  clear hrest
  go_wp2_with fail
  refine (reverse_any A cap _ _ _ hbs (by rw [leL_length]; omega)).mono ?_
  rintro e w2 ⟨rfl, hbs2, hb2⟩
  have hcv := bs_string (by rw [List.length_reverse]; exact hbs2)
  rw [List.length_reverse] at hcv
  go_wp2_with fail
  go_ret
  exact ⟨rfl, hb1.trans hb2⟩

theorem put_no (n size : Int) (w : World) (h5 : n ≤ 9223372036854775807) (h6 : -9223372036854775808 ≤ n) (h : size < 1 ∨ 7 < size ∨ n < 0 ∨ (1 ≤ size ∧ pw size.toNat ≤ n.toNat)) :
    Calls Tryd.prog 29 #[.int .i64 n, .int .i64 size] w fun e w' => e = .returned (.string (str [])) ∧ Below w.heap.size w w' := by
  go_enter Tryd.func29, Tryd.ntmps29
  go_wp2_with fail
  refine (little_no n size _ h5 h6 h).mono ?_
  rintro e w1 ⟨rfl, rfl⟩
  go_wp2_with fail
  refine (reverse_any none 0 w.heap.size [] _ (bs_nil _ _) (by simp)).mono ?_
  rintro e w2 ⟨rfl, hbs2, hb2⟩
  have hcv := bs_string (l := []) (A := none) (cap := 0) (bs_nil w2 0)
  simp only [List.length_nil] at hcv
  go_wp2_with fail
  go_ret
  exact ⟨rfl, hb2⟩

/-- k bytes from a place on. -/
def sub (s : ByteArray) (a k : Nat) : List UInt8 := (s.data.toList.drop a).take k
theorem sub_length {s : ByteArray} {a k : Nat} (h : a + k ≤ s.size) : (sub s a k).length = k := by
  unfold sub
  rw [List.length_take, List.length_drop]
  have : s.data.toList.length = s.size := by simp
  omega

/-- '[]byte(s)'. -/
theorem bs_new (w : World) (s : ByteArray) (cap : Nat) (hcap : s.size ≤ cap) :
    BS (w.alloc (.cells (bytesRow s cap) 5 ((bytesRow s cap).size, (bytesRow s cap).size + 1))) w.heap.size (.slice (some ⟨w.heap.size, 0, none⟩) s.size cap) s.data.toList := by
  have hl : s.data.toList.length = s.size := by simp
  refine ⟨some ⟨w.heap.size, 0, none⟩, cap, by rw [hl], by rw [hl]; exact hcap, fun _ => ⟨w.heap.size, 0, rfl, Nat.le_refl _, by simp, fun j hj => ?_⟩⟩
  have hj' : j < s.data.size := by rw [hl] at hj; exact hj
  rw [Nat.zero_add]
  refine ⟨?_, ?_⟩
  · rw [World.cell?_alloc_mark, bytesRow_at s cap j hj']
    simp
  · rw [World.frozen?_alloc_mark]
    have : (bytesRow s cap).size = s.data.size + (cap - s.size) := by simp [bytesRow]
    simp
    intro
    omega

end Go.Proofs.YtnpklepafpdadaaDoor
