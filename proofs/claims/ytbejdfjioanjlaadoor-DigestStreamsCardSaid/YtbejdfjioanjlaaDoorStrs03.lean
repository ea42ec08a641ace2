/- The lists of strings that the laws of layer 3 take: what they hold, their texts joined, the law's own test of their sizes. -/
import Derived.Test.YtbejdfjioanjlaaDoorAwk03
import Derived.Deep.Strs
namespace Go.Proofs.YtbejdfjioanjlaaDoor
open Go.ChangeShapes Go.WideShapes Go.ChangeAt Go.RowKit
set_option linter.unusedVariables false

/-- The slice (A, n) holds the strings ss. -/
def InStrs (W : World) (A : Option Addr) (n : Nat) (ss : Nat → ByteArray) : Prop :=
  0 < n → ∃ b o, A = some ⟨b, o, none⟩ ∧ b < W.heap.size ∧ ∀ i, i < n → W.cell? ⟨b, o + i, none⟩ = some (.string (ss i)) ∧ (ss i).size ≤ maxLen
/-- The bytes of the first k strings together; how many they are. -/
def catL (ss : Nat → ByteArray) (k : Nat) : List UInt8 := (List.range k).flatMap fun i => (ss i).data.toList
def tot (ss : Nat → ByteArray) : Nat → Nat
  | 0 => 0
  | k + 1 => tot ss k + (ss k).size
theorem catL_succ (ss : Nat → ByteArray) (k : Nat) : catL ss (k + 1) = catL ss k ++ (ss k).data.toList := by simp [catL, List.range_succ]
theorem catL_length (ss : Nat → ByteArray) : ∀ k, (catL ss k).length = tot ss k
  | 0 => rfl
  | k + 1 => by rw [catL_succ, List.length_append, catL_length ss k]; simp [tot]
theorem tot_mono (ss : Nat → ByteArray) {a b : Nat} (h : a ≤ b) : tot ss a ≤ tot ss b := by
  induction b with
  | zero => rw [show a = 0 by omega]; exact Nat.le_refl _
  | succ b ih =>
    by_cases e : a = b + 1
    · rw [e]; exact Nat.le_refl _
    · have := ih (by omega)
      simp only [tot]; omega
theorem cat_next (ss : Nat → ByteArray) (k : Nat) {b : ByteArray} (h : b = str (catL ss k)) : b ++ ss k = str (catL ss (k + 1)) := by
  rw [h, catL_succ, ← str_append, str_of]

/-- What 'long' answers: if no, there are at most 40 strings of at most 600 bytes together. -/
def LongRes (ss : Nat → ByteArray) (n : Nat) (w : World) (e : Ending) (w' : World) : Prop := ∃ b : Bool, e = .returned (.bool b) ∧ w = w' ∧ (b = false → n ≤ 40 ∧ tot ss n ≤ 600)
theorem long_any (A : Option Addr) (n cap : Nat) (ss : Nat → ByteArray) (w : World) (h : InStrs w A n ss) (hn : n ≤ maxLen) :
    Calls Tryd.prog 17 #[.slice A n cap] w (LongRes ss n w) := by
  unfold maxLen at hn
  have H := Lib.hid h
  clear h
  go_enter Tryd.func17, Tryd.ntmps17
  go_wp2_with fail
  go_loop [3, 4] (fun s i => ∃ k t : Nat, k ≤ n ∧ k ≤ 41 ∧ i = .int .i64 k ∧ s = .int .i64 t ∧ t ≤ 600 * k ∧ Hid (t = tot ss k)) (fun _ i => n - (intOf i).toNat)
  case atStart => exact ⟨0, 0, by omega, by omega, rfl, rfl, by omega, rfl⟩
  case round =>
    obtain ⟨k, t, hk, hk2, rfl, rfl, ht, HT⟩ := hrel
    by_cases hlt : k < n
    · by_cases hlt2 : k < 41
      · obtain ⟨b, o, rfl, hb, hc⟩ := H.out (by omega)
        obtain ⟨hcell, hsz⟩ := hc k hlt
        unfold maxLen at hsz
        have HN : Hid (t + (ss k).size = tot ss (k + 1)) := by have := HT.out; show _ = _; simp only [tot]; omega
        generalize ss k = x at *
        obtain ⟨z, hz⟩ : ∃ z, z = x.size := ⟨_, rfl⟩
        by_cases hbig : 600 < x.size
        · clear hc
          go_wp2_with fail
          go_ret
          exact ⟨true, rfl, rfl, by simp⟩
        · have hd : decide (600 < (x.size : Int)) = false := by simp; omega
          obtain ⟨t2, ht2⟩ : ∃ t2, t + x.size = t2 := ⟨_, rfl⟩
          have hti : (t : Int) + (x.size : Int) = (t2 : Int) := by omega
          have ht3 : t2 ≤ 600 * (k + 1) := by omega
          rw [ht2] at HN
          clear hc hz ht2
          go_wp2_with fail
          go_round
          case rel => exact ⟨k + 1, t2, by omega, by omega, by go_num, rfl, ht3, HN⟩
          case measure => simp [intOf]; omega
      · obtain rfl : k = 41 := by omega
        have hn40 : (40 : Int) < (n : Int) := by omega
        have hd : decide ((41 : Int) < 41) = false := by decide
        go_wp2_with fail
        go_ret
        exact ⟨true, rfl, rfl, by simp⟩
    · obtain rfl : k = n := by omega
      by_cases h40 : 40 < k
      · go_wp2_with fail
        go_ret
        exact ⟨true, rfl, rfl, by simp⟩
      · have hd40 : decide (40 < (k : Int)) = false := by simp; omega
        by_cases h600 : 600 < t
        · have h600i : decide (600 < (t : Int)) = true := by simp; omega
          go_wp2_with fail
          go_ret
          exact ⟨true, rfl, rfl, by simp⟩
        · have hd600 : decide (600 < (t : Int)) = false := by simp; omega
          go_wp2_with fail
          go_ret
          exact ⟨false, rfl, rfl, fun _ => ⟨by omega, by have := HT.out; omega⟩⟩

theorem cStr : Tryd.prog.cellsOf 9 = 1 := by kernel_rfl
theorem in_strs {H : Type} {enc : TypeId × Value → H} {W : World} {base : Nat} {sp : Nat → Bool} {held : Bool} {A : Option Addr} {n cap : Nat} {d : DataW H} {p : List MemPlace}
    (h : DataW.Trod enc Tryd.prog W base sp held 32 (.slice A n cap) d p) : ∃ ss, InStrs W A n ss ∧ n ≤ maxLen := by
  obtain ⟨fuel, hf⟩ := h
  rcases Go.Deep.open_strs Tryd.underlying32 Tryd.underlying9 cStr hf with ⟨hcs, _⟩ | ⟨a, l, c, m, ss, hcs, _, hl, hm, hmm, _, hcell⟩
  · simp [Value.cells] at hcs
    obtain ⟨rfl, rfl, rfl⟩ := hcs
    exact ⟨fun _ => ByteArray.empty, fun h => absurd h (by omega), by simp [maxLen]⟩
  · simp [Value.cells] at hcs
    obtain ⟨rfl, rfl, rfl⟩ := hcs
    have hlm : n ≤ m := by rw [hmm]; split <;> omega
    refine ⟨ss, fun hp => ?_, by omega⟩
    obtain ⟨b, off, spot⟩ := a
    have h0 := (hcell 0 (by omega)).1
    have hspot : spot = none := by simpa [Addr.add] using World.cell?_spot h0
    subst hspot
    have hlt := World.block_lt_of_cell? W _ h0
    refine ⟨b, off, rfl, by simpa [Addr.add] using hlt, fun i hi => ?_⟩
    obtain ⟨h1, h2⟩ := hcell i (by omega)
    rw [Addr.add_lit] at h1
    exact ⟨h1, h2⟩
end Go.Proofs.YtbejdfjioanjlaaDoor
