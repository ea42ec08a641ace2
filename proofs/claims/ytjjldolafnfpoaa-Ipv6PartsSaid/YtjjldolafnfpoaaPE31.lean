/- Contracts of the functions, part 31: Pre12, Ip6PAny. -/
import Derived.Test.YtjjldolafnfpoaaPE10
import Derived.Test.YtjjldolafnfpoaaPE11
import Derived.Test.YtjjldolafnfpoaaPE28
import Derived.Test.YtjjldolafnfpoaaPE29
import Derived.Test.YtjjldolafnfpoaaPE30
/- Layer 12: what the laws need beside the bundle. -/
namespace Go.Proofs.Ytjjldolafnfpoaa
open Go.ChangeShapes Go.WideShapes Go.ChangeAt Go.RowKit
set_option linter.unusedVariables false

theorem wf_i64_12 {n : Int} (h : (Lit.int .i64 n).wf = true) : -9223372036854775808 ≤ n ∧ n ≤ 9223372036854775807 := by
  have h' : IntKind.i64.min ≤ n ∧ n ≤ IntKind.i64.max := by simpa [Lit.wf] using h
  exact h'
theorem int_wf12 (n : Nat) (h : n ≤ 9223372036854775807) : (Lit.int .i64 (n : Int)).wf = true := by
  have : IntKind.i64.min ≤ (n : Int) ∧ (n : Int) ≤ IntKind.i64.max := ⟨Int.le_trans (by decide) (Int.natCast_nonneg n), by show (n : Int) ≤ 9223372036854775807; omega⟩
  simpa [Lit.wf] using this
theorem int_wf12' (x : Int) (h0 : 0 ≤ x) (h : x ≤ 9223372036854775807) : (Lit.int .i64 x).wf = true := by
  obtain ⟨n, rfl⟩ := Int.eq_ofNat_of_zero_le h0
  exact int_wf12 n (by omega)
/-- What can be encoded may be given to the other functions. -/
theorem encX_in {p : Ip6R} {s : List UInt8} (h : encX p = (s, 0)) (hft : fit6 p) (hp : p.pay.length ≤ maxLen) : ip6Wf p := by
  obtain ⟨hb, h8, hok, _, _, _⟩ := encX_ok h
  unfold badX at hb
  simp only [not_or] at hb
  obtain ⟨h1, h2, h5, h4, -, -, -, -, h9, h10⟩ := hb
  have i1 : 0 ≤ p.id ∧ p.id ≤ 4294967296 ∧ 0 ≤ p.off ∧ p.off ≤ 65528 := by
    cases hfr : p.frg with
    | false =>
      have h9' : ¬ (p.id ≠ 0 ∨ p.off ≠ 0 ∨ p.more = true) := fun e => h9 ⟨hfr, e⟩
      omega
    | true =>
      have e1 : ¬ (p.id < 0 ∨ 4294967296 ≤ p.id ∨ p.off < 0 ∨ 65528 < p.off ∨ p.off % 8 ≠ 0) := fun e => h10 ⟨hfr, e⟩
      omega
  refine ⟨⟨int_wf12' _ (by omega) (by omega), int_wf12' _ (by omega) (by omega), int_wf12' _ (by omega) (by omega), int_wf12' _ (by omega) (by omega), int_wf12' _ (by omega) (by omega), int_wf12' _ (by omega) (by omega)⟩, ⟨hft.1, hft.2.1⟩, ⟨hft.2.2.1, hft.2.2.2⟩, hp, by unfold maxLen; omega, fun y hy => ?_⟩
  obtain ⟨i, hi⟩ := List.mem_iff_getElem?.1 hy
  have := hok i y hi
  unfold badE6 extK at this
  simp only [not_or] at this
  obtain ⟨k1, k2, k3, k4⟩ := this
  exact ⟨int_wf12' _ (by omega) (by omega), by omega⟩
theorem decX_in {S : List UInt8} {p : Ip6R} (h : decX S = (p, 0)) : ip6Wf p := by
  obtain ⟨t, henc, _, hft, _, _, hp⟩ := enc_dec6 h
  exact encX_in henc hft (by unfold maxLen; omega)
end Go.Proofs.Ytjjldolafnfpoaa

/- Contracts of the program of layer 12: isUpTo, isAnyOf, with the library's Contains and Index at numbers. -/
namespace Go.Proofs.Ytjjldolafnfpoaa
open Go.ChangeShapes Go.WideShapes Go.ChangeAt Go.RowKit
set_option linter.unusedVariables false

/-- A header follows. -/
def hdKi (k : Int) : Prop := k = 0 ∨ k = 43 ∨ k = 44 ∨ k = 60
instance (k : Int) : Decidable (hdKi k) := inferInstanceAs (Decidable (_ ∨ _))
theorem hdKi_iff (k : Nat) : hdKi (k : Int) ↔ hdK k := by unfold hdKi hdK extK; omega
theorem pupto12_any (n l : Int) (w : World) : Calls Try.prog 38 #[.int .i64 n, .int .i64 l] w fun e w' => e = .returned (.bool (decide (0 ≤ n ∧ n ≤ l))) ∧ w = w' := by
  by_cases h1 : 0 ≤ n
  · by_cases h2 : n ≤ l
    · have d1 : decide (0 ≤ n) = true := by simp; omega
      have d2 : decide (n ≤ l) = true := by simp; omega
      rw [show decide (0 ≤ n ∧ n ≤ l) = true by simp; omega]
      go_enter Try.func38, Try.ntmps38
      go_wp2_with fail
      go_ret
      exact ⟨rfl, rfl⟩
    · have d1 : decide (0 ≤ n) = true := by simp; omega
      have d2 : decide (n ≤ l) = false := by simp; omega
      rw [show decide (0 ≤ n ∧ n ≤ l) = false by simp; omega]
      go_enter Try.func38, Try.ntmps38
      go_wp2_with fail
      go_ret
      exact ⟨rfl, rfl⟩
  · have d1 : decide (0 ≤ n) = false := by simp; omega
    rw [show decide (0 ≤ n ∧ n ≤ l) = false by simp; omega]
    go_enter Try.func38, Try.ntmps38
    go_wp2_with fail
    go_ret
    exact ⟨rfl, rfl⟩
/-- What Index returns: -1 if there is none. -/
def IdxI (b : Bool) (w : World) (e : Ending) (w' : World) : Prop := ∃ i : Int, e = .returned (.int .i64 i) ∧ Hid (decide (0 ≤ i) = b) ∧ Hid (-1 ≤ i ∧ i ≤ 1000000000) ∧ w = w'
theorem mem_next12 {l : List Int} {k : Nat} {x y : Int} (hget : l[k]? = some x) (h : ¬ y ∈ l.take k) (hn : ¬ y = x) : ¬ y ∈ l.take (k + 1) := by
  obtain ⟨hk, e⟩ := List.getElem?_eq_some_iff.1 hget
  rw [List.take_succ_eq_append_getElem hk, e, List.mem_append, List.mem_singleton]
  rintro (h1 | h1)
  · exact h h1
  · exact hn h1
set_option maxHeartbeats 4000000 in
set_option maxRecDepth 20000 in
theorem pindex12_any (A : Option Addr) (c : Nat) (l : List Int) (y : Int) (w : World) (h : RowL EInt w A l) (hl : l.length ≤ 1000000000) :
    Calls Try.prog 65 #[.slice A l.length c, .int .i64 y] w (IdxI (decide (y ∈ l)) w) := by
  obtain ⟨Q, hR⟩ : ∃ Q, Q = decide (y ∈ l) := ⟨_, rfl⟩
  rw [← hR]
  obtain ⟨n, hn⟩ : ∃ n, n = l.length := ⟨_, rfl⟩
  rw [← hn] at hl ⊢
  have HR := Lib.hid hR
  have HN := Lib.hid hn
  have HS := Lib.hid h
  clear hR hn h
  go_enter Try.func65, Try.ntmps65
  go_wp2_with fail
  go_loop [8] (fun i => ∃ k : Nat, i = .int .i64 (k : Int) ∧ k ≤ n ∧ Hid (¬ y ∈ l.take k)) (fun i => n - (intOf i).toNat)
  case atStart => exact ⟨0, rfl, Nat.zero_le _, Lib.hid (by simp)⟩
  case round =>
    obtain ⟨k, rfl, hk, HK⟩ := hrel
    by_cases hlt : k < n
    · have hki : (k : Int) < (n : Int) := by omega
      have hki0 : (0 : Int) ≤ (k : Int) := by omega
      have dlt : decide ((k : Int) < (n : Int)) = true := by simp; omega
      obtain ⟨x, hget⟩ : ∃ x, l[k]? = some x := ⟨l[k]'(by have := HN.out; omega), List.getElem?_eq_getElem _⟩
      obtain ⟨g, ob, rfl, hg⟩ := HS.out.shapeA (by have := HN.out; omega)
      have c0 := EInt.at_ HS.out hget (Below.refl _ _)
      by_cases h1 : y = x
      · have d1 : (y == x) = true := by simp [h1]
        have HF := Lib.hid (show Q = true by rw [HR.out, h1]; exact decide_eq_true (List.mem_of_getElem? hget))
        clear hget h1
        go_wp2_with fail
        go_ret
        exact ⟨(k : Int), rfl, Lib.hid (by rw [HF.out]; simp), Lib.hid (by omega), rfl⟩
      · have d1 : (y == x) = false := by simp [h1]
        have HK1 := Lib.hid (mem_next12 hget HK.out h1)
        clear hget
        go_wp2_with fail
        go_round
        case rel => exact ⟨k + 1, by go_num, by omega, HK1⟩
        case measure => simp [intOf]; omega
    · obtain rfl : k = n := by omega
      have dlt : decide ((k : Int) < (k : Int)) = false := by simp
      have nlt : ¬ (k : Int) < (k : Int) := by omega
      have HT := Lib.hid (show Q = false by rw [HR.out]; have := HK.out; rw [HN.out, List.take_length] at this; exact decide_eq_false this)
      go_wp2_with fail
      go_ret
      exact ⟨-1, rfl, Lib.hid (by rw [HT.out]; decide), Lib.hid (by omega), rfl⟩
set_option maxHeartbeats 2000000 in
set_option maxRecDepth 20000 in
theorem pcontains12_any (A : Option Addr) (c : Nat) (l : List Int) (y : Int) (w : World) (h : RowL EInt w A l) (hl : l.length ≤ 1000000000) :
    Calls Try.prog 63 #[.slice A l.length c, .int .i64 y] w fun e w' => e = .returned (.bool (decide (y ∈ l))) ∧ w = w' := by
  have H := Lib.hid (pindex12_any A c l y w h hl)
  obtain ⟨n, hn⟩ : ∃ n, n = l.length := ⟨_, rfl⟩
  rw [← hn] at H hl ⊢
  generalize decide (y ∈ l) = R at *
  clear hn h
  go_enter Try.func63, Try.ntmps63
  go_wp2_with fail
  refine H.out.mono ?_
  rintro e w1 ⟨i, rfl, h1, h2, rfl⟩
  have hd := h1.out
  clear h1
  cases R
  · have hlt : ¬ 0 ≤ i := by simpa using hd
    go_wp2_with fail
    go_ret
    exact ⟨rfl, rfl⟩
  · have hlt : 0 ≤ i := by simpa using hd
    go_wp2_with fail
    go_ret
    exact ⟨rfl, rfl⟩
theorem pisany12_any (A : Option Addr) (n c : Nat) (l : List Int) (hn : n = l.length) (y : Int) (w : World) (h : RowL EInt w A l) (hl : l.length ≤ 1000000000) :
    Calls Try.prog 47 #[.int .i64 y, .slice A n c] w fun e w' => e = .returned (.bool (decide (y ∈ l))) ∧ w = w' := by
  subst hn
  have H := Lib.hid (pcontains12_any A c l y w h hl)
  generalize l.length = n at *
  generalize decide (y ∈ l) = R at *
  clear h
  go_enter Try.func47, Try.ntmps47
  go_wp2_with fail
  refine H.out.mono ?_
  rintro e w1 ⟨rfl, rfl⟩
  go_wp2_with fail
  go_ret
  exact ⟨rfl, rfl⟩
theorem pany4_12 (y : Int) (q : Bool) (hq : decide (hdKi y) = q) (w : World) (B : Nat) (h : w.heap[B]? = some (.cells #[.int .i64 0, .int .i64 43, .int .i64 44, .int .i64 60] 3 (0, 0))) :
    Calls Try.prog 47 #[.int .i64 y, .slice (some ⟨B, 0, none⟩) 4 4] w fun e w' => e = .returned (.bool q) ∧ w = w' := by
  have := pisany12_any (some ⟨B, 0, none⟩) 4 4 [0, 43, 44, 60] rfl y w (rowl_block (E := EInt) h rfl) (by decide)
  rwa [show decide (y ∈ [(0 : Int), 43, 44, 60]) = q by rw [← hq]; unfold hdKi; congr 1; simp] at this
theorem pany3_12 (y : Int) (q : Bool) (hq : decide (extK y) = q) (w : World) (B : Nat) (h : w.heap[B]? = some (.cells #[.int .i64 0, .int .i64 43, .int .i64 60] 3 (0, 0))) :
    Calls Try.prog 47 #[.int .i64 y, .slice (some ⟨B, 0, none⟩) 3 3] w fun e w' => e = .returned (.bool q) ∧ w = w' := by
  have := pisany12_any (some ⟨B, 0, none⟩) 3 3 [0, 43, 60] rfl y w (rowl_block (E := EInt) h rfl) (by decide)
  rwa [show decide (y ∈ [(0 : Int), 43, 60]) = q by rw [← hq]; unfold extK; congr 1; simp] at this
end Go.Proofs.Ytjjldolafnfpoaa
