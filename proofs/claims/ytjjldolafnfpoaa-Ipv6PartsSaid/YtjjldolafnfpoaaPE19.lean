/- Contracts of the functions, part 19: Ip6RDec. -/
import Derived.Deep.Cut
import Derived.Laws.Tables
import Derived.StillTailTactics
import Derived.Test.YtjjldolafnfpoaaPE12
import Derived.Test.YtjjldolafnfpoaaPE15
import Derived.Test.YtjjldolafnfpoaaPE16
import Derived.Test.YtjjldolafnfpoaaPE17
import Derived.Test.YtjjldolafnfpoaaPE18
/- Contract of the reference of layer 12: Decode. -/
namespace Go.Proofs.Ytjjldolafnfpoaa
open Go.ChangeShapes Go.WideShapes Go.ChangeAt Go.RowKit
set_option linter.unusedVariables false

theorem from16_any (D : ByteArray) (L : List UInt8) (h : D = str L) (hl : L.length = 16) (w : World) :
    Calls Try.prog 28 #[.string D] w fun e w' => e = .returned (.tuple #[.agg #[.bool true, .int .u64 (num (L.take 8) : Nat), .int .u64 (num (L.drop 8) : Nat)], .int .i64 0]) ∧ Below w.heap.size w w' := by
  subst h
  refine (rfrom6_true (str L) w (by rw [str_size]; exact hl)).mono ?_
  rintro e w' ⟨⟨hi, lo, rfl, hf⟩, hb⟩
  rw [str_toList, str_size, hl] at hf
  obtain ⟨h1, h2⟩ := (show hi = num (L.take (min 16 8)) ∧ lo = num ((L.take 16).drop 8) from hf)
  rw [List.take_of_length_le (by omega)] at h2
  subst h1 h2
  exact ⟨rfl, hb⟩
theorem and_low (n k m : Nat) (hm : m = 2 ^ k - 1) (h : n < 9223372036854775808) (hk : k ≤ 60) : bits .and .i64 (n : Int) (m : Int) = ((n % 2 ^ k : Nat) : Int) := by
  have ht : (2 : Nat) ^ IntKind.i64.bits = 18446744073709551616 := by decide
  have hp : 2 ^ k ≤ 2 ^ 60 := Nat.pow_le_pow_right (by decide) hk
  have hp0 : 0 < 2 ^ k := Nat.pow_pos (by decide)
  show IntKind.i64.wrap (((((n : Int) % ((2 : Nat) ^ IntKind.i64.bits : Nat)).toNat &&& ((m : Int) % ((2 : Nat) ^ IntKind.i64.bits : Nat)).toNat) : Nat) : Int) = _
  rw [ht]
  have e1 : ((n : Int) % (18446744073709551616 : Nat)).toNat = n := by omega
  have e2 : ((m : Int) % (18446744073709551616 : Nat)).toNat = 2 ^ k - 1 := by omega
  rw [e1, e2, Nat.and_two_pow_sub_one_eq_mod]
  have : n % 2 ^ k ≤ n := Nat.mod_le _ _
  exact IntWalk.i64_in _ (by omega)
/-- What Decode leaves. -/
def Dec6P (w : World) (Q : Ip6R × Nat) (e : Ending) (w' : World) : Prop :=
  ∃ A cap, e = .returned (.tuple #[.agg #[.int .i64 Q.1.cls, .int .i64 Q.1.lab, .int .i64 Q.1.hops, .int .i64 Q.1.nxt, .bool Q.1.src.v6, .int .u64 (Q.1.src.hi : Int), .int .u64 (Q.1.src.lo : Int), .bool Q.1.dst.v6, .int .u64 (Q.1.dst.hi : Int), .int .u64 (Q.1.dst.lo : Int), .slice A Q.1.exts.length cap, .bool Q.1.frg, .int .i64 Q.1.id, .int .i64 Q.1.off, .bool Q.1.more, .string (str Q.1.pay)], .int .i64 (Q.2 : Int)]) ∧ RowL EOpt w' A Q.1.exts ∧ (A = none → cap = 0) ∧ Below w.heap.size w w'
def zC6 : Array Value := #[.int .i64 0, .int .i64 0, .int .i64 0, .int .i64 0, .bool false, .int .u64 0, .int .u64 0, .bool false, .int .u64 0, .int .u64 0, .slice none 0 0, .bool false, .int .i64 0, .int .i64 0, .bool false, .string ⟨#[]⟩]
theorem dec6_err {w wz : World} {Q : Ip6R × Nat} {er : Nat} {E : Int} (hE : (er : Int) = E) (hr : Q = (zeroX, er)) (hb : Below w.heap.size w wz) :
    Dec6P w Q (.returned (.tuple #[.agg #[.int .i64 0, .int .i64 0, .int .i64 0, .int .i64 0, .bool false, .int .u64 0, .int .u64 0, .bool false, .int .u64 0, .int .u64 0, .slice none 0 0, .bool false, .int .i64 0, .int .i64 0, .bool false, .string ⟨#[]⟩], .int .i64 E])) wz := by
  subst hE hr
  exact ⟨none, 0, rfl, RowL.nil _ _, fun _ => rfl, hb⟩
theorem run6_err {f : Nat} {first : Bool} {s : St6} {r : List UInt8} {e : Nat} (h : hdK s.nx) (hb : bad6 first s r = e) (he : e ≠ 0) : (run6 (f + 1) first s r).2 = e := by rw [run6, if_pos h, if_pos (by rw [hb]; exact he), hb]
theorem run6_step {f : Nat} {first : Bool} {s : St6} {r : List UInt8} (h : hdK s.nx) (hb : bad6 first s r = 0) : run6 (f + 1) first s r = run6 f false (go6 s r).1 (go6 s r).2 := by rw [run6, if_pos h, if_neg (by rw [hb]; decide)]
/-- The packet under way, in memory. -/
structure DX (W w : World) (g g0 C L H sh sl dh dl : Nat) (s : St6) (A : Option Addr) (n cap : Nat) : Prop where
  box : Cells W g 28 #[.int .i64 (C : Int), .int .i64 (L : Int), .int .i64 (H : Int), .int .i64 (s.nx : Int), .bool true, .int .u64 (sh : Int), .int .u64 (sl : Int), .bool true, .int .u64 (dh : Int), .int .u64 (dl : Int), .slice A n cap, .bool s.frg, .int .i64 (s.id : Int), .int .i64 (s.off : Int), .bool s.more, .string ⟨#[]⟩]
  res : Cells W g0 28 #[.int .i64 0, .int .i64 0, .int .i64 0, .int .i64 0, .bool false, .int .u64 0, .int .u64 0, .bool false, .int .u64 0, .int .u64 0, .slice none 0 0, .bool false, .int .i64 0, .int .i64 0, .bool false, .string ⟨#[]⟩]
  own : W.ownsRow (g + 1) 59 2 (.slice A n cap) n (EOpt.cells s.exts)
  len : n = s.exts.length
  bel : Below w.heap.size w W
def szOf : Value → Nat
  | .string b => b.size
  | _ => 0
theorem and1_u8 (n : Nat) (h : n < 256) : bits .and .u8 (n : Int) 1 = ((n % 2 : Nat) : Int) := by
  have ht : (2 : Nat) ^ IntKind.u8.bits = 256 := by decide
  show IntKind.u8.wrap (((((n : Int) % ((2 : Nat) ^ IntKind.u8.bits : Nat)).toNat &&& ((1 : Int) % ((2 : Nat) ^ IntKind.u8.bits : Nat)).toNat) : Nat) : Int) = _
  rw [ht]
  have e1 : ((n : Int) % (256 : Nat)).toNat = n := by omega
  have e2 : ((1 : Int) % (256 : Nat)).toNat = 2 ^ 1 - 1 := by decide
  rw [e1, e2, Nat.and_two_pow_sub_one_eq_mod, IntKind.wrap_u8]
  omega
set_option maxHeartbeats 8000000 in
set_option maxRecDepth 100000 in
theorem rdec12_any (S : List UInt8) (w : World) (hs : S.length ≤ 1000000) :
    Calls Try.prog 12 #[.string (str S)] w (Dec6P w (decX S)) := by
  have hsz : (str S).size = S.length := str_size S
  obtain ⟨s, hS⟩ : ∃ s, s = str S := ⟨_, rfl⟩
  rw [← hS] at hsz ⊢
  obtain ⟨Q, hR⟩ : ∃ Q, Q = decX S := ⟨_, rfl⟩
  rw [← hR]
  have HB0 := Lib.hid (below_alloc6 w (.cells zC6 28))
  have HG0 := Lib.hid (show Cells (w.alloc (.cells zC6 28)) w.heap.size 28 zC6 from heap_alloc_new w _)
  unfold zC6 at HB0 HG0
  unfold decX at hR
  by_cases h40 : S.length < 40
  · have hR2 := Lib.hid (show Q = (zeroX, 1) by rw [hR, if_pos h40])
    have d14 : decide ((s.size : Int) < 40) = true := by simp; omega
    have n14 : (s.size : Int) < 40 := by omega
    clear hR hS hsz h40
    go_enter Try.func12, Try.ntmps12
    go_wp2_with fail
    refine bodyPost_ret (res_box2 ip6Ty rfl _ _ rfl HG0.out) rfl ?_
    exact dec6_err (er := 1) rfl hR2.out HB0.out
  rw [if_neg h40] at hR
  have d14 : decide ((s.size : Int) < 40) = false := by simp; omega
  have n14 : ¬ (s.size : Int) < 40 := by omega
  have n40 : 40 ≤ s.size := by omega
  have i0 : (0 : Int) < (s.size : Int) := by omega
  have hs0 : 0 < s.size := by omega
  obtain ⟨b0, hb0⟩ : ∃ b, b = (s[0]'hs0).toNat := ⟨_, rfl⟩
  have hx0 := s0_at hS 0 hs0
  rw [← hb0] at hx0
  have hb0' : (((s[0]'hs0).toNat : Nat) : Int) = (b0 : Int) := by rw [hb0]
  have hb0l : b0 < 256 := by rw [hb0]; exact u8_lt _
  rw [← hx0] at hR
  obtain ⟨q0, hq0⟩ : ∃ q, q = b0 / 16 := ⟨_, rfl⟩
  have kq0 : (b0 : Int) / 16 = (q0 : Int) := by omega
  have hq16 : q0 < 16 := by omega
  rw [← hq0] at hR
  by_cases h6 : q0 ≠ 6
  · have hR2 := Lib.hid (show Q = (zeroX, 2) by rw [hR, if_pos h6])
    have y1 : ((q0 : Int) != 6) = true := by rw [bne_iff_ne]; omega
    clear hR hS hsz h40 h6 hx0 hb0 hq0
    go_enter Try.func12, Try.ntmps12
    go_wp2_with fail
    refine bodyPost_ret (res_box2 ip6Ty rfl _ _ rfl HG0.out) rfl ?_
    exact dec6_err (er := 2) rfl hR2.out HB0.out
  rw [if_neg h6] at hR
  have y1 : ((q0 : Int) != 6) = false := by rw [bne_eq_false_iff_eq]; omega
  obtain ⟨tt, htt⟩ : ∃ t, t = nm2 S 4 := ⟨_, rfl⟩
  have htl : tt < 65536 := by rw [htt]; exact nm2_lt S 4
  rw [← htt] at hR
  have hex0 : s.extract 4 6 = str ((S.drop 4).take 2) := extract_str11 s S hS 4 6
  have HNT := Lib.hid (fun (W : World) => show Calls Try.prog 27 #[.string (str ((S.drop 4).take 2))] W fun e w' => e = .returned (.int .i64 (tt : Int)) ∧ W = w' from by rw [htt]; exact rnum12_any _ _ rfl (by rw [List.length_take, List.length_drop]; omega) W)
  generalize str ((S.drop 4).take 2) = D46 at *
  have i6 : (6 : Int) ≤ (s.size : Int) := by omega
  obtain ⟨sz, hszz⟩ : ∃ z, z = s.size - 40 := ⟨_, rfl⟩
  have ksz : (s.size : Int) - 40 = (sz : Int) := by omega
  have hszl : sz ≤ 1000000 := by omega
  have hsm : s.size ≤ 1000000 := by omega
  by_cases h5 : S.length - 40 < tt
  · have hR2 := Lib.hid (show Q = (zeroX, 1) by rw [hR, if_pos h5])
    have y2 : (sz : Int) < (tt : Int) := by omega
    have y3 : decide ((sz : Int) < (tt : Int)) = true := by simp; omega
    clear hR hS hsz h40 h5 hx0 hb0 hq0 h6 htt hszz
    go_enter Try.func12, Try.ntmps12
    go_wp2_with fail
    refine (HNT.out _).mono ?_
    rintro e w1 ⟨rfl, rfl⟩
    go_wp2_with fail
    refine bodyPost_ret (res_box2 ip6Ty rfl _ _ rfl HG0.out) rfl ?_
    exact dec6_err (er := 1) rfl hR2.out HB0.out
  rw [if_neg h5] at hR
  have y2 : ¬ (sz : Int) < (tt : Int) := by omega
  have y3 : decide ((sz : Int) < (tt : Int)) = false := by simp; omega
  obtain ⟨n02, hn02⟩ : ∃ t, t = nm2 S 0 := ⟨_, rfl⟩
  have hn02l : n02 < 65536 := by rw [hn02]; exact nm2_lt S 0
  obtain ⟨n04, hn04⟩ : ∃ t, t = nm4 S 0 := ⟨_, rfl⟩
  have hn04l : n04 < 4294967296 := by rw [hn04]; exact nm4_lt S 0
  have hex1 : s.extract 0 2 = str ((S.drop 0).take 2) := extract_str11 s S hS 0 2
  have hex2 : s.extract 0 4 = str ((S.drop 0).take 4) := extract_str11 s S hS 0 4
  have hex3 : s.extract 8 24 = str ((S.drop 8).take 16) := extract_str11 s S hS 8 24
  have hex4 : s.extract 24 40 = str ((S.drop 24).take 16) := extract_str11 s S hS 24 40
  have HN2 := Lib.hid (fun (W : World) => show Calls Try.prog 27 #[.string (str ((S.drop 0).take 2))] W fun e w' => e = .returned (.int .i64 (n02 : Int)) ∧ W = w' from by rw [hn02]; exact rnum12_any _ _ rfl (by rw [List.length_take, List.length_drop]; omega) W)
  have HN4 := Lib.hid (fun (W : World) => show Calls Try.prog 27 #[.string (str ((S.drop 0).take 4))] W fun e w' => e = .returned (.int .i64 (n04 : Int)) ∧ W = w' from by rw [hn04]; exact rnum12_any _ _ rfl (by rw [List.length_take, List.length_drop]; omega) W)
  obtain ⟨sh, hsh⟩ : ∃ t, t = nm8 S 8 := ⟨_, rfl⟩
  obtain ⟨sl, hsl⟩ : ∃ t, t = nm8 S 16 := ⟨_, rfl⟩
  obtain ⟨dh, hdh⟩ : ∃ t, t = nm8 S 24 := ⟨_, rfl⟩
  obtain ⟨dl, hdl⟩ : ∃ t, t = nm8 S 32 := ⟨_, rfl⟩
  have HF1 := Lib.hid (fun (W : World) => show Calls Try.prog 28 #[.string (str ((S.drop 8).take 16))] W fun e w' => e = .returned (.tuple #[.agg #[.bool true, .int .u64 (sh : Int), .int .u64 (sl : Int)], .int .i64 0]) ∧ Below W.heap.size W w' from by
    have := from16_any _ ((S.drop 8).take 16) rfl (by rw [List.length_take, List.length_drop]; omega) W
    rw [hsh, hsl]
    unfold nm8
    rwa [List.take_take, List.drop_take, List.drop_drop] at this)
  have HF2 := Lib.hid (fun (W : World) => show Calls Try.prog 28 #[.string (str ((S.drop 24).take 16))] W fun e w' => e = .returned (.tuple #[.agg #[.bool true, .int .u64 (dh : Int), .int .u64 (dl : Int)], .int .i64 0]) ∧ Below W.heap.size W w' from by
    have := from16_any _ ((S.drop 24).take 16) rfl (by rw [List.length_take, List.length_drop]; omega) W
    rw [hdh, hdl]
    unfold nm8
    rwa [List.take_take, List.drop_take, List.drop_drop] at this)
  generalize str ((S.drop 0).take 2) = D02 at *
  generalize str ((S.drop 0).take 4) = D04 at *
  generalize str ((S.drop 8).take 16) = D08 at *
  generalize str ((S.drop 24).take 16) = D24 at *
  have i2 : (2 : Int) ≤ (s.size : Int) := by omega
  have i4 : (4 : Int) ≤ (s.size : Int) := by omega
  have i24 : (24 : Int) ≤ (s.size : Int) := by omega
  have i40 : (40 : Int) ≤ (s.size : Int) := by omega
  have hs7 : 7 < s.size := by omega
  have hs6 : 6 < s.size := by omega
  have j7 : (7 : Int) < (s.size : Int) := by omega
  have j6 : (6 : Int) < (s.size : Int) := by omega
  obtain ⟨b7, hb7⟩ : ∃ b, b = (s[7]'hs7).toNat := ⟨_, rfl⟩
  obtain ⟨b6, hb6⟩ : ∃ b, b = (s[6]'hs6).toNat := ⟨_, rfl⟩
  have hx7 := s0_at hS 7 hs7
  have hx6 := s0_at hS 6 hs6
  rw [← hb7] at hx7
  rw [← hb6] at hx6
  have hb7' : (((s[7]'hs7).toNat : Nat) : Int) = (b7 : Int) := by rw [hb7]
  have hb6' : (((s[6]'hs6).toNat : Nat) : Int) = (b6 : Int) := by rw [hb6]
  have hb7l : b7 < 256 := by rw [hb7]; exact u8_lt _
  have hb6l : b6 < 256 := by rw [hb6]; exact u8_lt _
  obtain ⟨c1, hc1⟩ : ∃ c, c = n02 / 16 := ⟨_, rfl⟩
  obtain ⟨C, hC⟩ : ∃ c, c = c1 % 256 := ⟨_, rfl⟩
  obtain ⟨L, hL⟩ : ∃ c, c = n04 % 1048576 := ⟨_, rfl⟩
  have k1 : (n02 : Int) / 16 = (c1 : Int) := by omega
  have k1' : (n02 : Int) / 2 ^ 4 = (c1 : Int) := by omega
  have a1 : bits .and .i64 (c1 : Int) 255 = (C : Int) := by rw [hC]; exact and_low c1 8 255 rfl (by omega) (by omega)
  have a2 : bits .and .i64 (n04 : Int) 1048575 = (L : Int) := by rw [hL]; exact and_low n04 20 1048575 rfl (by omega) (by omega)
  have u7 : IntKind.i64.wrap (b7 : Int) = (b7 : Int) := by rw [IntKind.wrap_i64]; omega
  have u6 : IntKind.i64.wrap (b6 : Int) = (b6 : Int) := by rw [IntKind.wrap_i64]; omega
  have HHD := Lib.hid (show C = nm2 S 0 / 16 % 256 ∧ L = nm4 S 0 % 1048576 ∧ b7 = byt S 7 ∧ b6 = byt S 6 ∧ sh = nm8 S 8 ∧ sl = nm8 S 16 ∧ dh = nm8 S 24 ∧ dl = nm8 S 32 from ⟨by rw [hC, hc1, hn02], by rw [hL, hn04], hx7, hx6, hsh, hsl, hdh, hdl⟩)
  have HRR := Lib.hid hR
  have HSS := Lib.hid hS
  have HSZ := Lib.hid hsz
  have HTT := Lib.hid htt
  have htts : 40 + tt ≤ s.size := by omega
  have HFX := Lib.hid (And.intro hex1 (And.intro hex2 (And.intro hex3 (And.intro hex4 (And.intro i2 (And.intro i4 (And.intro i24 (And.intro i40 (And.intro j7 (And.intro j6 (And.intro hb7' (And.intro hb6' (And.intro k1 (And.intro k1' (And.intro a1 (And.intro a2 (And.intro u7 u6)))))))))))))))))
  clear hR hS hsz h40 h5 hx0 hb0 hq0 h6 htt hszz hn02 hn04 hsh hsl hdh hdl hx7 hx6 hb7 hb6 hc1 hC hL hs hex1 hex2 hex3 hex4 i2 i4 i24 i40 j7 j6 hb7' hb6' k1 k1' a1 a2 u7 u6
  go_enter Try.func12, Try.ntmps12
  go_wp2_with fail
  refine (HNT.out _).mono ?_
  rintro e w1 ⟨rfl, rfl⟩
  go_upto_region 8 with fail
  obtain ⟨W0, hW0⟩ : ∃ W, W = w.alloc (.cells #[.int .i64 0, .int .i64 0, .int .i64 0, .int .i64 0, .bool false, .int .u64 0, .int .u64 0, .bool false, .int .u64 0, .int .u64 0, .slice none 0 0, .bool false, .int .i64 0, .int .i64 0, .bool false, .string ⟨#[]⟩] 28) := ⟨_, rfl⟩
  obtain ⟨g0, hg0⟩ : ∃ g, g = w.heap.size := ⟨_, rfl⟩
  rw [← hW0, ← hg0] at HG0
  rw [← hW0] at HB0
  rw [← hW0, ← hg0]
  have HGE := Lib.hid (show w.heap.size ≤ g0 by omega)
  clear hW0 hg0 HNT y1 y2 y3 ksz kq0 hb0' d14 n14 i0 hex0
  obtain ⟨hex1, hex2, hex3, hex4, i2, i4, i24, i40, j7, j6, hb7', hb6', k1, k1', a1, a2, u7, u6⟩ := HFX.out
  clear HFX
  refine wp_region_specs_tail 17 [.val (Value.string s), .val (Value.string D02), .val (Value.int .i64 (n02 : Int)), .val (Value.int .i64 (c1 : Int)), .val (Value.int .i64 (C : Int)), .val (Value.string s), .val (Value.string D04), .val (Value.int .i64 (n04 : Int)), .val (Value.int .i64 (L : Int)), .val (Value.string s), .val (Value.int .u8 (b7 : Int)), .val (Value.int .i64 (b7 : Int)), .val (Value.string s), .val (Value.int .u8 (b6 : Int)), .val (Value.int .i64 (b6 : Int)), .val (Value.agg #[.int .i64 (C : Int), .int .i64 (L : Int), .int .i64 (b7 : Int), .int .i64 (b6 : Int), .bool false, .int .u64 0, .int .u64 0, .bool false, .int .u64 0, .int .u64 0, .slice none 0 0, .bool false, .int .i64 0, .int .i64 0, .bool false, .string ⟨#[]⟩]), .box #[.int .i64 0, .int .i64 0, .int .i64 0, .int .i64 0, .bool false, .int .u64 0, .int .u64 0, .bool false, .int .u64 0, .int .u64 0, .slice none 0 0, .bool false, .int .i64 0, .int .i64 0, .bool false, .string ⟨#[]⟩] 28] (by kernel_rfl) (by kernel_rfl) (by kernel_rfl) (by kernel_rfl) (by kernel_rfl) (by kernel_rfl) (by kernel_rfl) (by kernel_rfl) ?_ ?_
  · refine ⟨⟨rfl, ?_⟩, ⟨rfl, ?_⟩, ⟨rfl, ?_⟩, ⟨rfl, ?_⟩, ⟨rfl, ?_⟩, ⟨rfl, ?_⟩, ⟨rfl, ?_⟩, ⟨rfl, ?_⟩, ⟨rfl, ?_⟩, ⟨rfl, ?_⟩, ⟨rfl, ?_⟩, ⟨rfl, ?_⟩, ⟨rfl, ?_⟩, ⟨rfl, ?_⟩, ⟨rfl, ?_⟩, ⟨rfl, ?_⟩, ⟨rfl, ?_⟩, trivial⟩
    · intro a W hbW hk K hK
      have e0 := kvalT hk 0 (Value.string s) (by kernel_rfl)
      clear hk
      go_simp
      exact ⟨_, rfl, hK _ _ rfl (Below.refl _ _)⟩
    · intro a W hbW hk K hK
      have e28 := kvalT hk 28 (Value.string s) (by kernel_rfl)
      clear hk
      go_simp
      exact ⟨_, rfl, hK _ _ rfl (Below.refl _ _)⟩
    · intro a W hbW hk K hK
      have e29 := kvalT hk 29 (Value.string D02) (by kernel_rfl)
      clear hk
      go_simp
      refine (HN2.out W).mono ?_
      rintro e w9 ⟨rfl, rfl⟩
      exact ⟨_, rfl, hK _ _ rfl (Below.refl _ _)⟩
    · intro a W hbW hk K hK
      have e30 := kvalT hk 30 (Value.int .i64 (n02 : Int)) (by kernel_rfl)
      clear hk
      go_simp
      exact ⟨_, rfl, hK _ _ rfl (Below.refl _ _)⟩
    · intro a W hbW hk K hK
      have e31 := kvalT hk 31 (Value.int .i64 (c1 : Int)) (by kernel_rfl)
      clear hk
      go_simp
      exact ⟨_, rfl, hK _ _ rfl (Below.refl _ _)⟩
    · intro a W hbW hk K hK
      have e0 := kvalT hk 0 (Value.string s) (by kernel_rfl)
      clear hk
      go_simp
      exact ⟨_, rfl, hK _ _ rfl (Below.refl _ _)⟩
    · intro a W hbW hk K hK
      have e33 := kvalT hk 33 (Value.string s) (by kernel_rfl)
      clear hk
      go_simp
      exact ⟨_, rfl, hK _ _ rfl (Below.refl _ _)⟩
    · intro a W hbW hk K hK
      have e34 := kvalT hk 34 (Value.string D04) (by kernel_rfl)
      clear hk
      go_simp
      refine (HN4.out W).mono ?_
      rintro e w9 ⟨rfl, rfl⟩
      exact ⟨_, rfl, hK _ _ rfl (Below.refl _ _)⟩
    · intro a W hbW hk K hK
      have e35 := kvalT hk 35 (Value.int .i64 (n04 : Int)) (by kernel_rfl)
      clear hk
      go_simp
      exact ⟨_, rfl, hK _ _ rfl (Below.refl _ _)⟩
    · intro a W hbW hk K hK
      have e0 := kvalT hk 0 (Value.string s) (by kernel_rfl)
      clear hk
      go_simp
      exact ⟨_, rfl, hK _ _ rfl (Below.refl _ _)⟩
    · intro a W hbW hk K hK
      have e37 := kvalT hk 37 (Value.string s) (by kernel_rfl)
      clear hk
      go_simp
      exact ⟨_, rfl, hK _ _ rfl (Below.refl _ _)⟩
    · intro a W hbW hk K hK
      have e38 := kvalT hk 38 (Value.int .u8 (b7 : Int)) (by kernel_rfl)
      clear hk
      go_simp
      exact ⟨_, rfl, hK _ _ rfl (Below.refl _ _)⟩
    · intro a W hbW hk K hK
      have e0 := kvalT hk 0 (Value.string s) (by kernel_rfl)
      clear hk
      go_simp
      exact ⟨_, rfl, hK _ _ rfl (Below.refl _ _)⟩
    · intro a W hbW hk K hK
      have e40 := kvalT hk 40 (Value.string s) (by kernel_rfl)
      clear hk
      go_simp
      exact ⟨_, rfl, hK _ _ rfl (Below.refl _ _)⟩
    · intro a W hbW hk K hK
      have e41 := kvalT hk 41 (Value.int .u8 (b6 : Int)) (by kernel_rfl)
      clear hk
      go_simp
      exact ⟨_, rfl, hK _ _ rfl (Below.refl _ _)⟩
    · intro a W hbW hk K hK
      have e32 := kvalT hk 32 (Value.int .i64 (C : Int)) (by kernel_rfl)
      have e36 := kvalT hk 36 (Value.int .i64 (L : Int)) (by kernel_rfl)
      have e39 := kvalT hk 39 (Value.int .i64 (b7 : Int)) (by kernel_rfl)
      have e42 := kvalT hk 42 (Value.int .i64 (b6 : Int)) (by kernel_rfl)
      clear hk
      go_simp
      exact ⟨_, rfl, hK _ _ rfl (Below.refl _ _)⟩
    · intro a W hbW hk K hK
      clear hk
      go_simp
      exact ⟨_, rfl, hK _ _ ⟨W.heap.size, rfl, hbW.size, heap_alloc_new W _⟩ (below_alloc6 W _)⟩
  · intro w2 hb2
    simp only [List.take_succ_cons, List.take_zero, List.drop_succ_cons, List.drop_zero, endT]
    intro g hg hcg
    have hgr : g0 < g := by have := HG0.out.lt; omega
    go_simp
    refine wpList_store_row (by rfl) 28 _ _ (by rfl) g #[.int .i64 (C : Int), .int .i64 (L : Int), .int .i64 (b7 : Int), .int .i64 (b6 : Int), .bool false, .int .u64 0, .int .u64 0, .bool false, .int .u64 0, .int .u64 0, .slice none 0 0, .bool false, .int .i64 0, .int .i64 0, .bool false, .string ⟨#[]⟩] (by rfl) (by rfl) 28 #[.int .i64 0, .int .i64 0, .int .i64 0, .int .i64 0, .bool false, .int .u64 0, .int .u64 0, .bool false, .int .u64 0, .int .u64 0, .slice none 0 0, .bool false, .int .i64 0, .int .i64 0, .bool false, .string ⟨#[]⟩] hcg (by kernel_rfl) (by rfl) (by simp [Value.oneCell']) ?_
    have HX2 := Lib.hid (show Cells (w2.setRow g #[.int .i64 (C : Int), .int .i64 (L : Int), .int .i64 (b7 : Int), .int .i64 (b6 : Int), .bool false, .int .u64 0, .int .u64 0, .bool false, .int .u64 0, .int .u64 0, .slice none 0 0, .bool false, .int .i64 0, .int .i64 0, .bool false, .string ⟨#[]⟩]) g 28 #[.int .i64 (C : Int), .int .i64 (L : Int), .int .i64 (b7 : Int), .int .i64 (b6 : Int), .bool false, .int .u64 0, .int .u64 0, .bool false, .int .u64 0, .int .u64 0, .slice none 0 0, .bool false, .int .i64 0, .int .i64 0, .bool false, .string ⟨#[]⟩] from Cells.row hcg _)
    have HG2 := Lib.hid (show Cells (w2.setRow g #[.int .i64 (C : Int), .int .i64 (L : Int), .int .i64 (b7 : Int), .int .i64 (b6 : Int), .bool false, .int .u64 0, .int .u64 0, .bool false, .int .u64 0, .int .u64 0, .slice none 0 0, .bool false, .int .i64 0, .int .i64 0, .bool false, .string ⟨#[]⟩]) g0 28 #[.int .i64 0, .int .i64 0, .int .i64 0, .int .i64 0, .bool false, .int .u64 0, .int .u64 0, .bool false, .int .u64 0, .int .u64 0, .slice none 0 0, .bool false, .int .i64 0, .int .i64 0, .bool false, .string ⟨#[]⟩] from Cells.rowFar (Cells.kept HG0.out hb2 HG0.out.lt) (by omega) _)
    have HB2 := Lib.hid (below_row (HB0.out.trans (hb2.mono HB0.out.size)) g (by have := HGE.out; omega) #[.int .i64 (C : Int), .int .i64 (L : Int), .int .i64 (b7 : Int), .int .i64 (b6 : Int), .bool false, .int .u64 0, .int .u64 0, .bool false, .int .u64 0, .int .u64 0, .slice none 0 0, .bool false, .int .i64 0, .int .i64 0, .bool false, .string ⟨#[]⟩])
    obtain ⟨W3, hW3⟩ : ∃ W, W = w2.setRow g #[.int .i64 (C : Int), .int .i64 (L : Int), .int .i64 (b7 : Int), .int .i64 (b6 : Int), .bool false, .int .u64 0, .int .u64 0, .bool false, .int .u64 0, .int .u64 0, .slice none 0 0, .bool false, .int .i64 0, .int .i64 0, .bool false, .string ⟨#[]⟩] := ⟨_, rfl⟩
    rw [← hW3] at HX2 HG2 HB2
    rw [← hW3]
    clear hW3 hcg hb2 hg HG0 HB0 HN2 HN4 a1 a2 u7 u6 k1 k1'
    go_upto_region 9 with fail
    go_wp2_with fail
    refine (HF1.out _).mono ?_
    rintro e w4 ⟨rfl, hb4⟩
    have hX4 := Cells.kept HX2.out hb4 HX2.out.lt
    have hG4 := Cells.kept HG2.out hb4 HG2.out.lt
    have hB4 := HB2.out.trans (hb4.mono HB2.out.size)
    have x4 := (Cells.cell hX4 4).trans (show _ = some (Value.bool false) from rfl)
    have z4 := Cells.frozen hX4 4
    have x5 := (Cells.cell hX4 5).trans (show _ = some (Value.int .u64 0) from rfl)
    have z5 := Cells.frozen hX4 5
    have x6 := (Cells.cell hX4 6).trans (show _ = some (Value.int .u64 0) from rfl)
    have z6 := Cells.frozen hX4 6
    have hgl := hX4.lt
    have HX4 := Lib.hid (((hX4.set 4 (.bool true)).set 5 (.int .u64 (sh : Int))).set 6 (.int .u64 (sl : Int)))
    have HG4 := Lib.hid (Cells.far (Cells.far (Cells.far hG4 (show g0 ≠ g by omega) (i := 4) (.bool true)) (show g0 ≠ g by omega) (i := 5) (.int .u64 (sh : Int))) (show g0 ≠ g by omega) (i := 6) (.int .u64 (sl : Int)))
    have hwg : w.heap.size ≤ g := by have := HGE.out; omega
    have HB4 := Lib.hid (((hB4.setCell (p := ⟨g, 4, none⟩) hwg (.bool true)).setCell (p := ⟨g, 5, none⟩) hwg (.int .u64 (sh : Int))).setCell (p := ⟨g, 6, none⟩) hwg (.int .u64 (sl : Int)))
    clear hb4 hX4 hG4 hB4 hwg HX2 HG2 HB2
    go_upto_region 10 with fail
    obtain ⟨W5, hW⟩ : ∃ W, W = ((w4.setCell ⟨g, 4, none⟩ (.bool true)).setCell ⟨g, 5, none⟩ (.int .u64 (sh : Int))).setCell ⟨g, 6, none⟩ (.int .u64 (sl : Int)) := ⟨_, rfl⟩
    rw [← hW] at HX4 HG4 HB4
    rw [← hW]
    clear hW HF1 hgl x4 z4 x5 z5 x6 z6
    have HW5X := Lib.hid (show Cells W5 g 28 #[Value.int .i64 (C : Int), Value.int .i64 (L : Int), Value.int .i64 (b7 : Int), Value.int .i64 (b6 : Int), Value.bool true, Value.int .u64 (sh : Int), Value.int .u64 (sl : Int), Value.bool false, Value.int .u64 0, Value.int .u64 0, Value.slice none 0 0, Value.bool false, Value.int .i64 0, Value.int .i64 0, Value.bool false, Value.string ⟨#[]⟩] from HX4.out)
    have HW5G := HG4
    have HW5B := HB4
    clear HX4 HG4 HB4
    go_wp2_with fail
    refine (HF2.out _).mono ?_
    rintro e w6 ⟨rfl, hb4⟩
    have hX4 := Cells.kept HW5X.out hb4 HW5X.out.lt
    have hG4 := Cells.kept HW5G.out hb4 HW5G.out.lt
    have hB4 := HW5B.out.trans (hb4.mono HW5B.out.size)
    have x7 := (Cells.cell hX4 7).trans (show _ = some (Value.bool false) from rfl)
    have z7 := Cells.frozen hX4 7
    have x8 := (Cells.cell hX4 8).trans (show _ = some (Value.int .u64 0) from rfl)
    have z8 := Cells.frozen hX4 8
    have x9 := (Cells.cell hX4 9).trans (show _ = some (Value.int .u64 0) from rfl)
    have z9 := Cells.frozen hX4 9
    have hgl := hX4.lt
    have HX4 := Lib.hid (((hX4.set 7 (.bool true)).set 8 (.int .u64 (dh : Int))).set 9 (.int .u64 (dl : Int)))
    have HG4 := Lib.hid (Cells.far (Cells.far (Cells.far hG4 (show g0 ≠ g by omega) (i := 7) (.bool true)) (show g0 ≠ g by omega) (i := 8) (.int .u64 (dh : Int))) (show g0 ≠ g by omega) (i := 9) (.int .u64 (dl : Int)))
    have hwg : w.heap.size ≤ g := by have := HGE.out; omega
    have HB4 := Lib.hid (((hB4.setCell (p := ⟨g, 7, none⟩) hwg (.bool true)).setCell (p := ⟨g, 8, none⟩) hwg (.int .u64 (dh : Int))).setCell (p := ⟨g, 9, none⟩) hwg (.int .u64 (dl : Int)))
    clear hb4 hX4 hG4 hB4 hwg HW5X HW5G HW5B
    go_upto_region 11 with fail
    obtain ⟨W7, hW⟩ : ∃ W, W = ((w6.setCell ⟨g, 7, none⟩ (.bool true)).setCell ⟨g, 8, none⟩ (.int .u64 (dh : Int))).setCell ⟨g, 9, none⟩ (.int .u64 (dl : Int)) := ⟨_, rfl⟩
    rw [← hW] at HX4 HG4 HB4
    rw [← hW]
    clear hW HF2 hgl x7 z7 x8 z8 x9 z9
    have HW7X := Lib.hid (show Cells W7 g 28 #[Value.int .i64 (C : Int), Value.int .i64 (L : Int), Value.int .i64 (b7 : Int), Value.int .i64 (b6 : Int), Value.bool true, Value.int .u64 (sh : Int), Value.int .u64 (sl : Int), Value.bool true, Value.int .u64 (dh : Int), Value.int .u64 (dl : Int), Value.slice none 0 0, Value.bool false, Value.int .i64 0, Value.int .i64 0, Value.bool false, Value.string ⟨#[]⟩] from HX4.out)
    have HW7G := HG4
    have HW7B := HB4
    clear HX4 HG4 HB4
    obtain ⟨e40, he40⟩ : ∃ e, e = 40 + tt := ⟨_, rfl⟩
    have k40 : (40 : Int) + (tt : Int) = (e40 : Int) := by omega
    have e40s : e40 ≤ s.size := by omega
    have e40i : (e40 : Int) ≤ (s.size : Int) := by omega
    have e40j : (40 : Int) ≤ (e40 : Int) := by omega
    obtain ⟨r0, hr0⟩ : ∃ r, r = (S.drop 40).take tt := ⟨_, rfl⟩
    have hr0l : r0.length = tt := by rw [hr0, List.length_take, List.length_drop]; have := HSZ.out; omega
    have hex5 : s.extract 40 e40 = str r0 := by rw [hr0, he40, extract_str11 s S HSS.out, show 40 + tt - 40 = tt by omega]
    obtain ⟨RUN, hRUN⟩ : ∃ X, X = run6 (tt + 1) true (st6 S) r0 := ⟨_, rfl⟩
    have HRR2 := Lib.hid (show Q = if RUN.2 ≠ 0 then (zeroX, RUN.2) else (outX S RUN.1.1 RUN.1.2, 0) by rw [hRUN, hr0]; exact HRR.out)
    have HRUN0 := Lib.hid (show RUN = run6 (tt + 1) true ⟨b6, [], false, 0, 0, false⟩ r0 ∧ r0.length < tt + 1 from ⟨by rw [hRUN]; unfold st6; rw [HHD.out.2.2.2.1], by omega⟩)
    have HDX0 := Lib.hid (show DX W7 w g g0 C L b7 sh sl dh dl ⟨b6, [], false, 0, 0, false⟩ none 0 0 from ⟨HW7X.out, HW7G.out, World.ownsRow_nil _ _ _ _, rfl, HW7B.out⟩)
    obtain ⟨B0, hB0⟩ : ∃ b, b = str r0 := ⟨_, rfl⟩
    rw [← hB0] at hex5
    have HB00 := Lib.hid hB0
    have HR0L := Lib.hid hr0l
    clear hr0 hRUN hr0l HRR he40 hB0 HW7X HW7G HW7B hex1 hex2 hex3 hex4 i2 i4 i24 i40 j7 j6 hb7' hb6' htts n40 hs0 hs7 hs6 i6
    go_wp2_with fail
    go_loopw [6, 7] (fun v6 v7 wr => ∃ (r : List UInt8) (first : Bool) (st : St6) (A : Option Addr) (n cap f : Nat), v6 = .string (str r) ∧ v7 = .bool first ∧ st.nx < 256 ∧ n ≤ 8 ∧ r.length ≤ 70000 ∧ Hid (DX wr w g g0 C L b7 sh sl dh dl st A n cap) ∧ Hid (RUN = run6 f first st r ∧ r.length < f)) (fun v6 _ _ => szOf v6)
    case atStart => exact ⟨r0, true, ⟨b6, [], false, 0, 0, false⟩, none, 0, 0, tt + 1, by rw [HB00.out], rfl, hb6l, by omega, by have := HR0L.out; omega, HDX0, HRUN0⟩
    case round =>
      clear HDX0 HRUN0 HB00 HR0L hex5
      obtain ⟨r, first, ⟨k, l, fr, id, off, mo⟩, A, n, cap, f0, rfl, rfl, hk, hn8, hr7, HD, HRUN⟩ := hrel
      dsimp only at hk
      clear hb0l hq16 htl hszl hsm hn02l hn04l hb7l hb6l k40 e40s e40i e40j
      obtain ⟨B, hB⟩ : ∃ b, b = str r := ⟨_, rfl⟩
      have hBs : B.size = r.length := by rw [hB, str_size]
      rw [← hB]
      have HB := Lib.hid hB
      have HBS := Lib.hid hBs
      have hBsz : B.size ≤ 70000 := by omega
      clear hB hBs hr7
      have HX := Lib.hid HD.out.box
      have HRES := Lib.hid HD.out.res
      have HOW := Lib.hid HD.out.own
      have hlen := HD.out.len
      have HLEN := Lib.hid hlen
      have HBEL := Lib.hid HD.out.bel
      dsimp only at hlen
      clear hlen
      obtain ⟨f, hf⟩ : ∃ f, f0 = f + 1 := ⟨f0 - 1, by have := HRUN.out.2; omega⟩
      subst hf
      by_cases hO : ¬ hdK k
      · have hk2 : ¬ extK (k : Int) ∧ k ≠ 44 := ⟨fun e => hO (.inl e), fun e => hO (.inr e)⟩
        have hne : (k : Int) ≠ 0 ∧ (k : Int) ≠ 43 ∧ (k : Int) ≠ 60 := by have := hk2.1; unfold extK at this; omega
        have hk44 := hk2.2
        have kz : ((k : Int) == 0) = false := by rw [beq_eq_false_iff_ne]; omega
        have ke : ((k : Int) == 44) = false := by rw [beq_eq_false_iff_ne]; omega
        have kn : ((k : Int) != 44) = true := by rw [bne_iff_ne]; omega
        have HE := Lib.hid (fun (W : World) => show Calls Try.prog 29 #[.int .i64 (k : Int)] W fun e w' => e = .returned (.bool false) ∧ W = w' from by
          have := rextension12_any (k : Int) W
          rwa [decide_eq_false (show ¬ extK (k : Int) by unfold extK; omega)] at this)
        have HF := Lib.hid (show Q = (outX S ⟨k, l, fr, id, off, mo⟩ r, 0) by rw [HRR2.out, HRUN.out.1, run6, if_neg hO]; rfl)
        have x0 := (Cells.cell HX.out 0).trans (show _ = some (Value.int .i64 (C : Int)) from rfl)
        have x1 := (Cells.cell HX.out 1).trans (show _ = some (Value.int .i64 (L : Int)) from rfl)
        have x2 := (Cells.cell HX.out 2).trans (show _ = some (Value.int .i64 (b7 : Int)) from rfl)
        have x3 := (Cells.cell HX.out 3).trans (show _ = some (Value.int .i64 (k : Int)) from rfl)
        have x4 := (Cells.cell HX.out 4).trans (show _ = some (Value.bool true) from rfl)
        have x5 := (Cells.cell HX.out 5).trans (show _ = some (Value.int .u64 (sh : Int)) from rfl)
        have x6 := (Cells.cell HX.out 6).trans (show _ = some (Value.int .u64 (sl : Int)) from rfl)
        have x7 := (Cells.cell HX.out 7).trans (show _ = some (Value.bool true) from rfl)
        have x8 := (Cells.cell HX.out 8).trans (show _ = some (Value.int .u64 (dh : Int)) from rfl)
        have x9 := (Cells.cell HX.out 9).trans (show _ = some (Value.int .u64 (dl : Int)) from rfl)
        have x10 := (Cells.cell HX.out 10).trans (show _ = some (Value.slice A n cap) from rfl)
        have x11 := (Cells.cell HX.out 11).trans (show _ = some (Value.bool fr) from rfl)
        have x12 := (Cells.cell HX.out 12).trans (show _ = some (Value.int .i64 (id : Int)) from rfl)
        have x13 := (Cells.cell HX.out 13).trans (show _ = some (Value.int .i64 (off : Int)) from rfl)
        have x14 := (Cells.cell HX.out 14).trans (show _ = some (Value.bool mo) from rfl)
        have x15 := (Cells.cell HX.out 15).trans (show _ = some (Value.string ⟨#[]⟩) from rfl)
        have z15 := Cells.frozen HX.out 15
        have hgl := HX.out.lt
        clear hO hk2 hne hk44 HRUN HD
        go_wp2_with fail
        refine (HE.out _).mono ?_
        rintro e w5 ⟨rfl, rfl⟩
        go_upto_region 33 with fail
        have HX3 := Lib.hid (HX.out.set 15 (.string B))
        have HR3 := Lib.hid (Cells.far HRES.out (show g0 ≠ g by omega) (i := 15) (.string B))
        have HO3 := Lib.hid (own_setb (i := 15) HOW.out (Nat.lt_succ_self g) (.string B))
        have HB3 := Lib.hid (HBEL.out.setCell (p := ⟨g, 15, none⟩) (show w.heap.size ≤ g by have := HGE.out; omega) (.string B))
        obtain ⟨W9, hW9⟩ : ∃ W, W = wr.setCell ⟨g, 15, none⟩ (.string B) := ⟨_, rfl⟩
        rw [← hW9] at HX3 HR3 HO3 HB3
        rw [← hW9]
        clear hW9 HX HRES HOW HBEL z15 hgl x0 x1 x2 x3 x4 x5 x6 x7 x8 x9 x10 x11 x12 x13 x14 x15
        go_wp2_with (first | (refine wpList_load_row (by rfl) 28 _ (by rfl) g (by rfl) 28 #[.int .i64 (C : Int), .int .i64 (L : Int), .int .i64 (b7 : Int), .int .i64 (k : Int), .bool true, .int .u64 (sh : Int), .int .u64 (sl : Int), .bool true, .int .u64 (dh : Int), .int .u64 (dl : Int), .slice A n cap, .bool fr, .int .i64 (id : Int), .int .i64 (off : Int), .bool mo, .string B] (0, 0) _ HX3.out Try.underlying28 (by rfl) (by kernel_rfl) ?_) | (refine wpList_store_row (by rfl) 28 _ _ (by rfl) g0 #[.int .i64 (C : Int), .int .i64 (L : Int), .int .i64 (b7 : Int), .int .i64 (k : Int), .bool true, .int .u64 (sh : Int), .int .u64 (sl : Int), .bool true, .int .u64 (dh : Int), .int .u64 (dl : Int), .slice A n cap, .bool fr, .int .i64 (id : Int), .int .i64 (off : Int), .bool mo, .string B] (by rfl) (by rfl) 28 #[.int .i64 0, .int .i64 0, .int .i64 0, .int .i64 0, .bool false, .int .u64 0, .int .u64 0, .bool false, .int .u64 0, .int .u64 0, .slice none 0 0, .bool false, .int .i64 0, .int .i64 0, .bool false, .string ⟨#[]⟩] HR3.out (by kernel_rfl) (by rfl) (by simp [Value.oneCell']) ?_))
        refine bodyPost_ret (res_box2 ip6Ty rfl _ _ rfl (HR3.out.row #[.int .i64 (C : Int), .int .i64 (L : Int), .int .i64 (b7 : Int), .int .i64 (k : Int), .bool true, .int .u64 (sh : Int), .int .u64 (sl : Int), .bool true, .int .u64 (dh : Int), .int .u64 (dl : Int), .slice A n cap, .bool fr, .int .i64 (id : Int), .int .i64 (off : Int), .bool mo, .string B])) rfl ?_
        have hRX := rowl_of_own (E := EOpt) (own_row HO3.out (show g0 < g + 1 by omega) #[.int .i64 (C : Int), .int .i64 (L : Int), .int .i64 (b7 : Int), .int .i64 (k : Int), .bool true, .int .u64 (sh : Int), .int .u64 (sl : Int), .bool true, .int .u64 (dh : Int), .int .u64 (dl : Int), .slice A n cap, .bool fr, .int .i64 (id : Int), .int .i64 (off : Int), .bool mo, .string B]) HLEN.out
        obtain ⟨h1, h2, h3, h4, h5, h6, h7, h8⟩ := HHD.out
        rw [HF.out]
        refine ⟨A, cap, ?_, hRX, ?_, below_row HB3.out g0 HGE.out #[.int .i64 (C : Int), .int .i64 (L : Int), .int .i64 (b7 : Int), .int .i64 (k : Int), .bool true, .int .u64 (sh : Int), .int .u64 (sl : Int), .bool true, .int .u64 (dh : Int), .int .u64 (dl : Int), .slice A n cap, .bool fr, .int .i64 (id : Int), .int .i64 (off : Int), .bool mo, .string B]⟩
        · unfold outX
          rw [← h1, ← h2, ← h3, ← h5, ← h6, ← h7, ← h8]
          simp only
          rw [← HLEN.out, ← HB.out]
          rfl
        · intro hA
          have ho := HO3.out
          subst hA
          exact (own_none ho).2
      have hhd : hdK (⟨k, l, fr, id, off, mo⟩ : St6).nx := Classical.not_not.1 hO
      have hcls : (k = 0) ∨ (k = 43 ∨ k = 60) ∨ k = 44 := by have h1 : hdK k := hhd; unfold hdK extK at h1; omega
      clear hO
      by_cases h0f : k = 0 ∧ first = false
      · obtain ⟨h0, hfi⟩ := h0f
        have hbd : bad6 first ⟨k, l, fr, id, off, mo⟩ r = 2 := by
          unfold bad6
          exact if_pos (.inl ⟨h0, hfi⟩)
        have HF := Lib.hid (show Q = (zeroX, 2) by
          have h2 : RUN.2 = 2 := by rw [HRUN.out.1]; exact run6_err hhd hbd (by decide)
          rw [HRR2.out, if_pos (by rw [h2]; decide), h2])
        have kz : ((k : Int) == 0) = true := by simp; omega
        have ke : ((k : Int) == 44) = false := by rw [beq_eq_false_iff_ne]; omega
        have kn : ((k : Int) != 44) = true := by rw [bne_iff_ne]; omega
        have HE := Lib.hid (fun (W : World) => show Calls Try.prog 29 #[.int .i64 (k : Int)] W fun e w' => e = .returned (.bool true) ∧ W = w' from by
          have := rextension12_any (k : Int) W
          rwa [decide_eq_true (show extK (k : Int) by unfold extK; omega)] at this)
        subst hfi
        have x0 := (Cells.cell HX.out 0).trans (show _ = some (Value.int .i64 (C : Int)) from rfl)
        have x1 := (Cells.cell HX.out 1).trans (show _ = some (Value.int .i64 (L : Int)) from rfl)
        have x2 := (Cells.cell HX.out 2).trans (show _ = some (Value.int .i64 (b7 : Int)) from rfl)
        have x3 := (Cells.cell HX.out 3).trans (show _ = some (Value.int .i64 (k : Int)) from rfl)
        have x4 := (Cells.cell HX.out 4).trans (show _ = some (Value.bool true) from rfl)
        have x5 := (Cells.cell HX.out 5).trans (show _ = some (Value.int .u64 (sh : Int)) from rfl)
        have x6 := (Cells.cell HX.out 6).trans (show _ = some (Value.int .u64 (sl : Int)) from rfl)
        have x7 := (Cells.cell HX.out 7).trans (show _ = some (Value.bool true) from rfl)
        have x8 := (Cells.cell HX.out 8).trans (show _ = some (Value.int .u64 (dh : Int)) from rfl)
        have x9 := (Cells.cell HX.out 9).trans (show _ = some (Value.int .u64 (dl : Int)) from rfl)
        have x10 := (Cells.cell HX.out 10).trans (show _ = some (Value.slice A n cap) from rfl)
        have x11 := (Cells.cell HX.out 11).trans (show _ = some (Value.bool fr) from rfl)
        have x12 := (Cells.cell HX.out 12).trans (show _ = some (Value.int .i64 (id : Int)) from rfl)
        have x13 := (Cells.cell HX.out 13).trans (show _ = some (Value.int .i64 (off : Int)) from rfl)
        have x14 := (Cells.cell HX.out 14).trans (show _ = some (Value.bool mo) from rfl)
        have x15 := (Cells.cell HX.out 15).trans (show _ = some (Value.string ⟨#[]⟩) from rfl)
        have hgl := HX.out.lt
        clear h0
        clear HRUN HD hhd hcls hbd
        go_wp2_with fail
        refine (HE.out _).mono ?_
        rintro e w5 ⟨rfl, rfl⟩
        go_upto_region 16 with fail
        go_wp2_with (refine wpList_store_row (by rfl) 28 _ _ (by rfl) g0 #[.int .i64 0, .int .i64 0, .int .i64 0, .int .i64 0, .bool false, .int .u64 0, .int .u64 0, .bool false, .int .u64 0, .int .u64 0, .slice none 0 0, .bool false, .int .i64 0, .int .i64 0, .bool false, .string ⟨#[]⟩] (by rfl) (by rfl) 28 #[.int .i64 0, .int .i64 0, .int .i64 0, .int .i64 0, .bool false, .int .u64 0, .int .u64 0, .bool false, .int .u64 0, .int .u64 0, .slice none 0 0, .bool false, .int .i64 0, .int .i64 0, .bool false, .string ⟨#[]⟩] HRES.out (by kernel_rfl) (by rfl) (by simp [Value.oneCell']) ?_)
        refine bodyPost_ret (res_box2 ip6Ty rfl _ _ rfl (HRES.out.row #[.int .i64 0, .int .i64 0, .int .i64 0, .int .i64 0, .bool false, .int .u64 0, .int .u64 0, .bool false, .int .u64 0, .int .u64 0, .slice none 0 0, .bool false, .int .i64 0, .int .i64 0, .bool false, .string ⟨#[]⟩])) rfl ?_
        exact dec6_err (er := 2) rfl HF.out (below_row HBEL.out g0 HGE.out #[.int .i64 0, .int .i64 0, .int .i64 0, .int .i64 0, .bool false, .int .u64 0, .int .u64 0, .bool false, .int .u64 0, .int .u64 0, .slice none 0 0, .bool false, .int .i64 0, .int .i64 0, .bool false, .string ⟨#[]⟩])
      cases hfr : fr
      rotate_left
      · subst hfr
        have hbd : bad6 first ⟨k, l, true, id, off, mo⟩ r = 2 := by
          unfold bad6
          exact if_pos (.inr rfl)
        have HF := Lib.hid (show Q = (zeroX, 2) by
          have h2 : RUN.2 = 2 := by rw [HRUN.out.1]; exact run6_err hhd hbd (by decide)
          rw [HRR2.out, if_pos (by rw [h2]; decide), h2])
        have hft : k ≠ 0 ∨ first = true := by cases first <;> simp at h0f ⊢; exact h0f
        rcases hcls with h | h | h
        · have kz : ((k : Int) == 0) = true := by simp; omega
          have ke : ((k : Int) == 44) = false := by rw [beq_eq_false_iff_ne]; omega
          have kn : ((k : Int) != 44) = true := by rw [bne_iff_ne]; omega
          have HE := Lib.hid (fun (W : World) => show Calls Try.prog 29 #[.int .i64 (k : Int)] W fun e w' => e = .returned (.bool true) ∧ W = w' from by
            have := rextension12_any (k : Int) W
            rwa [decide_eq_true (show extK (k : Int) by unfold extK; omega)] at this)
          have hf1 : first = true := hft.resolve_left (by omega)
          subst hf1
          have x0 := (Cells.cell HX.out 0).trans (show _ = some (Value.int .i64 (C : Int)) from rfl)
          have x1 := (Cells.cell HX.out 1).trans (show _ = some (Value.int .i64 (L : Int)) from rfl)
          have x2 := (Cells.cell HX.out 2).trans (show _ = some (Value.int .i64 (b7 : Int)) from rfl)
          have x3 := (Cells.cell HX.out 3).trans (show _ = some (Value.int .i64 (k : Int)) from rfl)
          have x4 := (Cells.cell HX.out 4).trans (show _ = some (Value.bool true) from rfl)
          have x5 := (Cells.cell HX.out 5).trans (show _ = some (Value.int .u64 (sh : Int)) from rfl)
          have x6 := (Cells.cell HX.out 6).trans (show _ = some (Value.int .u64 (sl : Int)) from rfl)
          have x7 := (Cells.cell HX.out 7).trans (show _ = some (Value.bool true) from rfl)
          have x8 := (Cells.cell HX.out 8).trans (show _ = some (Value.int .u64 (dh : Int)) from rfl)
          have x9 := (Cells.cell HX.out 9).trans (show _ = some (Value.int .u64 (dl : Int)) from rfl)
          have x10 := (Cells.cell HX.out 10).trans (show _ = some (Value.slice A n cap) from rfl)
          have x11 := (Cells.cell HX.out 11).trans (show _ = some (Value.bool true) from rfl)
          have x12 := (Cells.cell HX.out 12).trans (show _ = some (Value.int .i64 (id : Int)) from rfl)
          have x13 := (Cells.cell HX.out 13).trans (show _ = some (Value.int .i64 (off : Int)) from rfl)
          have x14 := (Cells.cell HX.out 14).trans (show _ = some (Value.bool mo) from rfl)
          have x15 := (Cells.cell HX.out 15).trans (show _ = some (Value.string ⟨#[]⟩) from rfl)
          have hgl := HX.out.lt
          clear HRUN HD hhd hbd h h0f hft
          go_wp2_with fail
          refine (HE.out _).mono ?_
          rintro e w5 ⟨rfl, rfl⟩
          go_upto_region 16 with fail
          go_wp2_with (refine wpList_store_row (by rfl) 28 _ _ (by rfl) g0 #[.int .i64 0, .int .i64 0, .int .i64 0, .int .i64 0, .bool false, .int .u64 0, .int .u64 0, .bool false, .int .u64 0, .int .u64 0, .slice none 0 0, .bool false, .int .i64 0, .int .i64 0, .bool false, .string ⟨#[]⟩] (by rfl) (by rfl) 28 #[.int .i64 0, .int .i64 0, .int .i64 0, .int .i64 0, .bool false, .int .u64 0, .int .u64 0, .bool false, .int .u64 0, .int .u64 0, .slice none 0 0, .bool false, .int .i64 0, .int .i64 0, .bool false, .string ⟨#[]⟩] HRES.out (by kernel_rfl) (by rfl) (by simp [Value.oneCell']) ?_)
          refine bodyPost_ret (res_box2 ip6Ty rfl _ _ rfl (HRES.out.row #[.int .i64 0, .int .i64 0, .int .i64 0, .int .i64 0, .bool false, .int .u64 0, .int .u64 0, .bool false, .int .u64 0, .int .u64 0, .slice none 0 0, .bool false, .int .i64 0, .int .i64 0, .bool false, .string ⟨#[]⟩])) rfl ?_
          exact dec6_err (er := 2) rfl HF.out (below_row HBEL.out g0 HGE.out #[.int .i64 0, .int .i64 0, .int .i64 0, .int .i64 0, .bool false, .int .u64 0, .int .u64 0, .bool false, .int .u64 0, .int .u64 0, .slice none 0 0, .bool false, .int .i64 0, .int .i64 0, .bool false, .string ⟨#[]⟩])
        · have kz : ((k : Int) == 0) = false := by rw [beq_eq_false_iff_ne]; omega
          have ke : ((k : Int) == 44) = false := by rw [beq_eq_false_iff_ne]; omega
          have kn : ((k : Int) != 44) = true := by rw [bne_iff_ne]; omega
          have HE := Lib.hid (fun (W : World) => show Calls Try.prog 29 #[.int .i64 (k : Int)] W fun e w' => e = .returned (.bool true) ∧ W = w' from by
            have := rextension12_any (k : Int) W
            rwa [decide_eq_true (show extK (k : Int) by unfold extK; omega)] at this)
          have x0 := (Cells.cell HX.out 0).trans (show _ = some (Value.int .i64 (C : Int)) from rfl)
          have x1 := (Cells.cell HX.out 1).trans (show _ = some (Value.int .i64 (L : Int)) from rfl)
          have x2 := (Cells.cell HX.out 2).trans (show _ = some (Value.int .i64 (b7 : Int)) from rfl)
          have x3 := (Cells.cell HX.out 3).trans (show _ = some (Value.int .i64 (k : Int)) from rfl)
          have x4 := (Cells.cell HX.out 4).trans (show _ = some (Value.bool true) from rfl)
          have x5 := (Cells.cell HX.out 5).trans (show _ = some (Value.int .u64 (sh : Int)) from rfl)
          have x6 := (Cells.cell HX.out 6).trans (show _ = some (Value.int .u64 (sl : Int)) from rfl)
          have x7 := (Cells.cell HX.out 7).trans (show _ = some (Value.bool true) from rfl)
          have x8 := (Cells.cell HX.out 8).trans (show _ = some (Value.int .u64 (dh : Int)) from rfl)
          have x9 := (Cells.cell HX.out 9).trans (show _ = some (Value.int .u64 (dl : Int)) from rfl)
          have x10 := (Cells.cell HX.out 10).trans (show _ = some (Value.slice A n cap) from rfl)
          have x11 := (Cells.cell HX.out 11).trans (show _ = some (Value.bool true) from rfl)
          have x12 := (Cells.cell HX.out 12).trans (show _ = some (Value.int .i64 (id : Int)) from rfl)
          have x13 := (Cells.cell HX.out 13).trans (show _ = some (Value.int .i64 (off : Int)) from rfl)
          have x14 := (Cells.cell HX.out 14).trans (show _ = some (Value.bool mo) from rfl)
          have x15 := (Cells.cell HX.out 15).trans (show _ = some (Value.string ⟨#[]⟩) from rfl)
          have hgl := HX.out.lt
          clear HRUN HD hhd hbd h h0f hft
          go_wp2_with fail
          refine (HE.out _).mono ?_
          rintro e w5 ⟨rfl, rfl⟩
          go_upto_region 16 with fail
          go_wp2_with (refine wpList_store_row (by rfl) 28 _ _ (by rfl) g0 #[.int .i64 0, .int .i64 0, .int .i64 0, .int .i64 0, .bool false, .int .u64 0, .int .u64 0, .bool false, .int .u64 0, .int .u64 0, .slice none 0 0, .bool false, .int .i64 0, .int .i64 0, .bool false, .string ⟨#[]⟩] (by rfl) (by rfl) 28 #[.int .i64 0, .int .i64 0, .int .i64 0, .int .i64 0, .bool false, .int .u64 0, .int .u64 0, .bool false, .int .u64 0, .int .u64 0, .slice none 0 0, .bool false, .int .i64 0, .int .i64 0, .bool false, .string ⟨#[]⟩] HRES.out (by kernel_rfl) (by rfl) (by simp [Value.oneCell']) ?_)
          refine bodyPost_ret (res_box2 ip6Ty rfl _ _ rfl (HRES.out.row #[.int .i64 0, .int .i64 0, .int .i64 0, .int .i64 0, .bool false, .int .u64 0, .int .u64 0, .bool false, .int .u64 0, .int .u64 0, .slice none 0 0, .bool false, .int .i64 0, .int .i64 0, .bool false, .string ⟨#[]⟩])) rfl ?_
          exact dec6_err (er := 2) rfl HF.out (below_row HBEL.out g0 HGE.out #[.int .i64 0, .int .i64 0, .int .i64 0, .int .i64 0, .bool false, .int .u64 0, .int .u64 0, .bool false, .int .u64 0, .int .u64 0, .slice none 0 0, .bool false, .int .i64 0, .int .i64 0, .bool false, .string ⟨#[]⟩])
        · have kz : ((k : Int) == 0) = false := by rw [beq_eq_false_iff_ne]; omega
          have ke : ((k : Int) == 44) = true := by simp; omega
          have kn : ((k : Int) != 44) = false := by rw [bne_eq_false_iff_eq]; omega
          have HE := Lib.hid (fun (W : World) => show Calls Try.prog 29 #[.int .i64 (k : Int)] W fun e w' => e = .returned (.bool false) ∧ W = w' from by
            have := rextension12_any (k : Int) W
            rwa [decide_eq_false (show ¬ extK (k : Int) by unfold extK; omega)] at this)
          have x0 := (Cells.cell HX.out 0).trans (show _ = some (Value.int .i64 (C : Int)) from rfl)
          have x1 := (Cells.cell HX.out 1).trans (show _ = some (Value.int .i64 (L : Int)) from rfl)
          have x2 := (Cells.cell HX.out 2).trans (show _ = some (Value.int .i64 (b7 : Int)) from rfl)
          have x3 := (Cells.cell HX.out 3).trans (show _ = some (Value.int .i64 (k : Int)) from rfl)
          have x4 := (Cells.cell HX.out 4).trans (show _ = some (Value.bool true) from rfl)
          have x5 := (Cells.cell HX.out 5).trans (show _ = some (Value.int .u64 (sh : Int)) from rfl)
          have x6 := (Cells.cell HX.out 6).trans (show _ = some (Value.int .u64 (sl : Int)) from rfl)
          have x7 := (Cells.cell HX.out 7).trans (show _ = some (Value.bool true) from rfl)
          have x8 := (Cells.cell HX.out 8).trans (show _ = some (Value.int .u64 (dh : Int)) from rfl)
          have x9 := (Cells.cell HX.out 9).trans (show _ = some (Value.int .u64 (dl : Int)) from rfl)
          have x10 := (Cells.cell HX.out 10).trans (show _ = some (Value.slice A n cap) from rfl)
          have x11 := (Cells.cell HX.out 11).trans (show _ = some (Value.bool true) from rfl)
          have x12 := (Cells.cell HX.out 12).trans (show _ = some (Value.int .i64 (id : Int)) from rfl)
          have x13 := (Cells.cell HX.out 13).trans (show _ = some (Value.int .i64 (off : Int)) from rfl)
          have x14 := (Cells.cell HX.out 14).trans (show _ = some (Value.bool mo) from rfl)
          have x15 := (Cells.cell HX.out 15).trans (show _ = some (Value.string ⟨#[]⟩) from rfl)
          have hgl := HX.out.lt
          clear HRUN HD hhd hbd h h0f hft
          go_wp2_with fail
          refine (HE.out _).mono ?_
          rintro e w5 ⟨rfl, rfl⟩
          go_upto_region 16 with fail
          go_wp2_with (refine wpList_store_row (by rfl) 28 _ _ (by rfl) g0 #[.int .i64 0, .int .i64 0, .int .i64 0, .int .i64 0, .bool false, .int .u64 0, .int .u64 0, .bool false, .int .u64 0, .int .u64 0, .slice none 0 0, .bool false, .int .i64 0, .int .i64 0, .bool false, .string ⟨#[]⟩] (by rfl) (by rfl) 28 #[.int .i64 0, .int .i64 0, .int .i64 0, .int .i64 0, .bool false, .int .u64 0, .int .u64 0, .bool false, .int .u64 0, .int .u64 0, .slice none 0 0, .bool false, .int .i64 0, .int .i64 0, .bool false, .string ⟨#[]⟩] HRES.out (by kernel_rfl) (by rfl) (by simp [Value.oneCell']) ?_)
          refine bodyPost_ret (res_box2 ip6Ty rfl _ _ rfl (HRES.out.row #[.int .i64 0, .int .i64 0, .int .i64 0, .int .i64 0, .bool false, .int .u64 0, .int .u64 0, .bool false, .int .u64 0, .int .u64 0, .slice none 0 0, .bool false, .int .i64 0, .int .i64 0, .bool false, .string ⟨#[]⟩])) rfl ?_
          exact dec6_err (er := 2) rfl HF.out (below_row HBEL.out g0 HGE.out #[.int .i64 0, .int .i64 0, .int .i64 0, .int .i64 0, .bool false, .int .u64 0, .int .u64 0, .bool false, .int .u64 0, .int .u64 0, .slice none 0 0, .bool false, .int .i64 0, .int .i64 0, .bool false, .string ⟨#[]⟩])
      subst hfr
      have hft : k ≠ 0 ∨ first = true := by cases first <;> simp at h0f ⊢; exact h0f
      have hn2 : ¬ ((k = 0 ∧ first = false) ∨ false = true) := by rintro (h | h); exact h0f h; cases h
      by_cases h9 : k ≠ 44 ∧ n = 8
      · have hbd : bad6 first ⟨k, l, false, id, off, mo⟩ r = 9 := by
          unfold bad6
          refine (if_neg hn2).trans (if_pos ⟨h9.1, HLEN.out.symm.trans h9.2⟩)
        have HF := Lib.hid (show Q = (zeroX, 9) by
          have h2 : RUN.2 = 9 := by rw [HRUN.out.1]; exact run6_err hhd hbd (by decide)
          rw [HRR2.out, if_pos (by rw [h2]; decide), h2])
        have n8 : ((n : Int) == 8) = true := by have := h9.2; simp; omega
        rcases hcls with h | h | h
        · have kz : ((k : Int) == 0) = true := by simp; omega
          have ke : ((k : Int) == 44) = false := by rw [beq_eq_false_iff_ne]; omega
          have kn : ((k : Int) != 44) = true := by rw [bne_iff_ne]; omega
          have HE := Lib.hid (fun (W : World) => show Calls Try.prog 29 #[.int .i64 (k : Int)] W fun e w' => e = .returned (.bool true) ∧ W = w' from by
            have := rextension12_any (k : Int) W
            rwa [decide_eq_true (show extK (k : Int) by unfold extK; omega)] at this)
          have hf1 : first = true := hft.resolve_left (by omega)
          subst hf1
          have x0 := (Cells.cell HX.out 0).trans (show _ = some (Value.int .i64 (C : Int)) from rfl)
          have x1 := (Cells.cell HX.out 1).trans (show _ = some (Value.int .i64 (L : Int)) from rfl)
          have x2 := (Cells.cell HX.out 2).trans (show _ = some (Value.int .i64 (b7 : Int)) from rfl)
          have x3 := (Cells.cell HX.out 3).trans (show _ = some (Value.int .i64 (k : Int)) from rfl)
          have x4 := (Cells.cell HX.out 4).trans (show _ = some (Value.bool true) from rfl)
          have x5 := (Cells.cell HX.out 5).trans (show _ = some (Value.int .u64 (sh : Int)) from rfl)
          have x6 := (Cells.cell HX.out 6).trans (show _ = some (Value.int .u64 (sl : Int)) from rfl)
          have x7 := (Cells.cell HX.out 7).trans (show _ = some (Value.bool true) from rfl)
          have x8 := (Cells.cell HX.out 8).trans (show _ = some (Value.int .u64 (dh : Int)) from rfl)
          have x9 := (Cells.cell HX.out 9).trans (show _ = some (Value.int .u64 (dl : Int)) from rfl)
          have x10 := (Cells.cell HX.out 10).trans (show _ = some (Value.slice A n cap) from rfl)
          have x11 := (Cells.cell HX.out 11).trans (show _ = some (Value.bool false) from rfl)
          have x12 := (Cells.cell HX.out 12).trans (show _ = some (Value.int .i64 (id : Int)) from rfl)
          have x13 := (Cells.cell HX.out 13).trans (show _ = some (Value.int .i64 (off : Int)) from rfl)
          have x14 := (Cells.cell HX.out 14).trans (show _ = some (Value.bool mo) from rfl)
          have x15 := (Cells.cell HX.out 15).trans (show _ = some (Value.string ⟨#[]⟩) from rfl)
          have hgl := HX.out.lt
          clear HRUN HD hhd hbd h h0f hft h9 hn2
          go_wp2_with fail
          refine (HE.out _).mono ?_
          rintro e w5 ⟨rfl, rfl⟩
          go_upto_region 18 with fail
          go_wp2_with (refine wpList_store_row (by rfl) 28 _ _ (by rfl) g0 #[.int .i64 0, .int .i64 0, .int .i64 0, .int .i64 0, .bool false, .int .u64 0, .int .u64 0, .bool false, .int .u64 0, .int .u64 0, .slice none 0 0, .bool false, .int .i64 0, .int .i64 0, .bool false, .string ⟨#[]⟩] (by rfl) (by rfl) 28 #[.int .i64 0, .int .i64 0, .int .i64 0, .int .i64 0, .bool false, .int .u64 0, .int .u64 0, .bool false, .int .u64 0, .int .u64 0, .slice none 0 0, .bool false, .int .i64 0, .int .i64 0, .bool false, .string ⟨#[]⟩] HRES.out (by kernel_rfl) (by rfl) (by simp [Value.oneCell']) ?_)
          refine bodyPost_ret (res_box2 ip6Ty rfl _ _ rfl (HRES.out.row #[.int .i64 0, .int .i64 0, .int .i64 0, .int .i64 0, .bool false, .int .u64 0, .int .u64 0, .bool false, .int .u64 0, .int .u64 0, .slice none 0 0, .bool false, .int .i64 0, .int .i64 0, .bool false, .string ⟨#[]⟩])) rfl ?_
          exact dec6_err (er := 9) rfl HF.out (below_row HBEL.out g0 HGE.out #[.int .i64 0, .int .i64 0, .int .i64 0, .int .i64 0, .bool false, .int .u64 0, .int .u64 0, .bool false, .int .u64 0, .int .u64 0, .slice none 0 0, .bool false, .int .i64 0, .int .i64 0, .bool false, .string ⟨#[]⟩])
        · have kz : ((k : Int) == 0) = false := by rw [beq_eq_false_iff_ne]; omega
          have ke : ((k : Int) == 44) = false := by rw [beq_eq_false_iff_ne]; omega
          have kn : ((k : Int) != 44) = true := by rw [bne_iff_ne]; omega
          have HE := Lib.hid (fun (W : World) => show Calls Try.prog 29 #[.int .i64 (k : Int)] W fun e w' => e = .returned (.bool true) ∧ W = w' from by
            have := rextension12_any (k : Int) W
            rwa [decide_eq_true (show extK (k : Int) by unfold extK; omega)] at this)
          have x0 := (Cells.cell HX.out 0).trans (show _ = some (Value.int .i64 (C : Int)) from rfl)
          have x1 := (Cells.cell HX.out 1).trans (show _ = some (Value.int .i64 (L : Int)) from rfl)
          have x2 := (Cells.cell HX.out 2).trans (show _ = some (Value.int .i64 (b7 : Int)) from rfl)
          have x3 := (Cells.cell HX.out 3).trans (show _ = some (Value.int .i64 (k : Int)) from rfl)
          have x4 := (Cells.cell HX.out 4).trans (show _ = some (Value.bool true) from rfl)
          have x5 := (Cells.cell HX.out 5).trans (show _ = some (Value.int .u64 (sh : Int)) from rfl)
          have x6 := (Cells.cell HX.out 6).trans (show _ = some (Value.int .u64 (sl : Int)) from rfl)
          have x7 := (Cells.cell HX.out 7).trans (show _ = some (Value.bool true) from rfl)
          have x8 := (Cells.cell HX.out 8).trans (show _ = some (Value.int .u64 (dh : Int)) from rfl)
          have x9 := (Cells.cell HX.out 9).trans (show _ = some (Value.int .u64 (dl : Int)) from rfl)
          have x10 := (Cells.cell HX.out 10).trans (show _ = some (Value.slice A n cap) from rfl)
          have x11 := (Cells.cell HX.out 11).trans (show _ = some (Value.bool false) from rfl)
          have x12 := (Cells.cell HX.out 12).trans (show _ = some (Value.int .i64 (id : Int)) from rfl)
          have x13 := (Cells.cell HX.out 13).trans (show _ = some (Value.int .i64 (off : Int)) from rfl)
          have x14 := (Cells.cell HX.out 14).trans (show _ = some (Value.bool mo) from rfl)
          have x15 := (Cells.cell HX.out 15).trans (show _ = some (Value.string ⟨#[]⟩) from rfl)
          have hgl := HX.out.lt
          clear HRUN HD hhd hbd h h0f hft h9 hn2
          go_wp2_with fail
          refine (HE.out _).mono ?_
          rintro e w5 ⟨rfl, rfl⟩
          go_upto_region 18 with fail
          go_wp2_with (refine wpList_store_row (by rfl) 28 _ _ (by rfl) g0 #[.int .i64 0, .int .i64 0, .int .i64 0, .int .i64 0, .bool false, .int .u64 0, .int .u64 0, .bool false, .int .u64 0, .int .u64 0, .slice none 0 0, .bool false, .int .i64 0, .int .i64 0, .bool false, .string ⟨#[]⟩] (by rfl) (by rfl) 28 #[.int .i64 0, .int .i64 0, .int .i64 0, .int .i64 0, .bool false, .int .u64 0, .int .u64 0, .bool false, .int .u64 0, .int .u64 0, .slice none 0 0, .bool false, .int .i64 0, .int .i64 0, .bool false, .string ⟨#[]⟩] HRES.out (by kernel_rfl) (by rfl) (by simp [Value.oneCell']) ?_)
          refine bodyPost_ret (res_box2 ip6Ty rfl _ _ rfl (HRES.out.row #[.int .i64 0, .int .i64 0, .int .i64 0, .int .i64 0, .bool false, .int .u64 0, .int .u64 0, .bool false, .int .u64 0, .int .u64 0, .slice none 0 0, .bool false, .int .i64 0, .int .i64 0, .bool false, .string ⟨#[]⟩])) rfl ?_
          exact dec6_err (er := 9) rfl HF.out (below_row HBEL.out g0 HGE.out #[.int .i64 0, .int .i64 0, .int .i64 0, .int .i64 0, .bool false, .int .u64 0, .int .u64 0, .bool false, .int .u64 0, .int .u64 0, .slice none 0 0, .bool false, .int .i64 0, .int .i64 0, .bool false, .string ⟨#[]⟩])
        · exact absurd h h9.1
      have hn9 : ¬ (k ≠ 44 ∧ l.length = 8) := by rw [← show n = l.length from HLEN.out]; exact h9
      by_cases h8 : B.size < 8
      · have hbd : bad6 first ⟨k, l, false, id, off, mo⟩ r = 1 := by
          unfold bad6
          refine (if_neg hn2).trans ((if_neg hn9).trans (if_pos (.inl (by have := HBS.out; omega))))
        have HF := Lib.hid (show Q = (zeroX, 1) by
          have h2 : RUN.2 = 1 := by rw [HRUN.out.1]; exact run6_err hhd hbd (by decide)
          rw [HRR2.out, if_pos (by rw [h2]; decide), h2])
        have q8 : (B.size : Int) < 8 := by omega
        have p8 : decide ((B.size : Int) < 8) = true := by simp; omega
        rcases hcls with h | h | h
        · have n8 : ((n : Int) == 8) = false := by rw [beq_eq_false_iff_ne]; omega
          have kz : ((k : Int) == 0) = true := by simp; omega
          have ke : ((k : Int) == 44) = false := by rw [beq_eq_false_iff_ne]; omega
          have kn : ((k : Int) != 44) = true := by rw [bne_iff_ne]; omega
          have HE := Lib.hid (fun (W : World) => show Calls Try.prog 29 #[.int .i64 (k : Int)] W fun e w' => e = .returned (.bool true) ∧ W = w' from by
            have := rextension12_any (k : Int) W
            rwa [decide_eq_true (show extK (k : Int) by unfold extK; omega)] at this)
          have hf1 : first = true := hft.resolve_left (by omega)
          subst hf1
          have x0 := (Cells.cell HX.out 0).trans (show _ = some (Value.int .i64 (C : Int)) from rfl)
          have x1 := (Cells.cell HX.out 1).trans (show _ = some (Value.int .i64 (L : Int)) from rfl)
          have x2 := (Cells.cell HX.out 2).trans (show _ = some (Value.int .i64 (b7 : Int)) from rfl)
          have x3 := (Cells.cell HX.out 3).trans (show _ = some (Value.int .i64 (k : Int)) from rfl)
          have x4 := (Cells.cell HX.out 4).trans (show _ = some (Value.bool true) from rfl)
          have x5 := (Cells.cell HX.out 5).trans (show _ = some (Value.int .u64 (sh : Int)) from rfl)
          have x6 := (Cells.cell HX.out 6).trans (show _ = some (Value.int .u64 (sl : Int)) from rfl)
          have x7 := (Cells.cell HX.out 7).trans (show _ = some (Value.bool true) from rfl)
          have x8 := (Cells.cell HX.out 8).trans (show _ = some (Value.int .u64 (dh : Int)) from rfl)
          have x9 := (Cells.cell HX.out 9).trans (show _ = some (Value.int .u64 (dl : Int)) from rfl)
          have x10 := (Cells.cell HX.out 10).trans (show _ = some (Value.slice A n cap) from rfl)
          have x11 := (Cells.cell HX.out 11).trans (show _ = some (Value.bool false) from rfl)
          have x12 := (Cells.cell HX.out 12).trans (show _ = some (Value.int .i64 (id : Int)) from rfl)
          have x13 := (Cells.cell HX.out 13).trans (show _ = some (Value.int .i64 (off : Int)) from rfl)
          have x14 := (Cells.cell HX.out 14).trans (show _ = some (Value.bool mo) from rfl)
          have x15 := (Cells.cell HX.out 15).trans (show _ = some (Value.string ⟨#[]⟩) from rfl)
          have hgl := HX.out.lt
          clear HRUN HD hhd hbd h h0f hft h9 hn2 hn9 h8
          go_wp2_with fail
          refine (HE.out _).mono ?_
          rintro e w5 ⟨rfl, rfl⟩
          go_upto_region 20 with fail
          go_wp2_with (refine wpList_store_row (by rfl) 28 _ _ (by rfl) g0 #[.int .i64 0, .int .i64 0, .int .i64 0, .int .i64 0, .bool false, .int .u64 0, .int .u64 0, .bool false, .int .u64 0, .int .u64 0, .slice none 0 0, .bool false, .int .i64 0, .int .i64 0, .bool false, .string ⟨#[]⟩] (by rfl) (by rfl) 28 #[.int .i64 0, .int .i64 0, .int .i64 0, .int .i64 0, .bool false, .int .u64 0, .int .u64 0, .bool false, .int .u64 0, .int .u64 0, .slice none 0 0, .bool false, .int .i64 0, .int .i64 0, .bool false, .string ⟨#[]⟩] HRES.out (by kernel_rfl) (by rfl) (by simp [Value.oneCell']) ?_)
          refine bodyPost_ret (res_box2 ip6Ty rfl _ _ rfl (HRES.out.row #[.int .i64 0, .int .i64 0, .int .i64 0, .int .i64 0, .bool false, .int .u64 0, .int .u64 0, .bool false, .int .u64 0, .int .u64 0, .slice none 0 0, .bool false, .int .i64 0, .int .i64 0, .bool false, .string ⟨#[]⟩])) rfl ?_
          exact dec6_err (er := 1) rfl HF.out (below_row HBEL.out g0 HGE.out #[.int .i64 0, .int .i64 0, .int .i64 0, .int .i64 0, .bool false, .int .u64 0, .int .u64 0, .bool false, .int .u64 0, .int .u64 0, .slice none 0 0, .bool false, .int .i64 0, .int .i64 0, .bool false, .string ⟨#[]⟩])
        · have n8 : ((n : Int) == 8) = false := by rw [beq_eq_false_iff_ne]; omega
          have kz : ((k : Int) == 0) = false := by rw [beq_eq_false_iff_ne]; omega
          have ke : ((k : Int) == 44) = false := by rw [beq_eq_false_iff_ne]; omega
          have kn : ((k : Int) != 44) = true := by rw [bne_iff_ne]; omega
          have HE := Lib.hid (fun (W : World) => show Calls Try.prog 29 #[.int .i64 (k : Int)] W fun e w' => e = .returned (.bool true) ∧ W = w' from by
            have := rextension12_any (k : Int) W
            rwa [decide_eq_true (show extK (k : Int) by unfold extK; omega)] at this)
          have x0 := (Cells.cell HX.out 0).trans (show _ = some (Value.int .i64 (C : Int)) from rfl)
          have x1 := (Cells.cell HX.out 1).trans (show _ = some (Value.int .i64 (L : Int)) from rfl)
          have x2 := (Cells.cell HX.out 2).trans (show _ = some (Value.int .i64 (b7 : Int)) from rfl)
          have x3 := (Cells.cell HX.out 3).trans (show _ = some (Value.int .i64 (k : Int)) from rfl)
          have x4 := (Cells.cell HX.out 4).trans (show _ = some (Value.bool true) from rfl)
          have x5 := (Cells.cell HX.out 5).trans (show _ = some (Value.int .u64 (sh : Int)) from rfl)
          have x6 := (Cells.cell HX.out 6).trans (show _ = some (Value.int .u64 (sl : Int)) from rfl)
          have x7 := (Cells.cell HX.out 7).trans (show _ = some (Value.bool true) from rfl)
          have x8 := (Cells.cell HX.out 8).trans (show _ = some (Value.int .u64 (dh : Int)) from rfl)
          have x9 := (Cells.cell HX.out 9).trans (show _ = some (Value.int .u64 (dl : Int)) from rfl)
          have x10 := (Cells.cell HX.out 10).trans (show _ = some (Value.slice A n cap) from rfl)
          have x11 := (Cells.cell HX.out 11).trans (show _ = some (Value.bool false) from rfl)
          have x12 := (Cells.cell HX.out 12).trans (show _ = some (Value.int .i64 (id : Int)) from rfl)
          have x13 := (Cells.cell HX.out 13).trans (show _ = some (Value.int .i64 (off : Int)) from rfl)
          have x14 := (Cells.cell HX.out 14).trans (show _ = some (Value.bool mo) from rfl)
          have x15 := (Cells.cell HX.out 15).trans (show _ = some (Value.string ⟨#[]⟩) from rfl)
          have hgl := HX.out.lt
          clear HRUN HD hhd hbd h h0f hft h9 hn2 hn9 h8
          go_wp2_with fail
          refine (HE.out _).mono ?_
          rintro e w5 ⟨rfl, rfl⟩
          go_upto_region 20 with fail
          go_wp2_with (refine wpList_store_row (by rfl) 28 _ _ (by rfl) g0 #[.int .i64 0, .int .i64 0, .int .i64 0, .int .i64 0, .bool false, .int .u64 0, .int .u64 0, .bool false, .int .u64 0, .int .u64 0, .slice none 0 0, .bool false, .int .i64 0, .int .i64 0, .bool false, .string ⟨#[]⟩] (by rfl) (by rfl) 28 #[.int .i64 0, .int .i64 0, .int .i64 0, .int .i64 0, .bool false, .int .u64 0, .int .u64 0, .bool false, .int .u64 0, .int .u64 0, .slice none 0 0, .bool false, .int .i64 0, .int .i64 0, .bool false, .string ⟨#[]⟩] HRES.out (by kernel_rfl) (by rfl) (by simp [Value.oneCell']) ?_)
          refine bodyPost_ret (res_box2 ip6Ty rfl _ _ rfl (HRES.out.row #[.int .i64 0, .int .i64 0, .int .i64 0, .int .i64 0, .bool false, .int .u64 0, .int .u64 0, .bool false, .int .u64 0, .int .u64 0, .slice none 0 0, .bool false, .int .i64 0, .int .i64 0, .bool false, .string ⟨#[]⟩])) rfl ?_
          exact dec6_err (er := 1) rfl HF.out (below_row HBEL.out g0 HGE.out #[.int .i64 0, .int .i64 0, .int .i64 0, .int .i64 0, .bool false, .int .u64 0, .int .u64 0, .bool false, .int .u64 0, .int .u64 0, .slice none 0 0, .bool false, .int .i64 0, .int .i64 0, .bool false, .string ⟨#[]⟩])
        · have kz : ((k : Int) == 0) = false := by rw [beq_eq_false_iff_ne]; omega
          have ke : ((k : Int) == 44) = true := by simp; omega
          have kn : ((k : Int) != 44) = false := by rw [bne_eq_false_iff_eq]; omega
          have HE := Lib.hid (fun (W : World) => show Calls Try.prog 29 #[.int .i64 (k : Int)] W fun e w' => e = .returned (.bool false) ∧ W = w' from by
            have := rextension12_any (k : Int) W
            rwa [decide_eq_false (show ¬ extK (k : Int) by unfold extK; omega)] at this)
          have x0 := (Cells.cell HX.out 0).trans (show _ = some (Value.int .i64 (C : Int)) from rfl)
          have x1 := (Cells.cell HX.out 1).trans (show _ = some (Value.int .i64 (L : Int)) from rfl)
          have x2 := (Cells.cell HX.out 2).trans (show _ = some (Value.int .i64 (b7 : Int)) from rfl)
          have x3 := (Cells.cell HX.out 3).trans (show _ = some (Value.int .i64 (k : Int)) from rfl)
          have x4 := (Cells.cell HX.out 4).trans (show _ = some (Value.bool true) from rfl)
          have x5 := (Cells.cell HX.out 5).trans (show _ = some (Value.int .u64 (sh : Int)) from rfl)
          have x6 := (Cells.cell HX.out 6).trans (show _ = some (Value.int .u64 (sl : Int)) from rfl)
          have x7 := (Cells.cell HX.out 7).trans (show _ = some (Value.bool true) from rfl)
          have x8 := (Cells.cell HX.out 8).trans (show _ = some (Value.int .u64 (dh : Int)) from rfl)
          have x9 := (Cells.cell HX.out 9).trans (show _ = some (Value.int .u64 (dl : Int)) from rfl)
          have x10 := (Cells.cell HX.out 10).trans (show _ = some (Value.slice A n cap) from rfl)
          have x11 := (Cells.cell HX.out 11).trans (show _ = some (Value.bool false) from rfl)
          have x12 := (Cells.cell HX.out 12).trans (show _ = some (Value.int .i64 (id : Int)) from rfl)
          have x13 := (Cells.cell HX.out 13).trans (show _ = some (Value.int .i64 (off : Int)) from rfl)
          have x14 := (Cells.cell HX.out 14).trans (show _ = some (Value.bool mo) from rfl)
          have x15 := (Cells.cell HX.out 15).trans (show _ = some (Value.string ⟨#[]⟩) from rfl)
          have hgl := HX.out.lt
          clear HRUN HD hhd hbd h h0f hft h9 hn2 hn9 h8
          go_wp2_with fail
          refine (HE.out _).mono ?_
          rintro e w5 ⟨rfl, rfl⟩
          go_upto_region 20 with fail
          go_wp2_with (refine wpList_store_row (by rfl) 28 _ _ (by rfl) g0 #[.int .i64 0, .int .i64 0, .int .i64 0, .int .i64 0, .bool false, .int .u64 0, .int .u64 0, .bool false, .int .u64 0, .int .u64 0, .slice none 0 0, .bool false, .int .i64 0, .int .i64 0, .bool false, .string ⟨#[]⟩] (by rfl) (by rfl) 28 #[.int .i64 0, .int .i64 0, .int .i64 0, .int .i64 0, .bool false, .int .u64 0, .int .u64 0, .bool false, .int .u64 0, .int .u64 0, .slice none 0 0, .bool false, .int .i64 0, .int .i64 0, .bool false, .string ⟨#[]⟩] HRES.out (by kernel_rfl) (by rfl) (by simp [Value.oneCell']) ?_)
          refine bodyPost_ret (res_box2 ip6Ty rfl _ _ rfl (HRES.out.row #[.int .i64 0, .int .i64 0, .int .i64 0, .int .i64 0, .bool false, .int .u64 0, .int .u64 0, .bool false, .int .u64 0, .int .u64 0, .slice none 0 0, .bool false, .int .i64 0, .int .i64 0, .bool false, .string ⟨#[]⟩])) rfl ?_
          exact dec6_err (er := 1) rfl HF.out (below_row HBEL.out g0 HGE.out #[.int .i64 0, .int .i64 0, .int .i64 0, .int .i64 0, .bool false, .int .u64 0, .int .u64 0, .bool false, .int .u64 0, .int .u64 0, .slice none 0 0, .bool false, .int .i64 0, .int .i64 0, .bool false, .string ⟨#[]⟩])
      have q8 : ¬ (B.size : Int) < 8 := by omega
      have p8 : decide ((B.size : Int) < 8) = false := by simp; omega
      have hB0 : 0 < B.size := by omega
      have hB1 : 1 < B.size := by omega
      have jB0 : (0 : Int) < (B.size : Int) := by omega
      have jB1 : (1 : Int) < (B.size : Int) := by omega
      obtain ⟨b1, hb1⟩ : ∃ b, b = (B[1]'hB1).toNat := ⟨_, rfl⟩
      have hx1 := s0_at HB.out 1 hB1
      rw [← hb1] at hx1
      have hb1l : b1 < 256 := by rw [hb1]; exact u8_lt _
      have hb1' : (((B[1]'hB1).toNat : Nat) : Int) = (b1 : Int) := by rw [hb1]
      obtain ⟨m0, hm0⟩ : ∃ m, m = 8 * b1 := ⟨_, rfl⟩
      obtain ⟨m, hm⟩ : ∃ m, m = 8 + m0 := ⟨_, rfl⟩
      have km0 : (8 : Int) * (b1 : Int) = (m0 : Int) := by omega
      have km : (8 : Int) + (m0 : Int) = (m : Int) := by omega
      have ub1 : IntKind.i64.wrap (b1 : Int) = (b1 : Int) := by rw [IntKind.wrap_i64]; omega
      have hml : m ≤ 2048 := by omega
      have hm8 : 8 + 8 * byt r 1 = m := by rw [← hx1]; omega
      clear hm0 hb1
      by_cases h7 : k ≠ 44 ∧ B.size < m
      · have hbd : bad6 first ⟨k, l, false, id, off, mo⟩ r = 1 := by
          unfold bad6
          refine (if_neg hn2).trans ((if_neg hn9).trans (if_pos (.inr ⟨h7.1, by rw [hm8]; have := HBS.out; have := h7.2; omega⟩)))
        have HF := Lib.hid (show Q = (zeroX, 1) by
          have h2 : RUN.2 = 1 := by rw [HRUN.out.1]; exact run6_err hhd hbd (by decide)
          rw [HRR2.out, if_pos (by rw [h2]; decide), h2])
        have q7 : (B.size : Int) < (m : Int) := by have := h7.2; omega
        have p7 : decide ((B.size : Int) < (m : Int)) = true := by have := h7.2; simp; omega
        rcases hcls with h | h | h
        · have n8 : ((n : Int) == 8) = false := by rw [beq_eq_false_iff_ne]; omega
          have kz : ((k : Int) == 0) = true := by simp; omega
          have ke : ((k : Int) == 44) = false := by rw [beq_eq_false_iff_ne]; omega
          have kn : ((k : Int) != 44) = true := by rw [bne_iff_ne]; omega
          have HE := Lib.hid (fun (W : World) => show Calls Try.prog 29 #[.int .i64 (k : Int)] W fun e w' => e = .returned (.bool true) ∧ W = w' from by
            have := rextension12_any (k : Int) W
            rwa [decide_eq_true (show extK (k : Int) by unfold extK; omega)] at this)
          have hf1 : first = true := hft.resolve_left (by omega)
          subst hf1
          have x0 := (Cells.cell HX.out 0).trans (show _ = some (Value.int .i64 (C : Int)) from rfl)
          have x1 := (Cells.cell HX.out 1).trans (show _ = some (Value.int .i64 (L : Int)) from rfl)
          have x2 := (Cells.cell HX.out 2).trans (show _ = some (Value.int .i64 (b7 : Int)) from rfl)
          have x3 := (Cells.cell HX.out 3).trans (show _ = some (Value.int .i64 (k : Int)) from rfl)
          have x4 := (Cells.cell HX.out 4).trans (show _ = some (Value.bool true) from rfl)
          have x5 := (Cells.cell HX.out 5).trans (show _ = some (Value.int .u64 (sh : Int)) from rfl)
          have x6 := (Cells.cell HX.out 6).trans (show _ = some (Value.int .u64 (sl : Int)) from rfl)
          have x7 := (Cells.cell HX.out 7).trans (show _ = some (Value.bool true) from rfl)
          have x8 := (Cells.cell HX.out 8).trans (show _ = some (Value.int .u64 (dh : Int)) from rfl)
          have x9 := (Cells.cell HX.out 9).trans (show _ = some (Value.int .u64 (dl : Int)) from rfl)
          have x10 := (Cells.cell HX.out 10).trans (show _ = some (Value.slice A n cap) from rfl)
          have x11 := (Cells.cell HX.out 11).trans (show _ = some (Value.bool false) from rfl)
          have x12 := (Cells.cell HX.out 12).trans (show _ = some (Value.int .i64 (id : Int)) from rfl)
          have x13 := (Cells.cell HX.out 13).trans (show _ = some (Value.int .i64 (off : Int)) from rfl)
          have x14 := (Cells.cell HX.out 14).trans (show _ = some (Value.bool mo) from rfl)
          have x15 := (Cells.cell HX.out 15).trans (show _ = some (Value.string ⟨#[]⟩) from rfl)
          have hgl := HX.out.lt
          clear HRUN HD hhd hbd h h0f hft h9 hn2 hn9 h8 h7 hx1 hm8 hm
          go_wp2_with fail
          refine (HE.out _).mono ?_
          rintro e w5 ⟨rfl, rfl⟩
          go_upto_region 20 with fail
          go_wp2_with (refine wpList_store_row (by rfl) 28 _ _ (by rfl) g0 #[.int .i64 0, .int .i64 0, .int .i64 0, .int .i64 0, .bool false, .int .u64 0, .int .u64 0, .bool false, .int .u64 0, .int .u64 0, .slice none 0 0, .bool false, .int .i64 0, .int .i64 0, .bool false, .string ⟨#[]⟩] (by rfl) (by rfl) 28 #[.int .i64 0, .int .i64 0, .int .i64 0, .int .i64 0, .bool false, .int .u64 0, .int .u64 0, .bool false, .int .u64 0, .int .u64 0, .slice none 0 0, .bool false, .int .i64 0, .int .i64 0, .bool false, .string ⟨#[]⟩] HRES.out (by kernel_rfl) (by rfl) (by simp [Value.oneCell']) ?_)
          refine bodyPost_ret (res_box2 ip6Ty rfl _ _ rfl (HRES.out.row #[.int .i64 0, .int .i64 0, .int .i64 0, .int .i64 0, .bool false, .int .u64 0, .int .u64 0, .bool false, .int .u64 0, .int .u64 0, .slice none 0 0, .bool false, .int .i64 0, .int .i64 0, .bool false, .string ⟨#[]⟩])) rfl ?_
          exact dec6_err (er := 1) rfl HF.out (below_row HBEL.out g0 HGE.out #[.int .i64 0, .int .i64 0, .int .i64 0, .int .i64 0, .bool false, .int .u64 0, .int .u64 0, .bool false, .int .u64 0, .int .u64 0, .slice none 0 0, .bool false, .int .i64 0, .int .i64 0, .bool false, .string ⟨#[]⟩])
        · have n8 : ((n : Int) == 8) = false := by rw [beq_eq_false_iff_ne]; omega
          have kz : ((k : Int) == 0) = false := by rw [beq_eq_false_iff_ne]; omega
          have ke : ((k : Int) == 44) = false := by rw [beq_eq_false_iff_ne]; omega
          have kn : ((k : Int) != 44) = true := by rw [bne_iff_ne]; omega
          have HE := Lib.hid (fun (W : World) => show Calls Try.prog 29 #[.int .i64 (k : Int)] W fun e w' => e = .returned (.bool true) ∧ W = w' from by
            have := rextension12_any (k : Int) W
            rwa [decide_eq_true (show extK (k : Int) by unfold extK; omega)] at this)
          have x0 := (Cells.cell HX.out 0).trans (show _ = some (Value.int .i64 (C : Int)) from rfl)
          have x1 := (Cells.cell HX.out 1).trans (show _ = some (Value.int .i64 (L : Int)) from rfl)
          have x2 := (Cells.cell HX.out 2).trans (show _ = some (Value.int .i64 (b7 : Int)) from rfl)
          have x3 := (Cells.cell HX.out 3).trans (show _ = some (Value.int .i64 (k : Int)) from rfl)
          have x4 := (Cells.cell HX.out 4).trans (show _ = some (Value.bool true) from rfl)
          have x5 := (Cells.cell HX.out 5).trans (show _ = some (Value.int .u64 (sh : Int)) from rfl)
          have x6 := (Cells.cell HX.out 6).trans (show _ = some (Value.int .u64 (sl : Int)) from rfl)
          have x7 := (Cells.cell HX.out 7).trans (show _ = some (Value.bool true) from rfl)
          have x8 := (Cells.cell HX.out 8).trans (show _ = some (Value.int .u64 (dh : Int)) from rfl)
          have x9 := (Cells.cell HX.out 9).trans (show _ = some (Value.int .u64 (dl : Int)) from rfl)
          have x10 := (Cells.cell HX.out 10).trans (show _ = some (Value.slice A n cap) from rfl)
          have x11 := (Cells.cell HX.out 11).trans (show _ = some (Value.bool false) from rfl)
          have x12 := (Cells.cell HX.out 12).trans (show _ = some (Value.int .i64 (id : Int)) from rfl)
          have x13 := (Cells.cell HX.out 13).trans (show _ = some (Value.int .i64 (off : Int)) from rfl)
          have x14 := (Cells.cell HX.out 14).trans (show _ = some (Value.bool mo) from rfl)
          have x15 := (Cells.cell HX.out 15).trans (show _ = some (Value.string ⟨#[]⟩) from rfl)
          have hgl := HX.out.lt
          clear HRUN HD hhd hbd h h0f hft h9 hn2 hn9 h8 h7 hx1 hm8 hm
          go_wp2_with fail
          refine (HE.out _).mono ?_
          rintro e w5 ⟨rfl, rfl⟩
          go_upto_region 20 with fail
          go_wp2_with (refine wpList_store_row (by rfl) 28 _ _ (by rfl) g0 #[.int .i64 0, .int .i64 0, .int .i64 0, .int .i64 0, .bool false, .int .u64 0, .int .u64 0, .bool false, .int .u64 0, .int .u64 0, .slice none 0 0, .bool false, .int .i64 0, .int .i64 0, .bool false, .string ⟨#[]⟩] (by rfl) (by rfl) 28 #[.int .i64 0, .int .i64 0, .int .i64 0, .int .i64 0, .bool false, .int .u64 0, .int .u64 0, .bool false, .int .u64 0, .int .u64 0, .slice none 0 0, .bool false, .int .i64 0, .int .i64 0, .bool false, .string ⟨#[]⟩] HRES.out (by kernel_rfl) (by rfl) (by simp [Value.oneCell']) ?_)
          refine bodyPost_ret (res_box2 ip6Ty rfl _ _ rfl (HRES.out.row #[.int .i64 0, .int .i64 0, .int .i64 0, .int .i64 0, .bool false, .int .u64 0, .int .u64 0, .bool false, .int .u64 0, .int .u64 0, .slice none 0 0, .bool false, .int .i64 0, .int .i64 0, .bool false, .string ⟨#[]⟩])) rfl ?_
          exact dec6_err (er := 1) rfl HF.out (below_row HBEL.out g0 HGE.out #[.int .i64 0, .int .i64 0, .int .i64 0, .int .i64 0, .bool false, .int .u64 0, .int .u64 0, .bool false, .int .u64 0, .int .u64 0, .slice none 0 0, .bool false, .int .i64 0, .int .i64 0, .bool false, .string ⟨#[]⟩])
        · exact absurd h h7.1
      have hbd : bad6 first ⟨k, l, false, id, off, mo⟩ r = 0 := by
        unfold bad6
        refine (if_neg hn2).trans ((if_neg hn9).trans (if_neg ?_))
        rintro (h | ⟨h, h'⟩)
        · have := HBS.out; omega
        · rw [hm8] at h'; exact h7 ⟨h, by have := HBS.out; omega⟩
      have hnext : RUN = run6 f false (go6 ⟨k, l, false, id, off, mo⟩ r).1 (go6 ⟨k, l, false, id, off, mo⟩ r).2 := by rw [HRUN.out.1]; exact run6_step hhd hbd
      have HNX := Lib.hid hnext
      have HFU := Lib.hid (show r.length < f + 1 from HRUN.out.2)
      obtain ⟨k0, hk0⟩ : ∃ b, b = (B[0]'hB0).toNat := ⟨_, rfl⟩
      have hx0 := s0_at HB.out 0 hB0
      rw [← hk0] at hx0
      have hk0l : k0 < 256 := by rw [hk0]; exact u8_lt _
      have hk0' : (((B[0]'hB0).toNat : Nat) : Int) = (k0 : Int) := by rw [hk0]
      have uk0 : IntKind.i64.wrap (k0 : Int) = (k0 : Int) := by rw [IntKind.wrap_i64]; omega
      have HX0 := Lib.hid hx0
      clear hnext hbd hhd HRUN HD hk0 hx0 hn2 hn9
      rcases Classical.em (k = 44) with h44 | h44
      · have hexA : B.extract 2 4 = str ((r.drop 2).take 2) := extract_str11 B r HB.out 2 4
        have hexB : B.extract 4 8 = str ((r.drop 4).take 4) := extract_str11 B r HB.out 4 8
        have hexC : B.extract 8 B.size = str (r.drop 8) := by rw [extract_str11 B r HB.out, List.take_of_length_le (by rw [List.length_drop, HBS.out]; exact Nat.le_refl _)]
        obtain ⟨fl, hfl⟩ : ∃ t, t = nm2 r 2 := ⟨_, rfl⟩
        have hfll : fl < 65536 := by rw [hfl]; exact nm2_lt r 2
        obtain ⟨id2, hid2⟩ : ∃ t, t = nm4 r 4 := ⟨_, rfl⟩
        have hid2l : id2 < 4294967296 := by rw [hid2]; exact nm4_lt r 4
        have HNA := Lib.hid (fun (W : World) => show Calls Try.prog 27 #[.string (str ((r.drop 2).take 2))] W fun e w' => e = .returned (.int .i64 (fl : Int)) ∧ W = w' from by rw [hfl]; exact rnum12_any _ _ rfl (by rw [List.length_take]; omega) W)
        have HNB := Lib.hid (fun (W : World) => show Calls Try.prog 27 #[.string (str ((r.drop 4).take 4))] W fun e w' => e = .returned (.int .i64 (id2 : Int)) ∧ W = w' from by rw [hid2]; exact rnum12_any _ _ rfl (by rw [List.length_take]; omega) W)
        obtain ⟨B8, hB8⟩ : ∃ b, b = str (r.drop 8) := ⟨_, rfl⟩
        rw [← hB8] at hexC
        have HB8 := Lib.hid hB8
        generalize str ((r.drop 2).take 2) = D2 at *
        generalize str ((r.drop 4).take 4) = D4 at *
        have hB3 : 3 < B.size := by omega
        have jB3 : (3 : Int) < (B.size : Int) := by omega
        have jB4 : (4 : Int) ≤ (B.size : Int) := by omega
        have jB8 : (8 : Int) ≤ (B.size : Int) := by omega
        obtain ⟨b3, hb3⟩ : ∃ b, b = (B[3]'hB3).toNat := ⟨_, rfl⟩
        have hx3 := s0_at HB.out 3 hB3
        rw [← hb3] at hx3
        have hb3l : b3 < 256 := by rw [hb3]; exact u8_lt _
        have hb3' : (((B[3]'hB3).toNat : Nat) : Int) = (b3 : Int) := by rw [hb3]
        obtain ⟨b3m, hb3m⟩ : ∃ b, b = b3 % 2 := ⟨_, rfl⟩
        have a3 : bits .and .u8 (b3 : Int) 1 = (b3m : Int) := by rw [hb3m]; exact and1_u8 b3 hb3l
        obtain ⟨mo2, hmo2⟩ : ∃ b : Bool, b = ((b3m : Int) == 1) := ⟨_, rfl⟩
        have HMO := Lib.hid (show mo2 = decide (byt r 3 % 2 = 1) by rw [hmo2, ← hx3, ← hb3m]; by_cases h : b3m = 1 <;> simp [h] <;> omega)
        have hmo2' := hmo2.symm
        obtain ⟨o1, ho1⟩ : ∃ o, o = fl / 8 := ⟨_, rfl⟩
        obtain ⟨o2, ho2⟩ : ∃ o, o = o1 * 8 := ⟨_, rfl⟩
        have ko1 : (fl : Int) / 8 = (o1 : Int) := by omega
        have ko1' : (fl : Int) / 2 ^ 3 = (o1 : Int) := by omega
        have ko2 : (o1 : Int) * 8 = (o2 : Int) := by omega
        have uo2 : IntKind.i64.wrap (o2 : Int) = (o2 : Int) := by rw [IntKind.wrap_i64]; omega
        have HRUN2 := Lib.hid (show RUN = run6 f false ⟨k0, l, true, id2, o2, mo2⟩ (r.drop 8) ∧ (r.drop 8).length < f from ⟨by
          rw [HNX.out]
          unfold go6
          rw [if_pos h44, HX0.out, HMO.out, hid2, ho2, ho1, hfl], by rw [List.length_drop]; have := HFU.out; have := HBS.out; omega⟩)
        have HLT := Lib.hid (show (r.drop 8).length ≤ 70000 ∧ B8.size < B.size from ⟨by rw [List.length_drop]; have := HBS.out; omega, by rw [hB8, str_size, List.length_drop]; have := HBS.out; omega⟩)
        have hgg : g0 ≠ g := by omega
        have HGN := Lib.hid hgg
        have hwg : w.heap.size ≤ g := by have := HGE.out; omega
        have HWG := Lib.hid hwg
        clear hB8 hb3 hx3 hb3m hmo2 ho1 ho2 hid2 hfl HNX HX0 h0f hft h9 h8 h7 hgg hwg hx1 hm8 hm km0 km ub1 hml hb1l hb1'
        have hfr44 := h44
        have kz : ((k : Int) == 0) = false := by rw [beq_eq_false_iff_ne]; omega
        have ke : ((k : Int) == 44) = true := by simp; omega
        have kn : ((k : Int) != 44) = false := by rw [bne_eq_false_iff_eq]; omega
        have HE := Lib.hid (fun (W : World) => show Calls Try.prog 29 #[.int .i64 (k : Int)] W fun e w' => e = .returned (.bool false) ∧ W = w' from by
          have := rextension12_any (k : Int) W
          rwa [decide_eq_false (show ¬ extK (k : Int) by unfold extK; omega)] at this)
        have x0 := (Cells.cell HX.out 0).trans (show _ = some (Value.int .i64 (C : Int)) from rfl)
        have x1 := (Cells.cell HX.out 1).trans (show _ = some (Value.int .i64 (L : Int)) from rfl)
        have x2 := (Cells.cell HX.out 2).trans (show _ = some (Value.int .i64 (b7 : Int)) from rfl)
        have x3 := (Cells.cell HX.out 3).trans (show _ = some (Value.int .i64 (k : Int)) from rfl)
        have x4 := (Cells.cell HX.out 4).trans (show _ = some (Value.bool true) from rfl)
        have x5 := (Cells.cell HX.out 5).trans (show _ = some (Value.int .u64 (sh : Int)) from rfl)
        have x6 := (Cells.cell HX.out 6).trans (show _ = some (Value.int .u64 (sl : Int)) from rfl)
        have x7 := (Cells.cell HX.out 7).trans (show _ = some (Value.bool true) from rfl)
        have x8 := (Cells.cell HX.out 8).trans (show _ = some (Value.int .u64 (dh : Int)) from rfl)
        have x9 := (Cells.cell HX.out 9).trans (show _ = some (Value.int .u64 (dl : Int)) from rfl)
        have x10 := (Cells.cell HX.out 10).trans (show _ = some (Value.slice A n cap) from rfl)
        have x11 := (Cells.cell HX.out 11).trans (show _ = some (Value.bool false) from rfl)
        have x12 := (Cells.cell HX.out 12).trans (show _ = some (Value.int .i64 (id : Int)) from rfl)
        have x13 := (Cells.cell HX.out 13).trans (show _ = some (Value.int .i64 (off : Int)) from rfl)
        have x14 := (Cells.cell HX.out 14).trans (show _ = some (Value.bool mo) from rfl)
        have x15 := (Cells.cell HX.out 15).trans (show _ = some (Value.string ⟨#[]⟩) from rfl)
        have z3 := Cells.frozen HX.out 3
        have z11 := Cells.frozen HX.out 11
        have z12 := Cells.frozen HX.out 12
        have z13 := Cells.frozen HX.out 13
        have z14 := Cells.frozen HX.out 14
        have hgl := HX.out.lt
        clear h44 hfr44 hcls
        go_wp2_with fail
        refine (HE.out _).mono ?_
        rintro e w5 ⟨rfl, rfl⟩
        go_wp2_with fail
        refine (HNA.out _).mono ?_
        rintro e w5 ⟨rfl, rfl⟩
        go_wp2_with fail
        refine (HNB.out _).mono ?_
        rintro e w5 ⟨rfl, rfl⟩
        go_wp2_with fail
        go_roundw
        case rel =>
          exact ⟨r.drop 8, false, ⟨k0, l, true, id2, o2, mo2⟩, A, n, cap, f, by rw [HB8.out], rfl, hk0l, hn8, HLT.out.1, Lib.hid ⟨((((HX.out.set 11 (.bool true)).set 13 (.int .i64 (o2 : Int))).set 14 (.bool mo2)).set 12 (.int .i64 (id2 : Int))).set 3 (.int .i64 (k0 : Int)),
            Cells.far (Cells.far (Cells.far (Cells.far (Cells.far HRES.out HGN.out (i := 11) (.bool true)) HGN.out (i := 13) (.int .i64 (o2 : Int))) HGN.out (i := 14) (.bool mo2)) HGN.out (i := 12) (.int .i64 (id2 : Int))) HGN.out (i := 3) (.int .i64 (k0 : Int)),
            own_setb (i := 3) (own_setb (i := 12) (own_setb (i := 14) (own_setb (i := 13) (own_setb (i := 11) HOW.out (Nat.lt_succ_self g) (.bool true)) (Nat.lt_succ_self g) (.int .i64 (o2 : Int))) (Nat.lt_succ_self g) (.bool mo2)) (Nat.lt_succ_self g) (.int .i64 (id2 : Int))) (Nat.lt_succ_self g) (.int .i64 (k0 : Int)),
            HLEN.out,
            ((((HBEL.out.setCell (p := ⟨g, 11, none⟩) HWG.out (.bool true)).setCell (p := ⟨g, 13, none⟩) HWG.out (.int .i64 (o2 : Int))).setCell (p := ⟨g, 14, none⟩) HWG.out (.bool mo2)).setCell (p := ⟨g, 12, none⟩) HWG.out (.int .i64 (id2 : Int))).setCell (p := ⟨g, 3, none⟩) HWG.out (.int .i64 (k0 : Int))⟩, HRUN2⟩
        case measure => exact HLT.out.2
      · have hmB : m ≤ B.size := by
          rcases Nat.lt_or_ge B.size m with h | h
          · exact absurd ⟨h44, h⟩ h7
          · exact h
        have q7 : ¬ (B.size : Int) < (m : Int) := by omega
        have p7 : decide ((B.size : Int) < (m : Int)) = false := by simp; omega
        have hm2 : 8 ≤ m := by omega
        have jm : (m : Int) ≤ (B.size : Int) := by omega
        have jm2 : (2 : Int) ≤ (m : Int) := by omega
        have um : IntKind.i64.wrap (m : Int) = (m : Int) := by rw [IntKind.wrap_i64]; omega
        have hexE : B.extract 2 m = str ((r.take m).drop 2) := by rw [extract_str11 B r HB.out, List.drop_take]
        have hexM : B.extract m B.size = str (r.drop m) := by rw [extract_str11 B r HB.out, List.take_of_length_le (by rw [List.length_drop, HBS.out]; exact Nat.le_refl _)]
        obtain ⟨E, hE⟩ : ∃ b, b = str ((r.take m).drop 2) := ⟨_, rfl⟩
        obtain ⟨Bm, hBm⟩ : ∃ b, b = str (r.drop m) := ⟨_, rfl⟩
        rw [← hE] at hexE
        rw [← hBm] at hexM
        have HEE := Lib.hid hE
        have HBm := Lib.hid hBm
        have hn7 : n ≤ 7 := by
          rcases Nat.lt_or_ge n 8 with h | h
          · omega
          · exact absurd ⟨h44, by omega⟩ h9
        have n8 : ((n : Int) == 8) = false := by rw [beq_eq_false_iff_ne]; omega
        have HRUN2 := Lib.hid (show RUN = run6 f false ⟨k0, l ++ [⟨(k : Int), (r.take m).drop 2⟩], false, id, off, mo⟩ (r.drop m) ∧ (r.drop m).length < f from ⟨by
          rw [HNX.out]
          unfold go6
          rw [if_neg h44, hm8, HX0.out], by rw [List.length_drop]; have := HFU.out; have := HBS.out; omega⟩)
        have HLT := Lib.hid (show (r.drop m).length ≤ 70000 ∧ Bm.size < B.size from ⟨by rw [List.length_drop]; have := HBS.out; omega, by rw [hBm, str_size, List.length_drop]; have := HBS.out; omega⟩)
        have hgg : g0 ≠ g := by omega
        have HGN := Lib.hid hgg
        have hwg : w.heap.size ≤ g := by have := HGE.out; omega
        have HWG := Lib.hid hwg
        have HFT := Lib.hid hft
        have hck : k = 0 ∨ k = 43 ∨ k = 60 := by omega
        clear hE hBm HNX HX0 h0f hft h9 h8 h7 hgg hwg hx1 hm8 hm hmB h44 hcls
        have HROW := Lib.hid (show EOpt.cells [⟨(k : Int), (r.take m).drop 2⟩] = [.int .i64 (k : Int), .string E] by rw [EOpt.cells_one]; rw [HEE.out]; rfl)
        rcases hck with h | h
        · have kz : ((k : Int) == 0) = true := by simp; omega
          have ke : ((k : Int) == 44) = false := by rw [beq_eq_false_iff_ne]; omega
          have kn : ((k : Int) != 44) = true := by rw [bne_iff_ne]; omega
          have HE := Lib.hid (fun (W : World) => show Calls Try.prog 29 #[.int .i64 (k : Int)] W fun e w' => e = .returned (.bool true) ∧ W = w' from by
            have := rextension12_any (k : Int) W
            rwa [decide_eq_true (show extK (k : Int) by unfold extK; omega)] at this)
          have hf1 : first = true := HFT.out.resolve_left (by omega)
          subst hf1
          clear h HFT
          have x3 := (Cells.cell HX.out 3).trans (show _ = some (Value.int .i64 (k : Int)) from rfl)
          have x10 := (Cells.cell HX.out 10).trans (show _ = some (Value.slice A n cap) from rfl)
          have x11 := (Cells.cell HX.out 11).trans (show _ = some (Value.bool false) from rfl)
          have hgl := HX.out.lt
          go_wp2_with fail
          refine (HE.out _).mono ?_
          rintro e w5 ⟨rfl, rfl⟩
          go_upto_region 29 with fail
          clear kz ke kn HE x11 n8 q8 p8 q7 p7
          have z3 := Cells.frozen HX.out 3
          have z10 := Cells.frozen HX.out 10
          have HOA := Lib.hid ((HOW.out.alloc (.cells #[.int .i64 (k : Int), .string E] 59)).drew)
          have HBA := Lib.hid (show g + 1 ≤ ((wr.alloc (.cells #[.int .i64 (k : Int), .string E] 59)).drew).heap.size by
            have h1 := HX.out.lt
            have h2 : ((wr.alloc (.cells #[.int .i64 (k : Int), .string E] 59)).drew).heap.size = wr.heap.size + 1 := by
              show (wr.alloc _).heap.size = _
              simp
            omega)
          go_region_law (first
            | (refine step_push (E := EOpt) extTy (by rfl) _ _ (by rfl) (g + 1) (.slice A n cap) n l [⟨(k : Int), (r.take m).drop 2⟩] (by rfl) HOA.out wr.heap.size 1 1 #[.int .i64 (k : Int), .string E] (0, 0) (by rfl) (heap_alloc_new wr _) (HROW.out.symm) rfl (by omega) (by omega) (by decide) HBA.out ?_; intro g2 cap2 wz hown hgrow hat hlt2; have hx9 := Cells.only (Cells.drew (Cells.kept HX.out (below_alloc6 wr (.cells #[.int .i64 (k : Int), .string E] 59)) hgl)) hgrow (fun e => by have h7 := (own_blk_in HOW.out _ e.symm).1; omega); have i10 := (Cells.cell hx9 10).trans (show _ = some (Value.slice A n cap) from rfl); have j10 := Cells.frozen hx9 10; have jl := Cells.lt hx9))
          all_goals
            have hG9 := Cells.only (Cells.drew (Cells.kept HRES.out (below_alloc6 wr (.cells #[.int .i64 (k : Int), .string E] 59)) HRES.out.lt)) hgrow (fun e => by have h7 := (own_blk_in HOW.out _ e.symm).1; omega)
            have HX9 := Lib.hid (Cells.set hx9 10 (.slice (some ⟨g2, 0, none⟩) (n + 1) cap2))
            have HG9 := Lib.hid (Cells.far hG9 HGN.out (i := 10) (.slice (some ⟨g2, 0, none⟩) (n + 1) cap2))
            have HO9 := Lib.hid (own_setb (i := 10) (show wz.ownsRow (g + 1) 59 2 (.slice (some ⟨g2, 0, none⟩) (n + 1) cap2) (n + 1) (EOpt.cells (l ++ [⟨(k : Int), (r.take m).drop 2⟩])) from hown) (Nat.lt_succ_self g) (.slice (some ⟨g2, 0, none⟩) (n + 1) cap2))
            have hB9 := (HBEL.out.alloc HBEL.out.size (.cells #[.int .i64 (k : Int), .string E] 59)).grown (show (wr.alloc (.cells #[.int .i64 (k : Int), .string E] 59)).grownBy wz _ from ⟨hgrow.os, hgrow.tape, hgrow.output, hgrow.size, hgrow.block⟩) (by have := HBEL.out.size; simp; omega) (fun j hj => by have h7 := (own_blk_in HOW.out _ hj).1; have := HWG.out; omega)
            have HB9 := Lib.hid (hB9.setCell (p := ⟨g, 10, none⟩) HWG.out (.slice (some ⟨g2, 0, none⟩) (n + 1) cap2))
            have HNN := Lib.hid (show n + 1 = (l ++ [(⟨(k : Int), (r.take m).drop 2⟩ : OpR)]).length by rw [List.length_append, ← show n = l.length from HLEN.out]; rfl)
            clear hown hgrow hat hlt2 hG9 hB9 hx9 i10 j10 jl HX HRES HOW HBEL x3 x10 z3 z10 hgl HOA HBA
            obtain ⟨W9, hW9⟩ : ∃ W, W = wz.setCell ⟨g, 10, none⟩ (.slice (some ⟨g2, 0, none⟩) (n + 1) cap2) := ⟨_, rfl⟩
            rw [← hW9] at HX9 HG9 HO9 HB9
            have y3 := (Cells.cell HX9.out 3).trans (show _ = some (Value.int .i64 (k : Int)) from rfl)
            have v3 := Cells.frozen HX9.out 3
            have ygl := HX9.out.lt
            try rw [← hW9]
            clear hW9
            go_wp2_with fail
            go_roundw
            case rel =>
              exact ⟨r.drop m, false, ⟨k0, l ++ [⟨(k : Int), (r.take m).drop 2⟩], false, id, off, mo⟩, some ⟨g2, 0, none⟩, n + 1, cap2, f, by rw [HBm.out], rfl, hk0l, by omega, HLT.out.1, Lib.hid ⟨HX9.out.set 3 (.int .i64 (k0 : Int)), Cells.far HG9.out HGN.out (i := 3) (.int .i64 (k0 : Int)), own_setb (i := 3) HO9.out (Nat.lt_succ_self g) (.int .i64 (k0 : Int)), HNN.out, HB9.out.setCell (p := ⟨g, 3, none⟩) HWG.out (.int .i64 (k0 : Int))⟩, HRUN2⟩
            case measure => exact HLT.out.2
        · have kz : ((k : Int) == 0) = false := by rw [beq_eq_false_iff_ne]; omega
          have ke : ((k : Int) == 44) = false := by rw [beq_eq_false_iff_ne]; omega
          have kn : ((k : Int) != 44) = true := by rw [bne_iff_ne]; omega
          have HE := Lib.hid (fun (W : World) => show Calls Try.prog 29 #[.int .i64 (k : Int)] W fun e w' => e = .returned (.bool true) ∧ W = w' from by
            have := rextension12_any (k : Int) W
            rwa [decide_eq_true (show extK (k : Int) by unfold extK; omega)] at this)
          clear h HFT
          have x3 := (Cells.cell HX.out 3).trans (show _ = some (Value.int .i64 (k : Int)) from rfl)
          have x10 := (Cells.cell HX.out 10).trans (show _ = some (Value.slice A n cap) from rfl)
          have x11 := (Cells.cell HX.out 11).trans (show _ = some (Value.bool false) from rfl)
          have hgl := HX.out.lt
          go_wp2_with fail
          refine (HE.out _).mono ?_
          rintro e w5 ⟨rfl, rfl⟩
          go_upto_region 29 with fail
          clear kz ke kn HE x11 n8 q8 p8 q7 p7
          have z3 := Cells.frozen HX.out 3
          have z10 := Cells.frozen HX.out 10
          have HOA := Lib.hid ((HOW.out.alloc (.cells #[.int .i64 (k : Int), .string E] 59)).drew)
          have HBA := Lib.hid (show g + 1 ≤ ((wr.alloc (.cells #[.int .i64 (k : Int), .string E] 59)).drew).heap.size by
            have h1 := HX.out.lt
            have h2 : ((wr.alloc (.cells #[.int .i64 (k : Int), .string E] 59)).drew).heap.size = wr.heap.size + 1 := by
              show (wr.alloc _).heap.size = _
              simp
            omega)
          go_region_law (first
            | (refine step_push (E := EOpt) extTy (by rfl) _ _ (by rfl) (g + 1) (.slice A n cap) n l [⟨(k : Int), (r.take m).drop 2⟩] (by rfl) HOA.out wr.heap.size 1 1 #[.int .i64 (k : Int), .string E] (0, 0) (by rfl) (heap_alloc_new wr _) (HROW.out.symm) rfl (by omega) (by omega) (by decide) HBA.out ?_; intro g2 cap2 wz hown hgrow hat hlt2; have hx9 := Cells.only (Cells.drew (Cells.kept HX.out (below_alloc6 wr (.cells #[.int .i64 (k : Int), .string E] 59)) hgl)) hgrow (fun e => by have h7 := (own_blk_in HOW.out _ e.symm).1; omega); have i10 := (Cells.cell hx9 10).trans (show _ = some (Value.slice A n cap) from rfl); have j10 := Cells.frozen hx9 10; have jl := Cells.lt hx9))
          all_goals
            have hG9 := Cells.only (Cells.drew (Cells.kept HRES.out (below_alloc6 wr (.cells #[.int .i64 (k : Int), .string E] 59)) HRES.out.lt)) hgrow (fun e => by have h7 := (own_blk_in HOW.out _ e.symm).1; omega)
            have HX9 := Lib.hid (Cells.set hx9 10 (.slice (some ⟨g2, 0, none⟩) (n + 1) cap2))
            have HG9 := Lib.hid (Cells.far hG9 HGN.out (i := 10) (.slice (some ⟨g2, 0, none⟩) (n + 1) cap2))
            have HO9 := Lib.hid (own_setb (i := 10) (show wz.ownsRow (g + 1) 59 2 (.slice (some ⟨g2, 0, none⟩) (n + 1) cap2) (n + 1) (EOpt.cells (l ++ [⟨(k : Int), (r.take m).drop 2⟩])) from hown) (Nat.lt_succ_self g) (.slice (some ⟨g2, 0, none⟩) (n + 1) cap2))
            have hB9 := (HBEL.out.alloc HBEL.out.size (.cells #[.int .i64 (k : Int), .string E] 59)).grown (show (wr.alloc (.cells #[.int .i64 (k : Int), .string E] 59)).grownBy wz _ from ⟨hgrow.os, hgrow.tape, hgrow.output, hgrow.size, hgrow.block⟩) (by have := HBEL.out.size; simp; omega) (fun j hj => by have h7 := (own_blk_in HOW.out _ hj).1; have := HWG.out; omega)
            have HB9 := Lib.hid (hB9.setCell (p := ⟨g, 10, none⟩) HWG.out (.slice (some ⟨g2, 0, none⟩) (n + 1) cap2))
            have HNN := Lib.hid (show n + 1 = (l ++ [(⟨(k : Int), (r.take m).drop 2⟩ : OpR)]).length by rw [List.length_append, ← show n = l.length from HLEN.out]; rfl)
            clear hown hgrow hat hlt2 hG9 hB9 hx9 i10 j10 jl HX HRES HOW HBEL x3 x10 z3 z10 hgl HOA HBA
            obtain ⟨W9, hW9⟩ : ∃ W, W = wz.setCell ⟨g, 10, none⟩ (.slice (some ⟨g2, 0, none⟩) (n + 1) cap2) := ⟨_, rfl⟩
            rw [← hW9] at HX9 HG9 HO9 HB9
            have y3 := (Cells.cell HX9.out 3).trans (show _ = some (Value.int .i64 (k : Int)) from rfl)
            have v3 := Cells.frozen HX9.out 3
            have ygl := HX9.out.lt
            try rw [← hW9]
            clear hW9
            go_wp2_with fail
            go_roundw
            case rel =>
              exact ⟨r.drop m, false, ⟨k0, l ++ [⟨(k : Int), (r.take m).drop 2⟩], false, id, off, mo⟩, some ⟨g2, 0, none⟩, n + 1, cap2, f, by rw [HBm.out], rfl, hk0l, by omega, HLT.out.1, Lib.hid ⟨HX9.out.set 3 (.int .i64 (k0 : Int)), Cells.far HG9.out HGN.out (i := 3) (.int .i64 (k0 : Int)), own_setb (i := 3) HO9.out (Nat.lt_succ_self g) (.int .i64 (k0 : Int)), HNN.out, HB9.out.setCell (p := ⟨g, 3, none⟩) HWG.out (.int .i64 (k0 : Int))⟩, HRUN2⟩
            case measure => exact HLT.out.2

end Go.Proofs.Ytjjldolafnfpoaa
