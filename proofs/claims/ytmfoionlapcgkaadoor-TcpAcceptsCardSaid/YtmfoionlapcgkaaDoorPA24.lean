/- Contracts of the functions, part 24: TcpRSm, EthREnc, TcpLaw. -/
import Derived.Deep.Cut
import Derived.Deep.QuietTactic
import Derived.Test.YtmfoionlapcgkaaDoorPA7
import Derived.Test.YtmfoionlapcgkaaDoorPA19
import Derived.Test.YtmfoionlapcgkaaDoorPA23
/- Contracts of the reference of layer 14: option, Length, Scale, Stamps. -/
namespace Go.Proofs.YtmfoionlapcgkaaDoor
open Go.ChangeShapes Go.WideShapes Go.ChangeAt Go.RowKit
set_option linter.unusedVariables false
set_option maxRecDepth 100000

theorem find_none {l : List OpR} {K : Int} {k : Nat} {x : OpR} (h : (l.take k).find? (fun x => x.kd == K) = none) (hx : l[k]? = some x) (hd : (x.kd == K) = false) : (l.take (k + 1)).find? (fun x => x.kd == K) = none := by
  obtain ⟨hk', e⟩ := List.getElem?_eq_some_iff.1 hx
  rw [List.take_succ_eq_append_getElem hk', e, List.find?_append, h]
  simp [hd]
theorem find_some {l : List OpR} {K : Int} {k : Nat} {x : OpR} (h : (l.take k).find? (fun x => x.kd == K) = none) (hx : l[k]? = some x) (hd : (x.kd == K) = true) : optK l K = x.dat := by
  obtain ⟨hk', e⟩ := List.getElem?_eq_some_iff.1 hx
  have hl : l = l.take k ++ x :: l.drop (k + 1) := by rw [← e, ← List.drop_eq_getElem_cons hk', List.take_append_drop]
  unfold optK
  rw [hl, List.find?_append, h]
  simp [hd]
theorem find_end {l : List OpR} {K : Int} (h : l.find? (fun x => x.kd == K) = none) : optK l K = [] := by
  unfold optK
  rw [h]
  rfl
set_option maxHeartbeats 8000000 in
set_option maxRecDepth 100000 in
theorem roption14_any (t : TcpR) (A : Option Addr) (c : Nat) (D : ByteArray) (K : Int) (w : World) (h : RowL EOpt w A t.ops) (hl : t.ops.length ≤ 1000000000) :
    Calls Tryd.prog 46 #[.agg (tcC t A c D), .int .i64 K] w fun e w' => e = .returned (.string (str (optK t.ops K))) ∧ Below w.heap.size w w' := by
  obtain ⟨Q, hR⟩ : ∃ Q, Q = str (optK t.ops K) := ⟨_, rfl⟩
  rw [← hR]
  have HR := Lib.hid hR
  have HS := Lib.hid h
  obtain ⟨W1, hW1⟩ : ∃ W, W = w.alloc (.cells (tcC t A c D) 31) := ⟨_, rfl⟩
  obtain ⟨g, hg⟩ : ∃ g, g = w.heap.size := ⟨_, rfl⟩
  have HX := Lib.hid (show Cells W1 g 31 (tcC t A c D) by rw [hW1, hg]; exact heap_alloc_new w _)
  have HB1 := Lib.hid (show Below w.heap.size w W1 by rw [hW1]; exact below_alloc6 w _)
  unfold tcC at hW1 HX
  unfold tcC
  obtain ⟨n, hn⟩ : ∃ n, n = t.ops.length := ⟨_, rfl⟩
  have HN := Lib.hid hn
  rw [← hn] at hl hW1 HX ⊢
  have hc := (Cells.cell HX.out 7).trans (show _ = some (Value.slice A n c) from rfl)
  clear hR h hn
  go_enter Tryd.func46, Tryd.ntmps46
  go_upto_region 1 with fail
  rw [← hW1, ← hg]
  clear hW1 hg
  go_wp2_with fail
  go_loop [5] (fun i => ∃ k : Nat, i = .int .i64 (k : Int) ∧ k ≤ n ∧ Hid ((t.ops.take k).find? (fun x => x.kd == K) = none)) (fun i => n - (intOf i).toNat)
  case atStart => exact ⟨0, rfl, Nat.zero_le _, Lib.hid (by simp)⟩
  case round =>
    obtain ⟨k, rfl, hk, HK⟩ := hrel
    by_cases hlt : k < n
    · have hki : (k : Int) < (n : Int) := by omega
      have hki0 : (0 : Int) ≤ (k : Int) := by omega
      have dlt : decide ((k : Int) < (n : Int)) = true := by simp; omega
      obtain ⟨x, hget⟩ : ∃ x, t.ops[k]? = some x := ⟨t.ops[k]'(by have := HN.out; omega), List.getElem?_eq_getElem _⟩
      obtain ⟨g9, ob, rfl, hg9, -⟩ := HS.out (by have := HN.out; omega)
      obtain ⟨c0, c1⟩ := opt_at HS.out hget HB1.out
      cases d1 : (x.kd == K) with
      | true =>
        have HF := Lib.hid (show Q = str x.dat by rw [HR.out, find_some HK.out hget d1])
        clear hget
        go_wp2_with fail
        go_ret
        exact ⟨by rw [HF.out]; rfl, HB1.out⟩
      | false =>
        have HK1 := Lib.hid (find_none HK.out hget d1)
        clear hget
        go_wp2_with fail
        go_round
        case rel => exact ⟨k + 1, by go_num, by omega, HK1⟩
        case measure => simp [intOf]; omega
    · obtain rfl : k = n := by omega
      have dlt : decide ((k : Int) < (k : Int)) = false := by simp
      have nlt : ¬ (k : Int) < (k : Int) := by omega
      have HT := Lib.hid (show Q = str [] by rw [HR.out, find_end (by have := HK.out; rwa [HN.out, List.take_length] at this)])
      go_wp2_with fail
      go_ret
      exact ⟨by rw [HT.out]; rfl, HB1.out⟩
/-- What Length returns. -/
def lenT (t : TcpR) : Nat := t.pay.length + (if (bits .and .i64 t.fl 2 != 0) = true then 1 else 0) + (if (bits .and .i64 t.fl 1 != 0) = true then 1 else 0)
set_option maxHeartbeats 8000000 in
set_option maxRecDepth 100000 in
theorem rlen14_any (t : TcpR) (A : Option Addr) (c : Nat) (D : ByteArray) (w : World) (hD : D = str t.pay) (hp : t.pay.length ≤ 9223372036854775800) :
    Calls Tryd.prog 21 #[.agg (tcC t A c D)] w fun e w' => e = .returned (.int .i64 (lenT t : Int)) ∧ Below w.heap.size w w' := by
  obtain ⟨Q, hQ⟩ : ∃ Q, Q = lenT t := ⟨_, rfl⟩
  rw [← hQ]
  unfold lenT at hQ
  have hz : D.size = t.pay.length := by rw [hD, str_size]
  rw [← hz] at hQ hp
  obtain ⟨W1, hW1⟩ : ∃ W, W = w.alloc (.cells (tcC t A c D) 31) := ⟨_, rfl⟩
  obtain ⟨g, hg⟩ : ∃ g, g = w.heap.size := ⟨_, rfl⟩
  have HX := Lib.hid (show Cells W1 g 31 (tcC t A c D) by rw [hW1, hg]; exact heap_alloc_new w _)
  have HB1 := Lib.hid (show Below w.heap.size w W1 by rw [hW1]; exact below_alloc6 w _)
  unfold tcC at hW1 HX
  unfold tcC
  have hc4 := (Cells.cell HX.out 4).trans (show _ = some (Value.int .i64 t.fl) from rfl)
  have hc8 := (Cells.cell HX.out 8).trans (show _ = some (Value.string D) from rfl)
  obtain ⟨b2, hb2⟩ : ∃ b, (bits .and .i64 t.fl 2 != 0) = b := ⟨_, rfl⟩
  obtain ⟨b1, hb1⟩ : ∃ b, (bits .and .i64 t.fl 1 != 0) = b := ⟨_, rfl⟩
  rw [hb1, hb2] at hQ
  obtain ⟨m1, hm1⟩ : ∃ m, m = D.size + 1 := ⟨_, rfl⟩
  obtain ⟨m2, hm2⟩ : ∃ m, m = D.size + 2 := ⟨_, rfl⟩
  have k1 : (D.size : Int) + 1 = (m1 : Int) := by omega
  have k2 : (m1 : Int) + 1 = (m2 : Int) := by omega
  have km1 : m1 ≤ 9223372036854775801 := by omega
  cases b2 <;> cases b1
  · have HQ := Lib.hid (show Q = D.size by rw [hQ]; simp; try omega)
    clear hQ hD hz hm1 hm2
    go_enter Tryd.func21, Tryd.ntmps21
    go_upto_region 1 with fail
    rw [← hW1, ← hg]
    clear hW1 hg
    go_wp2_with fail
    go_ret
    exact ⟨by rw [HQ.out]; try rfl, HB1.out⟩
  · have HQ := Lib.hid (show Q = m1 by rw [hQ]; simp; try omega)
    clear hQ hD hz hm1 hm2
    go_enter Tryd.func21, Tryd.ntmps21
    go_upto_region 1 with fail
    rw [← hW1, ← hg]
    clear hW1 hg
    go_wp2_with fail
    go_ret
    exact ⟨by rw [HQ.out]; try rfl, HB1.out⟩
  · have HQ := Lib.hid (show Q = m1 by rw [hQ]; simp; try omega)
    clear hQ hD hz hm1 hm2
    go_enter Tryd.func21, Tryd.ntmps21
    go_upto_region 1 with fail
    rw [← hW1, ← hg]
    clear hW1 hg
    go_wp2_with fail
    go_ret
    exact ⟨by rw [HQ.out]; try rfl, HB1.out⟩
  · have HQ := Lib.hid (show Q = m2 by rw [hQ]; simp; try omega)
    clear hQ hD hz hm1 hm2
    go_enter Tryd.func21, Tryd.ntmps21
    go_upto_region 1 with fail
    rw [← hW1, ← hg]
    clear hW1 hg
    go_wp2_with fail
    go_ret
    exact ⟨by rw [HQ.out]; try rfl, HB1.out⟩

set_option maxHeartbeats 8000000 in
set_option maxRecDepth 100000 in
theorem rscale14_any (t : TcpR) (A : Option Addr) (c : Nat) (D : ByteArray) (w : World) (h : RowL EOpt w A t.ops) (hl : t.ops.length ≤ 1000000000) :
    Calls Tryd.prog 17 #[.agg (tcC t A c D)] w fun e w' => e = .returned (.tuple #[.int .i64 ((scaT t).1 : Int), .bool (scaT t).2]) ∧ Below w.heap.size w w' := by
  obtain ⟨S, hS⟩ : ∃ S, S = optK t.ops 3 := ⟨_, rfl⟩
  obtain ⟨R, hR⟩ : ∃ R, R = scaT t := ⟨_, rfl⟩
  rw [← hR]
  unfold scaT at hR
  rw [← hS] at hR
  obtain ⟨s, hs⟩ : ∃ s, s = str S := ⟨_, rfl⟩
  have hsz : s.size = S.length := by rw [hs, str_size]
  obtain ⟨W1, hW1⟩ : ∃ W, W = w.alloc (.cells (tcC t A c D) 31) := ⟨_, rfl⟩
  obtain ⟨g, hg⟩ : ∃ g, g = w.heap.size := ⟨_, rfl⟩
  have HX := Lib.hid (show Cells W1 g 31 (tcC t A c D) by rw [hW1, hg]; exact heap_alloc_new w _)
  have HB1 := Lib.hid (show Below w.heap.size w W1 by rw [hW1]; exact below_alloc6 w _)
  unfold tcC at hW1 HX
  unfold tcC
  have HOPT := Lib.hid (fun (W : World) (hb : Below w.heap.size w W) => show Calls Tryd.prog 46 #[.agg #[.int .i64 t.src, .int .i64 t.dst, .int .u32 (t.seq : Int), .int .u32 (t.ack : Int), .int .i64 t.fl, .int .i64 t.win, .int .i64 t.urg, .slice A t.ops.length c, .string D], .int .i64 3] W fun e w' => e = .returned (.string s) ∧ Below W.heap.size W w' from by rw [hs, hS]; exact roption14_any t A c D 3 W (h.kept hb) hl)
  have hc0 := (Cells.cell HX.out 0).trans (show _ = some (Value.int .i64 t.src) from rfl)
  have hc1 := (Cells.cell HX.out 1).trans (show _ = some (Value.int .i64 t.dst) from rfl)
  have hc2 := (Cells.cell HX.out 2).trans (show _ = some (Value.int .u32 (t.seq : Int)) from rfl)
  have hc3 := (Cells.cell HX.out 3).trans (show _ = some (Value.int .u32 (t.ack : Int)) from rfl)
  have hc4 := (Cells.cell HX.out 4).trans (show _ = some (Value.int .i64 t.fl) from rfl)
  have hc5 := (Cells.cell HX.out 5).trans (show _ = some (Value.int .i64 t.win) from rfl)
  have hc6 := (Cells.cell HX.out 6).trans (show _ = some (Value.int .i64 t.urg) from rfl)
  have hc7 := (Cells.cell HX.out 7).trans (show _ = some (Value.slice A t.ops.length c) from rfl)
  have hc8 := (Cells.cell HX.out 8).trans (show _ = some (Value.string D) from rfl)
  by_cases h1 : S.length = 1
  · have hs0 : 0 < s.size := by omega
    obtain ⟨b0, hb0⟩ : ∃ b, b = (s[0]'hs0).toNat := ⟨_, rfl⟩
    have hx0 := s14_at hs 0 hs0
    rw [← hb0] at hx0
    have hb0' : (((s[0]'hs0).toNat : Nat) : Int) = (b0 : Int) := by rw [hb0]
    have hb0l : b0 < 256 := by rw [hb0]; exact u8_lt _
    obtain ⟨m, hm⟩ : ∃ m, m = min b0 14 := ⟨_, rfl⟩
    have km : min (b0 : Int) 14 = (m : Int) := by omega
    have hR2 := Lib.hid (show R = (m, true) by rw [hR, if_pos h1, ← hx0, hm])
    have d1 : ((s.size : Int) != 1) = false := by simp; omega
    have i0 : (0 : Int) < (s.size : Int) := by omega
    clear hR hS hs hsz h1 hx0 hb0 hm h
    go_enter Tryd.func17, Tryd.ntmps17
    go_upto_region 1 with fail
    rw [← hW1, ← hg]
    clear hW1 hg
    go_wp2_with fail
    refine (HOPT.out _ HB1.out).mono ?_
    rintro e w2 ⟨rfl, hb2⟩
    have HB2 := Lib.hid (HB1.out.trans (hb2.mono HB1.out.size))
    clear hb2 hc0 hc1 hc2 hc3 hc4 hc5 hc6 hc7 hc8
    go_wp2_with fail
    go_ret2
    exact ⟨by rw [hR2.out]; try rfl, HB2.out⟩
  · have hR2 := Lib.hid (show R = (0, false) by rw [hR, if_neg h1])
    have d1 : ((s.size : Int) != 1) = true := by simp; omega
    clear hR hS hs hsz h1 h
    go_enter Tryd.func17, Tryd.ntmps17
    go_upto_region 1 with fail
    rw [← hW1, ← hg]
    clear hW1 hg
    go_wp2_with fail
    refine (HOPT.out _ HB1.out).mono ?_
    rintro e w2 ⟨rfl, hb2⟩
    have HB2 := Lib.hid (HB1.out.trans (hb2.mono HB1.out.size))
    clear hb2 hc0 hc1 hc2 hc3 hc4 hc5 hc6 hc7 hc8
    go_wp2_with fail
    go_ret2
    exact ⟨by rw [hR2.out]; try rfl, HB2.out⟩
set_option maxHeartbeats 8000000 in
set_option maxRecDepth 100000 in
theorem rstamps14_any (t : TcpR) (A : Option Addr) (c : Nat) (D : ByteArray) (w : World) (h : RowL EOpt w A t.ops) (hl : t.ops.length ≤ 1000000000) :
    Calls Tryd.prog 19 #[.agg (tcC t A c D)] w fun e w' => e = .returned (.tuple #[.int .u32 ((staT t).1 : Int), .int .u32 ((staT t).2.1 : Int), .bool (staT t).2.2]) ∧ Below w.heap.size w w' := by
  obtain ⟨S, hS⟩ : ∃ S, S = optK t.ops 8 := ⟨_, rfl⟩
  obtain ⟨R, hR⟩ : ∃ R, R = staT t := ⟨_, rfl⟩
  rw [← hR]
  unfold staT at hR
  rw [← hS] at hR
  obtain ⟨s, hs⟩ : ∃ s, s = str S := ⟨_, rfl⟩
  have hsz : s.size = S.length := by rw [hs, str_size]
  obtain ⟨W1, hW1⟩ : ∃ W, W = w.alloc (.cells (tcC t A c D) 31) := ⟨_, rfl⟩
  obtain ⟨g, hg⟩ : ∃ g, g = w.heap.size := ⟨_, rfl⟩
  have HX := Lib.hid (show Cells W1 g 31 (tcC t A c D) by rw [hW1, hg]; exact heap_alloc_new w _)
  have HB1 := Lib.hid (show Below w.heap.size w W1 by rw [hW1]; exact below_alloc6 w _)
  unfold tcC at hW1 HX
  unfold tcC
  have HOPT := Lib.hid (fun (W : World) (hb : Below w.heap.size w W) => show Calls Tryd.prog 46 #[.agg #[.int .i64 t.src, .int .i64 t.dst, .int .u32 (t.seq : Int), .int .u32 (t.ack : Int), .int .i64 t.fl, .int .i64 t.win, .int .i64 t.urg, .slice A t.ops.length c, .string D], .int .i64 8] W fun e w' => e = .returned (.string s) ∧ Below W.heap.size W w' from by rw [hs, hS]; exact roption14_any t A c D 8 W (h.kept hb) hl)
  have hc0 := (Cells.cell HX.out 0).trans (show _ = some (Value.int .i64 t.src) from rfl)
  have hc1 := (Cells.cell HX.out 1).trans (show _ = some (Value.int .i64 t.dst) from rfl)
  have hc2 := (Cells.cell HX.out 2).trans (show _ = some (Value.int .u32 (t.seq : Int)) from rfl)
  have hc3 := (Cells.cell HX.out 3).trans (show _ = some (Value.int .u32 (t.ack : Int)) from rfl)
  have hc4 := (Cells.cell HX.out 4).trans (show _ = some (Value.int .i64 t.fl) from rfl)
  have hc5 := (Cells.cell HX.out 5).trans (show _ = some (Value.int .i64 t.win) from rfl)
  have hc6 := (Cells.cell HX.out 6).trans (show _ = some (Value.int .i64 t.urg) from rfl)
  have hc7 := (Cells.cell HX.out 7).trans (show _ = some (Value.slice A t.ops.length c) from rfl)
  have hc8 := (Cells.cell HX.out 8).trans (show _ = some (Value.string D) from rfl)
  by_cases h1 : S.length = 8
  · obtain ⟨m0, hm0⟩ : ∃ m, m = nm4 S 0 := ⟨_, rfl⟩
    obtain ⟨m4, hm4⟩ : ∃ m, m = nm4 S 4 := ⟨_, rfl⟩
    have hm0l : m0 < 4294967296 := by rw [hm0]; exact nm4_lt S 0
    have hm4l : m4 < 4294967296 := by rw [hm4]; exact nm4_lt S 4
    have u0 : IntKind.u32.wrap (m0 : Int) = (m0 : Int) := by rw [IntKind.wrap_u32]; omega
    have u4 : IntKind.u32.wrap (m4 : Int) = (m4 : Int) := by rw [IntKind.wrap_u32]; omega
    have HN0 := Lib.hid (fun (W : World) => show Calls Tryd.prog 34 #[.string s, .int .i64 0, .int .i64 4] W fun e w' => e = .returned (.int .i64 (m0 : Int)) ∧ W = w' from by rw [hm0, hs]; exact rnum14_any S 0 4 0 4 rfl rfl (by decide) (by omega) (by omega) W)
    have HN4 := Lib.hid (fun (W : World) => show Calls Tryd.prog 34 #[.string s, .int .i64 4, .int .i64 4] W fun e w' => e = .returned (.int .i64 (m4 : Int)) ∧ W = w' from by rw [hm4, hs]; exact rnum14_any S 4 4 4 4 rfl rfl (by decide) (by omega) (by omega) W)
    have hR2 := Lib.hid (show R = (m0, m4, true) by rw [hR, if_pos h1, ← hm0, ← hm4])
    have d1 : ((s.size : Int) != 8) = false := by simp; omega
    clear hR hS hs hsz h1 hm0 hm4 h
    go_enter Tryd.func19, Tryd.ntmps19
    go_upto_region 1 with fail
    rw [← hW1, ← hg]
    clear hW1 hg
    go_wp2_with fail
    refine (HOPT.out _ HB1.out).mono ?_
    rintro e w2 ⟨rfl, hb2⟩
    have HB2 := Lib.hid (HB1.out.trans (hb2.mono HB1.out.size))
    clear hb2 hc0 hc1 hc2 hc3 hc4 hc5 hc6 hc7 hc8
    go_wp2_with fail
    refine (HN0.out _).mono ?_
    rintro e w3 ⟨rfl, rfl⟩
    go_wp2_with fail
    refine (HN4.out _).mono ?_
    rintro e w3 ⟨rfl, rfl⟩
    go_wp2_with fail
    go_ret3
    exact ⟨by rw [hR2.out]; try rfl, HB2.out⟩
  · have hR2 := Lib.hid (show R = (0, 0, false) by rw [hR, if_neg h1])
    have d1 : ((s.size : Int) != 8) = true := by simp; omega
    clear hR hS hs hsz h1 h
    go_enter Tryd.func19, Tryd.ntmps19
    go_upto_region 1 with fail
    rw [← hW1, ← hg]
    clear hW1 hg
    go_wp2_with fail
    refine (HOPT.out _ HB1.out).mono ?_
    rintro e w2 ⟨rfl, hb2⟩
    have HB2 := Lib.hid (HB1.out.trans (hb2.mono HB1.out.size))
    clear hb2 hc0 hc1 hc2 hc3 hc4 hc5 hc6 hc7 hc8
    go_wp2_with fail
    go_ret3
    exact ⟨by rw [hR2.out]; try rfl, HB2.out⟩
end Go.Proofs.YtmfoionlapcgkaaDoor

/- Contract of the reference of layer 10: Encode. -/
namespace Go.Proofs.YtmfoionlapcgkaaDoor
open Go.ChangeShapes Go.WideShapes Go.ChangeAt Go.RowKit
set_option linter.unusedVariables false

theorem add_ok10 {P Q : ByteArray} {a b : Nat} (h1 : P.size ≤ a) (h2 : Q.size ≤ b) (h : a + b ≤ 1000000000) : (9223372036854775807 < P.size + Q.size) = False := by
  simp only [eq_iff_iff, iff_false]; omega
theorem app_le10 {P Q : ByteArray} {a b : Nat} (h1 : P.size ≤ a) (h2 : Q.size ≤ b) : (P ++ Q).size ≤ a + b := by
  rw [ByteArray.size_append]; omega
theorem bad_of {x : EthR} (h : badE x) : encE x = ([], 4) := by unfold encE; rw [if_pos h]
theorem box_cell {w0 w : World} {g : Nat} {t : TypeId} {cs : Array Value} (h : Cells w0 g t cs) (hb : Below w0.heap.size w0 w) (i : Nat) (v : Value) (hv : cs[i]? = some v) : w.cell? ⟨g, i, none⟩ = some v :=
  ((Cells.cell (Cells.kept h hb (Cells.lt h)) i).trans hv)
end Go.Proofs.YtmfoionlapcgkaaDoor

/- Contracts of the law package of layer 14: sameOptions, same (of equal segments), large; the chapter's examples. -/
namespace Go.Proofs.YtmfoionlapcgkaaDoor
open Go.ChangeShapes Go.WideShapes Go.ChangeAt Go.RowKit
set_option linter.unusedVariables false
set_option maxRecDepth 100000

theorem below_drewN14 {b : Nat} {w w' : World} (h : Below b w w') (q : Nat) : Below b w (w'.drewN q) := ⟨h.os, h.tape, h.output, h.size, h.block⟩
set_option maxHeartbeats 4000000 in
set_option maxRecDepth 20000 in
theorem sameOps14_any (l : List OpR) (A1 A2 : Option Addr) (c1 c2 : Nat) (w : World) (h1 : RowL EOpt w A1 l) (h2 : RowL EOpt w A2 l) (hn : l.length ≤ 1000000) :
    Calls Tryd.prog 35 #[.slice A1 l.length c1, .slice A2 l.length c2] w fun e w' => e = .returned (.bool true) ∧ Below w.heap.size w w' := by
  obtain ⟨n, hnl⟩ : ∃ n, n = l.length := ⟨_, rfl⟩
  rw [← hnl] at hn ⊢
  have HN := Lib.hid hnl
  have H1 := Lib.hid h1
  have H2 := Lib.hid h2
  clear hnl h1 h2
  go_enter Tryd.func35, Tryd.ntmps35
  go_wp2_with fail
  go_loopw [13] (fun i wr => ∃ k : Nat, k ≤ n ∧ i = .int .i64 k ∧ Hid (Below w.heap.size w wr)) (fun i _ => n - (intOf i).toNat)
  case atStart => exact ⟨0, Nat.zero_le _, rfl, Lib.hid (Below.refl _ _)⟩
  case round =>
    obtain ⟨k, hk, rfl, HB⟩ := hrel
    by_cases hlt : k < n
    · obtain ⟨x, hget⟩ : ∃ x, l[k]? = some x := ⟨l[k]'(by have := HN.out; omega), List.getElem?_eq_getElem _⟩
      obtain ⟨ga, oa, rfl, hga⟩ := H1.out.shapeA (by have := HN.out; omega)
      obtain ⟨gb, ob, rfl, hgb⟩ := H2.out.shapeA (by have := HN.out; omega)
      obtain ⟨a0, a1⟩ := opt_at H1.out hget HB.out
      obtain ⟨b0, b1⟩ := opt_at H2.out hget HB.out
      have hki : (k : Int) < (n : Int) := by omega
      have dlt : decide ((k : Int) < (n : Int)) = true := by simp; omega
      have hki0 : (0 : Int) ≤ (k : Int) := by omega
      generalize str x.dat = D at *
      generalize x.kd = T at *
      clear hget
      go_wp2_with fail
      go_quiet (fail)
      have HB2 := Lib.hid (below_drewN14 HB.out nq)
      clear HB a0 b0 a1 b1
      generalize wr.drewN nq = w2 at *
      go_wp2_with fail
      go_roundw
      case rel => exact ⟨k + 1, by omega, by go_num, HB2⟩
      case measure => simp [intOf]; omega
    · obtain rfl : k = n := by omega
      have hd : decide ((k : Int) < (k : Int)) = false := by simp
      go_wp2_with fail
      go_ret
      exact ⟨rfl, HB.out⟩
theorem twoT_below (w : World) (a b : Obj) : Below w.heap.size w ((w.alloc a).alloc b) := ((Below.refl _ w).alloc (Nat.le_refl _) a).alloc (by simp) b
theorem twoT_new (w : World) (a b : Obj) : ((w.alloc a).alloc b).heap[w.heap.size + 1]? = some b := by
  have := heap_alloc_new (w.alloc a) b
  rwa [show (w.alloc a).heap.size = w.heap.size + 1 by simp] at this
set_option maxHeartbeats 8000000 in
set_option maxRecDepth 100000 in
theorem same14_any (t : TcpR) (A1 A2 : Option Addr) (c1 c2 : Nat) (D : ByteArray) (w : World) (h1 : RowL EOpt w A1 t.ops) (h2 : RowL EOpt w A2 t.ops) (hn : t.ops.length ≤ 1000000) :
    Calls Tryd.prog 12 #[.agg (tcC t A1 c1 D), .agg (tcC t A2 c2 D)] w fun e w' => e = .returned (.bool true) ∧ Below w.heap.size w w' := by
  obtain ⟨src, dst, sq, ak, fl, win, urg, l, pay⟩ := t
  unfold tcC
  simp only at *
  have HSO := Lib.hid (fun (W : World) (hb : Below w.heap.size w W) => sameOps14_any l A1 A2 c1 c2 W (h1.kept hb) (h2.kept hb) hn)
  obtain ⟨n, hnl⟩ : ∃ n, n = l.length := ⟨_, rfl⟩
  rw [← hnl] at HSO hn ⊢
  generalize D = P at *
  obtain ⟨W1, hW1⟩ : ∃ W, W = (w.alloc (.cells #[.int .i64 src, .int .i64 dst, .int .u32 (sq : Int), .int .u32 (ak : Int), .int .i64 fl, .int .i64 win, .int .i64 urg, .slice A1 n c1, .string P] 31)).alloc (.cells #[.int .i64 src, .int .i64 dst, .int .u32 (sq : Int), .int .u32 (ak : Int), .int .i64 fl, .int .i64 win, .int .i64 urg, .slice A2 n c2, .string P] 31) := ⟨_, rfl⟩
  obtain ⟨g, hg⟩ : ∃ g, g = w.heap.size := ⟨_, rfl⟩
  obtain ⟨g2, hg2⟩ : ∃ g, g = w.heap.size + 1 := ⟨_, rfl⟩
  have HX := Lib.hid (show Cells W1 g 31 #[.int .i64 src, .int .i64 dst, .int .u32 (sq : Int), .int .u32 (ak : Int), .int .i64 fl, .int .i64 win, .int .i64 urg, .slice A1 n c1, .string P] by rw [hW1, hg]; exact (Cells.kept (heap_alloc_new w _) (below_alloc6 _ _) (by simp)))
  have HY := Lib.hid (show Cells W1 g2 31 #[.int .i64 src, .int .i64 dst, .int .u32 (sq : Int), .int .u32 (ak : Int), .int .i64 fl, .int .i64 win, .int .i64 urg, .slice A2 n c2, .string P] by rw [hW1, hg2]; exact twoT_new w _ _)
  have HB1 := Lib.hid (show Below w.heap.size w W1 by rw [hW1]; exact twoT_below w _ _)
  have x0 := box_cell HX.out (Below.refl _ _) 0 (.int .i64 src) rfl
  have y0 := box_cell HY.out (Below.refl _ _) 0 (.int .i64 src) rfl
  have x1 := box_cell HX.out (Below.refl _ _) 1 (.int .i64 dst) rfl
  have y1 := box_cell HY.out (Below.refl _ _) 1 (.int .i64 dst) rfl
  have x2 := box_cell HX.out (Below.refl _ _) 2 (.int .u32 (sq : Int)) rfl
  have y2 := box_cell HY.out (Below.refl _ _) 2 (.int .u32 (sq : Int)) rfl
  have x3 := box_cell HX.out (Below.refl _ _) 3 (.int .u32 (ak : Int)) rfl
  have y3 := box_cell HY.out (Below.refl _ _) 3 (.int .u32 (ak : Int)) rfl
  have x4 := box_cell HX.out (Below.refl _ _) 4 (.int .i64 fl) rfl
  have y4 := box_cell HY.out (Below.refl _ _) 4 (.int .i64 fl) rfl
  have x5 := box_cell HX.out (Below.refl _ _) 5 (.int .i64 win) rfl
  have y5 := box_cell HY.out (Below.refl _ _) 5 (.int .i64 win) rfl
  have x6 := box_cell HX.out (Below.refl _ _) 6 (.int .i64 urg) rfl
  have y6 := box_cell HY.out (Below.refl _ _) 6 (.int .i64 urg) rfl
  have x7 := box_cell HX.out (Below.refl _ _) 7 (.slice A1 n c1) rfl
  have y7 := box_cell HY.out (Below.refl _ _) 7 (.slice A2 n c2) rfl
  have x8 := box_cell HX.out (Below.refl _ _) 8 (.string P) rfl
  have y8 := box_cell HY.out (Below.refl _ _) 8 (.string P) rfl
  clear hnl h1 h2
  go_enter Tryd.func12, Tryd.ntmps12
  go_upto_region 1 with fail
  rw [← hW1, ← hg2, ← hg]
  clear hW1 hg hg2
  go_wp2_with fail
  refine (HSO.out _ HB1.out).mono ?_
  rintro e w2 ⟨rfl, hb2⟩
  have HB2 := Lib.hid (HB1.out.trans (hb2.mono HB1.out.size))
  clear hb2 x0 y0 x1 y1 x2 y2 x3 y3 x4 y4 x5 y5 x6 y6 x7 y7 x8 y8
  go_wp2_with fail
  go_ret
  exact ⟨rfl, HB2.out⟩
def largeT (t : TcpR) : Prop := 61000 < t.pay.length ∨ 60 < t.ops.length
instance (t : TcpR) : Decidable (largeT t) := inferInstanceAs (Decidable (_ ∨ _))
set_option maxHeartbeats 8000000 in
set_option maxRecDepth 100000 in
theorem large14_any (t : TcpR) (A : Option Addr) (c : Nat) (D : ByteArray) (w : World) (hD : D = str t.pay) :
    Calls Tryd.prog 13 #[.agg (tcC t A c D)] w fun e w' => e = .returned (.bool (decide (largeT t))) ∧ Below w.heap.size w w' := by
  obtain ⟨Q, hQ⟩ : ∃ Q, Q = decide (largeT t) := ⟨_, rfl⟩
  rw [← hQ]
  have hz : D.size = t.pay.length := by rw [hD, str_size]
  obtain ⟨n, hn⟩ : ∃ n, n = t.ops.length := ⟨_, rfl⟩
  have hL : largeT t ↔ (61000 < D.size ∨ 60 < n) := by rw [hz, hn]; exact Iff.rfl
  obtain ⟨W1, hW1⟩ : ∃ W, W = w.alloc (.cells (tcC t A c D) 31) := ⟨_, rfl⟩
  obtain ⟨g, hg⟩ : ∃ g, g = w.heap.size := ⟨_, rfl⟩
  have HX := Lib.hid (show Cells W1 g 31 (tcC t A c D) by rw [hW1, hg]; exact heap_alloc_new w _)
  have HB1 := Lib.hid (show Below w.heap.size w W1 by rw [hW1]; exact below_alloc6 w _)
  unfold tcC at hW1 HX
  unfold tcC
  rw [← hn] at hW1 HX ⊢
  have x7 := (Cells.cell HX.out 7).trans (show _ = some (Value.slice A n c) from rfl)
  have x8 := (Cells.cell HX.out 8).trans (show _ = some (Value.string D) from rfl)
  by_cases q1 : 61000 < D.size
  · have HQ := Lib.hid (show Q = true by rw [hQ]; exact decide_eq_true (hL.2 (.inl q1)))
    have d1 : decide ((61000 : Int) < (D.size : Int)) = true := by simp; omega
    have n1 : (61000 : Int) < (D.size : Int) := by omega
    clear hQ hD hz hL hn
    go_enter Tryd.func13, Tryd.ntmps13
    go_upto_region 1 with fail
    rw [← hW1, ← hg]
    clear hW1 hg
    go_wp2_with fail
    go_ret
    exact ⟨by rw [HQ.out]; rfl, HB1.out⟩
  · have d1 : decide ((61000 : Int) < (D.size : Int)) = false := by simp; omega
    have n1 : ¬ (61000 : Int) < (D.size : Int) := by omega
    by_cases q2 : 60 < n
    · have HQ := Lib.hid (show Q = true by rw [hQ]; exact decide_eq_true (hL.2 (.inr q2)))
      have d2 : decide ((60 : Int) < (n : Int)) = true := by simp; omega
      have n2 : (60 : Int) < (n : Int) := by omega
      clear hQ hD hz hL hn
      go_enter Tryd.func13, Tryd.ntmps13
      go_upto_region 1 with fail
      rw [← hW1, ← hg]
      clear hW1 hg
      go_wp2_with fail
      go_ret
      exact ⟨by rw [HQ.out]; rfl, HB1.out⟩
    · have HQ := Lib.hid (show Q = false by rw [hQ]; exact decide_eq_false (fun h => by rcases hL.1 h with h | h; exact q1 h; exact q2 h))
      have d2 : decide ((60 : Int) < (n : Int)) = false := by simp; omega
      have n2 : ¬ (60 : Int) < (n : Int) := by omega
      clear hQ hD hz hL hn
      go_enter Tryd.func13, Tryd.ntmps13
      go_upto_region 1 with fail
      rw [← hW1, ← hg]
      clear hW1 hg
      go_wp2_with fail
      go_ret
      exact ⟨by rw [HQ.out]; rfl, HB1.out⟩
/-! ### The chapter's examples -/
def exA : AdR := ⟨false, 0, 167772161⟩
def exT : TcpR := ⟨1, 2, 3, 0, 2, 4, 0, [], []⟩
def exSt : TcpR := ⟨0, 0, 0, 0, 0, 0, 0, [⟨8, [0, 0, 0, 1, 0, 0, 0, 2]⟩], []⟩
def exSc : TcpR := ⟨0, 0, 0, 0, 0, 0, 0, [⟨3, [15]⟩], []⟩
def exL : TcpR := ⟨0, 0, 0, 0, 3, 0, 0, [], [97, 98, 99]⟩
set_option maxRecDepth 100000 in
theorem exT_err : (encT exA exA exT).2 = 0 := by kernel_rfl
set_option maxRecDepth 100000 in
theorem exT_len : (encT exA exA exT).1.length = 20 := by kernel_rfl
set_option maxRecDepth 100000 in
theorem exT_mid : ((encT exA exA exT).1.drop 12).take 4 = [80, 2, 0, 4] := by kernel_rfl
theorem exSt_sta : staT exSt = (1, 2, true) := by kernel_rfl
theorem exSc_sca : scaT exSc = (14, true) := by kernel_rfl
theorem exL_len : lenT exL = 5 := by kernel_rfl
end Go.Proofs.YtmfoionlapcgkaaDoor
