/- Contracts of the functions, part 23: TcpRDec. -/
import Derived.Test.YtmfoionlapcgkaaDoorPA18
import Derived.Test.YtmfoionlapcgkaaDoorPA19
import Derived.Test.YtmfoionlapcgkaaDoorPA20
import Derived.Test.YtmfoionlapcgkaaDoorPA21
import Derived.Test.YtmfoionlapcgkaaDoorPA22
/- Contract of the reference of layer 14: Decode. -/
namespace Go.Proofs.YtmfoionlapcgkaaDoor
open Go.ChangeShapes Go.WideShapes Go.ChangeAt Go.RowKit
set_option linter.unusedVariables false
set_option maxRecDepth 100000

def DecTP (w : World) (R : TcpR × Nat) (e : Ending) (w' : World) : Prop :=
  ∃ A cap, e = .returned (.tuple #[.agg (tcC R.1 A cap (str R.1.pay)), .int .i64 (R.2 : Int)]) ∧ RowL EOpt w' A R.1.ops ∧ (A = none → cap = 0) ∧ Below w.heap.size w w'
theorem decT_err {w wz : World} {R : TcpR × Nat} {er : Nat} {E : Int} (hE : (er : Int) = E) (hr : R = (zeroT, er)) (hb : Below w.heap.size w wz) :
    DecTP w R (.returned (.tuple #[.agg #[.int .i64 0, .int .i64 0, .int .u32 0, .int .u32 0, .int .i64 0, .int .i64 0, .int .i64 0, .slice none 0 0, .string ⟨#[]⟩], .int .i64 E])) wz := by
  subst hE hr
  exact ⟨none, 0, rfl, RowL.nil _ _, fun _ => rfl, hb⟩
theorem s14_at {s : ByteArray} {S : List UInt8} (h : s = str S) (i : Nat) (h1 : i < s.size) : s[i].toNat = byt S i := by
  subst h
  have h2 : i < S.length := by rw [str_size] at h1; exact h1
  unfold byt
  rw [List.getD_eq_getElem?_getD, List.getElem?_eq_getElem h2]
  show ((str S).data[i]).toNat = _
  simp [str]
set_option maxHeartbeats 8000000 in
set_option maxRecDepth 100000 in
theorem rdec14_any (v1 v2 : Bool) (h1 l1 h2 l2 : Nat) (S : List UInt8) (w : World) (ha : fits13 ⟨v1, h1, l1⟩) (hb : fits13 ⟨v2, h2, l2⟩) (hs : S.length ≤ 1000000) :
    Calls Tryd.prog 11 #[.agg #[.bool v1, .int .u64 (h1 : Int), .int .u64 (l1 : Int)], .agg #[.bool v2, .int .u64 (h2 : Int), .int .u64 (l2 : Int)], .string (str S)] w (DecTP w (decT ⟨v1, h1, l1⟩ ⟨v2, h2, l2⟩ S)) := by
  obtain ⟨s, hS⟩ : ∃ s, s = str S := ⟨_, rfl⟩
  have hsz : s.size = S.length := by rw [hS, str_size]
  rw [← hS]
  obtain ⟨R, hR⟩ : ∃ R, R = decT ⟨v1, h1, l1⟩ ⟨v2, h2, l2⟩ S := ⟨_, rfl⟩
  rw [← hR]
  obtain ⟨W0, hW0⟩ : ∃ W0, W0 = ((w.alloc (.cells #[.bool v1, .int .u64 (h1 : Int), .int .u64 (l1 : Int)] 24)).alloc (.cells #[.bool v2, .int .u64 (h2 : Int), .int .u64 (l2 : Int)] 24)).alloc (.cells #[.int .i64 0, .int .i64 0, .int .u32 0, .int .u32 0, .int .i64 0, .int .i64 0, .int .i64 0, .slice none 0 0, .string ⟨#[]⟩] 31) := ⟨_, rfl⟩
  obtain ⟨gz, hgz⟩ : ∃ g, g = w.heap.size + 2 := ⟨_, rfl⟩
  have HT0 := Lib.hid (show Two W0 w.heap.size v1 h1 l1 v2 h2 l2 by rw [hW0]; exact (two_new w v1 h1 l1 v2 h2 l2 _).kept (below_alloc6 _ _))
  have HB0 := Lib.hid (show Below w.heap.size w W0 by rw [hW0]; exact (((Below.refl _ _).alloc (Nat.le_refl _) _).alloc (by simp) _).alloc (by simp; omega) _)
  have HZ0 := Lib.hid (show Cells W0 gz 31 #[.int .i64 0, .int .i64 0, .int .u32 0, .int .u32 0, .int .i64 0, .int .i64 0, .int .i64 0, .slice none 0 0, .string ⟨#[]⟩] by
    have h := heap_alloc_new ((w.alloc (.cells #[.bool v1, .int .u64 (h1 : Int), .int .u64 (l1 : Int)] 24)).alloc (.cells #[.bool v2, .int .u64 (h2 : Int), .int .u64 (l2 : Int)] 24)) (.cells #[.int .i64 0, .int .i64 0, .int .u32 0, .int .u32 0, .int .i64 0, .int .i64 0, .int .i64 0, .slice none 0 0, .string ⟨#[]⟩] 31)
    rw [hW0, hgz]
    rwa [show ((w.alloc (.cells #[.bool v1, .int .u64 (h1 : Int), .int .u64 (l1 : Int)] 24)).alloc (.cells #[.bool v2, .int .u64 (h2 : Int), .int .u64 (l2 : Int)] 24)).heap.size = w.heap.size + 2 by simp] at h)
  have HGZ := Lib.hid (show w.heap.size ≤ gz by omega)
  have hfit := fun W => rfam14_any v1 v2 h1 l1 h2 l2 W
  unfold decT at hR
  by_cases h0 : ¬ fitU ⟨v1, h1, l1⟩ ⟨v2, h2, l2⟩
  · have hR2 := Lib.hid (show R = (zeroT, 13) by rw [hR, if_pos h0])
    rw [decide_eq_false h0] at hfit
    have HFIT := Lib.hid hfit
    clear hR hS hsz h0 hfit ha hb
    go_enter Tryd.func11, Tryd.ntmps11
    go_upto_region 1 with fail
    rw [← hW0, ← hgz]
    clear hW0 hgz
    obtain ⟨q0, q1, q2, q3, q4, q5, q6⟩ := id HT0.out
    go_wp2_with fail
    refine (HFIT.out _).mono ?_
    rintro e w1 ⟨rfl, hb1⟩
    clear q0 q1 q2 q3 q4 q5 q6
    have HT1 := Lib.hid (HT0.out.kept hb1)
    have HZ1 := Lib.hid (Cells.kept HZ0.out hb1 HZ0.out.lt)
    have HB1 := Lib.hid (HB0.out.trans (hb1.mono HB0.out.size))
    clear hb1 HT0 HZ0 HB0 HFIT
    have x0 := (Cells.cell HZ1.out 0).trans (show _ = some (Value.int .i64 0) from rfl)
    have zx0 := Cells.frozen HZ1.out 0
    have x1 := (Cells.cell HZ1.out 1).trans (show _ = some (Value.int .i64 0) from rfl)
    have zx1 := Cells.frozen HZ1.out 1
    have x2 := (Cells.cell HZ1.out 2).trans (show _ = some (Value.int .u32 0) from rfl)
    have zx2 := Cells.frozen HZ1.out 2
    have x3 := (Cells.cell HZ1.out 3).trans (show _ = some (Value.int .u32 0) from rfl)
    have zx3 := Cells.frozen HZ1.out 3
    have x4 := (Cells.cell HZ1.out 4).trans (show _ = some (Value.int .i64 0) from rfl)
    have zx4 := Cells.frozen HZ1.out 4
    have x5 := (Cells.cell HZ1.out 5).trans (show _ = some (Value.int .i64 0) from rfl)
    have zx5 := Cells.frozen HZ1.out 5
    have x6 := (Cells.cell HZ1.out 6).trans (show _ = some (Value.int .i64 0) from rfl)
    have zx6 := Cells.frozen HZ1.out 6
    have x7 := (Cells.cell HZ1.out 7).trans (show _ = some (Value.slice none 0 0) from rfl)
    have zx7 := Cells.frozen HZ1.out 7
    have x8 := (Cells.cell HZ1.out 8).trans (show _ = some (Value.string ⟨#[]⟩) from rfl)
    have zx8 := Cells.frozen HZ1.out 8
    have hgx := HZ1.out.lt
    go_wp2_with fail
    refine bodyPost_ret (res_box2 tcpTy rfl _ _ rfl (HZ1.out.put [.int .i64 0, .int .i64 0, .int .u32 0, .int .u32 0, .int .i64 0, .int .i64 0, .int .i64 0, .slice none 0 0, .string ⟨#[]⟩] rfl)) rfl ?_
    exact decT_err (er := 13) rfl hR2.out (putB_below HGZ.out [.int .i64 0, .int .i64 0, .int .u32 0, .int .u32 0, .int .i64 0, .int .i64 0, .int .i64 0, .slice none 0 0, .string ⟨#[]⟩] 0 _ HB1.out)
  rw [if_neg h0] at hR
  have h0' := Classical.not_not.1 h0
  rw [decide_eq_true h0'] at hfit
  have HFIT := Lib.hid hfit
  clear hfit h0
  by_cases c1 : 65535 < S.length
  · have hR2 := Lib.hid (show R = (zeroT, 3) by rw [hR, if_pos c1])
    have d1 : decide ((65535 : Int) < (s.size : Int)) = true := by simp; omega
    have n1 : (65535 : Int) < (s.size : Int) := by omega
    clear hR hS hsz h0' ha hb c1
    go_enter Tryd.func11, Tryd.ntmps11
    go_upto_region 1 with fail
    rw [← hW0, ← hgz]
    clear hW0 hgz
    obtain ⟨q0, q1, q2, q3, q4, q5, q6⟩ := id HT0.out
    go_wp2_with fail
    refine (HFIT.out _).mono ?_
    rintro e w1 ⟨rfl, hb1⟩
    clear q0 q1 q2 q3 q4 q5 q6
    have HT1 := Lib.hid (HT0.out.kept hb1)
    have HZ1 := Lib.hid (Cells.kept HZ0.out hb1 HZ0.out.lt)
    have HB1 := Lib.hid (HB0.out.trans (hb1.mono HB0.out.size))
    clear hb1 HT0 HZ0 HB0 HFIT
    have x0 := (Cells.cell HZ1.out 0).trans (show _ = some (Value.int .i64 0) from rfl)
    have zx0 := Cells.frozen HZ1.out 0
    have x1 := (Cells.cell HZ1.out 1).trans (show _ = some (Value.int .i64 0) from rfl)
    have zx1 := Cells.frozen HZ1.out 1
    have x2 := (Cells.cell HZ1.out 2).trans (show _ = some (Value.int .u32 0) from rfl)
    have zx2 := Cells.frozen HZ1.out 2
    have x3 := (Cells.cell HZ1.out 3).trans (show _ = some (Value.int .u32 0) from rfl)
    have zx3 := Cells.frozen HZ1.out 3
    have x4 := (Cells.cell HZ1.out 4).trans (show _ = some (Value.int .i64 0) from rfl)
    have zx4 := Cells.frozen HZ1.out 4
    have x5 := (Cells.cell HZ1.out 5).trans (show _ = some (Value.int .i64 0) from rfl)
    have zx5 := Cells.frozen HZ1.out 5
    have x6 := (Cells.cell HZ1.out 6).trans (show _ = some (Value.int .i64 0) from rfl)
    have zx6 := Cells.frozen HZ1.out 6
    have x7 := (Cells.cell HZ1.out 7).trans (show _ = some (Value.slice none 0 0) from rfl)
    have zx7 := Cells.frozen HZ1.out 7
    have x8 := (Cells.cell HZ1.out 8).trans (show _ = some (Value.string ⟨#[]⟩) from rfl)
    have zx8 := Cells.frozen HZ1.out 8
    have hgx := HZ1.out.lt
    go_wp2_with fail
    refine bodyPost_ret (res_box2 tcpTy rfl _ _ rfl (HZ1.out.put [.int .i64 0, .int .i64 0, .int .u32 0, .int .u32 0, .int .i64 0, .int .i64 0, .int .i64 0, .slice none 0 0, .string ⟨#[]⟩] rfl)) rfl ?_
    exact decT_err (er := 3) rfl hR2.out (putB_below HGZ.out [.int .i64 0, .int .i64 0, .int .u32 0, .int .u32 0, .int .i64 0, .int .i64 0, .int .i64 0, .slice none 0 0, .string ⟨#[]⟩] 0 _ HB1.out)
  rw [if_neg c1] at hR
  have d1 : decide ((65535 : Int) < (s.size : Int)) = false := by simp; omega
  have n1 : ¬ (65535 : Int) < (s.size : Int) := by omega
  have hs6 : s.size ≤ 65535 := by omega
  by_cases c2 : S.length < 20
  · have hR2 := Lib.hid (show R = (zeroT, 1) by rw [hR, if_pos c2])
    have d2 : decide ((s.size : Int) < 20) = true := by simp; omega
    have n2 : (s.size : Int) < 20 := by omega
    clear hR hS hsz h0' ha hb c1 c2
    go_enter Tryd.func11, Tryd.ntmps11
    go_upto_region 1 with fail
    rw [← hW0, ← hgz]
    clear hW0 hgz
    obtain ⟨q0, q1, q2, q3, q4, q5, q6⟩ := id HT0.out
    go_wp2_with fail
    refine (HFIT.out _).mono ?_
    rintro e w1 ⟨rfl, hb1⟩
    clear q0 q1 q2 q3 q4 q5 q6
    have HT1 := Lib.hid (HT0.out.kept hb1)
    have HZ1 := Lib.hid (Cells.kept HZ0.out hb1 HZ0.out.lt)
    have HB1 := Lib.hid (HB0.out.trans (hb1.mono HB0.out.size))
    clear hb1 HT0 HZ0 HB0 HFIT
    have x0 := (Cells.cell HZ1.out 0).trans (show _ = some (Value.int .i64 0) from rfl)
    have zx0 := Cells.frozen HZ1.out 0
    have x1 := (Cells.cell HZ1.out 1).trans (show _ = some (Value.int .i64 0) from rfl)
    have zx1 := Cells.frozen HZ1.out 1
    have x2 := (Cells.cell HZ1.out 2).trans (show _ = some (Value.int .u32 0) from rfl)
    have zx2 := Cells.frozen HZ1.out 2
    have x3 := (Cells.cell HZ1.out 3).trans (show _ = some (Value.int .u32 0) from rfl)
    have zx3 := Cells.frozen HZ1.out 3
    have x4 := (Cells.cell HZ1.out 4).trans (show _ = some (Value.int .i64 0) from rfl)
    have zx4 := Cells.frozen HZ1.out 4
    have x5 := (Cells.cell HZ1.out 5).trans (show _ = some (Value.int .i64 0) from rfl)
    have zx5 := Cells.frozen HZ1.out 5
    have x6 := (Cells.cell HZ1.out 6).trans (show _ = some (Value.int .i64 0) from rfl)
    have zx6 := Cells.frozen HZ1.out 6
    have x7 := (Cells.cell HZ1.out 7).trans (show _ = some (Value.slice none 0 0) from rfl)
    have zx7 := Cells.frozen HZ1.out 7
    have x8 := (Cells.cell HZ1.out 8).trans (show _ = some (Value.string ⟨#[]⟩) from rfl)
    have zx8 := Cells.frozen HZ1.out 8
    have hgx := HZ1.out.lt
    go_wp2_with fail
    refine bodyPost_ret (res_box2 tcpTy rfl _ _ rfl (HZ1.out.put [.int .i64 0, .int .i64 0, .int .u32 0, .int .u32 0, .int .i64 0, .int .i64 0, .int .i64 0, .slice none 0 0, .string ⟨#[]⟩] rfl)) rfl ?_
    exact decT_err (er := 1) rfl hR2.out (putB_below HGZ.out [.int .i64 0, .int .i64 0, .int .u32 0, .int .u32 0, .int .i64 0, .int .i64 0, .int .i64 0, .slice none 0 0, .string ⟨#[]⟩] 0 _ HB1.out)
  rw [if_neg c2] at hR
  have d2 : decide ((s.size : Int) < 20) = false := by simp; omega
  have n2 : ¬ (s.size : Int) < 20 := by omega
  have hs12 : 12 < s.size := by omega
  have i12 : (12 : Int) < (s.size : Int) := by omega
  obtain ⟨b12, hb12⟩ : ∃ b, b = (s[12]'hs12).toNat := ⟨_, rfl⟩
  have hx12 := s14_at hS 12 hs12
  rw [← hb12] at hx12
  have hb12' : (((s[12]'hs12).toNat : Nat) : Int) = (b12 : Int) := by rw [hb12]
  have hb12l : b12 < 256 := by rw [hb12]; exact u8_lt _
  obtain ⟨q12, hq12⟩ : ∃ q, q = b12 / 16 := ⟨_, rfl⟩
  obtain ⟨hd, hhd⟩ : ∃ q, q = q12 * 4 := ⟨_, rfl⟩
  have kq : (b12 : Int) / 16 = (q12 : Int) := by omega
  have kh : (q12 : Int) * 4 = (hd : Int) := by omega
  have hq16 : q12 < 16 := by omega
  have hd60 : hd ≤ 60 := by omega
  have hhT : hdT S = hd := by unfold hdT; rw [← hx12, hhd, hq12]
  rw [hhT] at hR
  by_cases c3 : hd < 20
  · have hR2 := Lib.hid (show R = (zeroT, 2) by rw [hR, if_pos c3])
    have d3 : decide ((hd : Int) < 20) = true := by simp; omega
    have n3 : (hd : Int) < 20 := by omega
    clear hR hS hsz h0' ha hb c1 c2 c3 hx12 hhT hhd hq12 hb12
    go_enter Tryd.func11, Tryd.ntmps11
    go_upto_region 1 with fail
    rw [← hW0, ← hgz]
    clear hW0 hgz
    obtain ⟨q0, q1, q2, q3, q4, q5, q6⟩ := id HT0.out
    go_wp2_with fail
    refine (HFIT.out _).mono ?_
    rintro e w1 ⟨rfl, hb1⟩
    clear q0 q1 q2 q3 q4 q5 q6
    have HT1 := Lib.hid (HT0.out.kept hb1)
    have HZ1 := Lib.hid (Cells.kept HZ0.out hb1 HZ0.out.lt)
    have HB1 := Lib.hid (HB0.out.trans (hb1.mono HB0.out.size))
    clear hb1 HT0 HZ0 HB0 HFIT
    have x0 := (Cells.cell HZ1.out 0).trans (show _ = some (Value.int .i64 0) from rfl)
    have zx0 := Cells.frozen HZ1.out 0
    have x1 := (Cells.cell HZ1.out 1).trans (show _ = some (Value.int .i64 0) from rfl)
    have zx1 := Cells.frozen HZ1.out 1
    have x2 := (Cells.cell HZ1.out 2).trans (show _ = some (Value.int .u32 0) from rfl)
    have zx2 := Cells.frozen HZ1.out 2
    have x3 := (Cells.cell HZ1.out 3).trans (show _ = some (Value.int .u32 0) from rfl)
    have zx3 := Cells.frozen HZ1.out 3
    have x4 := (Cells.cell HZ1.out 4).trans (show _ = some (Value.int .i64 0) from rfl)
    have zx4 := Cells.frozen HZ1.out 4
    have x5 := (Cells.cell HZ1.out 5).trans (show _ = some (Value.int .i64 0) from rfl)
    have zx5 := Cells.frozen HZ1.out 5
    have x6 := (Cells.cell HZ1.out 6).trans (show _ = some (Value.int .i64 0) from rfl)
    have zx6 := Cells.frozen HZ1.out 6
    have x7 := (Cells.cell HZ1.out 7).trans (show _ = some (Value.slice none 0 0) from rfl)
    have zx7 := Cells.frozen HZ1.out 7
    have x8 := (Cells.cell HZ1.out 8).trans (show _ = some (Value.string ⟨#[]⟩) from rfl)
    have zx8 := Cells.frozen HZ1.out 8
    have hgx := HZ1.out.lt
    go_wp2_with fail
    refine bodyPost_ret (res_box2 tcpTy rfl _ _ rfl (HZ1.out.put [.int .i64 0, .int .i64 0, .int .u32 0, .int .u32 0, .int .i64 0, .int .i64 0, .int .i64 0, .slice none 0 0, .string ⟨#[]⟩] rfl)) rfl ?_
    exact decT_err (er := 2) rfl hR2.out (putB_below HGZ.out [.int .i64 0, .int .i64 0, .int .u32 0, .int .u32 0, .int .i64 0, .int .i64 0, .int .i64 0, .slice none 0 0, .string ⟨#[]⟩] 0 _ HB1.out)
  rw [if_neg c3] at hR
  have d3 : decide ((hd : Int) < 20) = false := by simp; omega
  have n3 : ¬ (hd : Int) < 20 := by omega
  by_cases c4 : S.length < hd
  · have hR2 := Lib.hid (show R = (zeroT, 1) by rw [hR, if_pos c4])
    have d4 : decide ((s.size : Int) < (hd : Int)) = true := by simp; omega
    have n4 : (s.size : Int) < (hd : Int) := by omega
    clear hR hS hsz h0' ha hb c1 c2 c3 c4 hx12 hhT hhd hq12 hb12
    go_enter Tryd.func11, Tryd.ntmps11
    go_upto_region 1 with fail
    rw [← hW0, ← hgz]
    clear hW0 hgz
    obtain ⟨q0, q1, q2, q3, q4, q5, q6⟩ := id HT0.out
    go_wp2_with fail
    refine (HFIT.out _).mono ?_
    rintro e w1 ⟨rfl, hb1⟩
    clear q0 q1 q2 q3 q4 q5 q6
    have HT1 := Lib.hid (HT0.out.kept hb1)
    have HZ1 := Lib.hid (Cells.kept HZ0.out hb1 HZ0.out.lt)
    have HB1 := Lib.hid (HB0.out.trans (hb1.mono HB0.out.size))
    clear hb1 HT0 HZ0 HB0 HFIT
    have x0 := (Cells.cell HZ1.out 0).trans (show _ = some (Value.int .i64 0) from rfl)
    have zx0 := Cells.frozen HZ1.out 0
    have x1 := (Cells.cell HZ1.out 1).trans (show _ = some (Value.int .i64 0) from rfl)
    have zx1 := Cells.frozen HZ1.out 1
    have x2 := (Cells.cell HZ1.out 2).trans (show _ = some (Value.int .u32 0) from rfl)
    have zx2 := Cells.frozen HZ1.out 2
    have x3 := (Cells.cell HZ1.out 3).trans (show _ = some (Value.int .u32 0) from rfl)
    have zx3 := Cells.frozen HZ1.out 3
    have x4 := (Cells.cell HZ1.out 4).trans (show _ = some (Value.int .i64 0) from rfl)
    have zx4 := Cells.frozen HZ1.out 4
    have x5 := (Cells.cell HZ1.out 5).trans (show _ = some (Value.int .i64 0) from rfl)
    have zx5 := Cells.frozen HZ1.out 5
    have x6 := (Cells.cell HZ1.out 6).trans (show _ = some (Value.int .i64 0) from rfl)
    have zx6 := Cells.frozen HZ1.out 6
    have x7 := (Cells.cell HZ1.out 7).trans (show _ = some (Value.slice none 0 0) from rfl)
    have zx7 := Cells.frozen HZ1.out 7
    have x8 := (Cells.cell HZ1.out 8).trans (show _ = some (Value.string ⟨#[]⟩) from rfl)
    have zx8 := Cells.frozen HZ1.out 8
    have hgx := HZ1.out.lt
    go_wp2_with fail
    refine bodyPost_ret (res_box2 tcpTy rfl _ _ rfl (HZ1.out.put [.int .i64 0, .int .i64 0, .int .u32 0, .int .u32 0, .int .i64 0, .int .i64 0, .int .i64 0, .slice none 0 0, .string ⟨#[]⟩] rfl)) rfl ?_
    exact decT_err (er := 1) rfl hR2.out (putB_below HGZ.out [.int .i64 0, .int .i64 0, .int .u32 0, .int .u32 0, .int .i64 0, .int .i64 0, .int .i64 0, .slice none 0 0, .string ⟨#[]⟩] 0 _ HB1.out)
  rw [if_neg c4] at hR
  have d4 : decide ((s.size : Int) < (hd : Int)) = false := by simp; omega
  have n4 : ¬ (s.size : Int) < (hd : Int) := by omega
  obtain ⟨D, hD⟩ : ∃ D, D = str (psU ⟨v1, h1, l1⟩ ⟨v2, h2, l2⟩ 6 s.size) := ⟨_, rfl⟩
  have hDs : D.size ≤ 40 := by rw [hD, str_size]; exact psU_size _ _ _ _
  obtain ⟨q, hq⟩ : ∃ q, q = csum (psU ⟨v1, h1, l1⟩ ⟨v2, h2, l2⟩ 6 S.length ++ S) := ⟨_, rfl⟩
  have HPS := Lib.hid (fun (W : World) => show Calls Tryd.prog 32 #[.agg #[.bool v1, .int .u64 (h1 : Int), .int .u64 (l1 : Int)], .agg #[.bool v2, .int .u64 (h2 : Int), .int .u64 (l2 : Int)], .int .i64 6, .int .i64 (s.size : Int)] W fun e w' => e = .returned (.string D) ∧ Below W.heap.size W w' from by rw [hD]; exact rpseudoT ⟨v1, h1, l1⟩ ⟨v2, h2, l2⟩ s.size h0' ha hb (by omega) W)
  have HSUM := Lib.hid (fun (W : World) => show Calls Tryd.prog 31 #[.string (D ++ s)] W fun e w' => e = .returned (.int .i64 (q : Int)) ∧ W = w' from by
    have := rsum_any (D ++ s) W (by rw [ByteArray.size_append]; omega)
    rw [hD, hS, str_append] at this ⊢
    rw [hq, ← str_size S]
    simpa [str] using this)
  have r0 : (9223372036854775807 < D.size + s.size) = False := by simp only [eq_iff_iff, iff_false]; omega
  rw [← hq] at hR
  by_cases c5 : q ≠ 0
  · have hR2 := Lib.hid (show R = (zeroT, 8) by rw [hR, if_pos c5])
    have d5 : ((q : Int) != 0) = true := by simp; omega
    clear hR hS hsz h0' ha hb c1 c2 c3 c4 c5 hx12 hhT hhd hq12 hb12 hD hq hDs
    go_enter Tryd.func11, Tryd.ntmps11
    go_upto_region 1 with fail
    rw [← hW0, ← hgz]
    clear hW0 hgz
    obtain ⟨q0, q1, q2, q3, q4, q5, q6⟩ := id HT0.out
    go_wp2_with fail
    refine (HFIT.out _).mono ?_
    rintro e w1 ⟨rfl, hb1⟩
    clear q0 q1 q2 q3 q4 q5 q6
    have HT1 := Lib.hid (HT0.out.kept hb1)
    have HZ1 := Lib.hid (Cells.kept HZ0.out hb1 HZ0.out.lt)
    have HB1 := Lib.hid (HB0.out.trans (hb1.mono HB0.out.size))
    clear hb1 HT0 HZ0 HB0 HFIT
    obtain ⟨q0, q1, q2, q3, q4, q5, q6⟩ := id HT1.out
    go_wp2_with fail
    refine (HPS.out _).mono ?_
    rintro e w2 ⟨rfl, hb2⟩
    clear q0 q1 q2 q3 q4 q5 q6
    have HZ2 := Lib.hid (Cells.kept HZ1.out hb2 HZ1.out.lt)
    have HB2 := Lib.hid (HB1.out.trans (hb2.mono HB1.out.size))
    clear hb2 HT1 HZ1 HB1 HPS
    go_wp2_with fail
    refine (HSUM.out _).mono ?_
    rintro e w3 ⟨rfl, rfl⟩
    clear HSUM
    have x0 := (Cells.cell HZ2.out 0).trans (show _ = some (Value.int .i64 0) from rfl)
    have zx0 := Cells.frozen HZ2.out 0
    have x1 := (Cells.cell HZ2.out 1).trans (show _ = some (Value.int .i64 0) from rfl)
    have zx1 := Cells.frozen HZ2.out 1
    have x2 := (Cells.cell HZ2.out 2).trans (show _ = some (Value.int .u32 0) from rfl)
    have zx2 := Cells.frozen HZ2.out 2
    have x3 := (Cells.cell HZ2.out 3).trans (show _ = some (Value.int .u32 0) from rfl)
    have zx3 := Cells.frozen HZ2.out 3
    have x4 := (Cells.cell HZ2.out 4).trans (show _ = some (Value.int .i64 0) from rfl)
    have zx4 := Cells.frozen HZ2.out 4
    have x5 := (Cells.cell HZ2.out 5).trans (show _ = some (Value.int .i64 0) from rfl)
    have zx5 := Cells.frozen HZ2.out 5
    have x6 := (Cells.cell HZ2.out 6).trans (show _ = some (Value.int .i64 0) from rfl)
    have zx6 := Cells.frozen HZ2.out 6
    have x7 := (Cells.cell HZ2.out 7).trans (show _ = some (Value.slice none 0 0) from rfl)
    have zx7 := Cells.frozen HZ2.out 7
    have x8 := (Cells.cell HZ2.out 8).trans (show _ = some (Value.string ⟨#[]⟩) from rfl)
    have zx8 := Cells.frozen HZ2.out 8
    have hgx := HZ2.out.lt
    go_wp2_with fail
    refine bodyPost_ret (res_box2 tcpTy rfl _ _ rfl (HZ2.out.put [.int .i64 0, .int .i64 0, .int .u32 0, .int .u32 0, .int .i64 0, .int .i64 0, .int .i64 0, .slice none 0 0, .string ⟨#[]⟩] rfl)) rfl ?_
    exact decT_err (er := 8) rfl hR2.out (putB_below HGZ.out [.int .i64 0, .int .i64 0, .int .u32 0, .int .u32 0, .int .i64 0, .int .i64 0, .int .i64 0, .slice none 0 0, .string ⟨#[]⟩] 0 _ HB2.out)
  rw [if_neg c5] at hR
  have d5 : ((q : Int) != 0) = false := by simp; omega
  have hexo : s.extract 20 hd = str ((S.take hd).drop 20) := by rw [extract_str11 s S hS, List.drop_take]
  have i20 : (20 : Int) ≤ (hd : Int) := by omega
  have ihd : (hd : Int) ≤ (s.size : Int) := by omega
  have HOP := Lib.hid (fun (W : World) => ropts11_any ((S.take hd).drop 20) W (by simp only [List.length_drop, List.length_take]; omega))
  obtain ⟨O, hO⟩ : ∃ o, o = str ((S.take hd).drop 20) := ⟨_, rfl⟩
  rw [← hO] at HOP hexo
  obtain ⟨od, hod⟩ : ∃ o, o = optsD ((S.take hd).drop 20) := ⟨_, rfl⟩
  rw [← hod] at HOP hR
  cases od with
  | none =>
    have hR2 := Lib.hid (show R = (zeroT, 2) by rw [hR])
    unfold OptP at HOP
    clear hR hS hsz h0' ha hb c1 c2 c3 c4 c5 hx12 hhT hhd hq12 hb12 hD hq hDs hO hod
    go_enter Tryd.func11, Tryd.ntmps11
    go_upto_region 1 with fail
    rw [← hW0, ← hgz]
    clear hW0 hgz
    obtain ⟨q0, q1, q2, q3, q4, q5, q6⟩ := id HT0.out
    go_wp2_with fail
    refine (HFIT.out _).mono ?_
    rintro e w1 ⟨rfl, hb1⟩
    clear q0 q1 q2 q3 q4 q5 q6
    have HT1 := Lib.hid (HT0.out.kept hb1)
    have HZ1 := Lib.hid (Cells.kept HZ0.out hb1 HZ0.out.lt)
    have HB1 := Lib.hid (HB0.out.trans (hb1.mono HB0.out.size))
    clear hb1 HT0 HZ0 HB0 HFIT
    obtain ⟨q0, q1, q2, q3, q4, q5, q6⟩ := id HT1.out
    go_wp2_with fail
    refine (HPS.out _).mono ?_
    rintro e w2 ⟨rfl, hb2⟩
    clear q0 q1 q2 q3 q4 q5 q6
    have HZ2 := Lib.hid (Cells.kept HZ1.out hb2 HZ1.out.lt)
    have HB2 := Lib.hid (HB1.out.trans (hb2.mono HB1.out.size))
    clear hb2 HT1 HZ1 HB1 HPS
    go_wp2_with fail
    refine (HSUM.out _).mono ?_
    rintro e w3 ⟨rfl, rfl⟩
    clear HSUM
    go_wp2_with fail
    refine (HOP.out _).mono ?_
    rintro e w4 ⟨rfl, hb4⟩
    have HZ4 := Lib.hid (Cells.kept HZ2.out hb4 HZ2.out.lt)
    have HB4 := Lib.hid (HB2.out.trans (hb4.mono HB2.out.size))
    clear hb4 HZ2 HB2 HOP
    have x0 := (Cells.cell HZ4.out 0).trans (show _ = some (Value.int .i64 0) from rfl)
    have zx0 := Cells.frozen HZ4.out 0
    have x1 := (Cells.cell HZ4.out 1).trans (show _ = some (Value.int .i64 0) from rfl)
    have zx1 := Cells.frozen HZ4.out 1
    have x2 := (Cells.cell HZ4.out 2).trans (show _ = some (Value.int .u32 0) from rfl)
    have zx2 := Cells.frozen HZ4.out 2
    have x3 := (Cells.cell HZ4.out 3).trans (show _ = some (Value.int .u32 0) from rfl)
    have zx3 := Cells.frozen HZ4.out 3
    have x4 := (Cells.cell HZ4.out 4).trans (show _ = some (Value.int .i64 0) from rfl)
    have zx4 := Cells.frozen HZ4.out 4
    have x5 := (Cells.cell HZ4.out 5).trans (show _ = some (Value.int .i64 0) from rfl)
    have zx5 := Cells.frozen HZ4.out 5
    have x6 := (Cells.cell HZ4.out 6).trans (show _ = some (Value.int .i64 0) from rfl)
    have zx6 := Cells.frozen HZ4.out 6
    have x7 := (Cells.cell HZ4.out 7).trans (show _ = some (Value.slice none 0 0) from rfl)
    have zx7 := Cells.frozen HZ4.out 7
    have x8 := (Cells.cell HZ4.out 8).trans (show _ = some (Value.string ⟨#[]⟩) from rfl)
    have zx8 := Cells.frozen HZ4.out 8
    have hgx := HZ4.out.lt
    go_wp2_with fail
    refine bodyPost_ret (res_box2 tcpTy rfl _ _ rfl (HZ4.out.put [.int .i64 0, .int .i64 0, .int .u32 0, .int .u32 0, .int .i64 0, .int .i64 0, .int .i64 0, .slice none 0 0, .string ⟨#[]⟩] rfl)) rfl ?_
    exact decT_err (er := 2) rfl hR2.out (putB_below HGZ.out [.int .i64 0, .int .i64 0, .int .u32 0, .int .u32 0, .int .i64 0, .int .i64 0, .int .i64 0, .slice none 0 0, .string ⟨#[]⟩] 0 _ HB4.out)
  | some l =>
    have hR2 := Lib.hid (show R = (outT S l, 0) by rw [hR])
    unfold OptP at HOP
    obtain ⟨m0, hm0⟩ : ∃ n, n = nm2 S 0 := ⟨_, rfl⟩
    have HN0 := Lib.hid (fun (W : World) => show Calls Tryd.prog 34 #[.string s, .int .i64 0, .int .i64 2] W fun e w' => e = .returned (.int .i64 (m0 : Int)) ∧ W = w' from by rw [hm0, hS]; exact rnum14_any S 0 2 0 2 rfl rfl (by decide) (by omega) (by omega) W)
    obtain ⟨m2, hm2⟩ : ∃ n, n = nm2 S 2 := ⟨_, rfl⟩
    have HN2 := Lib.hid (fun (W : World) => show Calls Tryd.prog 34 #[.string s, .int .i64 2, .int .i64 2] W fun e w' => e = .returned (.int .i64 (m2 : Int)) ∧ W = w' from by rw [hm2, hS]; exact rnum14_any S 2 2 2 2 rfl rfl (by decide) (by omega) (by omega) W)
    obtain ⟨m4, hm4⟩ : ∃ n, n = nm4 S 4 := ⟨_, rfl⟩
    have HN4 := Lib.hid (fun (W : World) => show Calls Tryd.prog 34 #[.string s, .int .i64 4, .int .i64 4] W fun e w' => e = .returned (.int .i64 (m4 : Int)) ∧ W = w' from by rw [hm4, hS]; exact rnum14_any S 4 4 4 4 rfl rfl (by decide) (by omega) (by omega) W)
    obtain ⟨m8, hm8⟩ : ∃ n, n = nm4 S 8 := ⟨_, rfl⟩
    have HN8 := Lib.hid (fun (W : World) => show Calls Tryd.prog 34 #[.string s, .int .i64 8, .int .i64 4] W fun e w' => e = .returned (.int .i64 (m8 : Int)) ∧ W = w' from by rw [hm8, hS]; exact rnum14_any S 8 4 8 4 rfl rfl (by decide) (by omega) (by omega) W)
    obtain ⟨m14, hm14⟩ : ∃ n, n = nm2 S 14 := ⟨_, rfl⟩
    have HN14 := Lib.hid (fun (W : World) => show Calls Tryd.prog 34 #[.string s, .int .i64 14, .int .i64 2] W fun e w' => e = .returned (.int .i64 (m14 : Int)) ∧ W = w' from by rw [hm14, hS]; exact rnum14_any S 14 2 14 2 rfl rfl (by decide) (by omega) (by omega) W)
    obtain ⟨m18, hm18⟩ : ∃ n, n = nm2 S 18 := ⟨_, rfl⟩
    have HN18 := Lib.hid (fun (W : World) => show Calls Tryd.prog 34 #[.string s, .int .i64 18, .int .i64 2] W fun e w' => e = .returned (.int .i64 (m18 : Int)) ∧ W = w' from by rw [hm18, hS]; exact rnum14_any S 18 2 18 2 rfl rfl (by decide) (by omega) (by omega) W)
    have hm4l : m4 < 4294967296 := by rw [hm4]; exact nm4_lt S 4
    have hm8l : m8 < 4294967296 := by rw [hm8]; exact nm4_lt S 8
    have u4 : IntKind.u32.wrap (m4 : Int) = (m4 : Int) := by rw [IntKind.wrap_u32]; omega
    have u8 : IntKind.u32.wrap (m8 : Int) = (m8 : Int) := by rw [IntKind.wrap_u32]; omega
    have hs13 : 13 < s.size := by omega
    have i13 : (13 : Int) < (s.size : Int) := by omega
    obtain ⟨b13, hb13⟩ : ∃ b, b = (s[13]'hs13).toNat := ⟨_, rfl⟩
    have hx13 := s14_at hS 13 hs13
    rw [← hb13] at hx13
    have hb13' : (((s[13]'hs13).toNat : Nat) : Int) = (b13 : Int) := by rw [hb13]
    have hb13l : b13 < 256 := by rw [hb13]; exact u8_lt _
    obtain ⟨fl, hfl⟩ : ∃ b, b = b13 % 64 := ⟨_, rfl⟩
    have kfl : (b13 : Int).tmod 64 = (fl : Int) := by rw [Int.tmod_eq_emod_of_nonneg (by omega)]; omega
    have u13 : IntKind.i64.wrap (b13 : Int) = (b13 : Int) := by rw [IntKind.wrap_i64]; omega
    have hexp : s.extract hd s.size = str (S.drop hd) := by rw [extract_str11 s S hS, List.take_of_length_le (by rw [List.length_drop, hsz]; omega)]
    obtain ⟨P, hP⟩ : ∃ p, p = str (S.drop hd) := ⟨_, rfl⟩
    rw [← hP] at hexp
    have HOUT := Lib.hid (show outT S l = ⟨(m0 : Int), (m2 : Int), m4, m8, (fl : Int), (m14 : Int), (m18 : Int), l, S.drop hd⟩ by unfold outT; rw [hhT, hm0, hm2, hm4, hm8, hm14, hm18, hfl, hx13])
    have HPP := Lib.hid hP
    have HFX := Lib.hid (And.intro hb13' (And.intro kfl (And.intro u13 (And.intro hexp (And.intro i13 (And.intro u4 u8))))))
    clear hR hS hsz h0' ha hb c1 c2 c3 c4 c5 hx12 hhT hhd hq12 hb12 hD hq hDs hO hod hm0 hm2 hm4 hm8 hm14 hm18 hx13 hb13 hfl hP hb13' kfl u13 hexp i13 u4 u8
    go_enter Tryd.func11, Tryd.ntmps11
    go_upto_region 1 with fail
    rw [← hW0, ← hgz]
    clear hW0 hgz
    obtain ⟨q0, q1, q2, q3, q4, q5, q6⟩ := id HT0.out
    go_wp2_with fail
    refine (HFIT.out _).mono ?_
    rintro e w1 ⟨rfl, hb1⟩
    clear q0 q1 q2 q3 q4 q5 q6
    have HT1 := Lib.hid (HT0.out.kept hb1)
    have HZ1 := Lib.hid (Cells.kept HZ0.out hb1 HZ0.out.lt)
    have HB1 := Lib.hid (HB0.out.trans (hb1.mono HB0.out.size))
    clear hb1 HT0 HZ0 HB0 HFIT
    obtain ⟨q0, q1, q2, q3, q4, q5, q6⟩ := id HT1.out
    go_wp2_with fail
    refine (HPS.out _).mono ?_
    rintro e w2 ⟨rfl, hb2⟩
    clear q0 q1 q2 q3 q4 q5 q6
    have HZ2 := Lib.hid (Cells.kept HZ1.out hb2 HZ1.out.lt)
    have HB2 := Lib.hid (HB1.out.trans (hb2.mono HB1.out.size))
    clear hb2 HT1 HZ1 HB1 HPS
    go_wp2_with fail
    refine (HSUM.out _).mono ?_
    rintro e w3 ⟨rfl, rfl⟩
    clear HSUM
    go_wp2_with fail
    refine (HOP.out _).mono ?_
    rintro e w4 ⟨A, c, rfl, hra, hac, hab, hb4⟩
    have HAB := Lib.hid (fun (a : Addr) (h : A = some a) => show a.block ≠ gz from by have := hab a h; have := HZ2.out.lt; omega)
    have HZ4 := Lib.hid (Cells.kept HZ2.out hb4 HZ2.out.lt)
    have HB4 := Lib.hid (HB2.out.trans (hb4.mono HB2.out.size))
    have HRA := Lib.hid hra
    have HAC := Lib.hid hac
    clear hb4 hra hac hab HZ2 HB2 HOP
    go_upto_region 17 with fail
    obtain ⟨hb13', kfl, u13, hexp, i13, u4, u8⟩ := HFX.out
    clear HFX d1 n1 d2 n2 d3 n3 d4 n4 hexo
    refine wp_region_specs_tail 23 [.val (Value.string s), .val (Value.int .i64 (m0 : Int)), .val (Value.string s), .val (Value.int .i64 (m2 : Int)), .val (Value.string s), .val (Value.int .i64 (m4 : Int)), .val (Value.int .u32 (m4 : Int)), .val (Value.string s), .val (Value.int .i64 (m8 : Int)), .val (Value.int .u32 (m8 : Int)), .val (Value.string s), .val (Value.int .u8 (b13 : Int)), .val (Value.int .i64 (b13 : Int)), .val (Value.int .i64 (fl : Int)), .val (Value.string s), .val (Value.int .i64 (m14 : Int)), .val (Value.string s), .val (Value.int .i64 (m18 : Int)), .val (Value.slice A l.length c), .val (Value.string s), .val (Value.int .i64 (hd : Int)), .val (Value.string P), .val (Value.agg #[.int .i64 (m0 : Int), .int .i64 (m2 : Int), .int .u32 (m4 : Int), .int .u32 (m8 : Int), .int .i64 (fl : Int), .int .i64 (m14 : Int), .int .i64 (m18 : Int), .slice A l.length c, .string P])] (by kernel_rfl) (by kernel_rfl) (by kernel_rfl) (by kernel_rfl) (by kernel_rfl) (by kernel_rfl) (by kernel_rfl) (by kernel_rfl) ?_ ?_
    · refine ⟨⟨rfl, ?_⟩, ⟨rfl, ?_⟩, ⟨rfl, ?_⟩, ⟨rfl, ?_⟩, ⟨rfl, ?_⟩, ⟨rfl, ?_⟩, ⟨rfl, ?_⟩, ⟨rfl, ?_⟩, ⟨rfl, ?_⟩, ⟨rfl, ?_⟩, ⟨rfl, ?_⟩, ⟨rfl, ?_⟩, ⟨rfl, ?_⟩, ⟨rfl, ?_⟩, ⟨rfl, ?_⟩, ⟨rfl, ?_⟩, ⟨rfl, ?_⟩, ⟨rfl, ?_⟩, ⟨rfl, ?_⟩, ⟨rfl, ?_⟩, ⟨rfl, ?_⟩, ⟨rfl, ?_⟩, ⟨rfl, ?_⟩, trivial⟩
      · intro a W hbW hk K hK
        have e2 := kvalT hk 2 (Value.string s) (by kernel_rfl)
        clear hk
        go_simp
        exact ⟨_, rfl, hK _ _ rfl (Below.refl _ _)⟩
      · intro a W hbW hk K hK
        have e57 := kvalT hk 57 (Value.string s) (by kernel_rfl)
        clear hk
        go_simp
        refine (HN0.out W).mono ?_
        rintro e w9 ⟨rfl, rfl⟩
        exact ⟨_, rfl, hK _ _ rfl (Below.refl _ _)⟩
      · intro a W hbW hk K hK
        have e2 := kvalT hk 2 (Value.string s) (by kernel_rfl)
        clear hk
        go_simp
        exact ⟨_, rfl, hK _ _ rfl (Below.refl _ _)⟩
      · intro a W hbW hk K hK
        have e59 := kvalT hk 59 (Value.string s) (by kernel_rfl)
        clear hk
        go_simp
        refine (HN2.out W).mono ?_
        rintro e w9 ⟨rfl, rfl⟩
        exact ⟨_, rfl, hK _ _ rfl (Below.refl _ _)⟩
      · intro a W hbW hk K hK
        have e2 := kvalT hk 2 (Value.string s) (by kernel_rfl)
        clear hk
        go_simp
        exact ⟨_, rfl, hK _ _ rfl (Below.refl _ _)⟩
      · intro a W hbW hk K hK
        have e61 := kvalT hk 61 (Value.string s) (by kernel_rfl)
        clear hk
        go_simp
        refine (HN4.out W).mono ?_
        rintro e w9 ⟨rfl, rfl⟩
        exact ⟨_, rfl, hK _ _ rfl (Below.refl _ _)⟩
      · intro a W hbW hk K hK
        have e62 := kvalT hk 62 (Value.int .i64 (m4 : Int)) (by kernel_rfl)
        clear hk
        go_simp
        exact ⟨_, rfl, hK _ _ rfl (Below.refl _ _)⟩
      · intro a W hbW hk K hK
        have e2 := kvalT hk 2 (Value.string s) (by kernel_rfl)
        clear hk
        go_simp
        exact ⟨_, rfl, hK _ _ rfl (Below.refl _ _)⟩
      · intro a W hbW hk K hK
        have e64 := kvalT hk 64 (Value.string s) (by kernel_rfl)
        clear hk
        go_simp
        refine (HN8.out W).mono ?_
        rintro e w9 ⟨rfl, rfl⟩
        exact ⟨_, rfl, hK _ _ rfl (Below.refl _ _)⟩
      · intro a W hbW hk K hK
        have e65 := kvalT hk 65 (Value.int .i64 (m8 : Int)) (by kernel_rfl)
        clear hk
        go_simp
        exact ⟨_, rfl, hK _ _ rfl (Below.refl _ _)⟩
      · intro a W hbW hk K hK
        have e2 := kvalT hk 2 (Value.string s) (by kernel_rfl)
        clear hk
        go_simp
        exact ⟨_, rfl, hK _ _ rfl (Below.refl _ _)⟩
      · intro a W hbW hk K hK
        have e67 := kvalT hk 67 (Value.string s) (by kernel_rfl)
        clear hk
        go_simp
        exact ⟨_, rfl, hK _ _ rfl (Below.refl _ _)⟩
      · intro a W hbW hk K hK
        have e68 := kvalT hk 68 (Value.int .u8 (b13 : Int)) (by kernel_rfl)
        clear hk
        go_simp
        exact ⟨_, rfl, hK _ _ rfl (Below.refl _ _)⟩
      · intro a W hbW hk K hK
        have e69 := kvalT hk 69 (Value.int .i64 (b13 : Int)) (by kernel_rfl)
        clear hk
        go_simp
        exact ⟨_, rfl, hK _ _ rfl (Below.refl _ _)⟩
      · intro a W hbW hk K hK
        have e2 := kvalT hk 2 (Value.string s) (by kernel_rfl)
        clear hk
        go_simp
        exact ⟨_, rfl, hK _ _ rfl (Below.refl _ _)⟩
      · intro a W hbW hk K hK
        have e71 := kvalT hk 71 (Value.string s) (by kernel_rfl)
        clear hk
        go_simp
        refine (HN14.out W).mono ?_
        rintro e w9 ⟨rfl, rfl⟩
        exact ⟨_, rfl, hK _ _ rfl (Below.refl _ _)⟩
      · intro a W hbW hk K hK
        have e2 := kvalT hk 2 (Value.string s) (by kernel_rfl)
        clear hk
        go_simp
        exact ⟨_, rfl, hK _ _ rfl (Below.refl _ _)⟩
      · intro a W hbW hk K hK
        have e73 := kvalT hk 73 (Value.string s) (by kernel_rfl)
        clear hk
        go_simp
        refine (HN18.out W).mono ?_
        rintro e w9 ⟨rfl, rfl⟩
        exact ⟨_, rfl, hK _ _ rfl (Below.refl _ _)⟩
      · intro a W hbW hk K hK
        have e9 := kvalT hk 9 (Value.slice A l.length c) (by kernel_rfl)
        clear hk
        go_simp
        exact ⟨_, rfl, hK _ _ rfl (Below.refl _ _)⟩
      · intro a W hbW hk K hK
        have e2 := kvalT hk 2 (Value.string s) (by kernel_rfl)
        clear hk
        go_simp
        exact ⟨_, rfl, hK _ _ rfl (Below.refl _ _)⟩
      · intro a W hbW hk K hK
        have e8 := kvalT hk 8 (Value.int .i64 (hd : Int)) (by kernel_rfl)
        clear hk
        go_simp
        exact ⟨_, rfl, hK _ _ rfl (Below.refl _ _)⟩
      · intro a W hbW hk K hK
        have e76 := kvalT hk 76 (Value.string s) (by kernel_rfl)
        have e77 := kvalT hk 77 (Value.int .i64 (hd : Int)) (by kernel_rfl)
        clear hk
        go_simp
        exact ⟨_, rfl, hK _ _ rfl (Below.refl _ _)⟩
      · intro a W hbW hk K hK
        have e58 := kvalT hk 58 (Value.int .i64 (m0 : Int)) (by kernel_rfl)
        have e60 := kvalT hk 60 (Value.int .i64 (m2 : Int)) (by kernel_rfl)
        have e63 := kvalT hk 63 (Value.int .u32 (m4 : Int)) (by kernel_rfl)
        have e66 := kvalT hk 66 (Value.int .u32 (m8 : Int)) (by kernel_rfl)
        have e70 := kvalT hk 70 (Value.int .i64 (fl : Int)) (by kernel_rfl)
        have e72 := kvalT hk 72 (Value.int .i64 (m14 : Int)) (by kernel_rfl)
        have e74 := kvalT hk 74 (Value.int .i64 (m18 : Int)) (by kernel_rfl)
        have e75 := kvalT hk 75 (Value.slice A l.length c) (by kernel_rfl)
        have e78 := kvalT hk 78 (Value.string P) (by kernel_rfl)
        clear hk
        go_simp
        exact ⟨_, rfl, hK _ _ rfl (Below.refl _ _)⟩
    · intro W9 hb9
      simp only [List.take_succ_cons, List.take_zero, List.drop_succ_cons, List.drop_zero, endT]
      have HZ9 := Lib.hid (Cells.kept HZ4.out hb9 HZ4.out.lt)
      have HB9 := Lib.hid (HB4.out.trans (hb9.mono HB4.out.size))
      have HR9 := Lib.hid (HRA.out.kept hb9)
      clear HZ4 HB4 hb9
      go_simp
      refine wpList_store_row (by rfl) 31 _ _ (by rfl) gz #[.int .i64 (m0 : Int), .int .i64 (m2 : Int), .int .u32 (m4 : Int), .int .u32 (m8 : Int), .int .i64 (fl : Int), .int .i64 (m14 : Int), .int .i64 (m18 : Int), .slice A l.length c, .string P] (by rfl) (by rfl) 31 #[.int .i64 0, .int .i64 0, .int .u32 0, .int .u32 0, .int .i64 0, .int .i64 0, .int .i64 0, .slice none 0 0, .string ⟨#[]⟩] HZ9.out (by kernel_rfl) (by rfl) (by simp [Value.oneCell']) ?_
      go_wp2_with fail
      refine bodyPost_ret (res_box2 tcpTy rfl _ _ rfl (Cells.row HZ9.out _)) rfl ?_
      refine ⟨A, c, ?_, ?_, ?_, below_row HB9.out gz HGZ.out _⟩
      · rw [hR2.out, HOUT.out]
        unfold tcC
        dsimp only
        rw [← HPP.out]
        rfl
      · rw [hR2.out, HOUT.out]
        exact HR9.out.blocks (fun a h => setRow_other _ gz a.block _ (HAB.out a h))
      · exact HAC.out
end Go.Proofs.YtmfoionlapcgkaaDoor
