/- Contracts of the functions, part 35: TcpPDe. -/
import Derived.Deep.Cut
import Derived.Test.YtmfoionlapcgkaaDoorPA22
import Derived.Test.YtmfoionlapcgkaaDoorPA23
import Derived.Test.YtmfoionlapcgkaaDoorPA31
import Derived.Test.YtmfoionlapcgkaaDoorPA33
import Derived.Test.YtmfoionlapcgkaaDoorPA34
/- Contract of the program of layer 14: Decode. -/
namespace Go.Proofs.YtmfoionlapcgkaaDoor
open Go.ChangeShapes Go.WideShapes Go.ChangeAt Go.RowKit
set_option linter.unusedVariables false
set_option maxRecDepth 100000

set_option maxHeartbeats 8000000 in
set_option maxRecDepth 100000 in
theorem pdec14_any (v1 v2 : Bool) (h1 l1 h2 l2 : Nat) (S : List UInt8) (w : World) (ha : fits13 ⟨v1, h1, l1⟩) (hb : fits13 ⟨v2, h2, l2⟩) (hs : S.length ≤ 1000000) (hsh : Sh w) (htc : TCt w) :
    Calls Tryd.prog 10 #[.agg #[.bool v1, .int .u64 (h1 : Int), .int .u64 (l1 : Int)], .agg #[.bool v2, .int .u64 (h2 : Int), .int .u64 (l2 : Int)], .string (str S)] w (DecTP w (decT ⟨v1, h1, l1⟩ ⟨v2, h2, l2⟩ S)) := by
  obtain ⟨s, hS⟩ : ∃ s, s = str S := ⟨_, rfl⟩
  have hsz : s.size = S.length := by rw [hS, str_size]
  rw [← hS]
  obtain ⟨R, hR⟩ : ∃ R, R = decT ⟨v1, h1, l1⟩ ⟨v2, h2, l2⟩ S := ⟨_, rfl⟩
  rw [← hR]
  obtain ⟨W0, hW0⟩ : ∃ W0, W0 = ((w.alloc (.cells #[.bool v1, .int .u64 (h1 : Int), .int .u64 (l1 : Int)] 24)).alloc (.cells #[.bool v2, .int .u64 (h2 : Int), .int .u64 (l2 : Int)] 24)).alloc (.cells #[.int .i64 0, .int .i64 0, .int .u32 0, .int .u32 0, .int .i64 0, .int .i64 0, .int .i64 0, .slice none 0 0, .string ⟨#[]⟩] 31) := ⟨_, rfl⟩
  obtain ⟨gz, hgz⟩ : ∃ g, g = w.heap.size + 2 := ⟨_, rfl⟩
  have HT0 := Lib.hid (show Two W0 w.heap.size v1 h1 l1 v2 h2 l2 by rw [hW0]; exact (two_new w v1 h1 l1 v2 h2 l2 _).kept (below_alloc6 _ _))
  have hB0 : Below w.heap.size w W0 := by rw [hW0]; exact (((Below.refl _ _).alloc (Nat.le_refl _) _).alloc (by simp) _).alloc (by simp; omega) _
  have HB0 := Lib.hid hB0
  have HS0 := Lib.hid (hsh.kept hB0)
  have HC0 := Lib.hid (htc.kept hB0)
  have HZ0 := Lib.hid (show Cells W0 gz 31 #[.int .i64 0, .int .i64 0, .int .u32 0, .int .u32 0, .int .i64 0, .int .i64 0, .int .i64 0, .slice none 0 0, .string ⟨#[]⟩] by
    have h := heap_alloc_new ((w.alloc (.cells #[.bool v1, .int .u64 (h1 : Int), .int .u64 (l1 : Int)] 24)).alloc (.cells #[.bool v2, .int .u64 (h2 : Int), .int .u64 (l2 : Int)] 24)) (.cells #[.int .i64 0, .int .i64 0, .int .u32 0, .int .u32 0, .int .i64 0, .int .i64 0, .int .i64 0, .slice none 0 0, .string ⟨#[]⟩] 31)
    rw [hW0, hgz]
    rwa [show ((w.alloc (.cells #[.bool v1, .int .u64 (h1 : Int), .int .u64 (l1 : Int)] 24)).alloc (.cells #[.bool v2, .int .u64 (h2 : Int), .int .u64 (l2 : Int)] 24)).heap.size = w.heap.size + 2 by simp] at h)
  have HGZ := Lib.hid (show w.heap.size ≤ gz by omega)
  have hfit := fun W => pfit14_any v1 v2 h1 l1 h2 l2 W
  unfold decT at hR
  clear hB0 hsh htc
  by_cases h0 : ¬ fitU ⟨v1, h1, l1⟩ ⟨v2, h2, l2⟩
  · have hR2 := Lib.hid (show R = (zeroT, 13) by rw [hR, if_pos h0])
    rw [decide_eq_false h0] at hfit
    have HFIT := Lib.hid hfit
    clear hR hS hsz h0 hfit ha hb
    go_enter Tryd.func10, Tryd.ntmps10
    go_upto_region 1 with fail
    rw [← hW0, ← hgz]
    clear hW0 hgz
    obtain ⟨q0, q1, q2, q3, q4, q5, q6⟩ := id HT0.out
    go_wp2_with fail
    refine (HFIT.out _).mono ?_
    rintro e w1 ⟨rfl, hbb⟩
    have HT1 := Lib.hid (HT0.out.kept hbb)
    have HZ1 := Lib.hid (Cells.kept HZ0.out hbb HZ0.out.lt)
    have HB1 := Lib.hid (HB0.out.trans (hbb.mono HB0.out.size))
    have HS1 := Lib.hid (HS0.out.kept hbb)
    have HC1 := Lib.hid (HC0.out.kept hbb)
    clear hbb HT0 HZ0 HB0 HS0 HC0
    clear q0 q1 q2 q3 q4 q5 q6 HFIT
    have x0 := (Cells.cell HZ1.out 0).trans (show _ = some (Value.int .i64 0) from rfl)
    have zx0 := Cells.frozen HZ1.out 0
    have x1 := (Cells.cell HZ1.out 1).trans (show _ = some (Value.int .i64 0) from rfl)
    have zx1 := Cells.frozen HZ1.out 1
    have x2 := (Cells.cell HZ1.out 2).trans (show _ = some (Value.int .u32 0) from rfl)
    have zx2 := Cells.frozen HZ1.out 2
    have x3 := (Cells.cell HZ1.out 3).trans (show _ = some (Value.int .u32 0) from rfl)
    have zx3 := Cells.frozen HZ1.out 3
    have x4 := (Cells.cell HZ1.out 4).trans (show _ = some (Value.int .i64 0) from rfl)
    have zx4 := Cells.frozen HZ1.out 4
    have x5 := (Cells.cell HZ1.out 5).trans (show _ = some (Value.int .i64 0) from rfl)
    have zx5 := Cells.frozen HZ1.out 5
    have x6 := (Cells.cell HZ1.out 6).trans (show _ = some (Value.int .i64 0) from rfl)
    have zx6 := Cells.frozen HZ1.out 6
    have x7 := (Cells.cell HZ1.out 7).trans (show _ = some (Value.slice none 0 0) from rfl)
    have zx7 := Cells.frozen HZ1.out 7
    have x8 := (Cells.cell HZ1.out 8).trans (show _ = some (Value.string ⟨#[]⟩) from rfl)
    have zx8 := Cells.frozen HZ1.out 8
    have hgx := HZ1.out.lt
    go_wp2_with fail
    refine bodyPost_ret (res_box2 tcpTy rfl _ _ rfl (HZ1.out.put [.int .i64 0, .int .i64 0, .int .u32 0, .int .u32 0, .int .i64 0, .int .i64 0, .int .i64 0, .slice none 0 0, .string ⟨#[]⟩] rfl)) rfl ?_
    exact decT_err (er := 13) rfl hR2.out (putB_below HGZ.out [.int .i64 0, .int .i64 0, .int .u32 0, .int .u32 0, .int .i64 0, .int .i64 0, .int .i64 0, .slice none 0 0, .string ⟨#[]⟩] 0 _ HB1.out)
  rw [if_neg h0] at hR
  have h0' := Classical.not_not.1 h0
  rw [decide_eq_true h0'] at hfit
  have HFIT := Lib.hid hfit
  clear hfit h0
  by_cases c1 : 65535 < S.length
  · have hR2 := Lib.hid (show R = (zeroT, 3) by rw [hR, if_pos c1])
    have d1 : decide ((65535 : Int) < (s.size : Int)) = true := by simp; omega
    have n1 : (65535 : Int) < (s.size : Int) := by omega
    clear hR hS hsz h0' ha hb c1
    go_enter Tryd.func10, Tryd.ntmps10
    go_upto_region 1 with fail
    rw [← hW0, ← hgz]
    clear hW0 hgz
    obtain ⟨q0, q1, q2, q3, q4, q5, q6⟩ := id HT0.out
    go_wp2_with fail
    refine (HFIT.out _).mono ?_
    rintro e w1 ⟨rfl, hbb⟩
    have HT1 := Lib.hid (HT0.out.kept hbb)
    have HZ1 := Lib.hid (Cells.kept HZ0.out hbb HZ0.out.lt)
    have HB1 := Lib.hid (HB0.out.trans (hbb.mono HB0.out.size))
    have HS1 := Lib.hid (HS0.out.kept hbb)
    have HC1 := Lib.hid (HC0.out.kept hbb)
    clear hbb HT0 HZ0 HB0 HS0 HC0
    clear q0 q1 q2 q3 q4 q5 q6 HFIT
    have x0 := (Cells.cell HZ1.out 0).trans (show _ = some (Value.int .i64 0) from rfl)
    have zx0 := Cells.frozen HZ1.out 0
    have x1 := (Cells.cell HZ1.out 1).trans (show _ = some (Value.int .i64 0) from rfl)
    have zx1 := Cells.frozen HZ1.out 1
    have x2 := (Cells.cell HZ1.out 2).trans (show _ = some (Value.int .u32 0) from rfl)
    have zx2 := Cells.frozen HZ1.out 2
    have x3 := (Cells.cell HZ1.out 3).trans (show _ = some (Value.int .u32 0) from rfl)
    have zx3 := Cells.frozen HZ1.out 3
    have x4 := (Cells.cell HZ1.out 4).trans (show _ = some (Value.int .i64 0) from rfl)
    have zx4 := Cells.frozen HZ1.out 4
    have x5 := (Cells.cell HZ1.out 5).trans (show _ = some (Value.int .i64 0) from rfl)
    have zx5 := Cells.frozen HZ1.out 5
    have x6 := (Cells.cell HZ1.out 6).trans (show _ = some (Value.int .i64 0) from rfl)
    have zx6 := Cells.frozen HZ1.out 6
    have x7 := (Cells.cell HZ1.out 7).trans (show _ = some (Value.slice none 0 0) from rfl)
    have zx7 := Cells.frozen HZ1.out 7
    have x8 := (Cells.cell HZ1.out 8).trans (show _ = some (Value.string ⟨#[]⟩) from rfl)
    have zx8 := Cells.frozen HZ1.out 8
    have hgx := HZ1.out.lt
    go_wp2_with fail
    refine bodyPost_ret (res_box2 tcpTy rfl _ _ rfl (HZ1.out.put [.int .i64 0, .int .i64 0, .int .u32 0, .int .u32 0, .int .i64 0, .int .i64 0, .int .i64 0, .slice none 0 0, .string ⟨#[]⟩] rfl)) rfl ?_
    exact decT_err (er := 3) rfl hR2.out (putB_below HGZ.out [.int .i64 0, .int .i64 0, .int .u32 0, .int .u32 0, .int .i64 0, .int .i64 0, .int .i64 0, .slice none 0 0, .string ⟨#[]⟩] 0 _ HB1.out)
  rw [if_neg c1] at hR
  have d1 : decide ((65535 : Int) < (s.size : Int)) = false := by simp; omega
  have n1 : ¬ (65535 : Int) < (s.size : Int) := by omega
  have hs6 : s.size ≤ 65535 := by omega
  have HST := Lib.hid (fun (W : World) (hc : TCt W) => show Calls Tryd.prog 27 #[.string s] W (StartPT S W) from by rw [hS]; exact pstart14_any S W (by omega) hc)
  obtain ⟨qs, hqs⟩ : ∃ q, q = csum (psU ⟨v1, h1, l1⟩ ⟨v2, h2, l2⟩ 6 S.length ++ S) := ⟨_, rfl⟩
  have HSUM := Lib.hid (fun (W : World) (hs : Sh W) => show Calls Tryd.prog 28 #[.agg #[.bool v1, .int .u64 (h1 : Int), .int .u64 (l1 : Int)], .agg #[.bool v2, .int .u64 (h2 : Int), .int .u64 (l2 : Int)], .string s] W fun e w' => e = .returned (.int .i64 (qs : Int)) ∧ Below W.heap.size W w' from by rw [hS, hqs]; exact psum14_any v1 v2 h1 l1 h2 l2 S W h0' ha hb (by omega) hs)
  rw [← hqs] at hR
  have HSS := Lib.hid hS
  have HSZ := Lib.hid hsz
  have HRR := Lib.hid hR
  have HNL := Lib.hid c1
  clear hR hS hsz h0' ha hb c1 hqs hs
  go_enter Tryd.func10, Tryd.ntmps10
  go_upto_region 1 with fail
  rw [← hW0, ← hgz]
  clear hW0 hgz
  obtain ⟨q0, q1, q2, q3, q4, q5, q6⟩ := id HT0.out
  go_wp2_with fail
  refine (HFIT.out _).mono ?_
  rintro e w1 ⟨rfl, hbb⟩
  have HT1 := Lib.hid (HT0.out.kept hbb)
  have HZ1 := Lib.hid (Cells.kept HZ0.out hbb HZ0.out.lt)
  have HB1 := Lib.hid (HB0.out.trans (hbb.mono HB0.out.size))
  have HS1 := Lib.hid (HS0.out.kept hbb)
  have HC1 := Lib.hid (HC0.out.kept hbb)
  clear hbb HT0 HZ0 HB0 HS0 HC0
  clear q0 q1 q2 q3 q4 q5 q6 HFIT
  go_wp2_with fail
  refine (HST.out _ HC1.out).mono ?_
  rintro e w2 ⟨c1, c2, c3, c4, c5, c6, c7, c9, er, rfl, HBD, HSV, hbb⟩
  unfold StartCT
  obtain ⟨c8, hc8⟩ : ∃ n, n = c6 % 64 := ⟨_, rfl⟩
  obtain ⟨hd, hhd⟩ : ∃ n, n = c5 / 16 * 4 := ⟨_, rfl⟩
  rw [← hc8, ← hhd]
  have HT2 := Lib.hid (HT1.out.kept hbb)
  have HZ2 := Lib.hid (Cells.kept HZ1.out hbb HZ1.out.lt)
  have HB2 := Lib.hid (HB1.out.trans (hbb.mono HB1.out.size))
  have HS2 := Lib.hid (HS1.out.kept hbb)
  have HC8 := Lib.hid (And.intro hc8 hhd)
  clear hbb HT1 HZ1 HB1 HS1 HC1 HST hc8 hhd
  obtain ⟨V, hV⟩ : ∃ W, W = w2.alloc (.cells #[.int .i64 (c1 : Int), .int .i64 (c2 : Int), .int .u32 (c3 : Int), .int .u32 (c4 : Int), .int .i64 (c8 : Int), .int .i64 (c7 : Int), .int .i64 (c9 : Int), .slice none 0 0, .string ⟨#[]⟩] 31) := ⟨_, rfl⟩
  obtain ⟨gu, hgu⟩ : ∃ g, g = w2.heap.size := ⟨_, rfl⟩
  have bV : Below w2.heap.size w2 V := by rw [hV]; exact below_alloc6 w2 _
  have HU3 := Lib.hid (show Cells V gu 31 #[.int .i64 (c1 : Int), .int .i64 (c2 : Int), .int .u32 (c3 : Int), .int .u32 (c4 : Int), .int .i64 (c8 : Int), .int .i64 (c7 : Int), .int .i64 (c9 : Int), .slice none 0 0, .string ⟨#[]⟩] by rw [hV, hgu]; exact heap_alloc_new w2 _)
  have HT3 := Lib.hid (HT2.out.kept bV)
  have HZ3 := Lib.hid (Cells.kept HZ2.out bV HZ2.out.lt)
  have HB3 := Lib.hid (HB2.out.trans (bV.mono HB2.out.size))
  have HS3 := Lib.hid (HS2.out.kept bV)
  have HGU := Lib.hid (show gz < gu from by rw [hgu]; exact HZ2.out.lt)
  clear bV HT2 HZ2 HB2 HS2
  rcases HSV.out with ⟨hlt, rfl⟩ | ⟨hge, rfl, hst⟩
  · have hR2 := Lib.hid (show R = (zeroT, 1) from by rw [HRR.out, if_pos hlt])
    have e1 : ((1 : Int) != 0) = true := by decide
    clear hlt HSV HRR
    go_upto_region 6 with fail
    rw [← hgu]
    try rw [← hV]
    clear hV hgu
    have x0 := (Cells.cell HZ3.out 0).trans (show _ = some (Value.int .i64 0) from rfl)
    have zx0 := Cells.frozen HZ3.out 0
    have x1 := (Cells.cell HZ3.out 1).trans (show _ = some (Value.int .i64 0) from rfl)
    have zx1 := Cells.frozen HZ3.out 1
    have x2 := (Cells.cell HZ3.out 2).trans (show _ = some (Value.int .u32 0) from rfl)
    have zx2 := Cells.frozen HZ3.out 2
    have x3 := (Cells.cell HZ3.out 3).trans (show _ = some (Value.int .u32 0) from rfl)
    have zx3 := Cells.frozen HZ3.out 3
    have x4 := (Cells.cell HZ3.out 4).trans (show _ = some (Value.int .i64 0) from rfl)
    have zx4 := Cells.frozen HZ3.out 4
    have x5 := (Cells.cell HZ3.out 5).trans (show _ = some (Value.int .i64 0) from rfl)
    have zx5 := Cells.frozen HZ3.out 5
    have x6 := (Cells.cell HZ3.out 6).trans (show _ = some (Value.int .i64 0) from rfl)
    have zx6 := Cells.frozen HZ3.out 6
    have x7 := (Cells.cell HZ3.out 7).trans (show _ = some (Value.slice none 0 0) from rfl)
    have zx7 := Cells.frozen HZ3.out 7
    have x8 := (Cells.cell HZ3.out 8).trans (show _ = some (Value.string ⟨#[]⟩) from rfl)
    have zx8 := Cells.frozen HZ3.out 8
    have hgx := HZ3.out.lt
    go_wp2_with fail
    refine bodyPost_ret (res_box2 tcpTy rfl _ _ rfl (HZ3.out.put [.int .i64 0, .int .i64 0, .int .u32 0, .int .u32 0, .int .i64 0, .int .i64 0, .int .i64 0, .slice none 0 0, .string ⟨#[]⟩] rfl)) rfl ?_
    exact decT_err (er := 1) rfl hR2.out (putB_below HGZ.out [.int .i64 0, .int .i64 0, .int .u32 0, .int .u32 0, .int .i64 0, .int .i64 0, .int .i64 0, .slice none 0 0, .string ⟨#[]⟩] 0 _ HB3.out)
  · have hr1 := HRR.out
    rw [if_neg (by omega)] at hr1
    have hhT : hdT S = hd := by unfold hdT; rw [HC8.out.2, hst.2.2.2.2.1]
    rw [hhT] at hr1
    have hd60 : hd ≤ 60 := by have h1 := HC8.out.2; have h2 := HBD.out; omega
    have hsz := HSZ.out
    have HSV2 := Lib.hid hst
    have HH := Lib.hid hhT
    clear hst hhT HSV HRR
    by_cases g3c : hd < 20
    · have hR2 := Lib.hid (show R = (zeroT, 2) by rw [hr1, if_pos g3c])
      have d3 : decide ((hd : Int) < 20) = true := by simp; omega
      have n3 : (hd : Int) < 20 := by omega
      clear hr1 g3c hsz hge
      go_upto_region 6 with fail
      rw [← hgu]
      try rw [← hV]
      clear hV hgu
      have x0 := (Cells.cell HZ3.out 0).trans (show _ = some (Value.int .i64 0) from rfl)
      have zx0 := Cells.frozen HZ3.out 0
      have x1 := (Cells.cell HZ3.out 1).trans (show _ = some (Value.int .i64 0) from rfl)
      have zx1 := Cells.frozen HZ3.out 1
      have x2 := (Cells.cell HZ3.out 2).trans (show _ = some (Value.int .u32 0) from rfl)
      have zx2 := Cells.frozen HZ3.out 2
      have x3 := (Cells.cell HZ3.out 3).trans (show _ = some (Value.int .u32 0) from rfl)
      have zx3 := Cells.frozen HZ3.out 3
      have x4 := (Cells.cell HZ3.out 4).trans (show _ = some (Value.int .i64 0) from rfl)
      have zx4 := Cells.frozen HZ3.out 4
      have x5 := (Cells.cell HZ3.out 5).trans (show _ = some (Value.int .i64 0) from rfl)
      have zx5 := Cells.frozen HZ3.out 5
      have x6 := (Cells.cell HZ3.out 6).trans (show _ = some (Value.int .i64 0) from rfl)
      have zx6 := Cells.frozen HZ3.out 6
      have x7 := (Cells.cell HZ3.out 7).trans (show _ = some (Value.slice none 0 0) from rfl)
      have zx7 := Cells.frozen HZ3.out 7
      have x8 := (Cells.cell HZ3.out 8).trans (show _ = some (Value.string ⟨#[]⟩) from rfl)
      have zx8 := Cells.frozen HZ3.out 8
      have hgx := HZ3.out.lt
      go_wp2_with fail
      refine bodyPost_ret (res_box2 tcpTy rfl _ _ rfl (HZ3.out.put [.int .i64 0, .int .i64 0, .int .u32 0, .int .u32 0, .int .i64 0, .int .i64 0, .int .i64 0, .slice none 0 0, .string ⟨#[]⟩] rfl)) rfl ?_
      exact decT_err (er := 2) rfl hR2.out (putB_below HGZ.out [.int .i64 0, .int .i64 0, .int .u32 0, .int .u32 0, .int .i64 0, .int .i64 0, .int .i64 0, .slice none 0 0, .string ⟨#[]⟩] 0 _ HB3.out)
    rw [if_neg g3c] at hr1
    have d3 : decide ((hd : Int) < 20) = false := by simp; omega
    have n3 : ¬ (hd : Int) < 20 := by omega
    by_cases g4c : S.length < hd
    · have hR2 := Lib.hid (show R = (zeroT, 1) by rw [hr1, if_pos g4c])
      have d4 : decide ((s.size : Int) < (hd : Int)) = true := by simp; omega
      have n4 : (s.size : Int) < (hd : Int) := by omega
      have d4n : decide (s.size < hd) = true := by simp; omega
      have n4n : s.size < hd := by omega
      clear hr1 g3c g4c hsz hge
      go_upto_region 6 with fail
      rw [← hgu]
      try rw [← hV]
      clear hV hgu
      have x0 := (Cells.cell HZ3.out 0).trans (show _ = some (Value.int .i64 0) from rfl)
      have zx0 := Cells.frozen HZ3.out 0
      have x1 := (Cells.cell HZ3.out 1).trans (show _ = some (Value.int .i64 0) from rfl)
      have zx1 := Cells.frozen HZ3.out 1
      have x2 := (Cells.cell HZ3.out 2).trans (show _ = some (Value.int .u32 0) from rfl)
      have zx2 := Cells.frozen HZ3.out 2
      have x3 := (Cells.cell HZ3.out 3).trans (show _ = some (Value.int .u32 0) from rfl)
      have zx3 := Cells.frozen HZ3.out 3
      have x4 := (Cells.cell HZ3.out 4).trans (show _ = some (Value.int .i64 0) from rfl)
      have zx4 := Cells.frozen HZ3.out 4
      have x5 := (Cells.cell HZ3.out 5).trans (show _ = some (Value.int .i64 0) from rfl)
      have zx5 := Cells.frozen HZ3.out 5
      have x6 := (Cells.cell HZ3.out 6).trans (show _ = some (Value.int .i64 0) from rfl)
      have zx6 := Cells.frozen HZ3.out 6
      have x7 := (Cells.cell HZ3.out 7).trans (show _ = some (Value.slice none 0 0) from rfl)
      have zx7 := Cells.frozen HZ3.out 7
      have x8 := (Cells.cell HZ3.out 8).trans (show _ = some (Value.string ⟨#[]⟩) from rfl)
      have zx8 := Cells.frozen HZ3.out 8
      have hgx := HZ3.out.lt
      go_wp2_with fail
      refine bodyPost_ret (res_box2 tcpTy rfl _ _ rfl (HZ3.out.put [.int .i64 0, .int .i64 0, .int .u32 0, .int .u32 0, .int .i64 0, .int .i64 0, .int .i64 0, .slice none 0 0, .string ⟨#[]⟩] rfl)) rfl ?_
      exact decT_err (er := 1) rfl hR2.out (putB_below HGZ.out [.int .i64 0, .int .i64 0, .int .u32 0, .int .u32 0, .int .i64 0, .int .i64 0, .int .i64 0, .slice none 0 0, .string ⟨#[]⟩] 0 _ HB3.out)
    rw [if_neg g4c] at hr1
    have d4 : decide ((s.size : Int) < (hd : Int)) = false := by simp; omega
    have n4 : ¬ (s.size : Int) < (hd : Int) := by omega
    have d4n : decide (s.size < hd) = false := by simp; omega
    have n4n : ¬ s.size < hd := by omega
    by_cases g5c : qs ≠ 0
    · have hR2 := Lib.hid (show R = (zeroT, 8) by rw [hr1, if_pos g5c])
      have d5 : ((qs : Int) != 0) = true := by simp; omega
      clear hr1 g3c g4c g5c hsz hge
      go_upto_region 6 with fail
      rw [← hgu]
      try rw [← hV]
      clear hV hgu
      obtain ⟨q0, q1, q2, q3, q4, q5, q6⟩ := id HT3.out
      go_wp2_with fail
      refine (HSUM.out _ HS3.out).mono ?_
      rintro e w4 ⟨rfl, hbb⟩
      have HZ4 := Lib.hid (Cells.kept HZ3.out hbb HZ3.out.lt)
      have HU4 := Lib.hid (Cells.kept HU3.out hbb HU3.out.lt)
      have HB4 := Lib.hid (HB3.out.trans (hbb.mono HB3.out.size))
      clear hbb q0 q1 q2 q3 q4 q5 q6 HT3 HZ3 HB3 HS3 HU3 HSUM
      have x0 := (Cells.cell HZ4.out 0).trans (show _ = some (Value.int .i64 0) from rfl)
      have zx0 := Cells.frozen HZ4.out 0
      have x1 := (Cells.cell HZ4.out 1).trans (show _ = some (Value.int .i64 0) from rfl)
      have zx1 := Cells.frozen HZ4.out 1
      have x2 := (Cells.cell HZ4.out 2).trans (show _ = some (Value.int .u32 0) from rfl)
      have zx2 := Cells.frozen HZ4.out 2
      have x3 := (Cells.cell HZ4.out 3).trans (show _ = some (Value.int .u32 0) from rfl)
      have zx3 := Cells.frozen HZ4.out 3
      have x4 := (Cells.cell HZ4.out 4).trans (show _ = some (Value.int .i64 0) from rfl)
      have zx4 := Cells.frozen HZ4.out 4
      have x5 := (Cells.cell HZ4.out 5).trans (show _ = some (Value.int .i64 0) from rfl)
      have zx5 := Cells.frozen HZ4.out 5
      have x6 := (Cells.cell HZ4.out 6).trans (show _ = some (Value.int .i64 0) from rfl)
      have zx6 := Cells.frozen HZ4.out 6
      have x7 := (Cells.cell HZ4.out 7).trans (show _ = some (Value.slice none 0 0) from rfl)
      have zx7 := Cells.frozen HZ4.out 7
      have x8 := (Cells.cell HZ4.out 8).trans (show _ = some (Value.string ⟨#[]⟩) from rfl)
      have zx8 := Cells.frozen HZ4.out 8
      have hgx := HZ4.out.lt
      go_wp2_with fail
      refine bodyPost_ret (res_box2 tcpTy rfl _ _ rfl (HZ4.out.put [.int .i64 0, .int .i64 0, .int .u32 0, .int .u32 0, .int .i64 0, .int .i64 0, .int .i64 0, .slice none 0 0, .string ⟨#[]⟩] rfl)) rfl ?_
      exact decT_err (er := 8) rfl hR2.out (putB_below HGZ.out [.int .i64 0, .int .i64 0, .int .u32 0, .int .u32 0, .int .i64 0, .int .i64 0, .int .i64 0, .slice none 0 0, .string ⟨#[]⟩] 0 _ HB4.out)
    rw [if_neg g5c] at hr1
    have d5 : ((qs : Int) != 0) = false := by simp; omega
    have hexo : s.extract 20 hd = str ((S.take hd).drop 20) := by rw [extract_str10 s S HSS.out, List.drop_take]
    have hexp : s.extract hd s.size = str (S.drop hd) := by rw [extract_str10 s S HSS.out, hsz, List.take_of_length_le (by rw [List.length_drop]; omega)]
    have i20 : (20 : Int) ≤ (hd : Int) := by omega
    have i20n : 20 ≤ hd := by omega
    have ihd : (hd : Int) ≤ (s.size : Int) := by omega
    have ihdn : hd ≤ s.size := by omega
    have HOP := Lib.hid (fun (W : World) => props14_any ((S.take hd).drop 20) W (by simp only [List.length_drop, List.length_take]; omega))
    obtain ⟨O, hO⟩ : ∃ o, o = str ((S.take hd).drop 20) := ⟨_, rfl⟩
    rw [← hO] at HOP hexo
    obtain ⟨od, hod⟩ : ∃ o, o = optsD ((S.take hd).drop 20) := ⟨_, rfl⟩
    rw [← hod] at HOP hr1
    cases od with
    | none =>
      have hR2 := Lib.hid (show R = (zeroT, 2) by rw [hr1])
      unfold OptPT at HOP
      clear hr1 g3c g4c g5c hsz hge hO hod hexp
      go_upto_region 6 with fail
      rw [← hgu]
      try rw [← hV]
      clear hV hgu
      obtain ⟨q0, q1, q2, q3, q4, q5, q6⟩ := id HT3.out
      go_wp2_with fail
      refine (HSUM.out _ HS3.out).mono ?_
      rintro e w4 ⟨rfl, hbb⟩
      have HZ4 := Lib.hid (Cells.kept HZ3.out hbb HZ3.out.lt)
      have HU4 := Lib.hid (Cells.kept HU3.out hbb HU3.out.lt)
      have HB4 := Lib.hid (HB3.out.trans (hbb.mono HB3.out.size))
      clear hbb q0 q1 q2 q3 q4 q5 q6 HT3 HZ3 HB3 HS3 HU3 HSUM
      go_wp2_with fail
      refine (HOP.out _).mono ?_
      rintro e w5 ⟨rfl, hbb⟩
      have HZ5 := Lib.hid (Cells.kept HZ4.out hbb HZ4.out.lt)
      have HB5 := Lib.hid (HB4.out.trans (hbb.mono HB4.out.size))
      clear hbb HZ4 HB4 HU4 HOP
      have x0 := (Cells.cell HZ5.out 0).trans (show _ = some (Value.int .i64 0) from rfl)
      have zx0 := Cells.frozen HZ5.out 0
      have x1 := (Cells.cell HZ5.out 1).trans (show _ = some (Value.int .i64 0) from rfl)
      have zx1 := Cells.frozen HZ5.out 1
      have x2 := (Cells.cell HZ5.out 2).trans (show _ = some (Value.int .u32 0) from rfl)
      have zx2 := Cells.frozen HZ5.out 2
      have x3 := (Cells.cell HZ5.out 3).trans (show _ = some (Value.int .u32 0) from rfl)
      have zx3 := Cells.frozen HZ5.out 3
      have x4 := (Cells.cell HZ5.out 4).trans (show _ = some (Value.int .i64 0) from rfl)
      have zx4 := Cells.frozen HZ5.out 4
      have x5 := (Cells.cell HZ5.out 5).trans (show _ = some (Value.int .i64 0) from rfl)
      have zx5 := Cells.frozen HZ5.out 5
      have x6 := (Cells.cell HZ5.out 6).trans (show _ = some (Value.int .i64 0) from rfl)
      have zx6 := Cells.frozen HZ5.out 6
      have x7 := (Cells.cell HZ5.out 7).trans (show _ = some (Value.slice none 0 0) from rfl)
      have zx7 := Cells.frozen HZ5.out 7
      have x8 := (Cells.cell HZ5.out 8).trans (show _ = some (Value.string ⟨#[]⟩) from rfl)
      have zx8 := Cells.frozen HZ5.out 8
      have hgx := HZ5.out.lt
      go_wp2_with fail
      refine bodyPost_ret (res_box2 tcpTy rfl _ _ rfl (HZ5.out.put [.int .i64 0, .int .i64 0, .int .u32 0, .int .u32 0, .int .i64 0, .int .i64 0, .int .i64 0, .slice none 0 0, .string ⟨#[]⟩] rfl)) rfl ?_
      exact decT_err (er := 2) rfl hR2.out (putB_below HGZ.out [.int .i64 0, .int .i64 0, .int .u32 0, .int .u32 0, .int .i64 0, .int .i64 0, .int .i64 0, .slice none 0 0, .string ⟨#[]⟩] 0 _ HB5.out)
    | some l =>
      have hR2 := Lib.hid (show R = (outT S l, 0) by rw [hr1])
      have HOUT := Lib.hid (show outT S l = ⟨(c1 : Int), (c2 : Int), c3, c4, (c8 : Int), (c7 : Int), (c9 : Int), l, S.drop hd⟩ from by
        unfold outT
        obtain ⟨k1, k2, k3, k4, k5, k6, k7, k9⟩ := HSV2.out
        rw [← k1, ← k2, ← k3, ← k4, ← k6, ← k7, ← k9, HC8.out.1, HH.out])
      obtain ⟨E, hE⟩ : ∃ e, e = str (S.drop hd) := ⟨_, rfl⟩
      rw [← hE] at hexp
      have HE := Lib.hid hE
      unfold OptPT at HOP
      clear hr1 g3c g4c g5c hsz hge hO hod hE
      go_upto_region 6 with fail
      rw [← hgu]
      try rw [← hV]
      clear hV hgu
      obtain ⟨q0, q1, q2, q3, q4, q5, q6⟩ := id HT3.out
      go_wp2_with fail
      refine (HSUM.out _ HS3.out).mono ?_
      rintro e w4 ⟨rfl, hbb⟩
      have HZ4 := Lib.hid (Cells.kept HZ3.out hbb HZ3.out.lt)
      have HU4 := Lib.hid (Cells.kept HU3.out hbb HU3.out.lt)
      have HB4 := Lib.hid (HB3.out.trans (hbb.mono HB3.out.size))
      clear hbb q0 q1 q2 q3 q4 q5 q6 HT3 HZ3 HB3 HS3 HU3 HSUM
      go_wp2_with fail
      refine (HOP.out _).mono ?_
      rintro e w5 ⟨A, c, rfl, hrow, hnone, hblk, hbb⟩
      have HBK := Lib.hid (fun (a : Addr) (ha : A = some a) => show gu < a.block ∧ gz < a.block from by have h1 := hblk a ha; have h2 := HU4.out.lt; have h3 := HGU.out; omega)
      have HZ5 := Lib.hid (Cells.kept HZ4.out hbb HZ4.out.lt)
      have HU5 := Lib.hid (Cells.kept HU4.out hbb HU4.out.lt)
      have HB5 := Lib.hid (HB4.out.trans (hbb.mono HB4.out.size))
      have HRW := Lib.hid hrow
      have HNO := Lib.hid hnone
      clear hbb HZ4 HB4 HU4 HOP hrow hnone hblk
      obtain ⟨nl, hnl⟩ : ∃ n, n = l.length := ⟨_, rfl⟩
      rw [← hnl]
      have HNLL := Lib.hid hnl
      clear hnl
      have x7 := (Cells.cell HU5.out 7).trans (show _ = some (Value.slice none 0 0) from rfl)
      have z7 := Cells.frozen HU5.out 7
      have x8 := (Cells.cell HU5.out 8).trans (show _ = some (Value.string ⟨#[]⟩) from rfl)
      have z8 := Cells.frozen HU5.out 8
      have hgl := HU5.out.lt
      go_upto_region 19 with fail
      have HU6 := Lib.hid ((HU5.out.set 7 (.slice A nl c)).set 8 (.string E))
      have hgne := Nat.ne_of_lt HGU.out
      have HZ6 := Lib.hid ((HZ5.out.far (i := 7) (b := gu) hgne (.slice A nl c)).far (i := 8) (b := gu) hgne (.string E))
      have hgw : w.heap.size ≤ gu := by have h1 := HGU.out; have h2 := HGZ.out; omega
      have HB6 := Lib.hid ((HB5.out.setCell (p := ⟨gu, 7, none⟩) hgw (.slice A nl c)).setCell (p := ⟨gu, 8, none⟩) hgw (.string E))
      have HRW6 := Lib.hid (show RowL EOpt ((w5.setCell ⟨gu, 7, none⟩ (.slice A nl c)).setCell ⟨gu, 8, none⟩ (.string E)) A l from HRW.out.blocks (fun a ha => by
        have h1 := (HBK.out a ha).1
        exact (Below.heap_setCell _ ⟨gu, 8, none⟩ _ a.block (by simp only; omega)).trans (Below.heap_setCell _ ⟨gu, 7, none⟩ _ a.block (by simp only; omega))))
      obtain ⟨W6, hW6⟩ : ∃ W, W = (w5.setCell ⟨gu, 7, none⟩ (.slice A nl c)).setCell ⟨gu, 8, none⟩ (.string E) := ⟨_, rfl⟩
      rw [← hW6] at HU6 HZ6 HB6 HRW6 ⊢
      clear hW6 x7 z7 x8 z8 hgl HU5 HZ5 HB5 HRW
      have u0 := (Cells.cell HU6.out 0).trans (show _ = some (Value.int .i64 (c1 : Int)) from rfl)
      have u1 := (Cells.cell HU6.out 1).trans (show _ = some (Value.int .i64 (c2 : Int)) from rfl)
      have u2 := (Cells.cell HU6.out 2).trans (show _ = some (Value.int .u32 (c3 : Int)) from rfl)
      have u3 := (Cells.cell HU6.out 3).trans (show _ = some (Value.int .u32 (c4 : Int)) from rfl)
      have u4 := (Cells.cell HU6.out 4).trans (show _ = some (Value.int .i64 (c8 : Int)) from rfl)
      have u5 := (Cells.cell HU6.out 5).trans (show _ = some (Value.int .i64 (c7 : Int)) from rfl)
      have u6 := (Cells.cell HU6.out 6).trans (show _ = some (Value.int .i64 (c9 : Int)) from rfl)
      have u7 := (Cells.cell HU6.out 7).trans (show _ = some (Value.slice A nl c) from rfl)
      have u8 := (Cells.cell HU6.out 8).trans (show _ = some (Value.string E) from rfl)
      have hgu := HU6.out.lt
      have x0 := (Cells.cell HZ6.out 0).trans (show _ = some (Value.int .i64 0) from rfl)
      have zx0 := Cells.frozen HZ6.out 0
      have x1 := (Cells.cell HZ6.out 1).trans (show _ = some (Value.int .i64 0) from rfl)
      have zx1 := Cells.frozen HZ6.out 1
      have x2 := (Cells.cell HZ6.out 2).trans (show _ = some (Value.int .u32 0) from rfl)
      have zx2 := Cells.frozen HZ6.out 2
      have x3 := (Cells.cell HZ6.out 3).trans (show _ = some (Value.int .u32 0) from rfl)
      have zx3 := Cells.frozen HZ6.out 3
      have x4 := (Cells.cell HZ6.out 4).trans (show _ = some (Value.int .i64 0) from rfl)
      have zx4 := Cells.frozen HZ6.out 4
      have x5 := (Cells.cell HZ6.out 5).trans (show _ = some (Value.int .i64 0) from rfl)
      have zx5 := Cells.frozen HZ6.out 5
      have x6 := (Cells.cell HZ6.out 6).trans (show _ = some (Value.int .i64 0) from rfl)
      have zx6 := Cells.frozen HZ6.out 6
      have x7 := (Cells.cell HZ6.out 7).trans (show _ = some (Value.slice none 0 0) from rfl)
      have zx7 := Cells.frozen HZ6.out 7
      have x8 := (Cells.cell HZ6.out 8).trans (show _ = some (Value.string ⟨#[]⟩) from rfl)
      have zx8 := Cells.frozen HZ6.out 8
      have hgx := HZ6.out.lt
      go_wp2_with fail
      refine bodyPost_ret (res_box2 tcpTy rfl _ _ rfl (HZ6.out.put [.int .i64 (c1 : Int), .int .i64 (c2 : Int), .int .u32 (c3 : Int), .int .u32 (c4 : Int), .int .i64 (c8 : Int), .int .i64 (c7 : Int), .int .i64 (c9 : Int), .slice A nl c, .string E] rfl)) rfl ?_
      rw [hR2.out]
      refine ⟨A, c, ?_, HRW6.out.blocks (fun a ha => putB_far (by have h1 := (HBK.out a ha).2; omega) [.int .i64 (c1 : Int), .int .i64 (c2 : Int), .int .u32 (c3 : Int), .int .u32 (c4 : Int), .int .i64 (c8 : Int), .int .i64 (c7 : Int), .int .i64 (c9 : Int), .slice A nl c, .string E] 0 _), HNO.out, putB_below HGZ.out [.int .i64 (c1 : Int), .int .i64 (c2 : Int), .int .u32 (c3 : Int), .int .u32 (c4 : Int), .int .i64 (c8 : Int), .int .i64 (c7 : Int), .int .i64 (c9 : Int), .slice A nl c, .string E] 0 _ HB6.out⟩
      dsimp only
      rw [HOUT.out, HNLL.out, HE.out]
      rfl
end Go.Proofs.YtmfoionlapcgkaaDoor
