/- Contracts of the functions, part 26: UdpRDec, UdpREnc. -/
import Derived.Laws.Tables
import Derived.StillTailTactics
import Derived.Test.YtnpklepafpdadaaDoorPA24
import Derived.Test.YtnpklepafpdadaaDoorPA25
/- Contract of the reference of layer 13: Decode. -/
namespace Go.Proofs.YtnpklepafpdadaaDoor
open Go.ChangeShapes Go.WideShapes Go.ChangeAt Go.RowKit
set_option linter.unusedVariables false

theorem udpTy : BoxTy 29 3 := ⟨⟨_, Tryd.underlying29⟩, by kernel_rfl⟩
def DecUP (w : World) (R : UdpR × Nat) (e : Ending) (w' : World) : Prop :=
  e = .returned (.tuple #[.agg #[.int .i64 R.1.src, .int .i64 R.1.dst, .string (str R.1.pay)], .int .i64 (R.2 : Int)]) ∧ Below w.heap.size w w'
theorem decU_err {w wz : World} {R : UdpR × Nat} {er : Nat} {E : Int} (hE : (er : Int) = E) (hr : R = (zeroU, er)) (hb : Below w.heap.size w wz) :
    DecUP w R (.returned (.tuple #[.agg #[.int .i64 0, .int .i64 0, .string ⟨#[]⟩], .int .i64 E])) wz := by
  subst hE hr
  exact ⟨rfl, hb⟩
set_option maxHeartbeats 4000000 in
set_option maxRecDepth 100000 in
theorem rdec13_any (v1 v2 : Bool) (h1 l1 h2 l2 : Nat) (S : List UInt8) (w : World) (ha : fits13 ⟨v1, h1, l1⟩) (hb : fits13 ⟨v2, h2, l2⟩) (hs : S.length ≤ 1000000) :
    Calls Tryd.prog 9 #[.agg #[.bool v1, .int .u64 (h1 : Int), .int .u64 (l1 : Int)], .agg #[.bool v2, .int .u64 (h2 : Int), .int .u64 (l2 : Int)], .string (str S)] w (DecUP w (decU ⟨v1, h1, l1⟩ ⟨v2, h2, l2⟩ S)) := by
  obtain ⟨a, hae⟩ : ∃ a : AdR, a = ⟨v1, h1, l1⟩ := ⟨_, rfl⟩
  obtain ⟨b, hbe⟩ : ∃ b : AdR, b = ⟨v2, h2, l2⟩ := ⟨_, rfl⟩
  rw [← hae] at ha ⊢
  rw [← hbe] at hb ⊢
  have hav : a.v6 = v1 := by rw [hae]
  have hsz : (str S).size = S.length := str_size S
  obtain ⟨s, hS⟩ : ∃ s, s = str S := ⟨_, rfl⟩
  rw [← hS] at hsz ⊢
  obtain ⟨R, hR⟩ : ∃ R, R = decU a b S := ⟨_, rfl⟩
  rw [← hR]
  obtain ⟨W0, hW0⟩ : ∃ W0, W0 = ((w.alloc (.cells #[.bool v1, .int .u64 (h1 : Int), .int .u64 (l1 : Int)] 24)).alloc (.cells #[.bool v2, .int .u64 (h2 : Int), .int .u64 (l2 : Int)] 24)).alloc (.cells #[.int .i64 0, .int .i64 0, .string ⟨#[]⟩] 29) := ⟨_, rfl⟩
  obtain ⟨gz, hgz⟩ : ∃ g, g = w.heap.size + 2 := ⟨_, rfl⟩
  have HT0 := Lib.hid (show Two W0 w.heap.size v1 h1 l1 v2 h2 l2 by rw [hW0]; exact (two_new w v1 h1 l1 v2 h2 l2 _).kept (below_alloc6 _ _))
  have HB0 := Lib.hid (show Below w.heap.size w W0 by rw [hW0]; exact (((Below.refl _ _).alloc (Nat.le_refl _) _).alloc (by simp) _).alloc (by simp; omega) _)
  have HZ0 := Lib.hid (show Cells W0 gz 29 #[.int .i64 0, .int .i64 0, .string ⟨#[]⟩] by
    have h := heap_alloc_new ((w.alloc (.cells #[.bool v1, .int .u64 (h1 : Int), .int .u64 (l1 : Int)] 24)).alloc (.cells #[.bool v2, .int .u64 (h2 : Int), .int .u64 (l2 : Int)] 24)) (.cells #[.int .i64 0, .int .i64 0, .string ⟨#[]⟩] 29)
    rw [hW0, hgz]
    rwa [show ((w.alloc (.cells #[.bool v1, .int .u64 (h1 : Int), .int .u64 (l1 : Int)] 24)).alloc (.cells #[.bool v2, .int .u64 (h2 : Int), .int .u64 (l2 : Int)] 24)).heap.size = w.heap.size + 2 by simp] at h)
  have HGZ := Lib.hid (show w.heap.size ≤ gz by omega)
  have hfit := fun W => rfit13_any v1 v2 h1 l1 h2 l2 W
  rw [← hae, ← hbe] at hfit
  unfold decU at hR
  by_cases h0 : ¬ fitU a b
  · have hR2 := Lib.hid (show R = (zeroU, 13) by rw [hR, if_pos h0])
    rw [decide_eq_false h0] at hfit
    have HFIT := Lib.hid hfit
    clear hR hS hsz h0 hfit hae hbe hav ha hb
    go_enter Tryd.func9, Tryd.ntmps9
    go_upto_region 1 with fail
    rw [← hW0, ← hgz]
    clear hW0 hgz
    obtain ⟨q0, q1, q2, q3, q4, q5, q6⟩ := id HT0.out
    have x0 := (Cells.cell HZ0.out 0).trans (show _ = some (Value.int .i64 0) from rfl)
    have z0 := Cells.frozen HZ0.out 0
    have x1 := (Cells.cell HZ0.out 1).trans (show _ = some (Value.int .i64 0) from rfl)
    have z1 := Cells.frozen HZ0.out 1
    have x2 := (Cells.cell HZ0.out 2).trans (show _ = some (Value.string ⟨#[]⟩) from rfl)
    have z2 := Cells.frozen HZ0.out 2
    have hgl := HZ0.out.lt
    go_wp2_with fail
    refine (HFIT.out _).mono ?_
    rintro e w1 ⟨rfl, hb1⟩
    clear q0 q1 q2 q3 q4 q5 q6 x0 z0 x1 z1 x2 z2 hgl
    have HT1 := Lib.hid (HT0.out.kept hb1)
    have HZ1 := Lib.hid (Cells.kept HZ0.out hb1 HZ0.out.lt)
    have HB1 := Lib.hid (HB0.out.trans (hb1.mono HB0.out.size))
    clear hb1 HT0 HZ0 HB0 HFIT
    have x0 := (Cells.cell HZ1.out 0).trans (show _ = some (Value.int .i64 0) from rfl)
    have z0 := Cells.frozen HZ1.out 0
    have x1 := (Cells.cell HZ1.out 1).trans (show _ = some (Value.int .i64 0) from rfl)
    have z1 := Cells.frozen HZ1.out 1
    have x2 := (Cells.cell HZ1.out 2).trans (show _ = some (Value.string ⟨#[]⟩) from rfl)
    have z2 := Cells.frozen HZ1.out 2
    have hgl := HZ1.out.lt
    go_wp2_with fail
    refine bodyPost_ret (res_box2 udpTy rfl _ _ rfl (HZ1.out.put [.int .i64 0, .int .i64 0, .string ⟨#[]⟩] rfl)) rfl ?_
    exact decU_err (er := 13) rfl hR2.out (putB_below HGZ.out [.int .i64 0, .int .i64 0, .string ⟨#[]⟩] 0 _ HB1.out)
  rw [if_neg h0] at hR
  have h0' := Classical.not_not.1 h0
  rw [decide_eq_true h0'] at hfit
  have HFIT := Lib.hid hfit
  clear hfit h0
  by_cases c1 : S.length < 8
  · have hR2 := Lib.hid (show R = (zeroU, 1) by rw [hR, if_pos c1])
    have d1 : decide ((s.size : Int) < 8) = true := by simp; omega
    have n1 : (s.size : Int) < 8 := by omega
    clear hR hS hsz h0' hae hbe hav ha hb c1
    go_enter Tryd.func9, Tryd.ntmps9
    go_upto_region 1 with fail
    rw [← hW0, ← hgz]
    clear hW0 hgz
    obtain ⟨q0, q1, q2, q3, q4, q5, q6⟩ := id HT0.out
    have x0 := (Cells.cell HZ0.out 0).trans (show _ = some (Value.int .i64 0) from rfl)
    have z0 := Cells.frozen HZ0.out 0
    have x1 := (Cells.cell HZ0.out 1).trans (show _ = some (Value.int .i64 0) from rfl)
    have z1 := Cells.frozen HZ0.out 1
    have x2 := (Cells.cell HZ0.out 2).trans (show _ = some (Value.string ⟨#[]⟩) from rfl)
    have z2 := Cells.frozen HZ0.out 2
    have hgl := HZ0.out.lt
    go_wp2_with fail
    refine (HFIT.out _).mono ?_
    rintro e w1 ⟨rfl, hb1⟩
    clear q0 q1 q2 q3 q4 q5 q6 x0 z0 x1 z1 x2 z2 hgl
    have HT1 := Lib.hid (HT0.out.kept hb1)
    have HZ1 := Lib.hid (Cells.kept HZ0.out hb1 HZ0.out.lt)
    have HB1 := Lib.hid (HB0.out.trans (hb1.mono HB0.out.size))
    clear hb1 HT0 HZ0 HB0 HFIT
    have x0 := (Cells.cell HZ1.out 0).trans (show _ = some (Value.int .i64 0) from rfl)
    have z0 := Cells.frozen HZ1.out 0
    have x1 := (Cells.cell HZ1.out 1).trans (show _ = some (Value.int .i64 0) from rfl)
    have z1 := Cells.frozen HZ1.out 1
    have x2 := (Cells.cell HZ1.out 2).trans (show _ = some (Value.string ⟨#[]⟩) from rfl)
    have z2 := Cells.frozen HZ1.out 2
    have hgl := HZ1.out.lt
    go_wp2_with fail
    refine bodyPost_ret (res_box2 udpTy rfl _ _ rfl (HZ1.out.put [.int .i64 0, .int .i64 0, .string ⟨#[]⟩] rfl)) rfl ?_
    exact decU_err (er := 1) rfl hR2.out (putB_below HGZ.out [.int .i64 0, .int .i64 0, .string ⟨#[]⟩] 0 _ HB1.out)
  rw [if_neg c1] at hR
  have d1 : decide ((s.size : Int) < 8) = false := by simp; omega
  have n1 : ¬ (s.size : Int) < 8 := by omega
  have i2 : (2 : Int) ≤ (s.size : Int) := by omega
  have i4 : (4 : Int) ≤ (s.size : Int) := by omega
  have i6 : (6 : Int) ≤ (s.size : Int) := by omega
  have i8 : (8 : Int) ≤ (s.size : Int) := by omega
  obtain ⟨n, hn⟩ : ∃ n, n = nm2 S 4 := ⟨_, rfl⟩
  have hnl : n < 65536 := by rw [hn]; exact nm2_lt S 4
  obtain ⟨c, hc⟩ : ∃ n, n = nm2 S 6 := ⟨_, rfl⟩
  have hcl : c < 65536 := by rw [hc]; exact nm2_lt S 6
  have len2 : ∀ i, ((S.drop i).take 2).length ≤ 7 := fun i => by rw [List.length_take]; omega
  have hex4 : s.extract 4 6 = str ((S.drop 4).take 2) := extract_str10 s S hS 4 6
  have hex6 : s.extract 6 8 = str ((S.drop 6).take 2) := extract_str10 s S hS 6 8
  have HV4 := Lib.hid (fun (W : World) => show Calls Tryd.prog 16 #[.string (str ((S.drop 4).take 2))] W fun e w' => e = .returned (.int .i64 (n : Int)) ∧ W = w' from by rw [hn]; exact val_any _ _ rfl (len2 4) W)
  have HV6 := Lib.hid (fun (W : World) => show Calls Tryd.prog 16 #[.string (str ((S.drop 6).take 2))] W fun e w' => e = .returned (.int .i64 (c : Int)) ∧ W = w' from by rw [hc]; exact val_any _ _ rfl (len2 6) W)
  generalize str ((S.drop 4).take 2) = D4 at *
  generalize str ((S.drop 6).take 2) = D6 at *
  rw [← hn] at hR
  by_cases c2 : n < 8
  · have hR2 := Lib.hid (show R = (zeroU, 2) by rw [hR, if_pos c2])
    have d2 : decide ((n : Int) < 8) = true := by simp; omega
    have n2 : (n : Int) < 8 := by omega
    clear hR hS hsz h0' hae hbe hav ha hb c1 c2 hn hc len2
    go_enter Tryd.func9, Tryd.ntmps9
    go_upto_region 1 with fail
    rw [← hW0, ← hgz]
    clear hW0 hgz
    obtain ⟨q0, q1, q2, q3, q4, q5, q6⟩ := id HT0.out
    have x0 := (Cells.cell HZ0.out 0).trans (show _ = some (Value.int .i64 0) from rfl)
    have z0 := Cells.frozen HZ0.out 0
    have x1 := (Cells.cell HZ0.out 1).trans (show _ = some (Value.int .i64 0) from rfl)
    have z1 := Cells.frozen HZ0.out 1
    have x2 := (Cells.cell HZ0.out 2).trans (show _ = some (Value.string ⟨#[]⟩) from rfl)
    have z2 := Cells.frozen HZ0.out 2
    have hgl := HZ0.out.lt
    go_wp2_with fail
    refine (HFIT.out _).mono ?_
    rintro e w1 ⟨rfl, hb1⟩
    clear q0 q1 q2 q3 q4 q5 q6 x0 z0 x1 z1 x2 z2 hgl
    have HT1 := Lib.hid (HT0.out.kept hb1)
    have HZ1 := Lib.hid (Cells.kept HZ0.out hb1 HZ0.out.lt)
    have HB1 := Lib.hid (HB0.out.trans (hb1.mono HB0.out.size))
    clear hb1 HT0 HZ0 HB0 HFIT
    have x0 := (Cells.cell HZ1.out 0).trans (show _ = some (Value.int .i64 0) from rfl)
    have z0 := Cells.frozen HZ1.out 0
    have x1 := (Cells.cell HZ1.out 1).trans (show _ = some (Value.int .i64 0) from rfl)
    have z1 := Cells.frozen HZ1.out 1
    have x2 := (Cells.cell HZ1.out 2).trans (show _ = some (Value.string ⟨#[]⟩) from rfl)
    have z2 := Cells.frozen HZ1.out 2
    have hgl := HZ1.out.lt
    go_wp2_with fail
    refine (HV4.out _).mono ?_
    rintro e w9 ⟨rfl, rfl⟩
    go_wp2_with fail
    refine bodyPost_ret (res_box2 udpTy rfl _ _ rfl (HZ1.out.put [.int .i64 0, .int .i64 0, .string ⟨#[]⟩] rfl)) rfl ?_
    exact decU_err (er := 2) rfl hR2.out (putB_below HGZ.out [.int .i64 0, .int .i64 0, .string ⟨#[]⟩] 0 _ HB1.out)
  rw [if_neg c2] at hR
  have d2 : decide ((n : Int) < 8) = false := by simp; omega
  have n2 : ¬ (n : Int) < 8 := by omega
  by_cases c3 : S.length < n
  · have hR2 := Lib.hid (show R = (zeroU, 1) by rw [hR, if_pos c3])
    have d3 : decide ((s.size : Int) < (n : Int)) = true := by simp; omega
    have n3 : (s.size : Int) < (n : Int) := by omega
    clear hR hS hsz h0' hae hbe hav ha hb c1 c2 c3 hn hc len2
    go_enter Tryd.func9, Tryd.ntmps9
    go_upto_region 1 with fail
    rw [← hW0, ← hgz]
    clear hW0 hgz
    obtain ⟨q0, q1, q2, q3, q4, q5, q6⟩ := id HT0.out
    have x0 := (Cells.cell HZ0.out 0).trans (show _ = some (Value.int .i64 0) from rfl)
    have z0 := Cells.frozen HZ0.out 0
    have x1 := (Cells.cell HZ0.out 1).trans (show _ = some (Value.int .i64 0) from rfl)
    have z1 := Cells.frozen HZ0.out 1
    have x2 := (Cells.cell HZ0.out 2).trans (show _ = some (Value.string ⟨#[]⟩) from rfl)
    have z2 := Cells.frozen HZ0.out 2
    have hgl := HZ0.out.lt
    go_wp2_with fail
    refine (HFIT.out _).mono ?_
    rintro e w1 ⟨rfl, hb1⟩
    clear q0 q1 q2 q3 q4 q5 q6 x0 z0 x1 z1 x2 z2 hgl
    have HT1 := Lib.hid (HT0.out.kept hb1)
    have HZ1 := Lib.hid (Cells.kept HZ0.out hb1 HZ0.out.lt)
    have HB1 := Lib.hid (HB0.out.trans (hb1.mono HB0.out.size))
    clear hb1 HT0 HZ0 HB0 HFIT
    have x0 := (Cells.cell HZ1.out 0).trans (show _ = some (Value.int .i64 0) from rfl)
    have z0 := Cells.frozen HZ1.out 0
    have x1 := (Cells.cell HZ1.out 1).trans (show _ = some (Value.int .i64 0) from rfl)
    have z1 := Cells.frozen HZ1.out 1
    have x2 := (Cells.cell HZ1.out 2).trans (show _ = some (Value.string ⟨#[]⟩) from rfl)
    have z2 := Cells.frozen HZ1.out 2
    have hgl := HZ1.out.lt
    go_wp2_with fail
    refine (HV4.out _).mono ?_
    rintro e w9 ⟨rfl, rfl⟩
    go_wp2_with fail
    refine bodyPost_ret (res_box2 udpTy rfl _ _ rfl (HZ1.out.put [.int .i64 0, .int .i64 0, .string ⟨#[]⟩] rfl)) rfl ?_
    exact decU_err (er := 1) rfl hR2.out (putB_below HGZ.out [.int .i64 0, .int .i64 0, .string ⟨#[]⟩] 0 _ HB1.out)
  rw [if_neg c3] at hR
  have d3 : decide ((s.size : Int) < (n : Int)) = false := by simp; omega
  have n3 : ¬ (s.size : Int) < (n : Int) := by omega
  have ns : (n : Int) ≤ (s.size : Int) := by omega
  have n8 : (8 : Int) ≤ (n : Int) := by omega
  have hclr : (clrU S n).length ≤ 65535 := by
    unfold clrU
    simp only [List.length_append, List.length_cons, List.length_take, List.length_drop]
    omega
  have hex0 : s.extract 0 6 = str (S.take 6) := by rw [extract_str10 s S hS, List.drop_zero]
  have hex8 : s.extract 8 n = str ((S.take n).drop 8) := by rw [extract_str10 s S hS, List.drop_take]
  obtain ⟨q, hq⟩ : ∃ q, q = sumU a b (clrU S n) := ⟨_, rfl⟩
  have hql : q ≤ 65535 := by rw [hq]; exact (sumU_le a b _).1
  have hsum := fun W => rsum13_any v1 v2 h1 l1 h2 l2 (clrU S n) W (by rw [← hae, ← hbe]; exact h0') (by rw [← hae]; exact ha) (by rw [← hbe]; exact hb) hclr
  rw [← hae, ← hbe, ← hq] at hsum
  have hcat : str (S.take 6) ++ ⟨#[0, 0]⟩ ++ str ((S.take n).drop 8) = str (clrU S n) := by
    show str (S.take 6) ++ str [0, 0] ++ str ((S.take n).drop 8) = _
    rw [str_append, str_append]
    unfold clrU
    simp
  rw [← hcat] at hsum
  have l0 : (str (S.take 6)).size = 6 := by rw [str_size, List.length_take]; omega
  have l8 : (str ((S.take n).drop 8)).size ≤ 65536 := by rw [str_size, List.length_drop, List.length_take]; omega
  have HPAY := Lib.hid (show str ((S.take n).drop 8) = str ((S.take n).drop 8) from rfl)
  rw [← hc, ← hq, hav] at hR
  clear hcat
  generalize str (S.take 6) = D0 at *
  obtain ⟨P, hP⟩ : ∃ P, P = str ((S.take n).drop 8) := ⟨_, rfl⟩
  rw [← hP] at hex8 hsum l8
  have HSUM := Lib.hid hsum
  have r1 : (9223372036854775807 < D0.size + 2) = False := by simp only [eq_iff_iff, iff_false]; omega
  have r1' : (9223372036854775807 < D0.size + (ByteArray.mk #[0, 0]).size) = False := r1
  have r2 : (9223372036854775807 < D0.size + 2 + P.size) = False := by simp only [eq_iff_iff, iff_false]; omega
  have r2' : (9223372036854775807 < (D0 ++ ⟨#[0, 0]⟩).size + P.size) = False := by rw [ByteArray.size_append]; exact r2
  clear hsum hq hclr
  obtain ⟨g, hg⟩ : ∃ g, g = w.heap.size := ⟨_, rfl⟩
  by_cases c4 : c ≠ q ∧ (c ≠ 0 ∨ v1 = true)
  · have hR2 := Lib.hid (show R = (zeroU, 8) by rw [hR, if_pos c4])
    obtain ⟨c5, c6⟩ := c4
    have d5 : ((c : Int) != (q : Int)) = true := by rw [bne_iff_ne]; omega
    clear hR hS hsz h0' hae hbe hav ha hb c1 c2 c3 hn hc len2 HPAY hP
    rcases Nat.eq_zero_or_pos c with e0 | e0
    · have d6 : ((c : Int) != 0) = false := by rw [bne_eq_false_iff_eq]; omega
      obtain rfl : v1 = true := c6.resolve_left (fun h => h e0)
      clear c5 c6 e0
      go_enter Tryd.func9, Tryd.ntmps9
      go_upto_region 1 with fail
      rw [← hW0, ← hgz]
      clear hW0 hgz
      obtain ⟨q0, q1, q2, q3, q4, q5, q6⟩ := id HT0.out
      have x0 := (Cells.cell HZ0.out 0).trans (show _ = some (Value.int .i64 0) from rfl)
      have z0 := Cells.frozen HZ0.out 0
      have x1 := (Cells.cell HZ0.out 1).trans (show _ = some (Value.int .i64 0) from rfl)
      have z1 := Cells.frozen HZ0.out 1
      have x2 := (Cells.cell HZ0.out 2).trans (show _ = some (Value.string ⟨#[]⟩) from rfl)
      have z2 := Cells.frozen HZ0.out 2
      have hgl := HZ0.out.lt
      go_wp2_with fail
      refine (HFIT.out _).mono ?_
      rintro e w1 ⟨rfl, hb1⟩
      clear q0 q1 q2 q3 q4 q5 q6 x0 z0 x1 z1 x2 z2 hgl
      have HT1 := Lib.hid (HT0.out.kept hb1)
      have HZ1 := Lib.hid (Cells.kept HZ0.out hb1 HZ0.out.lt)
      have HB1 := Lib.hid (HB0.out.trans (hb1.mono HB0.out.size))
      clear hb1 HT0 HZ0 HB0 HFIT
      have x0 := (Cells.cell HZ1.out 0).trans (show _ = some (Value.int .i64 0) from rfl)
      have z0 := Cells.frozen HZ1.out 0
      have x1 := (Cells.cell HZ1.out 1).trans (show _ = some (Value.int .i64 0) from rfl)
      have z1 := Cells.frozen HZ1.out 1
      have x2 := (Cells.cell HZ1.out 2).trans (show _ = some (Value.string ⟨#[]⟩) from rfl)
      have z2 := Cells.frozen HZ1.out 2
      have hgl := HZ1.out.lt
      go_wp2_with fail
      refine (HV4.out _).mono ?_
      rintro e w9 ⟨rfl, rfl⟩
      clear x0 z0 x1 z1 x2 z2 hgl
      go_wp2_with fail
      refine (HV6.out _).mono ?_
      rintro e w9 ⟨rfl, rfl⟩
      go_upto_region 11 with fail
      refine wp_region_pick (fun w' => Below w1.heap.size w1 w') (by kernel_rfl) (by kernel_rfl) (Below.refl _ _) ⟨rfl, rfl, rfl, Nat.le_refl _, fun _ _ => rfl⟩ (fun pw hp hq => ?_)
      have y0 := fun u => (HT1.out.kept (hp u)).2.1
      have y1 := fun u => (HT1.out.kept (hp u)).2.2.1
      have y2 := fun u => (HT1.out.kept (hp u)).2.2.2.1
      have y3 := fun u => (HT1.out.kept (hp u)).2.2.2.2.1
      have y4 := fun u => (HT1.out.kept (hp u)).2.2.2.2.2.1
      have y5 := fun u => (HT1.out.kept (hp u)).2.2.2.2.2.2
      have HP := Lib.hid hp
      have HQ := Lib.hid hq
      clear hp hq
      repeat (go_big_quiet_step ((with_reducible exact Calls.pick_of HQ.out (fun W' hb => (HP.out _).trans (hb.mono (HP.out _).size)) (HSUM.out _))))
      refine wpQuiet_nil ?_
      rintro _ ⟨u, rfl⟩
      have HT2 := Lib.hid (HT1.out.kept (HP.out u))
      have HZ2 := Lib.hid (Cells.kept HZ1.out (HP.out u) HZ1.out.lt)
      have HB2 := Lib.hid (HB1.out.trans ((HP.out u).mono HB1.out.size))
      generalize pw u = w6 at *
      clear HP HQ y0 y1 y2 y3 y4 y5 HT1 HZ1 HB1
      have x0 := (Cells.cell HZ2.out 0).trans (show _ = some (Value.int .i64 0) from rfl)
      have z0 := Cells.frozen HZ2.out 0
      have x1 := (Cells.cell HZ2.out 1).trans (show _ = some (Value.int .i64 0) from rfl)
      have z1 := Cells.frozen HZ2.out 1
      have x2 := (Cells.cell HZ2.out 2).trans (show _ = some (Value.string ⟨#[]⟩) from rfl)
      have z2 := Cells.frozen HZ2.out 2
      have hgl := HZ2.out.lt
      go_wp2_with fail
      refine bodyPost_ret (res_box2 udpTy rfl _ _ rfl (HZ2.out.put [.int .i64 0, .int .i64 0, .string ⟨#[]⟩] rfl)) rfl ?_
      exact decU_err (er := 8) rfl hR2.out (putB_below HGZ.out [.int .i64 0, .int .i64 0, .string ⟨#[]⟩] 0 _ HB2.out)
    · have d6 : ((c : Int) != 0) = true := by rw [bne_iff_ne]; omega
      clear c5 c6 e0
      go_enter Tryd.func9, Tryd.ntmps9
      go_upto_region 1 with fail
      rw [← hW0, ← hgz]
      clear hW0 hgz
      obtain ⟨q0, q1, q2, q3, q4, q5, q6⟩ := id HT0.out
      have x0 := (Cells.cell HZ0.out 0).trans (show _ = some (Value.int .i64 0) from rfl)
      have z0 := Cells.frozen HZ0.out 0
      have x1 := (Cells.cell HZ0.out 1).trans (show _ = some (Value.int .i64 0) from rfl)
      have z1 := Cells.frozen HZ0.out 1
      have x2 := (Cells.cell HZ0.out 2).trans (show _ = some (Value.string ⟨#[]⟩) from rfl)
      have z2 := Cells.frozen HZ0.out 2
      have hgl := HZ0.out.lt
      go_wp2_with fail
      refine (HFIT.out _).mono ?_
      rintro e w1 ⟨rfl, hb1⟩
      clear q0 q1 q2 q3 q4 q5 q6 x0 z0 x1 z1 x2 z2 hgl
      have HT1 := Lib.hid (HT0.out.kept hb1)
      have HZ1 := Lib.hid (Cells.kept HZ0.out hb1 HZ0.out.lt)
      have HB1 := Lib.hid (HB0.out.trans (hb1.mono HB0.out.size))
      clear hb1 HT0 HZ0 HB0 HFIT
      have x0 := (Cells.cell HZ1.out 0).trans (show _ = some (Value.int .i64 0) from rfl)
      have z0 := Cells.frozen HZ1.out 0
      have x1 := (Cells.cell HZ1.out 1).trans (show _ = some (Value.int .i64 0) from rfl)
      have z1 := Cells.frozen HZ1.out 1
      have x2 := (Cells.cell HZ1.out 2).trans (show _ = some (Value.string ⟨#[]⟩) from rfl)
      have z2 := Cells.frozen HZ1.out 2
      have hgl := HZ1.out.lt
      go_wp2_with fail
      refine (HV4.out _).mono ?_
      rintro e w9 ⟨rfl, rfl⟩
      clear x0 z0 x1 z1 x2 z2 hgl
      go_wp2_with fail
      refine (HV6.out _).mono ?_
      rintro e w9 ⟨rfl, rfl⟩
      go_upto_region 11 with fail
      refine wp_region_pick (fun w' => Below w1.heap.size w1 w') (by kernel_rfl) (by kernel_rfl) (Below.refl _ _) ⟨rfl, rfl, rfl, Nat.le_refl _, fun _ _ => rfl⟩ (fun pw hp hq => ?_)
      have y0 := fun u => (HT1.out.kept (hp u)).2.1
      have y1 := fun u => (HT1.out.kept (hp u)).2.2.1
      have y2 := fun u => (HT1.out.kept (hp u)).2.2.2.1
      have y3 := fun u => (HT1.out.kept (hp u)).2.2.2.2.1
      have y4 := fun u => (HT1.out.kept (hp u)).2.2.2.2.2.1
      have y5 := fun u => (HT1.out.kept (hp u)).2.2.2.2.2.2
      have HP := Lib.hid hp
      have HQ := Lib.hid hq
      clear hp hq
      repeat (go_big_quiet_step ((with_reducible exact Calls.pick_of HQ.out (fun W' hb => (HP.out _).trans (hb.mono (HP.out _).size)) (HSUM.out _))))
      refine wpQuiet_nil ?_
      rintro _ ⟨u, rfl⟩
      have HT2 := Lib.hid (HT1.out.kept (HP.out u))
      have HZ2 := Lib.hid (Cells.kept HZ1.out (HP.out u) HZ1.out.lt)
      have HB2 := Lib.hid (HB1.out.trans ((HP.out u).mono HB1.out.size))
      generalize pw u = w6 at *
      clear HP HQ y0 y1 y2 y3 y4 y5 HT1 HZ1 HB1
      have x0 := (Cells.cell HZ2.out 0).trans (show _ = some (Value.int .i64 0) from rfl)
      have z0 := Cells.frozen HZ2.out 0
      have x1 := (Cells.cell HZ2.out 1).trans (show _ = some (Value.int .i64 0) from rfl)
      have z1 := Cells.frozen HZ2.out 1
      have x2 := (Cells.cell HZ2.out 2).trans (show _ = some (Value.string ⟨#[]⟩) from rfl)
      have z2 := Cells.frozen HZ2.out 2
      have hgl := HZ2.out.lt
      go_wp2_with fail
      refine bodyPost_ret (res_box2 udpTy rfl _ _ rfl (HZ2.out.put [.int .i64 0, .int .i64 0, .string ⟨#[]⟩] rfl)) rfl ?_
      exact decU_err (er := 8) rfl hR2.out (putB_below HGZ.out [.int .i64 0, .int .i64 0, .string ⟨#[]⟩] 0 _ HB2.out)
  rw [if_neg c4] at hR
  have hR2 := Lib.hid hR
  have hex02 : s.extract 0 2 = str ((S.drop 0).take 2) := extract_str10 s S hS 0 2
  have hex24 : s.extract 2 4 = str ((S.drop 2).take 2) := extract_str10 s S hS 2 4
  obtain ⟨x, hx⟩ : ∃ n, n = nm2 S 0 := ⟨_, rfl⟩
  obtain ⟨y, hy⟩ : ∃ n, n = nm2 S 2 := ⟨_, rfl⟩
  have HV0 := Lib.hid (fun (W : World) => show Calls Tryd.prog 16 #[.string (str ((S.drop 0).take 2))] W fun e w' => e = .returned (.int .i64 (x : Int)) ∧ w' = W from by rw [hx]; exact (val_any _ _ rfl (len2 0) W).mono (fun e w' h => ⟨h.1, h.2.symm⟩))
  have HV2 := Lib.hid (fun (W : World) => show Calls Tryd.prog 16 #[.string (str ((S.drop 2).take 2))] W fun e w' => e = .returned (.int .i64 (y : Int)) ∧ w' = W from by rw [hy]; exact (val_any _ _ rfl (len2 2) W).mono (fun e w' h => ⟨h.1, h.2.symm⟩))
  generalize str ((S.drop 0).take 2) = D02 at *
  generalize str ((S.drop 2).take 2) = D24 at *
  have HXY := Lib.hid (show x = nm2 S 0 ∧ y = nm2 S 2 ∧ P = str ((S.take n).drop 8) from ⟨hx, hy, hP⟩)
  have xl : x < 65536 := by rw [hx]; exact nm2_lt S 0
  have yl : y < 65536 := by rw [hy]; exact nm2_lt S 2
  have HFIN := Lib.hid (fun (wz : World) (hb : Below w.heap.size w wz) => show DecUP w R (.returned (.tuple #[.agg #[.int .i64 (x : Int), .int .i64 (y : Int), .string P], .int .i64 0])) wz from by
    obtain ⟨e1, e2, e3⟩ := HXY.out
    rw [hR2.out, e1, e2, e3]
    exact ⟨rfl, hb⟩)
  have hcs : (((c : Int) != (q : Int)) = false) ∨ (((c : Int) != (q : Int)) = true ∧ ((c : Int) != 0) = false ∧ v1 = false) := by
    rcases Nat.decEq c q with h | h
    · right
      have h1 : c = 0 := Classical.byContradiction fun e => c4 ⟨h, .inl e⟩
      refine ⟨by rw [bne_iff_ne]; omega, by rw [bne_eq_false_iff_eq]; omega, ?_⟩
      cases v1
      · rfl
      · exact absurd ⟨h, .inr rfl⟩ c4
    · left; rw [bne_eq_false_iff_eq]; omega
  clear hR hS hsz h0' hae hbe hav ha hb c1 c2 c3 c4 hn hc len2 HPAY hP hx hy
  rcases hcs with d5 | ⟨d5, d6, rfl⟩
  · go_enter Tryd.func9, Tryd.ntmps9
    go_upto_region 1 with fail
    rw [← hW0, ← hgz]
    clear hW0 hgz
    obtain ⟨q0, q1, q2, q3, q4, q5, q6⟩ := id HT0.out
    have x0 := (Cells.cell HZ0.out 0).trans (show _ = some (Value.int .i64 0) from rfl)
    have z0 := Cells.frozen HZ0.out 0
    have x1 := (Cells.cell HZ0.out 1).trans (show _ = some (Value.int .i64 0) from rfl)
    have z1 := Cells.frozen HZ0.out 1
    have x2 := (Cells.cell HZ0.out 2).trans (show _ = some (Value.string ⟨#[]⟩) from rfl)
    have z2 := Cells.frozen HZ0.out 2
    have hgl := HZ0.out.lt
    go_wp2_with fail
    refine (HFIT.out _).mono ?_
    rintro e w1 ⟨rfl, hb1⟩
    clear q0 q1 q2 q3 q4 q5 q6 x0 z0 x1 z1 x2 z2 hgl
    have HT1 := Lib.hid (HT0.out.kept hb1)
    have HZ1 := Lib.hid (Cells.kept HZ0.out hb1 HZ0.out.lt)
    have HB1 := Lib.hid (HB0.out.trans (hb1.mono HB0.out.size))
    clear hb1 HT0 HZ0 HB0 HFIT
    have x0 := (Cells.cell HZ1.out 0).trans (show _ = some (Value.int .i64 0) from rfl)
    have z0 := Cells.frozen HZ1.out 0
    have x1 := (Cells.cell HZ1.out 1).trans (show _ = some (Value.int .i64 0) from rfl)
    have z1 := Cells.frozen HZ1.out 1
    have x2 := (Cells.cell HZ1.out 2).trans (show _ = some (Value.string ⟨#[]⟩) from rfl)
    have z2 := Cells.frozen HZ1.out 2
    have hgl := HZ1.out.lt
    go_wp2_with fail
    refine (HV4.out _).mono ?_
    rintro e w9 ⟨rfl, rfl⟩
    clear x0 z0 x1 z1 x2 z2 hgl
    go_wp2_with fail
    refine (HV6.out _).mono ?_
    rintro e w9 ⟨rfl, rfl⟩
    go_upto_region 11 with fail
    refine wp_region_pick (fun w' => Below w1.heap.size w1 w') (by kernel_rfl) (by kernel_rfl) (Below.refl _ _) ⟨rfl, rfl, rfl, Nat.le_refl _, fun _ _ => rfl⟩ (fun pw hp hq => ?_)
    have y0 := fun u => (HT1.out.kept (hp u)).2.1
    have y1 := fun u => (HT1.out.kept (hp u)).2.2.1
    have y2 := fun u => (HT1.out.kept (hp u)).2.2.2.1
    have y3 := fun u => (HT1.out.kept (hp u)).2.2.2.2.1
    have y4 := fun u => (HT1.out.kept (hp u)).2.2.2.2.2.1
    have y5 := fun u => (HT1.out.kept (hp u)).2.2.2.2.2.2
    have HP := Lib.hid hp
    have HQ := Lib.hid hq
    clear hp hq
    repeat (go_big_quiet_step ((with_reducible exact Calls.pick_of HQ.out (fun W' hb => (HP.out _).trans (hb.mono (HP.out _).size)) (HSUM.out _))))
    refine wpQuiet_nil ?_
    rintro _ ⟨u, rfl⟩
    have HT2 := Lib.hid (HT1.out.kept (HP.out u))
    have HZ2 := Lib.hid (Cells.kept HZ1.out (HP.out u) HZ1.out.lt)
    have HB2 := Lib.hid (HB1.out.trans ((HP.out u).mono HB1.out.size))
    generalize pw u = w6 at *
    clear HP HQ y0 y1 y2 y3 y4 y5 HT1 HZ1 HB1
    go_upto_region 13 with fail
    have HZ7 := Lib.hid (Cells.drew HZ2.out)
    have HB7 := Lib.hid HB2.out.drew
    refine wp_region_still_tail 10 (by kernel_rfl) (by kernel_rfl) ?_
    simp only [List.take_succ_cons, List.take_zero, List.drop_succ_cons, List.drop_zero]
    change wpStill _ _ w6.drew _ _ _
    still_step
    still_step
    still_call (HV0.out w6.drew)
    still_step
    still_step
    still_call (HV2.out w6.drew)
    repeat still_step
    refine wpStill_nil ?_
    change wpList _ _ _ _ _ w6.drew
    clear HZ2 HB2 HT2
    generalize w6.drew = w7 at *
    have x0 := (Cells.cell HZ7.out 0).trans (show _ = some (Value.int .i64 0) from rfl)
    have z0 := Cells.frozen HZ7.out 0
    have x1 := (Cells.cell HZ7.out 1).trans (show _ = some (Value.int .i64 0) from rfl)
    have z1 := Cells.frozen HZ7.out 1
    have x2 := (Cells.cell HZ7.out 2).trans (show _ = some (Value.string ⟨#[]⟩) from rfl)
    have z2 := Cells.frozen HZ7.out 2
    have hgl := HZ7.out.lt
    go_wp2_with fail
    refine bodyPost_ret (res_box2 udpTy rfl _ _ rfl (HZ7.out.put [.int .i64 (x : Int), .int .i64 (y : Int), .string P] rfl)) rfl ?_
    exact HFIN.out _ (putB_below HGZ.out [.int .i64 (x : Int), .int .i64 (y : Int), .string P] 0 _ HB7.out)
  · go_enter Tryd.func9, Tryd.ntmps9
    go_upto_region 1 with fail
    rw [← hW0, ← hgz]
    clear hW0 hgz
    obtain ⟨q0, q1, q2, q3, q4, q5, q6⟩ := id HT0.out
    have x0 := (Cells.cell HZ0.out 0).trans (show _ = some (Value.int .i64 0) from rfl)
    have z0 := Cells.frozen HZ0.out 0
    have x1 := (Cells.cell HZ0.out 1).trans (show _ = some (Value.int .i64 0) from rfl)
    have z1 := Cells.frozen HZ0.out 1
    have x2 := (Cells.cell HZ0.out 2).trans (show _ = some (Value.string ⟨#[]⟩) from rfl)
    have z2 := Cells.frozen HZ0.out 2
    have hgl := HZ0.out.lt
    go_wp2_with fail
    refine (HFIT.out _).mono ?_
    rintro e w1 ⟨rfl, hb1⟩
    clear q0 q1 q2 q3 q4 q5 q6 x0 z0 x1 z1 x2 z2 hgl
    have HT1 := Lib.hid (HT0.out.kept hb1)
    have HZ1 := Lib.hid (Cells.kept HZ0.out hb1 HZ0.out.lt)
    have HB1 := Lib.hid (HB0.out.trans (hb1.mono HB0.out.size))
    clear hb1 HT0 HZ0 HB0 HFIT
    have x0 := (Cells.cell HZ1.out 0).trans (show _ = some (Value.int .i64 0) from rfl)
    have z0 := Cells.frozen HZ1.out 0
    have x1 := (Cells.cell HZ1.out 1).trans (show _ = some (Value.int .i64 0) from rfl)
    have z1 := Cells.frozen HZ1.out 1
    have x2 := (Cells.cell HZ1.out 2).trans (show _ = some (Value.string ⟨#[]⟩) from rfl)
    have z2 := Cells.frozen HZ1.out 2
    have hgl := HZ1.out.lt
    go_wp2_with fail
    refine (HV4.out _).mono ?_
    rintro e w9 ⟨rfl, rfl⟩
    clear x0 z0 x1 z1 x2 z2 hgl
    go_wp2_with fail
    refine (HV6.out _).mono ?_
    rintro e w9 ⟨rfl, rfl⟩
    go_upto_region 11 with fail
    refine wp_region_pick (fun w' => Below w1.heap.size w1 w') (by kernel_rfl) (by kernel_rfl) (Below.refl _ _) ⟨rfl, rfl, rfl, Nat.le_refl _, fun _ _ => rfl⟩ (fun pw hp hq => ?_)
    have y0 := fun u => (HT1.out.kept (hp u)).2.1
    have y1 := fun u => (HT1.out.kept (hp u)).2.2.1
    have y2 := fun u => (HT1.out.kept (hp u)).2.2.2.1
    have y3 := fun u => (HT1.out.kept (hp u)).2.2.2.2.1
    have y4 := fun u => (HT1.out.kept (hp u)).2.2.2.2.2.1
    have y5 := fun u => (HT1.out.kept (hp u)).2.2.2.2.2.2
    have HP := Lib.hid hp
    have HQ := Lib.hid hq
    clear hp hq
    repeat (go_big_quiet_step ((with_reducible exact Calls.pick_of HQ.out (fun W' hb => (HP.out _).trans (hb.mono (HP.out _).size)) (HSUM.out _))))
    refine wpQuiet_nil ?_
    rintro _ ⟨u, rfl⟩
    have HT2 := Lib.hid (HT1.out.kept (HP.out u))
    have HZ2 := Lib.hid (Cells.kept HZ1.out (HP.out u) HZ1.out.lt)
    have HB2 := Lib.hid (HB1.out.trans ((HP.out u).mono HB1.out.size))
    generalize pw u = w6 at *
    clear HP HQ y0 y1 y2 y3 y4 y5 HT1 HZ1 HB1
    go_upto_region 13 with fail
    have HZ7 := Lib.hid (Cells.drew HZ2.out)
    have HB7 := Lib.hid HB2.out.drew
    refine wp_region_still_tail 10 (by kernel_rfl) (by kernel_rfl) ?_
    simp only [List.take_succ_cons, List.take_zero, List.drop_succ_cons, List.drop_zero]
    change wpStill _ _ w6.drew _ _ _
    still_step
    still_step
    still_call (HV0.out w6.drew)
    still_step
    still_step
    still_call (HV2.out w6.drew)
    repeat still_step
    refine wpStill_nil ?_
    change wpList _ _ _ _ _ w6.drew
    clear HZ2 HB2 HT2
    generalize w6.drew = w7 at *
    have x0 := (Cells.cell HZ7.out 0).trans (show _ = some (Value.int .i64 0) from rfl)
    have z0 := Cells.frozen HZ7.out 0
    have x1 := (Cells.cell HZ7.out 1).trans (show _ = some (Value.int .i64 0) from rfl)
    have z1 := Cells.frozen HZ7.out 1
    have x2 := (Cells.cell HZ7.out 2).trans (show _ = some (Value.string ⟨#[]⟩) from rfl)
    have z2 := Cells.frozen HZ7.out 2
    have hgl := HZ7.out.lt
    go_wp2_with fail
    refine bodyPost_ret (res_box2 udpTy rfl _ _ rfl (HZ7.out.put [.int .i64 (x : Int), .int .i64 (y : Int), .string P] rfl)) rfl ?_
    exact HFIN.out _ (putB_below HGZ.out [.int .i64 (x : Int), .int .i64 (y : Int), .string P] 0 _ HB7.out)
end Go.Proofs.YtnpklepafpdadaaDoor

/- Contract of the reference of layer 13: Encode. -/
namespace Go.Proofs.YtnpklepafpdadaaDoor
open Go.ChangeShapes Go.WideShapes Go.ChangeAt Go.RowKit
set_option linter.unusedVariables false

set_option maxHeartbeats 4000000 in
set_option maxRecDepth 100000 in
theorem renc13_any (v1 v2 : Bool) (h1 l1 h2 l2 : Nat) (src dst : Int) (pay : List UInt8) (w : World) (ha : fits13 ⟨v1, h1, l1⟩) (hb : fits13 ⟨v2, h2, l2⟩) (hs : pay.length ≤ maxLen) :
    Calls Tryd.prog 11 #[.agg #[.bool v1, .int .u64 (h1 : Int), .int .u64 (l1 : Int)], .agg #[.bool v2, .int .u64 (h2 : Int), .int .u64 (l2 : Int)], .agg #[.int .i64 src, .int .i64 dst, .string (str pay)]] w fun e w' => e = .returned (.tuple #[.string (str (encU ⟨v1, h1, l1⟩ ⟨v2, h2, l2⟩ ⟨src, dst, pay⟩).1), .int .i64 ((encU ⟨v1, h1, l1⟩ ⟨v2, h2, l2⟩ ⟨src, dst, pay⟩).2 : Int)]) ∧ Below w.heap.size w w' := by
  obtain ⟨a, hae⟩ : ∃ a : AdR, a = ⟨v1, h1, l1⟩ := ⟨_, rfl⟩
  obtain ⟨b, hbe⟩ : ∃ b : AdR, b = ⟨v2, h2, l2⟩ := ⟨_, rfl⟩
  obtain ⟨u, hu⟩ : ∃ u : UdpR, u = ⟨src, dst, pay⟩ := ⟨_, rfl⟩
  rw [← hae] at ha ⊢
  rw [← hbe] at hb ⊢
  rw [← hu]
  obtain ⟨P, hP⟩ : ∃ P, P = str pay := ⟨_, rfl⟩
  have hPs : P.size = pay.length := by rw [hP, str_size]
  rw [← hP]
  have hP6 : P.size ≤ 9223372036854775807 := by unfold maxLen at hs; omega
  obtain ⟨R, hR⟩ : ∃ R, R = encU a b u := ⟨_, rfl⟩
  rw [← hR]
  obtain ⟨W0, hW0⟩ : ∃ W0, W0 = ((w.alloc (.cells #[.bool v1, .int .u64 (h1 : Int), .int .u64 (l1 : Int)] 24)).alloc (.cells #[.bool v2, .int .u64 (h2 : Int), .int .u64 (l2 : Int)] 24)).alloc (.cells #[.int .i64 src, .int .i64 dst, .string P] 29) := ⟨_, rfl⟩
  obtain ⟨gz, hgz⟩ : ∃ g, g = w.heap.size + 2 := ⟨_, rfl⟩
  have HT0 := Lib.hid (show Two W0 w.heap.size v1 h1 l1 v2 h2 l2 by rw [hW0]; exact (two_new w v1 h1 l1 v2 h2 l2 _).kept (below_alloc6 _ _))
  have HB0 := Lib.hid (show Below w.heap.size w W0 by rw [hW0]; exact (((Below.refl _ _).alloc (Nat.le_refl _) _).alloc (by simp) _).alloc (by simp; omega) _)
  have HZ0 := Lib.hid (show Cells W0 gz 29 #[.int .i64 src, .int .i64 dst, .string P] by
    have h := heap_alloc_new ((w.alloc (.cells #[.bool v1, .int .u64 (h1 : Int), .int .u64 (l1 : Int)] 24)).alloc (.cells #[.bool v2, .int .u64 (h2 : Int), .int .u64 (l2 : Int)] 24)) (.cells #[.int .i64 src, .int .i64 dst, .string P] 29)
    rw [hW0, hgz]
    rwa [show ((w.alloc (.cells #[.bool v1, .int .u64 (h1 : Int), .int .u64 (l1 : Int)] 24)).alloc (.cells #[.bool v2, .int .u64 (h2 : Int), .int .u64 (l2 : Int)] 24)).heap.size = w.heap.size + 2 by simp] at h)
  have HGZ := Lib.hid (show w.heap.size ≤ gz by omega)
  have hfit := fun W => rfit13_any v1 v2 h1 l1 h2 l2 W
  rw [← hae, ← hbe] at hfit
  unfold encU at hR
  by_cases h0 : ¬ fitU a b
  · have hR2 := Lib.hid (show R = ([], 13) by rw [hR, if_pos h0])
    rw [decide_eq_false h0] at hfit
    have HFIT := Lib.hid hfit
    clear hR h0 hfit hae hbe ha hb hu hP hPs
    go_enter Tryd.func11, Tryd.ntmps11
    go_upto_region 1 with fail
    rw [← hW0, ← hgz]
    clear hW0 hgz
    obtain ⟨q0, q1, q2, q3, q4, q5, q6⟩ := id HT0.out
    have x0 := (Cells.cell HZ0.out 0).trans (show _ = some (Value.int .i64 src) from rfl)
    have z0 := Cells.frozen HZ0.out 0
    have x1 := (Cells.cell HZ0.out 1).trans (show _ = some (Value.int .i64 dst) from rfl)
    have z1 := Cells.frozen HZ0.out 1
    have x2 := (Cells.cell HZ0.out 2).trans (show _ = some (Value.string P) from rfl)
    have z2 := Cells.frozen HZ0.out 2
    have hgl := HZ0.out.lt
    go_wp2_with fail
    refine (HFIT.out _).mono ?_
    rintro e w1 ⟨rfl, hb1⟩
    clear q0 q1 q2 q3 q4 q5 q6 x0 z0 x1 z1 x2 z2 hgl
    have HT1 := Lib.hid (HT0.out.kept hb1)
    have HZ1 := Lib.hid (Cells.kept HZ0.out hb1 HZ0.out.lt)
    have HB1 := Lib.hid (HB0.out.trans (hb1.mono HB0.out.size))
    clear hb1 HT0 HZ0 HB0 HFIT
    have x0 := (Cells.cell HZ1.out 0).trans (show _ = some (Value.int .i64 src) from rfl)
    have z0 := Cells.frozen HZ1.out 0
    have x1 := (Cells.cell HZ1.out 1).trans (show _ = some (Value.int .i64 dst) from rfl)
    have z1 := Cells.frozen HZ1.out 1
    have x2 := (Cells.cell HZ1.out 2).trans (show _ = some (Value.string P) from rfl)
    have z2 := Cells.frozen HZ1.out 2
    have hgl := HZ1.out.lt
    go_wp2_with fail
    go_ret2
    exact ⟨by rw [hR2.out]; rfl, HB1.out⟩
  rw [if_neg h0] at hR
  have h0' := Classical.not_not.1 h0
  rw [decide_eq_true h0'] at hfit
  have HFIT := Lib.hid hfit
  clear hfit h0
  by_cases c1 : badU u
  · have hR2 := Lib.hid (show R = ([], 4) by rw [hR, if_pos c1])
    have c2 : src < 0 ∨ 65535 < src ∨ dst < 0 ∨ 65535 < dst := by rw [hu] at c1; exact c1
    have hcs : decide (src < 0) = true ∨ (decide (src < 0) = false ∧ decide (65535 < src) = true) ∨ (decide (src < 0) = false ∧ decide (65535 < src) = false ∧ decide (dst < 0) = true) ∨ (decide (src < 0) = false ∧ decide (65535 < src) = false ∧ decide (dst < 0) = false ∧ decide (65535 < dst) = true) := by
      simp only [decide_eq_true_eq, decide_eq_false_iff_not]
      omega
    clear hR h0' hae hbe ha hb hu hP hPs c1 c2
    rcases hcs with d1 | ⟨d1, d2⟩ | ⟨d1, d2, d3⟩ | ⟨d1, d2, d3, d4⟩
    · go_enter Tryd.func11, Tryd.ntmps11
      go_upto_region 1 with fail
      rw [← hW0, ← hgz]
      clear hW0 hgz
      obtain ⟨q0, q1, q2, q3, q4, q5, q6⟩ := id HT0.out
      have x0 := (Cells.cell HZ0.out 0).trans (show _ = some (Value.int .i64 src) from rfl)
      have z0 := Cells.frozen HZ0.out 0
      have x1 := (Cells.cell HZ0.out 1).trans (show _ = some (Value.int .i64 dst) from rfl)
      have z1 := Cells.frozen HZ0.out 1
      have x2 := (Cells.cell HZ0.out 2).trans (show _ = some (Value.string P) from rfl)
      have z2 := Cells.frozen HZ0.out 2
      have hgl := HZ0.out.lt
      go_wp2_with fail
      refine (HFIT.out _).mono ?_
      rintro e w1 ⟨rfl, hb1⟩
      clear q0 q1 q2 q3 q4 q5 q6 x0 z0 x1 z1 x2 z2 hgl
      have HT1 := Lib.hid (HT0.out.kept hb1)
      have HZ1 := Lib.hid (Cells.kept HZ0.out hb1 HZ0.out.lt)
      have HB1 := Lib.hid (HB0.out.trans (hb1.mono HB0.out.size))
      clear hb1 HT0 HZ0 HB0 HFIT
      have x0 := (Cells.cell HZ1.out 0).trans (show _ = some (Value.int .i64 src) from rfl)
      have z0 := Cells.frozen HZ1.out 0
      have x1 := (Cells.cell HZ1.out 1).trans (show _ = some (Value.int .i64 dst) from rfl)
      have z1 := Cells.frozen HZ1.out 1
      have x2 := (Cells.cell HZ1.out 2).trans (show _ = some (Value.string P) from rfl)
      have z2 := Cells.frozen HZ1.out 2
      have hgl := HZ1.out.lt
      go_wp2_with fail
      go_ret2
      exact ⟨by rw [hR2.out]; rfl, HB1.out⟩
    · go_enter Tryd.func11, Tryd.ntmps11
      go_upto_region 1 with fail
      rw [← hW0, ← hgz]
      clear hW0 hgz
      obtain ⟨q0, q1, q2, q3, q4, q5, q6⟩ := id HT0.out
      have x0 := (Cells.cell HZ0.out 0).trans (show _ = some (Value.int .i64 src) from rfl)
      have z0 := Cells.frozen HZ0.out 0
      have x1 := (Cells.cell HZ0.out 1).trans (show _ = some (Value.int .i64 dst) from rfl)
      have z1 := Cells.frozen HZ0.out 1
      have x2 := (Cells.cell HZ0.out 2).trans (show _ = some (Value.string P) from rfl)
      have z2 := Cells.frozen HZ0.out 2
      have hgl := HZ0.out.lt
      go_wp2_with fail
      refine (HFIT.out _).mono ?_
      rintro e w1 ⟨rfl, hb1⟩
      clear q0 q1 q2 q3 q4 q5 q6 x0 z0 x1 z1 x2 z2 hgl
      have HT1 := Lib.hid (HT0.out.kept hb1)
      have HZ1 := Lib.hid (Cells.kept HZ0.out hb1 HZ0.out.lt)
      have HB1 := Lib.hid (HB0.out.trans (hb1.mono HB0.out.size))
      clear hb1 HT0 HZ0 HB0 HFIT
      have x0 := (Cells.cell HZ1.out 0).trans (show _ = some (Value.int .i64 src) from rfl)
      have z0 := Cells.frozen HZ1.out 0
      have x1 := (Cells.cell HZ1.out 1).trans (show _ = some (Value.int .i64 dst) from rfl)
      have z1 := Cells.frozen HZ1.out 1
      have x2 := (Cells.cell HZ1.out 2).trans (show _ = some (Value.string P) from rfl)
      have z2 := Cells.frozen HZ1.out 2
      have hgl := HZ1.out.lt
      go_wp2_with fail
      go_ret2
      exact ⟨by rw [hR2.out]; rfl, HB1.out⟩
    · go_enter Tryd.func11, Tryd.ntmps11
      go_upto_region 1 with fail
      rw [← hW0, ← hgz]
      clear hW0 hgz
      obtain ⟨q0, q1, q2, q3, q4, q5, q6⟩ := id HT0.out
      have x0 := (Cells.cell HZ0.out 0).trans (show _ = some (Value.int .i64 src) from rfl)
      have z0 := Cells.frozen HZ0.out 0
      have x1 := (Cells.cell HZ0.out 1).trans (show _ = some (Value.int .i64 dst) from rfl)
      have z1 := Cells.frozen HZ0.out 1
      have x2 := (Cells.cell HZ0.out 2).trans (show _ = some (Value.string P) from rfl)
      have z2 := Cells.frozen HZ0.out 2
      have hgl := HZ0.out.lt
      go_wp2_with fail
      refine (HFIT.out _).mono ?_
      rintro e w1 ⟨rfl, hb1⟩
      clear q0 q1 q2 q3 q4 q5 q6 x0 z0 x1 z1 x2 z2 hgl
      have HT1 := Lib.hid (HT0.out.kept hb1)
      have HZ1 := Lib.hid (Cells.kept HZ0.out hb1 HZ0.out.lt)
      have HB1 := Lib.hid (HB0.out.trans (hb1.mono HB0.out.size))
      clear hb1 HT0 HZ0 HB0 HFIT
      have x0 := (Cells.cell HZ1.out 0).trans (show _ = some (Value.int .i64 src) from rfl)
      have z0 := Cells.frozen HZ1.out 0
      have x1 := (Cells.cell HZ1.out 1).trans (show _ = some (Value.int .i64 dst) from rfl)
      have z1 := Cells.frozen HZ1.out 1
      have x2 := (Cells.cell HZ1.out 2).trans (show _ = some (Value.string P) from rfl)
      have z2 := Cells.frozen HZ1.out 2
      have hgl := HZ1.out.lt
      go_wp2_with fail
      go_ret2
      exact ⟨by rw [hR2.out]; rfl, HB1.out⟩
    · go_enter Tryd.func11, Tryd.ntmps11
      go_upto_region 1 with fail
      rw [← hW0, ← hgz]
      clear hW0 hgz
      obtain ⟨q0, q1, q2, q3, q4, q5, q6⟩ := id HT0.out
      have x0 := (Cells.cell HZ0.out 0).trans (show _ = some (Value.int .i64 src) from rfl)
      have z0 := Cells.frozen HZ0.out 0
      have x1 := (Cells.cell HZ0.out 1).trans (show _ = some (Value.int .i64 dst) from rfl)
      have z1 := Cells.frozen HZ0.out 1
      have x2 := (Cells.cell HZ0.out 2).trans (show _ = some (Value.string P) from rfl)
      have z2 := Cells.frozen HZ0.out 2
      have hgl := HZ0.out.lt
      go_wp2_with fail
      refine (HFIT.out _).mono ?_
      rintro e w1 ⟨rfl, hb1⟩
      clear q0 q1 q2 q3 q4 q5 q6 x0 z0 x1 z1 x2 z2 hgl
      have HT1 := Lib.hid (HT0.out.kept hb1)
      have HZ1 := Lib.hid (Cells.kept HZ0.out hb1 HZ0.out.lt)
      have HB1 := Lib.hid (HB0.out.trans (hb1.mono HB0.out.size))
      clear hb1 HT0 HZ0 HB0 HFIT
      have x0 := (Cells.cell HZ1.out 0).trans (show _ = some (Value.int .i64 src) from rfl)
      have z0 := Cells.frozen HZ1.out 0
      have x1 := (Cells.cell HZ1.out 1).trans (show _ = some (Value.int .i64 dst) from rfl)
      have z1 := Cells.frozen HZ1.out 1
      have x2 := (Cells.cell HZ1.out 2).trans (show _ = some (Value.string P) from rfl)
      have z2 := Cells.frozen HZ1.out 2
      have hgl := HZ1.out.lt
      go_wp2_with fail
      go_ret2
      exact ⟨by rw [hR2.out]; rfl, HB1.out⟩
  rw [if_neg c1] at hR
  have c2 : ¬ (src < 0 ∨ 65535 < src ∨ dst < 0 ∨ 65535 < dst) := by rw [hu] at c1; exact c1
  obtain ⟨X, rfl⟩ : ∃ T : Nat, src = (T : Int) := ⟨src.toNat, by omega⟩
  obtain ⟨Y, rfl⟩ : ∃ T : Nat, dst = (T : Int) := ⟨dst.toNat, by omega⟩
  have hX : X < 65536 := by omega
  have hY : Y < 65536 := by omega
  have d1 : decide ((X : Int) < 0) = false := decide_eq_false (by omega)
  have d2 : decide ((65535 : Int) < (X : Int)) = false := by simp; omega
  have d3 : decide ((Y : Int) < 0) = false := decide_eq_false (by omega)
  have d4 : decide ((65535 : Int) < (Y : Int)) = false := by simp; omega
  have n1 : ¬ (X : Int) < 0 := by omega
  have n2 : ¬ (65535 : Int) < (X : Int) := by omega
  have n3 : ¬ (Y : Int) < 0 := by omega
  have n4 : ¬ (65535 : Int) < (Y : Int) := by omega
  have hup : u.pay = pay := by rw [hu]
  rw [hup] at hR
  by_cases c3 : 65507 < pay.length
  · have hR2 := Lib.hid (show R = ([], 3) by rw [hR, if_pos c3])
    have d5 : decide ((65507 : Int) < (P.size : Int)) = true := by simp; omega
    have n5 : (65507 : Int) < (P.size : Int) := by omega
    clear hR h0' hae hbe ha hb hu hP hPs c1 c2 c3 hup
    go_enter Tryd.func11, Tryd.ntmps11
    go_upto_region 1 with fail
    rw [← hW0, ← hgz]
    clear hW0 hgz
    obtain ⟨q0, q1, q2, q3, q4, q5, q6⟩ := id HT0.out
    have x0 := (Cells.cell HZ0.out 0).trans (show _ = some (Value.int .i64 (X : Int)) from rfl)
    have z0 := Cells.frozen HZ0.out 0
    have x1 := (Cells.cell HZ0.out 1).trans (show _ = some (Value.int .i64 (Y : Int)) from rfl)
    have z1 := Cells.frozen HZ0.out 1
    have x2 := (Cells.cell HZ0.out 2).trans (show _ = some (Value.string P) from rfl)
    have z2 := Cells.frozen HZ0.out 2
    have hgl := HZ0.out.lt
    go_wp2_with fail
    refine (HFIT.out _).mono ?_
    rintro e w1 ⟨rfl, hb1⟩
    clear q0 q1 q2 q3 q4 q5 q6 x0 z0 x1 z1 x2 z2 hgl
    have HT1 := Lib.hid (HT0.out.kept hb1)
    have HZ1 := Lib.hid (Cells.kept HZ0.out hb1 HZ0.out.lt)
    have HB1 := Lib.hid (HB0.out.trans (hb1.mono HB0.out.size))
    clear hb1 HT0 HZ0 HB0 HFIT
    have x0 := (Cells.cell HZ1.out 0).trans (show _ = some (Value.int .i64 (X : Int)) from rfl)
    have z0 := Cells.frozen HZ1.out 0
    have x1 := (Cells.cell HZ1.out 1).trans (show _ = some (Value.int .i64 (Y : Int)) from rfl)
    have z1 := Cells.frozen HZ1.out 1
    have x2 := (Cells.cell HZ1.out 2).trans (show _ = some (Value.string P) from rfl)
    have z2 := Cells.frozen HZ1.out 2
    have hgl := HZ1.out.lt
    go_wp2_with fail
    go_ret2
    exact ⟨by rw [hR2.out]; rfl, HB1.out⟩
  rw [if_neg c3] at hR
  have d5 : decide ((65507 : Int) < (P.size : Int)) = false := by simp; omega
  have n5 : ¬ (65507 : Int) < (P.size : Int) := by omega
  have hP5 : P.size ≤ 65507 := by omega
  obtain ⟨Z, hZ⟩ : ∃ z, z = 8 + P.size := ⟨_, rfl⟩
  have kZ : (8 : Int) + (P.size : Int) = (Z : Int) := by omega
  have hZl : Z < 65536 := by omega
  have hhd : str (hdU u) = str (beL 2 X) ++ str (beL 2 Y) ++ str (beL 2 Z) := by
    unfold hdU
    rw [hup, hu, ← hPs, ← hZ]
    simp only [Int.toNat_natCast, str_append, List.append_assoc]
  obtain ⟨H, hH⟩ : ∃ H, H = str (hdU u) := ⟨_, rfl⟩
  have hHs : H.size = 6 := by rw [hH, str_size, hdU_len]
  have hcat : str (hdU u) ++ ⟨#[0, 0]⟩ ++ str pay = str (hdU u ++ (0 :: 0 :: pay)) := by
    show str (hdU u) ++ str [0, 0] ++ str pay = _
    rw [str_append, str_append]
    simp
  obtain ⟨q, hq⟩ : ∃ q, q = sumU a b (hdU u ++ (0 :: 0 :: pay)) := ⟨_, rfl⟩
  have hql : q < 65536 := by have := (sumU_le a b (hdU u ++ (0 :: 0 :: pay))).1; omega
  have hsum := fun W => rsum13_any v1 v2 h1 l1 h2 l2 (hdU u ++ (0 :: 0 :: pay)) W (by rw [← hae, ← hbe]; exact h0') (by rw [← hae]; exact ha) (by rw [← hbe]; exact hb) (by simp [hdU_len]; omega)
  rw [← hae, ← hbe, ← hq, ← hcat, ← hH, ← hP] at hsum
  have HSUM := Lib.hid hsum
  rw [← hq] at hR
  have HP1 := Lib.hid (fun (W : World) => putB_any 2 X (X : Int) 2 rfl rfl (by decide) (by decide) hX W)
  have HP2 := Lib.hid (fun (W : World) => putB_any 2 Y (Y : Int) 2 rfl rfl (by decide) (by decide) hY W)
  have HP3 := Lib.hid (fun (W : World) => putB_any 2 Z (Z : Int) 2 rfl rfl (by decide) (by decide) hZl W)
  have HP4 := Lib.hid (fun (W : World) => putB_any 2 q (q : Int) 2 rfl rfl (by decide) (by decide) hql W)
  have HFIN := Lib.hid (fun (wz : World) (T4 : ByteArray) (h4 : T4 = str (beL 2 q)) (hb : Below w.heap.size w wz) => show (Ending.returned (.tuple #[.string (H ++ T4 ++ P), .int .i64 0]) = Ending.returned (.tuple #[.string (str R.1), .int .i64 (R.2 : Int)])) ∧ Below w.heap.size w wz from by
    refine ⟨?_, hb⟩
    rw [hR, h4, hH, hP]
    simp only [str_append, List.append_assoc]
    rfl)
  obtain ⟨T1, hT1⟩ : ∃ t, t = str (beL 2 X) := ⟨_, rfl⟩
  have s1 : T1.size = 2 := by rw [hT1, str_size, beL_len]
  obtain ⟨T2, hT2⟩ : ∃ t, t = str (beL 2 Y) := ⟨_, rfl⟩
  have s2 : T2.size = 2 := by rw [hT2, str_size, beL_len]
  obtain ⟨T3, hT3⟩ : ∃ t, t = str (beL 2 Z) := ⟨_, rfl⟩
  have s3 : T3.size = 2 := by rw [hT3, str_size, beL_len]
  obtain ⟨T4, hT4⟩ : ∃ t, t = str (beL 2 q) := ⟨_, rfl⟩
  have s4 : T4.size = 2 := by rw [hT4, str_size, beL_len]
  have HT4 := Lib.hid hT4
  rw [← hT1] at HP1 hhd
  rw [← hT2] at HP2 hhd
  rw [← hT3] at HP3 hhd
  rw [← hT4] at HP4
  rw [← hH] at hhd
  have HHD := Lib.hid hhd
  have r1 : (9223372036854775807 < T1.size + T2.size) = False := by simp only [eq_iff_iff, iff_false]; omega
  have r2 : (9223372036854775807 < T1.size + T2.size + T3.size) = False := by simp only [eq_iff_iff, iff_false]; omega
  have r2' : (9223372036854775807 < (T1 ++ T2).size + T3.size) = False := by rw [ByteArray.size_append]; exact r2
  have t1 : (9223372036854775807 < H.size + 2) = False := by simp only [eq_iff_iff, iff_false]; omega
  have t1' : (9223372036854775807 < H.size + (ByteArray.mk #[0, 0]).size) = False := t1
  have t2 : (9223372036854775807 < H.size + 2 + P.size) = False := by simp only [eq_iff_iff, iff_false]; omega
  have t2' : (9223372036854775807 < (H ++ ⟨#[0, 0]⟩).size + P.size) = False := by rw [ByteArray.size_append]; exact t2
  have t3 : (9223372036854775807 < H.size + T4.size) = False := by simp only [eq_iff_iff, iff_false]; omega
  have t4 : (9223372036854775807 < H.size + T4.size + P.size) = False := by simp only [eq_iff_iff, iff_false]; omega
  have t4' : (9223372036854775807 < (H ++ T4).size + P.size) = False := by rw [ByteArray.size_append]; exact t4
  clear hR h0' hae hbe ha hb hu hP hPs c1 c2 c3 hup hZ hhd hH hcat hq hsum hT1 hT2 hT3 hT4
  go_enter Tryd.func11, Tryd.ntmps11
  go_upto_region 1 with fail
  rw [← hW0, ← hgz]
  clear hW0 hgz
  obtain ⟨q0, q1, q2, q3, q4, q5, q6⟩ := id HT0.out
  have x0 := (Cells.cell HZ0.out 0).trans (show _ = some (Value.int .i64 (X : Int)) from rfl)
  have z0 := Cells.frozen HZ0.out 0
  have x1 := (Cells.cell HZ0.out 1).trans (show _ = some (Value.int .i64 (Y : Int)) from rfl)
  have z1 := Cells.frozen HZ0.out 1
  have x2 := (Cells.cell HZ0.out 2).trans (show _ = some (Value.string P) from rfl)
  have z2 := Cells.frozen HZ0.out 2
  have hgl := HZ0.out.lt
  go_wp2_with fail
  refine (HFIT.out _).mono ?_
  rintro e w1 ⟨rfl, hb1⟩
  clear q0 q1 q2 q3 q4 q5 q6 x0 z0 x1 z1 x2 z2 hgl
  have HT1 := Lib.hid (HT0.out.kept hb1)
  have HZ1 := Lib.hid (Cells.kept HZ0.out hb1 HZ0.out.lt)
  have HB1 := Lib.hid (HB0.out.trans (hb1.mono HB0.out.size))
  clear hb1 HT0 HZ0 HB0 HFIT
  have x0 := (Cells.cell HZ1.out 0).trans (show _ = some (Value.int .i64 (X : Int)) from rfl)
  have z0 := Cells.frozen HZ1.out 0
  have x1 := (Cells.cell HZ1.out 1).trans (show _ = some (Value.int .i64 (Y : Int)) from rfl)
  have z1 := Cells.frozen HZ1.out 1
  have x2 := (Cells.cell HZ1.out 2).trans (show _ = some (Value.string P) from rfl)
  have z2 := Cells.frozen HZ1.out 2
  have hgl := HZ1.out.lt
  go_upto_region 7 with fail
  clear x0 z0 x1 z1 x2 z2 hgl
  refine wp_region_pick (fun w' => Below w1.heap.size w1 w') (by kernel_rfl) (by kernel_rfl) (Below.refl _ _) ⟨rfl, rfl, rfl, Nat.le_refl _, fun _ _ => rfl⟩ (fun pw hp hq => ?_)
  have y0 := fun u => ((Cells.kept HZ1.out (hp u) HZ1.out.lt).cell 0).trans (show _ = some (Value.int .i64 (X : Int)) from rfl)
  have y1 := fun u => ((Cells.kept HZ1.out (hp u) HZ1.out.lt).cell 1).trans (show _ = some (Value.int .i64 (Y : Int)) from rfl)
  have y2 := fun u => ((Cells.kept HZ1.out (hp u) HZ1.out.lt).cell 2).trans (show _ = some (Value.string P) from rfl)
  have HP := Lib.hid hp
  have HQ := Lib.hid hq
  clear hp hq
  repeat (go_big_quiet_step ((first | with_reducible exact Calls.pick_of HQ.out (fun W' hb => (HP.out _).trans (hb.mono (HP.out _).size)) (HP1.out _) | with_reducible exact Calls.pick_of HQ.out (fun W' hb => (HP.out _).trans (hb.mono (HP.out _).size)) (HP2.out _) | with_reducible exact Calls.pick_of HQ.out (fun W' hb => (HP.out _).trans (hb.mono (HP.out _).size)) (HP3.out _))))
  refine wpQuiet_nil ?_
  rintro _ ⟨u, rfl⟩
  have HT2 := Lib.hid (HT1.out.kept (HP.out u))
  have HZ2 := Lib.hid (Cells.kept HZ1.out (HP.out u) HZ1.out.lt)
  have HB2 := Lib.hid (HB1.out.trans ((HP.out u).mono HB1.out.size))
  generalize pw u = w6 at *
  clear HP HQ y0 y1 y2 HT1 HZ1 HB1
  rw [← HHD.out]
  clear HP1 HP2 HP3 HHD r1 r2 r2' s1 s2 s3
  go_upto_region 8 with fail
  refine wp_region_pick (fun w' => Below w6.heap.size w6 w') (by kernel_rfl) (by kernel_rfl) (Below.refl _ _) ⟨rfl, rfl, rfl, Nat.le_refl _, fun _ _ => rfl⟩ (fun pw hp hq => ?_)
  have y0 := fun u => (HT2.out.kept (hp u)).2.1
  have y1 := fun u => (HT2.out.kept (hp u)).2.2.1
  have y2 := fun u => (HT2.out.kept (hp u)).2.2.2.1
  have y3 := fun u => (HT2.out.kept (hp u)).2.2.2.2.1
  have y4 := fun u => (HT2.out.kept (hp u)).2.2.2.2.2.1
  have y5 := fun u => (HT2.out.kept (hp u)).2.2.2.2.2.2
  have y6 := fun u => ((Cells.kept HZ2.out (hp u) HZ2.out.lt).cell 2).trans (show _ = some (Value.string P) from rfl)
  have HP := Lib.hid hp
  have HQ := Lib.hid hq
  clear hp hq
  repeat (go_big_quiet_step ((first | with_reducible exact Calls.pick_of HQ.out (fun W' hb => (HP.out _).trans (hb.mono (HP.out _).size)) (HSUM.out _) | with_reducible exact Calls.pick_of HQ.out (fun W' hb => (HP.out _).trans (hb.mono (HP.out _).size)) (HP4.out _))))
  refine wpQuiet_nil ?_
  rintro _ ⟨u, rfl⟩
  have HB3 := Lib.hid (HB2.out.trans ((HP.out u).mono HB2.out.size))
  generalize pw u = w7 at *
  clear HP HQ y0 y1 y2 y3 y4 y5 y6 HT2 HZ2 HB2
  go_wp2_with fail
  go_ret2
  exact HFIN.out _ _ HT4.out HB3.out
end Go.Proofs.YtnpklepafpdadaaDoor
