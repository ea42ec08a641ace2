/- Contracts of the functions, part 32: UdpPDec, UdpPEnc. -/
import Derived.Laws.StructEq
import Derived.Deep.Cut
import Derived.Test.YtnpklepafpdadaaDoorPA19
import Derived.Test.YtnpklepafpdadaaDoorPA26
import Derived.Test.YtnpklepafpdadaaDoorPA30
import Derived.Test.YtnpklepafpdadaaDoorPA31
/- Contract of the program of layer 13: Decode. -/
namespace Go.Proofs.YtnpklepafpdadaaDoor
open Go.ChangeShapes Go.WideShapes Go.ChangeAt Go.RowKit
set_option linter.unusedVariables false

theorem hdr_guard : Tryd.prog.eqGuardType Tryd.prog.depth 43 = false := by kernel_rfl
set_option maxHeartbeats 4000000 in
set_option maxRecDepth 20000 in
theorem hdr_neq (X Y Z C D : Int) (W : World) :
    (binOp .neq 43 (.agg #[.int .i64 X, .int .i64 Y, .int .i64 Z, .int .i64 C]) (.agg #[.int .i64 X, .int .i64 Y, .int .i64 Z, .int .i64 D])).run Tryd.prog W = .ok (.bool (!(C == D))) W := by
  have u2 := Tryd.underlying3
  have a2 := Tryd.isAgg3
  have z2 := Tryd.sizeOf3
  have hS : Tryd.prog.underlying 43 = some (.struct (Tryd.prog.fieldsOf 43)) := by kernel_rfl
  have hp : Tryd.prog.stoodInHeld 43 = false := by kernel_rfl
  rw [run_neq_struct, show (10000 : Nat) = 9999 + 1 from rfl, run_equalIn_agg W 9999 43 _ _ hS hp]
  simp only [Program.fieldsOf, Tryd.underlying43]
  go_simp
  by_cases h : C = D <;> simp [h]
theorem clr_hd {S : List UInt8} {Z : Nat} (h8 : 8 ≤ Z) (hZ : Z ≤ S.length) (hz : Z = nm2 S 4) : clrU S Z = hdU ⟨(nm2 S 0 : Int), (nm2 S 2 : Int), (S.take Z).drop 8⟩ ++ (0 :: 0 :: (S.take Z).drop 8) ∧ 8 + ((S.take Z).drop 8).length = Z := by
  have hl : ((S.take Z).drop 8).length = Z - 8 := by rw [List.length_drop, List.length_take]; omega
  refine ⟨?_, by omega⟩
  have e : ∀ i, i + 2 ≤ S.length → beL 2 (nm2 S i) = (S.drop i).take 2 := fun i hi => beL_num _ 2 (by rw [List.length_take, List.length_drop]; omega)
  unfold clrU hdU
  simp only [Int.toNat_natCast, hl]
  rw [show 8 + (Z - 8) = nm2 S 4 by omega, e 0 (by omega), e 2 (by omega), e 4 (by omega)]
  congr 1
  have t : ∀ (l : List UInt8) (a b : Nat), l.take (a + b) = l.take a ++ (l.drop a).take b := fun l a b => by rw [List.take_add]
  rw [show (6 : Nat) = 2 + 4 from rfl, t, List.drop_zero, show (4 : Nat) = 2 + 2 from rfl, t (S.drop 2), List.drop_drop]
set_option maxHeartbeats 4000000 in
set_option maxRecDepth 100000 in
theorem pdec13_any (v1 v2 : Bool) (h1 l1 h2 l2 : Nat) (S : List UInt8) (w : World) (ha : fits13 ⟨v1, h1, l1⟩) (hb : fits13 ⟨v2, h2, l2⟩) (hs : S.length ≤ 1000000) (hsh : Sh w) :
    Calls Tryd.prog 8 #[.agg #[.bool v1, .int .u64 (h1 : Int), .int .u64 (l1 : Int)], .agg #[.bool v2, .int .u64 (h2 : Int), .int .u64 (l2 : Int)], .string (str S)] w (DecUP w (decU ⟨v1, h1, l1⟩ ⟨v2, h2, l2⟩ S)) := by
  have HRH := Lib.hid (fun (W : World) => prhead13_any S W hs)
  obtain ⟨s, hS⟩ : ∃ s, s = str S := ⟨_, rfl⟩
  have hsz : s.size = S.length := by rw [hS, str_size]
  rw [← hS] at HRH ⊢
  obtain ⟨R, hR⟩ : ∃ R, R = decU ⟨v1, h1, l1⟩ ⟨v2, h2, l2⟩ S := ⟨_, rfl⟩
  rw [← hR]
  obtain ⟨W0, hW0⟩ : ∃ W0, W0 = ((w.alloc (.cells #[.bool v1, .int .u64 (h1 : Int), .int .u64 (l1 : Int)] 24)).alloc (.cells #[.bool v2, .int .u64 (h2 : Int), .int .u64 (l2 : Int)] 24)).alloc (.cells #[.int .i64 0, .int .i64 0, .string ⟨#[]⟩] 29) := ⟨_, rfl⟩
  obtain ⟨gz, hgz⟩ : ∃ g, g = w.heap.size + 2 := ⟨_, rfl⟩
  have HT0 := Lib.hid (show Two W0 w.heap.size v1 h1 l1 v2 h2 l2 by rw [hW0]; exact (two_new w v1 h1 l1 v2 h2 l2 _).kept (below_alloc6 _ _))
  have hB0 : Below w.heap.size w W0 := by rw [hW0]; exact (((Below.refl _ _).alloc (Nat.le_refl _) _).alloc (by simp) _).alloc (by simp; omega) _
  have HB0 := Lib.hid hB0
  have HS0 := Lib.hid (hsh.kept hB0)
  have HZ0 := Lib.hid (show Cells W0 gz 29 #[.int .i64 0, .int .i64 0, .string ⟨#[]⟩] by
    have h := heap_alloc_new ((w.alloc (.cells #[.bool v1, .int .u64 (h1 : Int), .int .u64 (l1 : Int)] 24)).alloc (.cells #[.bool v2, .int .u64 (h2 : Int), .int .u64 (l2 : Int)] 24)) (.cells #[.int .i64 0, .int .i64 0, .string ⟨#[]⟩] 29)
    rw [hW0, hgz]
    rwa [show ((w.alloc (.cells #[.bool v1, .int .u64 (h1 : Int), .int .u64 (l1 : Int)] 24)).alloc (.cells #[.bool v2, .int .u64 (h2 : Int), .int .u64 (l2 : Int)] 24)).heap.size = w.heap.size + 2 by simp] at h)
  have HGZ := Lib.hid (show w.heap.size ≤ gz by omega)
  have hfit := fun W (h : Sh W) => pfit13_any v1 v2 h1 l1 h2 l2 W ha hb h
  unfold decU at hR
  clear hB0 hsh
  by_cases h0 : ¬ fitU ⟨v1, h1, l1⟩ ⟨v2, h2, l2⟩
  · have hR2 := Lib.hid (show R = (zeroU, 13) by rw [hR, if_pos h0])
    rw [decide_eq_false h0] at hfit
    have HFIT := Lib.hid hfit
    clear hR hS hsz h0 hfit ha hb
    go_enter Tryd.func8, Tryd.ntmps8
    go_upto_region 1 with fail
    rw [← hW0, ← hgz]
    clear hW0 hgz
    obtain ⟨q0, q1, q2, q3, q4, q5, q6⟩ := id HT0.out
    go_wp2_with fail
    refine (HFIT.out _ HS0.out).mono ?_
    rintro e w1 ⟨rfl, hb1⟩
    clear q0 q1 q2 q3 q4 q5 q6
    have HZ1 := Lib.hid (Cells.kept HZ0.out hb1 HZ0.out.lt)
    have HB1 := Lib.hid (HB0.out.trans (hb1.mono HB0.out.size))
    clear hb1 HT0 HZ0 HB0 HFIT
    have x0 := (Cells.cell HZ1.out 0).trans (show _ = some (Value.int .i64 0) from rfl)
    have zx0 := Cells.frozen HZ1.out 0
    have x1 := (Cells.cell HZ1.out 1).trans (show _ = some (Value.int .i64 0) from rfl)
    have zx1 := Cells.frozen HZ1.out 1
    have x2 := (Cells.cell HZ1.out 2).trans (show _ = some (Value.string ⟨#[]⟩) from rfl)
    have zx2 := Cells.frozen HZ1.out 2
    have hgx := HZ1.out.lt
    go_wp2_with fail
    refine bodyPost_ret (res_box2 udpTy rfl _ _ rfl (HZ1.out.put [.int .i64 0, .int .i64 0, .string ⟨#[]⟩] rfl)) rfl ?_
    exact decU_err (er := 13) rfl hR2.out (putB_below HGZ.out [.int .i64 0, .int .i64 0, .string ⟨#[]⟩] 0 _ HB1.out)
  rw [if_neg h0] at hR
  have h0' := Classical.not_not.1 h0
  rw [decide_eq_true h0'] at hfit
  have HFIT := Lib.hid hfit
  have HR := Lib.hid hR
  have HSZ := Lib.hid (And.intro hS hsz)
  have HAB := Lib.hid (And.intro h0' (And.intro ha hb))
  have hs6 : s.size ≤ 1000000 := by omega
  clear hfit h0 hR hS hsz h0' ha hb hs
  go_enter Tryd.func8, Tryd.ntmps8
  go_upto_region 1 with fail
  rw [← hW0, ← hgz]
  clear hW0 hgz
  obtain ⟨q0, q1, q2, q3, q4, q5, q6⟩ := id HT0.out
  go_wp2_with fail
  refine (HFIT.out _ HS0.out).mono ?_
  rintro e w1 ⟨rfl, hb1⟩
  clear q0 q1 q2 q3 q4 q5 q6
  have HT1 := Lib.hid (HT0.out.kept hb1)
  have HZ1 := Lib.hid (Cells.kept HZ0.out hb1 HZ0.out.lt)
  have HS1 := Lib.hid (HS0.out.kept hb1)
  have HB1 := Lib.hid (HB0.out.trans (hb1.mono HB0.out.size))
  clear hb1 HT0 HZ0 HB0 HFIT HS0
  go_wp2_with fail
  refine (HRH.out _).mono ?_
  rintro e w2 ⟨X, Y, Z, C, er, rfl, HBD, HHV, hb2⟩
  obtain ⟨W3, hW3⟩ : ∃ W, W = w2.alloc (.cells #[.int .i64 (X : Int), .int .i64 (Y : Int), .int .i64 (Z : Int), .int .i64 (C : Int)] 43) := ⟨_, rfl⟩
  obtain ⟨gh, hgh⟩ : ∃ g, g = w2.heap.size := ⟨_, rfl⟩
  have HH3 := Lib.hid (show Cells W3 gh 43 #[.int .i64 (X : Int), .int .i64 (Y : Int), .int .i64 (Z : Int), .int .i64 (C : Int)] by rw [hW3, hgh]; exact heap_alloc_new w2 _)
  have hb3 : Below w1.heap.size w1 W3 := hb2.trans (by rw [hW3]; exact (below_alloc6 w2 _).mono hb2.size)
  have HT3 := Lib.hid (HT1.out.kept hb3)
  have HZ3 := Lib.hid (Cells.kept HZ1.out hb3 HZ1.out.lt)
  have HS3 := Lib.hid (HS1.out.kept hb3)
  have HB3 := Lib.hid (HB1.out.trans (hb3.mono HB1.out.size))
  clear HT1 HZ1 HS1 HB1 hb2 hb3 HRH
  have HW3 := Lib.hid hW3
  have HGH := Lib.hid hgh
  clear hW3 hgh
  go_upto_region 4 with fail
  rw [← HGH.out, ← HW3.out]
  clear HW3 HGH
  have x0 := (Cells.cell HZ3.out 0).trans (show _ = some (Value.int .i64 0) from rfl)
  have zx0 := Cells.frozen HZ3.out 0
  have x1 := (Cells.cell HZ3.out 1).trans (show _ = some (Value.int .i64 0) from rfl)
  have zx1 := Cells.frozen HZ3.out 1
  have x2 := (Cells.cell HZ3.out 2).trans (show _ = some (Value.string ⟨#[]⟩) from rfl)
  have zx2 := Cells.frozen HZ3.out 2
  have hgx := HZ3.out.lt
  have y0 := (Cells.cell HH3.out 0).trans (show _ = some (Value.int .i64 (X : Int)) from rfl)
  have y1 := (Cells.cell HH3.out 1).trans (show _ = some (Value.int .i64 (Y : Int)) from rfl)
  have y2 := (Cells.cell HH3.out 2).trans (show _ = some (Value.int .i64 (Z : Int)) from rfl)
  have y3 := (Cells.cell HH3.out 3).trans (show _ = some (Value.int .i64 (C : Int)) from rfl)
  have hgy := HH3.out.lt
  by_cases c1 : S.length < 8
  · have hR2 := Lib.hid (show R = (zeroU, er) by
      rw [HR.out, if_pos c1]
      rcases HHV.out with h | h
      · rw [h.2]
      · omega)
    have de : ((er : Int) != 0) = true := by
      have := HHV.out
      unfold HeadV at this
      simp
      omega
    clear HR c1 HHV HBD HSZ
    go_wp2_with fail
    refine bodyPost_ret (res_box2 udpTy rfl _ _ rfl (HZ3.out.put [.int .i64 0, .int .i64 0, .string ⟨#[]⟩] rfl)) rfl ?_
    exact decU_err (er := er) rfl hR2.out (putB_below HGZ.out [.int .i64 0, .int .i64 0, .string ⟨#[]⟩] 0 _ HB3.out)
  have hv : er = 0 ∧ X = nm2 S 0 ∧ Y = nm2 S 2 ∧ Z = nm2 S 4 ∧ C = nm2 S 6 := by
    rcases HHV.out with h | h
    · omega
    · exact h.2
  obtain ⟨he0, hX, hY, hZ, hC⟩ := hv
  have de : ((er : Int) != 0) = false := by simp; omega
  have hR := HR.out
  rw [if_neg c1, ← hZ, ← hC] at hR
  clear HR HHV he0
  by_cases c2 : Z < 8
  · have hR2 := Lib.hid (show R = (zeroU, 2) by rw [hR, if_pos c2])
    have d2 : decide ((Z : Int) < 8) = true := by simp; omega
    have n2 : (Z : Int) < 8 := by omega
    clear hR c1 c2 HBD HSZ hX hY hZ hC
    go_wp2_with fail
    refine bodyPost_ret (res_box2 udpTy rfl _ _ rfl (HZ3.out.put [.int .i64 0, .int .i64 0, .string ⟨#[]⟩] rfl)) rfl ?_
    exact decU_err (er := 2) rfl hR2.out (putB_below HGZ.out [.int .i64 0, .int .i64 0, .string ⟨#[]⟩] 0 _ HB3.out)
  rw [if_neg c2] at hR
  have d2 : decide ((Z : Int) < 8) = false := by simp; omega
  have n2 : ¬ (Z : Int) < 8 := by omega
  have hsz := HSZ.out.2
  by_cases c3 : S.length < Z
  · have hR2 := Lib.hid (show R = (zeroU, 1) by rw [hR, if_pos c3])
    have d3 : decide ((s.size : Int) < (Z : Int)) = true := by simp; omega
    have n3 : (s.size : Int) < (Z : Int) := by omega
    clear hR c1 c2 c3 HBD HSZ hsz hX hY hZ hC
    go_wp2_with fail
    refine bodyPost_ret (res_box2 udpTy rfl _ _ rfl (HZ3.out.put [.int .i64 0, .int .i64 0, .string ⟨#[]⟩] rfl)) rfl ?_
    exact decU_err (er := 1) rfl hR2.out (putB_below HGZ.out [.int .i64 0, .int .i64 0, .string ⟨#[]⟩] 0 _ HB3.out)
  rw [if_neg c3] at hR
  have d3 : decide ((s.size : Int) < (Z : Int)) = false := by simp; omega
  have n3 : ¬ (s.size : Int) < (Z : Int) := by omega
  have k8 : (8 : Int) ≤ (Z : Int) := by omega
  have kz : (Z : Int) ≤ (s.size : Int) := by omega
  obtain ⟨hcl, hln⟩ := clr_hd (S := S) (Z := Z) (by omega) (by omega) hZ
  rw [hcl, ← hX, ← hY] at hR
  have hext : s.extract 8 Z = str ((S.take Z).drop 8) := by rw [extract_str10 s S HSZ.out.1, List.drop_take]
  obtain ⟨pay, hpay⟩ : ∃ p, p = (S.take Z).drop 8 := ⟨_, rfl⟩
  rw [← hpay] at hR hln hext
  obtain ⟨D, hD⟩ : ∃ d, d = sumU ⟨v1, h1, l1⟩ ⟨v2, h2, l2⟩ (hdU ⟨(X : Int), (Y : Int), pay⟩ ++ (0 :: 0 :: pay)) := ⟨_, rfl⟩
  have hHOF := fun (W : World) (h : Sh W) => phead13_any v1 v2 h1 l1 h2 l2 X Y pay W HAB.out.1 HAB.out.2.1 HAB.out.2.2 HBD.out.1 HBD.out.2.1 (by have := HBD.out.2.2.1; omega) h
  rw [← hD, hln, ← hext] at hHOF
  have HHOF := Lib.hid hHOF
  rw [← hD] at hR
  have HNO := Lib.hid (fun (h : C ≠ D ∧ (C ≠ 0 ∨ v1 = true)) => show R = (zeroU, 8) by rw [hR, if_pos h])
  have HYES := Lib.hid (fun (h : ¬ (C ≠ D ∧ (C ≠ 0 ∨ v1 = true))) => show R = (⟨(X : Int), (Y : Int), pay⟩, 0) by rw [hR, if_neg h])
  have HFIN := Lib.hid (fun (wz : World) (hr : R = (⟨(X : Int), (Y : Int), pay⟩, 0)) (hb : Below w.heap.size w wz) => show DecUP w R (.returned (.tuple #[.agg #[.int .i64 (X : Int), .int .i64 (Y : Int), .string (s.extract 8 Z)], .int .i64 0])) wz from by
    rw [hr]
    unfold DecUP
    rw [← hext]
    exact ⟨rfl, hb⟩)
  clear hR hHOF hext hln hcl hpay hD hX hY hZ hC c1 c2 c3 HBD HSZ hsz HAB
  go_upto_region 10 with fail
  clear x0 x1 x2 zx0 zx1 zx2 hgx y0 y1 y2 y3 hgy
  refine wp_region_specs_tail 10 [.val (Value.pointer (some ⟨gh, 0, none⟩)), .val (Value.int .i64 (X : Int)), .val (Value.pointer (some ⟨gh, 1, none⟩)), .val (Value.int .i64 (Y : Int)), .val (Value.string s), .val (Value.pointer (some ⟨gh, 2, none⟩)), .val (Value.int .i64 (Z : Int)), .val (Value.string (s.extract 8 Z)), .val (Value.agg #[.int .i64 (X : Int), .int .i64 (Y : Int), .string (s.extract 8 Z)]), .box #[.int .i64 0, .int .i64 0, .string ⟨#[]⟩] 29] (by kernel_rfl) (by kernel_rfl) (by kernel_rfl) (by kernel_rfl) (by kernel_rfl) (by kernel_rfl) (by kernel_rfl) (by kernel_rfl) ?_ ?_
  · refine ⟨⟨rfl, ?_⟩, ⟨rfl, ?_⟩, ⟨rfl, ?_⟩, ⟨rfl, ?_⟩, ⟨rfl, ?_⟩, ⟨rfl, ?_⟩, ⟨rfl, ?_⟩, ⟨rfl, ?_⟩, ⟨rfl, ?_⟩, ⟨rfl, ?_⟩, trivial⟩
    · intro a W hbW hk K hK
      have e8 := kvalT hk 8 (Value.pointer (some ⟨gh, 0, none⟩)) (by kernel_rfl)
      clear hk
      go_simp
      exact ⟨_, rfl, hK _ _ rfl (Below.refl _ _)⟩
    · intro a W hbW hk K hK
      have e39 := kvalT hk 39 (Value.pointer (some ⟨gh, 0, none⟩)) (by kernel_rfl)
      clear hk
      have y0 := box_cell HH3.out hbW 0 (Value.int .i64 (X : Int)) rfl
      go_simp
      exact ⟨_, rfl, hK _ _ rfl (Below.refl _ _)⟩
    · intro a W hbW hk K hK
      have e8 := kvalT hk 8 (Value.pointer (some ⟨gh, 0, none⟩)) (by kernel_rfl)
      clear hk
      go_simp
      exact ⟨_, rfl, hK _ _ rfl (Below.refl _ _)⟩
    · intro a W hbW hk K hK
      have e41 := kvalT hk 41 (Value.pointer (some ⟨gh, 1, none⟩)) (by kernel_rfl)
      clear hk
      have y1 := box_cell HH3.out hbW 1 (Value.int .i64 (Y : Int)) rfl
      go_simp
      exact ⟨_, rfl, hK _ _ rfl (Below.refl _ _)⟩
    · intro a W hbW hk K hK
      have e2 := kvalT hk 2 (Value.string s) (by kernel_rfl)
      clear hk
      go_simp
      exact ⟨_, rfl, hK _ _ rfl (Below.refl _ _)⟩
    · intro a W hbW hk K hK
      have e8 := kvalT hk 8 (Value.pointer (some ⟨gh, 0, none⟩)) (by kernel_rfl)
      clear hk
      go_simp
      exact ⟨_, rfl, hK _ _ rfl (Below.refl _ _)⟩
    · intro a W hbW hk K hK
      have e44 := kvalT hk 44 (Value.pointer (some ⟨gh, 2, none⟩)) (by kernel_rfl)
      clear hk
      have y2 := box_cell HH3.out hbW 2 (Value.int .i64 (Z : Int)) rfl
      go_simp
      exact ⟨_, rfl, hK _ _ rfl (Below.refl _ _)⟩
    · intro a W hbW hk K hK
      have e43 := kvalT hk 43 (Value.string s) (by kernel_rfl)
      have e45 := kvalT hk 45 (Value.int .i64 (Z : Int)) (by kernel_rfl)
      clear hk
      go_simp
      exact ⟨_, rfl, hK _ _ rfl (Below.refl _ _)⟩
    · intro a W hbW hk K hK
      have e40 := kvalT hk 40 (Value.int .i64 (X : Int)) (by kernel_rfl)
      have e42 := kvalT hk 42 (Value.int .i64 (Y : Int)) (by kernel_rfl)
      have e46 := kvalT hk 46 (Value.string (s.extract 8 Z)) (by kernel_rfl)
      clear hk
      go_simp
      exact ⟨_, rfl, hK _ _ rfl (Below.refl _ _)⟩
    · intro a W hbW hk K hK
      clear hk
      go_simp
      exact ⟨_, rfl, hK _ _ ⟨W.heap.size, rfl, hbW.size, heap_alloc_new W _⟩ (below_alloc6 W _)⟩
  · intro W9 hb9
    simp only [List.take_succ_cons, List.take_zero, List.drop_succ_cons, List.drop_zero, endT]
    intro g hg hcg
    have HCG := Lib.hid (show Cells W9 g 29 #[.int .i64 0, .int .i64 0, .string ⟨#[]⟩] from hcg)
    clear hcg
    have x0 := (Cells.cell HCG.out 0).trans (show _ = some (Value.int .i64 0) from rfl)
    have zx0 := Cells.frozen HCG.out 0
    have x1 := (Cells.cell HCG.out 1).trans (show _ = some (Value.int .i64 0) from rfl)
    have zx1 := Cells.frozen HCG.out 1
    have x2 := (Cells.cell HCG.out 2).trans (show _ = some (Value.string ⟨#[]⟩) from rfl)
    have zx2 := Cells.frozen HCG.out 2
    have hgx := HCG.out.lt
    go_upto_region 11 with fail
    have HUG := Lib.hid (show Cells (((W9.setCell ⟨g, 0, none⟩ (.int .i64 (X : Int))).setCell ⟨g, 1, none⟩ (.int .i64 (Y : Int))).setCell ⟨g, 2, none⟩ (.string (s.extract 8 Z))) g 29 #[.int .i64 (X : Int), .int .i64 (Y : Int), .string (s.extract 8 Z)] from HCG.out.put [.int .i64 (X : Int), .int .i64 (Y : Int), .string (s.extract 8 Z)] rfl)
    have hbV := putB_below hg [.int .i64 (X : Int), .int .i64 (Y : Int), .string (s.extract 8 Z)] 0 _ hb9
    have HBV := Lib.hid (show Below W3.heap.size W3 (((W9.setCell ⟨g, 0, none⟩ (.int .i64 (X : Int))).setCell ⟨g, 1, none⟩ (.int .i64 (Y : Int))).setCell ⟨g, 2, none⟩ (.string (s.extract 8 Z))) from hbV)
    clear hb9 hbV HCG x0 x1 x2 zx0 zx1 zx2 hgx hg
    generalize ((W9.setCell ⟨g, 0, none⟩ (.int .i64 (X : Int))).setCell ⟨g, 1, none⟩ (.int .i64 (Y : Int))).setCell ⟨g, 2, none⟩ (.string (s.extract 8 Z)) = V at *
    have HTV := Lib.hid (HT3.out.kept HBV.out)
    have HZV := Lib.hid (Cells.kept HZ3.out HBV.out HZ3.out.lt)
    have HSV := Lib.hid (HS3.out.kept HBV.out)
    have HHV2 := Lib.hid (Cells.kept HH3.out HBV.out HH3.out.lt)
    have HBB := Lib.hid (HB3.out.trans (HBV.out.mono HB3.out.size))
    clear HBV HT3 HZ3 HS3 HH3 HB3
    obtain ⟨q0, q1, q2, q3, q4, q5, q6⟩ := id HTV.out
    have y0 := (Cells.cell HHV2.out 0).trans (show _ = some (Value.int .i64 (X : Int)) from rfl)
    have y1 := (Cells.cell HHV2.out 1).trans (show _ = some (Value.int .i64 (Y : Int)) from rfl)
    have y2 := (Cells.cell HHV2.out 2).trans (show _ = some (Value.int .i64 (Z : Int)) from rfl)
    have y3 := (Cells.cell HHV2.out 3).trans (show _ = some (Value.int .i64 (C : Int)) from rfl)
    have hgy := HHV2.out.lt
    have HCD := Lib.hid (fun (b : Bool) (hb : ((C : Int) == (D : Int)) = b) (W : World) => show (binOp .neq 43 (.agg #[.int .i64 (X : Int), .int .i64 (Y : Int), .int .i64 (Z : Int), .int .i64 (C : Int)]) (.agg #[.int .i64 (X : Int), .int .i64 (Y : Int), .int .i64 (Z : Int), .int .i64 (D : Int)])).run Tryd.prog W = .ok (.bool (!b)) W from by rw [← hb]; exact hdr_neq X Y Z C D W)
    by_cases hsm : v1 = false ∧ C = 0
    · have hR2 := Lib.hid (HYES.out (fun h => by
        rcases h.2 with h | h
        · exact h hsm.2
        · rw [hsm.1] at h; cases h))
      have dc : ((C : Int) != 0) = false := by simp; omega
      obtain ⟨hv1, hc0⟩ := hsm
      subst hv1
      clear hc0 HNO HYES HCD HHOF
      go_upto_region 12 with fail
      clear q0 q1 q2 q3 q4 q5 q6 y0 y1 y2 y3 hgy
      refine wp_region_pick (fun w' => Below V.heap.size V w') (by kernel_rfl) (by kernel_rfl) (Below.refl _ _) ⟨rfl, rfl, rfl, Nat.le_refl _, fun _ _ => rfl⟩ (fun pw hp hq => ?_)
      have HP := Lib.hid hp
      have HQ := Lib.hid hq
      clear hp hq
      repeat (go_big_quiet_step (fail))
      refine wpQuiet_nil ?_
      rintro _ ⟨u, rfl⟩
      have HB6 := Lib.hid (HBB.out.trans ((HP.out u).mono HBB.out.size))
      have HZ6 := Lib.hid (Cells.kept HZV.out (HP.out u) HZV.out.lt)
      have HU6 := Lib.hid (Cells.kept HUG.out (HP.out u) HUG.out.lt)
      generalize pw u = w6 at *
      clear HP HQ HTV HZV HSV HUG HHV2 HBB 
      have x0 := (Cells.cell HZ6.out 0).trans (show _ = some (Value.int .i64 0) from rfl)
      have zx0 := Cells.frozen HZ6.out 0
      have x1 := (Cells.cell HZ6.out 1).trans (show _ = some (Value.int .i64 0) from rfl)
      have zx1 := Cells.frozen HZ6.out 1
      have x2 := (Cells.cell HZ6.out 2).trans (show _ = some (Value.string ⟨#[]⟩) from rfl)
      have zx2 := Cells.frozen HZ6.out 2
      have hgx := HZ6.out.lt
      have u0 := (Cells.cell HU6.out 0).trans (show _ = some (Value.int .i64 (X : Int)) from rfl)
      have u1 := (Cells.cell HU6.out 1).trans (show _ = some (Value.int .i64 (Y : Int)) from rfl)
      have u2 := (Cells.cell HU6.out 2).trans (show _ = some (Value.string (s.extract 8 Z)) from rfl)
      have hgu := HU6.out.lt
      go_wp2_with fail
      refine bodyPost_ret (res_box2 udpTy rfl _ _ rfl (HZ6.out.put [.int .i64 (X : Int), .int .i64 (Y : Int), .string (s.extract 8 Z)] rfl)) rfl ?_
      exact HFIN.out _ hR2.out (putB_below HGZ.out [.int .i64 (X : Int), .int .i64 (Y : Int), .string (s.extract 8 Z)] 0 _ HB6.out)
    have HS7 := Lib.hid (show C ≠ 0 ∨ v1 = true from by
      cases v1 with
      | true => exact .inr rfl
      | false => exact .inl (fun e => hsm ⟨rfl, e⟩))
    have hcs : v1 = true ∨ (v1 = false ∧ ((C : Int) != 0) = true) := by
      cases v1 with
      | true => exact .inl rfl
      | false => exact .inr ⟨rfl, by simp; exact fun e => hsm ⟨rfl, by omega⟩⟩
    clear hsm
    by_cases hcd : C = D
    · have hR2 := Lib.hid (HYES.out (fun h => h.1 hcd))
      have hne := HCD.out true (by simp; omega)
      rw [Bool.not_true] at hne
      clear HNO HYES HCD HS7 hcd
      rcases hcs with rfl | ⟨rfl, dc⟩
      · go_upto_region 12 with fail
        clear q0 q1 q2 q3 q4 q5 q6 y0 y1 y2 y3 hgy
        refine wp_region_pick (fun w' => Below V.heap.size V w') (by kernel_rfl) (by kernel_rfl) (Below.refl _ _) ⟨rfl, rfl, rfl, Nat.le_refl _, fun _ _ => rfl⟩ (fun pw hp hq => ?_)
        have y0 := fun u => (HTV.out.kept (hp u)).2.1
        have y1 := fun u => (HTV.out.kept (hp u)).2.2.1
        have y2 := fun u => (HTV.out.kept (hp u)).2.2.2.1
        have y3 := fun u => (HTV.out.kept (hp u)).2.2.2.2.1
        have y4 := fun u => (HTV.out.kept (hp u)).2.2.2.2.2.1
        have y5 := fun u => (HTV.out.kept (hp u)).2.2.2.2.2.2
        have y6 := fun u => ((Cells.kept HUG.out (hp u) HUG.out.lt).cell 0).trans (show _ = some (Value.int .i64 (X : Int)) from rfl)
        have y7 := fun u => ((Cells.kept HUG.out (hp u) HUG.out.lt).cell 1).trans (show _ = some (Value.int .i64 (Y : Int)) from rfl)
        have y8 := fun u => ((Cells.kept HUG.out (hp u) HUG.out.lt).cell 2).trans (show _ = some (Value.string (s.extract 8 Z)) from rfl)
        have y9 := fun u => ((Cells.kept HHV2.out (hp u) HHV2.out.lt).cell 0).trans (show _ = some (Value.int .i64 (X : Int)) from rfl)
        have y10 := fun u => ((Cells.kept HHV2.out (hp u) HHV2.out.lt).cell 1).trans (show _ = some (Value.int .i64 (Y : Int)) from rfl)
        have y11 := fun u => ((Cells.kept HHV2.out (hp u) HHV2.out.lt).cell 2).trans (show _ = some (Value.int .i64 (Z : Int)) from rfl)
        have y12 := fun u => ((Cells.kept HHV2.out (hp u) HHV2.out.lt).cell 3).trans (show _ = some (Value.int .i64 (C : Int)) from rfl)
        have HSP := Lib.hid (fun u => HSV.out.kept (hp u))
        have HP := Lib.hid hp
        have HQ := Lib.hid hq
        clear hp hq
        repeat (go_big_quiet_step (with_reducible exact Calls.pick_of HQ.out (fun W' hb => (HP.out _).trans (hb.mono (HP.out _).size)) (HHOF.out _ (HSP.out _))))
        refine wpQuiet_nil ?_
        rintro _ ⟨u, rfl⟩
        have HB6 := Lib.hid (HBB.out.trans ((HP.out u).mono HBB.out.size))
        have HZ6 := Lib.hid (Cells.kept HZV.out (HP.out u) HZV.out.lt)
        have HU6 := Lib.hid (Cells.kept HUG.out (HP.out u) HUG.out.lt)
        generalize pw u = w6 at *
        clear HP HQ HTV HZV HSV HUG HHV2 HBB HSP y0 y1 y2 y3 y4 y5 y6 y7 y8 y9 y10 y11 y12
        have x0 := (Cells.cell HZ6.out 0).trans (show _ = some (Value.int .i64 0) from rfl)
        have zx0 := Cells.frozen HZ6.out 0
        have x1 := (Cells.cell HZ6.out 1).trans (show _ = some (Value.int .i64 0) from rfl)
        have zx1 := Cells.frozen HZ6.out 1
        have x2 := (Cells.cell HZ6.out 2).trans (show _ = some (Value.string ⟨#[]⟩) from rfl)
        have zx2 := Cells.frozen HZ6.out 2
        have hgx := HZ6.out.lt
        have u0 := (Cells.cell HU6.out 0).trans (show _ = some (Value.int .i64 (X : Int)) from rfl)
        have u1 := (Cells.cell HU6.out 1).trans (show _ = some (Value.int .i64 (Y : Int)) from rfl)
        have u2 := (Cells.cell HU6.out 2).trans (show _ = some (Value.string (s.extract 8 Z)) from rfl)
        have hgu := HU6.out.lt
        go_wp2_with fail
        refine bodyPost_ret (res_box2 udpTy rfl _ _ rfl (HZ6.out.put [.int .i64 (X : Int), .int .i64 (Y : Int), .string (s.extract 8 Z)] rfl)) rfl ?_
        exact HFIN.out _ hR2.out (putB_below HGZ.out [.int .i64 (X : Int), .int .i64 (Y : Int), .string (s.extract 8 Z)] 0 _ HB6.out)
      · go_upto_region 12 with fail
        clear q0 q1 q2 q3 q4 q5 q6 y0 y1 y2 y3 hgy
        refine wp_region_pick (fun w' => Below V.heap.size V w') (by kernel_rfl) (by kernel_rfl) (Below.refl _ _) ⟨rfl, rfl, rfl, Nat.le_refl _, fun _ _ => rfl⟩ (fun pw hp hq => ?_)
        have y0 := fun u => (HTV.out.kept (hp u)).2.1
        have y1 := fun u => (HTV.out.kept (hp u)).2.2.1
        have y2 := fun u => (HTV.out.kept (hp u)).2.2.2.1
        have y3 := fun u => (HTV.out.kept (hp u)).2.2.2.2.1
        have y4 := fun u => (HTV.out.kept (hp u)).2.2.2.2.2.1
        have y5 := fun u => (HTV.out.kept (hp u)).2.2.2.2.2.2
        have y6 := fun u => ((Cells.kept HUG.out (hp u) HUG.out.lt).cell 0).trans (show _ = some (Value.int .i64 (X : Int)) from rfl)
        have y7 := fun u => ((Cells.kept HUG.out (hp u) HUG.out.lt).cell 1).trans (show _ = some (Value.int .i64 (Y : Int)) from rfl)
        have y8 := fun u => ((Cells.kept HUG.out (hp u) HUG.out.lt).cell 2).trans (show _ = some (Value.string (s.extract 8 Z)) from rfl)
        have y9 := fun u => ((Cells.kept HHV2.out (hp u) HHV2.out.lt).cell 0).trans (show _ = some (Value.int .i64 (X : Int)) from rfl)
        have y10 := fun u => ((Cells.kept HHV2.out (hp u) HHV2.out.lt).cell 1).trans (show _ = some (Value.int .i64 (Y : Int)) from rfl)
        have y11 := fun u => ((Cells.kept HHV2.out (hp u) HHV2.out.lt).cell 2).trans (show _ = some (Value.int .i64 (Z : Int)) from rfl)
        have y12 := fun u => ((Cells.kept HHV2.out (hp u) HHV2.out.lt).cell 3).trans (show _ = some (Value.int .i64 (C : Int)) from rfl)
        have HSP := Lib.hid (fun u => HSV.out.kept (hp u))
        have HP := Lib.hid hp
        have HQ := Lib.hid hq
        clear hp hq
        repeat (go_big_quiet_step (with_reducible exact Calls.pick_of HQ.out (fun W' hb => (HP.out _).trans (hb.mono (HP.out _).size)) (HHOF.out _ (HSP.out _))))
        refine wpQuiet_nil ?_
        rintro _ ⟨u, rfl⟩
        have HB6 := Lib.hid (HBB.out.trans ((HP.out u).mono HBB.out.size))
        have HZ6 := Lib.hid (Cells.kept HZV.out (HP.out u) HZV.out.lt)
        have HU6 := Lib.hid (Cells.kept HUG.out (HP.out u) HUG.out.lt)
        generalize pw u = w6 at *
        clear HP HQ HTV HZV HSV HUG HHV2 HBB HSP y0 y1 y2 y3 y4 y5 y6 y7 y8 y9 y10 y11 y12
        have x0 := (Cells.cell HZ6.out 0).trans (show _ = some (Value.int .i64 0) from rfl)
        have zx0 := Cells.frozen HZ6.out 0
        have x1 := (Cells.cell HZ6.out 1).trans (show _ = some (Value.int .i64 0) from rfl)
        have zx1 := Cells.frozen HZ6.out 1
        have x2 := (Cells.cell HZ6.out 2).trans (show _ = some (Value.string ⟨#[]⟩) from rfl)
        have zx2 := Cells.frozen HZ6.out 2
        have hgx := HZ6.out.lt
        have u0 := (Cells.cell HU6.out 0).trans (show _ = some (Value.int .i64 (X : Int)) from rfl)
        have u1 := (Cells.cell HU6.out 1).trans (show _ = some (Value.int .i64 (Y : Int)) from rfl)
        have u2 := (Cells.cell HU6.out 2).trans (show _ = some (Value.string (s.extract 8 Z)) from rfl)
        have hgu := HU6.out.lt
        go_wp2_with fail
        refine bodyPost_ret (res_box2 udpTy rfl _ _ rfl (HZ6.out.put [.int .i64 (X : Int), .int .i64 (Y : Int), .string (s.extract 8 Z)] rfl)) rfl ?_
        exact HFIN.out _ hR2.out (putB_below HGZ.out [.int .i64 (X : Int), .int .i64 (Y : Int), .string (s.extract 8 Z)] 0 _ HB6.out)
    · have hR2 := Lib.hid (HNO.out ⟨hcd, HS7.out⟩)
      have hne := HCD.out false (by simp; omega)
      rw [Bool.not_false] at hne
      clear HNO HYES HCD HS7 hcd
      rcases hcs with rfl | ⟨rfl, dc⟩
      · go_upto_region 12 with fail
        clear q0 q1 q2 q3 q4 q5 q6 y0 y1 y2 y3 hgy
        refine wp_region_pick (fun w' => Below V.heap.size V w') (by kernel_rfl) (by kernel_rfl) (Below.refl _ _) ⟨rfl, rfl, rfl, Nat.le_refl _, fun _ _ => rfl⟩ (fun pw hp hq => ?_)
        have y0 := fun u => (HTV.out.kept (hp u)).2.1
        have y1 := fun u => (HTV.out.kept (hp u)).2.2.1
        have y2 := fun u => (HTV.out.kept (hp u)).2.2.2.1
        have y3 := fun u => (HTV.out.kept (hp u)).2.2.2.2.1
        have y4 := fun u => (HTV.out.kept (hp u)).2.2.2.2.2.1
        have y5 := fun u => (HTV.out.kept (hp u)).2.2.2.2.2.2
        have y6 := fun u => ((Cells.kept HUG.out (hp u) HUG.out.lt).cell 0).trans (show _ = some (Value.int .i64 (X : Int)) from rfl)
        have y7 := fun u => ((Cells.kept HUG.out (hp u) HUG.out.lt).cell 1).trans (show _ = some (Value.int .i64 (Y : Int)) from rfl)
        have y8 := fun u => ((Cells.kept HUG.out (hp u) HUG.out.lt).cell 2).trans (show _ = some (Value.string (s.extract 8 Z)) from rfl)
        have y9 := fun u => ((Cells.kept HHV2.out (hp u) HHV2.out.lt).cell 0).trans (show _ = some (Value.int .i64 (X : Int)) from rfl)
        have y10 := fun u => ((Cells.kept HHV2.out (hp u) HHV2.out.lt).cell 1).trans (show _ = some (Value.int .i64 (Y : Int)) from rfl)
        have y11 := fun u => ((Cells.kept HHV2.out (hp u) HHV2.out.lt).cell 2).trans (show _ = some (Value.int .i64 (Z : Int)) from rfl)
        have y12 := fun u => ((Cells.kept HHV2.out (hp u) HHV2.out.lt).cell 3).trans (show _ = some (Value.int .i64 (C : Int)) from rfl)
        have HSP := Lib.hid (fun u => HSV.out.kept (hp u))
        have HP := Lib.hid hp
        have HQ := Lib.hid hq
        clear hp hq
        repeat (go_big_quiet_step (with_reducible exact Calls.pick_of HQ.out (fun W' hb => (HP.out _).trans (hb.mono (HP.out _).size)) (HHOF.out _ (HSP.out _))))
        refine wpQuiet_nil ?_
        rintro _ ⟨u, rfl⟩
        have HB6 := Lib.hid (HBB.out.trans ((HP.out u).mono HBB.out.size))
        have HZ6 := Lib.hid (Cells.kept HZV.out (HP.out u) HZV.out.lt)
        have HU6 := Lib.hid (Cells.kept HUG.out (HP.out u) HUG.out.lt)
        generalize pw u = w6 at *
        clear HP HQ HTV HZV HSV HUG HHV2 HBB HSP y0 y1 y2 y3 y4 y5 y6 y7 y8 y9 y10 y11 y12
        have x0 := (Cells.cell HZ6.out 0).trans (show _ = some (Value.int .i64 0) from rfl)
        have zx0 := Cells.frozen HZ6.out 0
        have x1 := (Cells.cell HZ6.out 1).trans (show _ = some (Value.int .i64 0) from rfl)
        have zx1 := Cells.frozen HZ6.out 1
        have x2 := (Cells.cell HZ6.out 2).trans (show _ = some (Value.string ⟨#[]⟩) from rfl)
        have zx2 := Cells.frozen HZ6.out 2
        have hgx := HZ6.out.lt
        have u0 := (Cells.cell HU6.out 0).trans (show _ = some (Value.int .i64 (X : Int)) from rfl)
        have u1 := (Cells.cell HU6.out 1).trans (show _ = some (Value.int .i64 (Y : Int)) from rfl)
        have u2 := (Cells.cell HU6.out 2).trans (show _ = some (Value.string (s.extract 8 Z)) from rfl)
        have hgu := HU6.out.lt
        go_wp2_with fail
        refine bodyPost_ret (res_box2 udpTy rfl _ _ rfl (HZ6.out.put [.int .i64 0, .int .i64 0, .string ⟨#[]⟩] rfl)) rfl ?_
        exact decU_err (er := 8) rfl hR2.out (putB_below HGZ.out [.int .i64 0, .int .i64 0, .string ⟨#[]⟩] 0 _ HB6.out)
      · go_upto_region 12 with fail
        clear q0 q1 q2 q3 q4 q5 q6 y0 y1 y2 y3 hgy
        refine wp_region_pick (fun w' => Below V.heap.size V w') (by kernel_rfl) (by kernel_rfl) (Below.refl _ _) ⟨rfl, rfl, rfl, Nat.le_refl _, fun _ _ => rfl⟩ (fun pw hp hq => ?_)
        have y0 := fun u => (HTV.out.kept (hp u)).2.1
        have y1 := fun u => (HTV.out.kept (hp u)).2.2.1
        have y2 := fun u => (HTV.out.kept (hp u)).2.2.2.1
        have y3 := fun u => (HTV.out.kept (hp u)).2.2.2.2.1
        have y4 := fun u => (HTV.out.kept (hp u)).2.2.2.2.2.1
        have y5 := fun u => (HTV.out.kept (hp u)).2.2.2.2.2.2
        have y6 := fun u => ((Cells.kept HUG.out (hp u) HUG.out.lt).cell 0).trans (show _ = some (Value.int .i64 (X : Int)) from rfl)
        have y7 := fun u => ((Cells.kept HUG.out (hp u) HUG.out.lt).cell 1).trans (show _ = some (Value.int .i64 (Y : Int)) from rfl)
        have y8 := fun u => ((Cells.kept HUG.out (hp u) HUG.out.lt).cell 2).trans (show _ = some (Value.string (s.extract 8 Z)) from rfl)
        have y9 := fun u => ((Cells.kept HHV2.out (hp u) HHV2.out.lt).cell 0).trans (show _ = some (Value.int .i64 (X : Int)) from rfl)
        have y10 := fun u => ((Cells.kept HHV2.out (hp u) HHV2.out.lt).cell 1).trans (show _ = some (Value.int .i64 (Y : Int)) from rfl)
        have y11 := fun u => ((Cells.kept HHV2.out (hp u) HHV2.out.lt).cell 2).trans (show _ = some (Value.int .i64 (Z : Int)) from rfl)
        have y12 := fun u => ((Cells.kept HHV2.out (hp u) HHV2.out.lt).cell 3).trans (show _ = some (Value.int .i64 (C : Int)) from rfl)
        have HSP := Lib.hid (fun u => HSV.out.kept (hp u))
        have HP := Lib.hid hp
        have HQ := Lib.hid hq
        clear hp hq
        repeat (go_big_quiet_step (with_reducible exact Calls.pick_of HQ.out (fun W' hb => (HP.out _).trans (hb.mono (HP.out _).size)) (HHOF.out _ (HSP.out _))))
        refine wpQuiet_nil ?_
        rintro _ ⟨u, rfl⟩
        have HB6 := Lib.hid (HBB.out.trans ((HP.out u).mono HBB.out.size))
        have HZ6 := Lib.hid (Cells.kept HZV.out (HP.out u) HZV.out.lt)
        have HU6 := Lib.hid (Cells.kept HUG.out (HP.out u) HUG.out.lt)
        generalize pw u = w6 at *
        clear HP HQ HTV HZV HSV HUG HHV2 HBB HSP y0 y1 y2 y3 y4 y5 y6 y7 y8 y9 y10 y11 y12
        have x0 := (Cells.cell HZ6.out 0).trans (show _ = some (Value.int .i64 0) from rfl)
        have zx0 := Cells.frozen HZ6.out 0
        have x1 := (Cells.cell HZ6.out 1).trans (show _ = some (Value.int .i64 0) from rfl)
        have zx1 := Cells.frozen HZ6.out 1
        have x2 := (Cells.cell HZ6.out 2).trans (show _ = some (Value.string ⟨#[]⟩) from rfl)
        have zx2 := Cells.frozen HZ6.out 2
        have hgx := HZ6.out.lt
        have u0 := (Cells.cell HU6.out 0).trans (show _ = some (Value.int .i64 (X : Int)) from rfl)
        have u1 := (Cells.cell HU6.out 1).trans (show _ = some (Value.int .i64 (Y : Int)) from rfl)
        have u2 := (Cells.cell HU6.out 2).trans (show _ = some (Value.string (s.extract 8 Z)) from rfl)
        have hgu := HU6.out.lt
        go_wp2_with fail
        refine bodyPost_ret (res_box2 udpTy rfl _ _ rfl (HZ6.out.put [.int .i64 0, .int .i64 0, .string ⟨#[]⟩] rfl)) rfl ?_
        exact decU_err (er := 8) rfl hR2.out (putB_below HGZ.out [.int .i64 0, .int .i64 0, .string ⟨#[]⟩] 0 _ HB6.out)
end Go.Proofs.YtnpklepafpdadaaDoor

/- Contract of the program of layer 13: Encode. -/
namespace Go.Proofs.YtnpklepafpdadaaDoor
open Go.ChangeShapes Go.WideShapes Go.ChangeAt Go.RowKit
set_option linter.unusedVariables false

theorem portB_iff (u : UdpR) : badU u ↔ ¬ (portB u.src = true ∧ portB u.dst = true) := by
  unfold badU portB
  simp only [decide_eq_true_eq]
  omega
theorem hbU_fin (X Y Z C : Nat) (pay : List UInt8) (hZ : Z = 8 + pay.length) : str (hbU X Y Z C) ++ str pay = str (hdU ⟨(X : Int), (Y : Int), pay⟩ ++ (beL 2 C ++ pay)) := by
  subst hZ
  rw [str_append]
  unfold hbU hdU
  simp only [Int.toNat_natCast, List.append_assoc]
set_option maxHeartbeats 4000000 in
set_option maxRecDepth 100000 in
theorem penc13_any (v1 v2 : Bool) (h1 l1 h2 l2 : Nat) (src dst : Int) (pay : List UInt8) (w : World) (ha : fits13 ⟨v1, h1, l1⟩) (hb : fits13 ⟨v2, h2, l2⟩) (hs : pay.length ≤ maxLen) (hsh : Sh w) :
    Calls Tryd.prog 10 #[.agg #[.bool v1, .int .u64 (h1 : Int), .int .u64 (l1 : Int)], .agg #[.bool v2, .int .u64 (h2 : Int), .int .u64 (l2 : Int)], .agg #[.int .i64 src, .int .i64 dst, .string (str pay)]] w fun e w' => e = .returned (.tuple #[.string (str (encU ⟨v1, h1, l1⟩ ⟨v2, h2, l2⟩ ⟨src, dst, pay⟩).1), .int .i64 ((encU ⟨v1, h1, l1⟩ ⟨v2, h2, l2⟩ ⟨src, dst, pay⟩).2 : Int)]) ∧ Below w.heap.size w w' := by
  obtain ⟨P, hP⟩ : ∃ P, P = str pay := ⟨_, rfl⟩
  have hPs : P.size = pay.length := by rw [hP, str_size]
  rw [← hP]
  have hP6 : P.size ≤ 9223372036854775807 := by unfold maxLen at hs; omega
  obtain ⟨R, hR⟩ : ∃ R, R = encU ⟨v1, h1, l1⟩ ⟨v2, h2, l2⟩ ⟨src, dst, pay⟩ := ⟨_, rfl⟩
  rw [← hR]
  obtain ⟨W0, hW0⟩ : ∃ W0, W0 = ((w.alloc (.cells #[.bool v1, .int .u64 (h1 : Int), .int .u64 (l1 : Int)] 24)).alloc (.cells #[.bool v2, .int .u64 (h2 : Int), .int .u64 (l2 : Int)] 24)).alloc (.cells #[.int .i64 src, .int .i64 dst, .string P] 29) := ⟨_, rfl⟩
  obtain ⟨gz, hgz⟩ : ∃ g, g = w.heap.size + 2 := ⟨_, rfl⟩
  have HT0 := Lib.hid (show Two W0 w.heap.size v1 h1 l1 v2 h2 l2 by rw [hW0]; exact (two_new w v1 h1 l1 v2 h2 l2 _).kept (below_alloc6 _ _))
  have hB0 : Below w.heap.size w W0 := by rw [hW0]; exact (((Below.refl _ _).alloc (Nat.le_refl _) _).alloc (by simp) _).alloc (by simp; omega) _
  have HB0 := Lib.hid hB0
  have HS0 := Lib.hid (hsh.kept hB0)
  have HZ0 := Lib.hid (show Cells W0 gz 29 #[.int .i64 src, .int .i64 dst, .string P] by
    have h := heap_alloc_new ((w.alloc (.cells #[.bool v1, .int .u64 (h1 : Int), .int .u64 (l1 : Int)] 24)).alloc (.cells #[.bool v2, .int .u64 (h2 : Int), .int .u64 (l2 : Int)] 24)) (.cells #[.int .i64 src, .int .i64 dst, .string P] 29)
    rw [hW0, hgz]
    rwa [show ((w.alloc (.cells #[.bool v1, .int .u64 (h1 : Int), .int .u64 (l1 : Int)] 24)).alloc (.cells #[.bool v2, .int .u64 (h2 : Int), .int .u64 (l2 : Int)] 24)).heap.size = w.heap.size + 2 by simp] at h)
  have HGZ := Lib.hid (show w.heap.size ≤ gz by omega)
  have hfit := fun W (h : Sh W) => pfit13_any v1 v2 h1 l1 h2 l2 W ha hb h
  have hp1 := fun W => pport13_any src W
  have hp2 := fun W => pport13_any dst W
  have hbad := portB_iff ⟨src, dst, pay⟩
  unfold encU at hR
  dsimp only at hR hbad
  clear hB0 hsh
  by_cases h0 : ¬ fitU ⟨v1, h1, l1⟩ ⟨v2, h2, l2⟩
  · have hR2 := Lib.hid (show R = ([], 13) by rw [hR, if_pos h0])
    rw [decide_eq_false h0] at hfit
    have HFIT := Lib.hid hfit
    clear hR h0 hfit ha hb hP hPs hp1 hp2 hbad
    go_enter Tryd.func10, Tryd.ntmps10
    go_upto_region 1 with fail
    rw [← hW0, ← hgz]
    clear hW0 hgz
    obtain ⟨q0, q1, q2, q3, q4, q5, q6⟩ := id HT0.out
    go_wp2_with fail
    refine (HFIT.out _ HS0.out).mono ?_
    rintro e w1 ⟨rfl, hb1⟩
    clear q0 q1 q2 q3 q4 q5 q6
    have HT1 := Lib.hid (HT0.out.kept hb1)
    have HZ1 := Lib.hid (Cells.kept HZ0.out hb1 HZ0.out.lt)
    have HS1 := Lib.hid (HS0.out.kept hb1)
    have HB1 := Lib.hid (HB0.out.trans (hb1.mono HB0.out.size))
    clear hb1 HT0 HZ0 HB0 HFIT HS0
    have x0 := (Cells.cell HZ1.out 0).trans (show _ = some (Value.int .i64 src) from rfl)
    have x1 := (Cells.cell HZ1.out 1).trans (show _ = some (Value.int .i64 dst) from rfl)
    have x2 := (Cells.cell HZ1.out 2).trans (show _ = some (Value.string P) from rfl)
    have hgl := HZ1.out.lt
    go_wp2_with fail
    go_ret2
    exact ⟨by rw [hR2.out]; rfl, HB1.out⟩
  rw [if_neg h0] at hR
  have h0' := Classical.not_not.1 h0
  rw [decide_eq_true h0'] at hfit
  have HFIT := Lib.hid hfit
  clear hfit h0
  by_cases c1 : badU ⟨src, dst, pay⟩
  · have hR2 := Lib.hid (show R = ([], 4) by rw [hR, if_pos c1])
    have hcs : portB src = false ∨ (portB src = true ∧ portB dst = false) := by
      have := hbad.1 c1
      cases hq : portB src with
      | false => exact .inl rfl
      | true => exact .inr ⟨rfl, by cases hq2 : portB dst with | false => rfl | true => exact absurd ⟨hq, hq2⟩ this⟩
    clear hR h0' ha hb hP hPs c1 hbad
    rcases hcs with d1 | ⟨d1, d2⟩
    · rw [d1] at hp1
      have HP1 := Lib.hid hp1
      clear hp1 hp2 d1
      go_enter Tryd.func10, Tryd.ntmps10
      go_upto_region 1 with fail
      rw [← hW0, ← hgz]
      clear hW0 hgz
      obtain ⟨q0, q1, q2, q3, q4, q5, q6⟩ := id HT0.out
      go_wp2_with fail
      refine (HFIT.out _ HS0.out).mono ?_
      rintro e w1 ⟨rfl, hb1⟩
      clear q0 q1 q2 q3 q4 q5 q6
      have HT1 := Lib.hid (HT0.out.kept hb1)
      have HZ1 := Lib.hid (Cells.kept HZ0.out hb1 HZ0.out.lt)
      have HS1 := Lib.hid (HS0.out.kept hb1)
      have HB1 := Lib.hid (HB0.out.trans (hb1.mono HB0.out.size))
      clear hb1 HT0 HZ0 HB0 HFIT HS0
      have x0 := (Cells.cell HZ1.out 0).trans (show _ = some (Value.int .i64 src) from rfl)
      have x1 := (Cells.cell HZ1.out 1).trans (show _ = some (Value.int .i64 dst) from rfl)
      have x2 := (Cells.cell HZ1.out 2).trans (show _ = some (Value.string P) from rfl)
      have hgl := HZ1.out.lt
      go_wp2_with fail
      refine (HP1.out _).mono ?_
      rintro e w2 ⟨rfl, rfl⟩
      go_wp2_with fail
      go_ret2
      exact ⟨by rw [hR2.out]; rfl, HB1.out⟩
    · rw [d1] at hp1
      rw [d2] at hp2
      have HP1 := Lib.hid hp1
      have HP2 := Lib.hid hp2
      clear hp1 hp2 d1 d2
      go_enter Tryd.func10, Tryd.ntmps10
      go_upto_region 1 with fail
      rw [← hW0, ← hgz]
      clear hW0 hgz
      obtain ⟨q0, q1, q2, q3, q4, q5, q6⟩ := id HT0.out
      go_wp2_with fail
      refine (HFIT.out _ HS0.out).mono ?_
      rintro e w1 ⟨rfl, hb1⟩
      clear q0 q1 q2 q3 q4 q5 q6
      have HT1 := Lib.hid (HT0.out.kept hb1)
      have HZ1 := Lib.hid (Cells.kept HZ0.out hb1 HZ0.out.lt)
      have HS1 := Lib.hid (HS0.out.kept hb1)
      have HB1 := Lib.hid (HB0.out.trans (hb1.mono HB0.out.size))
      clear hb1 HT0 HZ0 HB0 HFIT HS0
      have x0 := (Cells.cell HZ1.out 0).trans (show _ = some (Value.int .i64 src) from rfl)
      have x1 := (Cells.cell HZ1.out 1).trans (show _ = some (Value.int .i64 dst) from rfl)
      have x2 := (Cells.cell HZ1.out 2).trans (show _ = some (Value.string P) from rfl)
      have hgl := HZ1.out.lt
      go_wp2_with fail
      refine (HP1.out _).mono ?_
      rintro e w2 ⟨rfl, rfl⟩
      go_wp2_with fail
      refine (HP2.out _).mono ?_
      rintro e w2 ⟨rfl, rfl⟩
      go_wp2_with fail
      go_ret2
      exact ⟨by rw [hR2.out]; rfl, HB1.out⟩
  rw [if_neg c1] at hR
  have hgd : portB src = true ∧ portB dst = true := Classical.not_not.1 (fun h => c1 (hbad.2 h))
  have c2 : 0 ≤ src ∧ src ≤ 65535 ∧ 0 ≤ dst ∧ dst ≤ 65535 := by
    have h := hgd
    unfold portB at h
    simp only [decide_eq_true_eq] at h
    omega
  rw [hgd.1] at hp1
  rw [hgd.2] at hp2
  have HP1 := Lib.hid hp1
  have HP2 := Lib.hid hp2
  clear hp1 hp2 hbad c1 hgd
  obtain ⟨X, rfl⟩ : ∃ T : Nat, src = (T : Int) := ⟨src.toNat, by omega⟩
  obtain ⟨Y, rfl⟩ : ∃ T : Nat, dst = (T : Int) := ⟨dst.toNat, by omega⟩
  have hX : X < 65536 := by omega
  have hY : Y < 65536 := by omega
  by_cases c3 : 65507 < pay.length
  · have hR2 := Lib.hid (show R = ([], 3) by rw [hR, if_pos c3])
    have d5 : decide ((65507 : Int) < (P.size : Int)) = true := by simp; omega
    have n5 : (65507 : Int) < (P.size : Int) := by omega
    clear hR h0' ha hb hP hPs c2 c3 hX hY
    go_enter Tryd.func10, Tryd.ntmps10
    go_upto_region 1 with fail
    rw [← hW0, ← hgz]
    clear hW0 hgz
    obtain ⟨q0, q1, q2, q3, q4, q5, q6⟩ := id HT0.out
    go_wp2_with fail
    refine (HFIT.out _ HS0.out).mono ?_
    rintro e w1 ⟨rfl, hb1⟩
    clear q0 q1 q2 q3 q4 q5 q6
    have HT1 := Lib.hid (HT0.out.kept hb1)
    have HZ1 := Lib.hid (Cells.kept HZ0.out hb1 HZ0.out.lt)
    have HS1 := Lib.hid (HS0.out.kept hb1)
    have HB1 := Lib.hid (HB0.out.trans (hb1.mono HB0.out.size))
    clear hb1 HT0 HZ0 HB0 HFIT HS0
    have x0 := (Cells.cell HZ1.out 0).trans (show _ = some (Value.int .i64 (X : Int)) from rfl)
    have x1 := (Cells.cell HZ1.out 1).trans (show _ = some (Value.int .i64 (Y : Int)) from rfl)
    have x2 := (Cells.cell HZ1.out 2).trans (show _ = some (Value.string P) from rfl)
    have hgl := HZ1.out.lt
    go_wp2_with fail
    refine (HP1.out _).mono ?_
    rintro e w2 ⟨rfl, rfl⟩
    go_wp2_with fail
    refine (HP2.out _).mono ?_
    rintro e w2 ⟨rfl, rfl⟩
    go_wp2_with fail
    go_ret2
    exact ⟨by rw [hR2.out]; rfl, HB1.out⟩
  rw [if_neg c3] at hR
  have d5 : decide ((65507 : Int) < (P.size : Int)) = false := by simp; omega
  have n5 : ¬ (65507 : Int) < (P.size : Int) := by omega
  have hP5 : P.size ≤ 65507 := by omega
  obtain ⟨Z, hZ⟩ : ∃ z, z = 8 + pay.length := ⟨_, rfl⟩
  have hZl : Z < 65536 := by omega
  obtain ⟨C, hC⟩ : ∃ z, z = sumU ⟨v1, h1, l1⟩ ⟨v2, h2, l2⟩ (hdU ⟨(X : Int), (Y : Int), pay⟩ ++ (0 :: 0 :: pay)) := ⟨_, rfl⟩
  have hCl : C < 65536 := by have := (sumU_le ⟨v1, h1, l1⟩ ⟨v2, h2, l2⟩ (hdU ⟨(X : Int), (Y : Int), pay⟩ ++ (0 :: 0 :: pay))).1; omega
  obtain ⟨H, hH⟩ : ∃ H, H = str (hbU X Y Z C) := ⟨_, rfl⟩
  have hHs : H.size = 8 := by rw [hH, str_size, hbU_len]
  have hR2 := Lib.hid (show (Ending.returned (.tuple #[.string (H ++ P), .int .i64 0])) = .returned (.tuple #[.string (str R.1), .int .i64 (R.2 : Int)]) by
    rw [hR, hH, hP, hbU_fin X Y Z C pay hZ, hC]
    rfl)
  have HHD := Lib.hid (fun (W : World) (h : Sh W) => show Calls Tryd.prog 14 #[.agg #[.bool v1, .int .u64 (h1 : Int), .int .u64 (l1 : Int)], .agg #[.bool v2, .int .u64 (h2 : Int), .int .u64 (l2 : Int)], .agg #[.int .i64 (X : Int), .int .i64 (Y : Int), .string P]] W fun e w' => e = .returned (.agg #[.int .i64 (X : Int), .int .i64 (Y : Int), .int .i64 (Z : Int), .int .i64 (C : Int)]) ∧ Below W.heap.size W w' from by
    rw [hP, hZ, hC]
    exact phead13_any v1 v2 h1 l1 h2 l2 X Y pay W h0' ha hb hX hY (by omega) h)
  have HHB := Lib.hid (fun (W : World) => show Calls Tryd.prog 19 #[.agg #[.int .i64 (X : Int), .int .i64 (Y : Int), .int .i64 (Z : Int), .int .i64 (C : Int)]] W fun e w' => e = .returned (.string H) ∧ Below W.heap.size W w' from by rw [hH]; exact phbytes13_any X Y Z C W hX hY hZl hCl)
  have r0 : (9223372036854775807 < H.size + P.size) = False := by simp only [eq_iff_iff, iff_false]; omega
  have r9 : (9223372036854775807 < 8 + P.size) = False := by simp only [eq_iff_iff, iff_false]; omega
  clear hR h0' ha hb hP hPs c2 c3 hX hY hZ hZl hC hCl hH hHs
  go_enter Tryd.func10, Tryd.ntmps10
  go_upto_region 1 with fail
  rw [← hW0, ← hgz]
  clear hW0 hgz
  obtain ⟨q0, q1, q2, q3, q4, q5, q6⟩ := id HT0.out
  go_wp2_with fail
  refine (HFIT.out _ HS0.out).mono ?_
  rintro e w1 ⟨rfl, hb1⟩
  clear q0 q1 q2 q3 q4 q5 q6
  have HT1 := Lib.hid (HT0.out.kept hb1)
  have HZ1 := Lib.hid (Cells.kept HZ0.out hb1 HZ0.out.lt)
  have HS1 := Lib.hid (HS0.out.kept hb1)
  have HB1 := Lib.hid (HB0.out.trans (hb1.mono HB0.out.size))
  clear hb1 HT0 HZ0 HB0 HFIT HS0
  have x0 := (Cells.cell HZ1.out 0).trans (show _ = some (Value.int .i64 (X : Int)) from rfl)
  have x1 := (Cells.cell HZ1.out 1).trans (show _ = some (Value.int .i64 (Y : Int)) from rfl)
  have x2 := (Cells.cell HZ1.out 2).trans (show _ = some (Value.string P) from rfl)
  have hgl := HZ1.out.lt
  go_wp2_with fail
  refine (HP1.out _).mono ?_
  rintro e w2 ⟨rfl, rfl⟩
  go_wp2_with fail
  refine (HP2.out _).mono ?_
  rintro e w2 ⟨rfl, rfl⟩
  go_upto_region 7 with fail
  clear x0 x1 x2 hgl
  refine wp_region_pick (fun w' => Below w1.heap.size w1 w') (by kernel_rfl) (by kernel_rfl) (Below.refl _ _) ⟨rfl, rfl, rfl, Nat.le_refl _, fun _ _ => rfl⟩ (fun pw hp hq => ?_)
  have y0 := fun u => (HT1.out.kept (hp u)).2.1
  have y1 := fun u => (HT1.out.kept (hp u)).2.2.1
  have y2 := fun u => (HT1.out.kept (hp u)).2.2.2.1
  have y3 := fun u => (HT1.out.kept (hp u)).2.2.2.2.1
  have y4 := fun u => (HT1.out.kept (hp u)).2.2.2.2.2.1
  have y5 := fun u => (HT1.out.kept (hp u)).2.2.2.2.2.2
  have y6 := fun u => ((Cells.kept HZ1.out (hp u) HZ1.out.lt).cell 0).trans (show _ = some (Value.int .i64 (X : Int)) from rfl)
  have y7 := fun u => ((Cells.kept HZ1.out (hp u) HZ1.out.lt).cell 1).trans (show _ = some (Value.int .i64 (Y : Int)) from rfl)
  have y8 := fun u => ((Cells.kept HZ1.out (hp u) HZ1.out.lt).cell 2).trans (show _ = some (Value.string P) from rfl)
  have HSP := Lib.hid (fun u => HS1.out.kept (hp u))
  have HP := Lib.hid hp
  have HQ := Lib.hid hq
  clear hp hq
  repeat (go_big_quiet_step ((first | with_reducible exact Calls.pick_of HQ.out (fun W' hb => (HP.out _).trans (hb.mono (HP.out _).size)) (HHD.out _ (HSP.out _)) | with_reducible exact Calls.pick_of HQ.out (fun W' hb => (HP.out _).trans (hb.mono (HP.out _).size)) (HHB.out _))))
  refine wpQuiet_nil ?_
  rintro _ ⟨u, rfl⟩
  have HB2 := Lib.hid (HB1.out.trans ((HP.out u).mono HB1.out.size))
  generalize pw u = w6 at *
  clear HP HQ HSP y0 y1 y2 y3 y4 y5 y6 y7 y8
  go_wp2_with fail
  go_ret2
  exact ⟨hR2.out, HB2.out⟩
end Go.Proofs.YtnpklepafpdadaaDoor
