/- IntervalCounts holds: for every two lists of spans the laws of the numbers of elements hold, and a set is its own normal form. No condition. -/
import Derived.Test.YtlmjfbgigfmdhaaAwk05b
import Derived.Test.YtlmjfbgigfmdhaaRows
namespace Go.Proofs.Ytlmjfbgigfmdhaa.intervalCounts
open Go.ChangeShapes Go.WideShapes Go.ChangeAt Go.RowKit
set_option linter.unusedVariables false

theorem own : ownKnob Try.prog.godebug = none := by kernel_rfl
theorem laidOut : laidOutB Try.prog = true := by kernel_rfl
theorem cnt_union {M : Int} {a b u i : List Spn} (ha : okL M 0 a) (hb : okL M 0 b) (hu : okL M 0 u) (hi : okL M 0 i) (eu : ∀ n, anyS u n = (anyS a n || anyS b n)) (ei : ∀ n, anyS i n = (anyS a n && anyS b n)) : cntL u + cntL i = cntL a + cntL b := by
  rw [cnt_card a 0 (Int.le_refl _) ha, cnt_card b 0 (Int.le_refl _) hb, cnt_card u 0 (Int.le_refl _) hu, cnt_card i 0 (Int.le_refl _) hi]
  rw [card_congr (fun n _ => eu (n : Int)), card_congr (p := fun n => anyS i (n : Int)) (fun n _ => ei (n : Int))]
  have h1 := card_or_and (M + 1).toNat (fun n => anyS a (n : Int)) (fun n => anyS b (n : Int))
  omega
theorem cnt_but {M : Int} {a b i m : List Spn} (ha : okL M 0 a) (hi : okL M 0 i) (hm : okL M 0 m) (ei : ∀ n, anyS i n = (anyS a n && anyS b n)) (em : ∀ n, anyS m n = (anyS a n && !anyS b n)) : cntL m = cntL a - cntL i := by
  rw [cnt_card a 0 (Int.le_refl _) ha, cnt_card i 0 (Int.le_refl _) hi, cnt_card m 0 (Int.le_refl _) hm]
  rw [card_congr (p := fun n => anyS i (n : Int)) (fun n _ => ei (n : Int)), card_congr (p := fun n => anyS m (n : Int)) (fun n _ => em (n : Int))]
  have h2 := card_minus (M + 1).toNat (fun n => anyS a (n : Int)) (fun n => anyS b (n : Int))
  omega
theorem len0_iff {L : List Spn} (h : okL 4294967296 0 L) : L.length = 0 ↔ ∀ m, anyS L m = false := by
  cases L with
  | nil => simp [anyS]
  | cons s r =>
    simp only [List.length_cons, Nat.add_eq_zero_iff, Nat.one_ne_zero, and_false, false_iff]
    intro ha
    have := ha s.lo
    have h2 := h.2.1
    rw [anyS_cons, show inS s s.lo = true by rw [inS_iff]; omega] at this
    simp at this
set_option maxHeartbeats 2000000 in
set_option maxRecDepth 20000 in
theorem walk (A0 : Option Addr) (c0 : Nat) (l0 : List Spn) (A1 : Option Addr) (c1 : Nat) (l1 : List Spn) (w : World) (s0 : SpL w A0 l0) (n0 : A0 = none → c0 = 0) (s1 : SpL w A1 l1) (n1 : A1 = none → c1 = 0) :
    Calls Try.prog 8 #[.slice A0 l0.length c0, .slice A1 l1.length c1] w fun e w' => e = .returned (.bool true) ∧ Below w.heap.size w w' := by
  by_cases hl0 : 60 < l0.length
  · clear s0 n0 s1 n1
    have HL0 := Lib.hid (fun (W : World) => show Calls Try.prog 9 #[.slice A0 l0.length c0] W fun e w' => e = .returned (.bool true) ∧ w' = W from by
      have hh := large_any A0 l0.length c0 W
      rwa [show decide ((60 : Int) < (l0.length : Int)) = true by simp; omega] at hh)
    generalize l0.length = q0 at *
    generalize l1.length = q1 at *
    go_enter Try.func8, Try.ntmps8
    go_wp2_with fail
    refine (HL0.out _).mono ?_
    rintro e w1 ⟨rfl, rfl⟩
    go_wp2_with fail
    refine (awake_any _).mono ?_
    rintro e w9 ⟨rfl, b9⟩
    go_wp2_with fail
    go_ret
    exact ⟨rfl, b9⟩
  by_cases hl1 : 60 < l1.length
  · clear s0 n0 s1 n1
    have HL0 := Lib.hid (fun (W : World) => show Calls Try.prog 9 #[.slice A0 l0.length c0] W fun e w' => e = .returned (.bool false) ∧ w' = W from by
      have hh := large_any A0 l0.length c0 W
      rwa [show decide ((60 : Int) < (l0.length : Int)) = false by simp; omega] at hh)
    have HL1 := Lib.hid (fun (W : World) => show Calls Try.prog 9 #[.slice A1 l1.length c1] W fun e w' => e = .returned (.bool true) ∧ w' = W from by
      have hh := large_any A1 l1.length c1 W
      rwa [show decide ((60 : Int) < (l1.length : Int)) = true by simp; omega] at hh)
    generalize l0.length = q0 at *
    generalize l1.length = q1 at *
    go_enter Try.func8, Try.ntmps8
    go_wp2_with fail
    refine (HL0.out _).mono ?_
    rintro e w1 ⟨rfl, rfl⟩
    go_wp2_with fail
    refine (HL1.out _).mono ?_
    rintro e w2 ⟨rfl, rfl⟩
    go_wp2_with fail
    refine (awake_any _).mono ?_
    rintro e w9 ⟨rfl, b9⟩
    go_wp2_with fail
    go_ret
    exact ⟨rfl, b9⟩
  have HL0 := Lib.hid (fun (W : World) => show Calls Try.prog 9 #[.slice A0 l0.length c0] W fun e w' => e = .returned (.bool false) ∧ w' = W from by
    have hh := large_any A0 l0.length c0 W
    rwa [show decide ((60 : Int) < (l0.length : Int)) = false by simp; omega] at hh)
  have HL1 := Lib.hid (fun (W : World) => show Calls Try.prog 9 #[.slice A1 l1.length c1] W fun e w' => e = .returned (.bool false) ∧ w' = W from by
    have hh := large_any A1 l1.length c1 W
    rwa [show decide ((60 : Int) < (l1.length : Int)) = false by simp; omega] at hh)
  have H1 := Lib.hid (fun (W : World) (hb : Below w.heap.size w W) => pcount_any A0 c0 l0 W (s0.kept hb) (by omega))
  have H2 := Lib.hid (fun (W : World) (hb : Below w.heap.size w W) => pcount_any A1 c1 l1 W (s1.kept hb) (by omega))
  have H3 := Lib.hid (fun (W : World) (hb : Below w.heap.size w W) => pinter_any A0 A1 c0 c1 l0 l1 W (s0.kept hb) (s1.kept hb) (by omega) (by omega))
  have H4 := Lib.hid (fun (W : World) (hb : Below w.heap.size w W) => punion_any A0 A1 c0 c1 l0 l1 W (s0.kept hb) (s1.kept hb) (by omega) (by omega))
  have H5 := Lib.hid (fun (W : World) (hb : Below w.heap.size w W) => pminus_any A0 A1 c0 c1 l0 l1 W (s0.kept hb) (s1.kept hb) (by omega) (by omega))
  have H6 := Lib.hid (fun (W : World) (hb : Below w.heap.size w W) => pnormal_any A0 c0 l0 W (s0.kept hb) (by omega))
  have H7 := Lib.hid (fun (W : World) (hb : Below w.heap.size w W) => psubset_any A0 A1 c0 c1 l0 l1 W (s0.kept hb) (s1.kept hb) (by omega) (by omega))
  have H8 := Lib.hid (fun (W : World) (hb : Below w.heap.size w W) => pvalid_any A0 c0 l0 W (s0.kept hb) (by omega))
  have HC := Lib.hid (fun (L : List Spn) (A : Option Addr) (c : Nat) (W : World) (ho : okL 4294967296 0 L) (hs : SpL W A L) (hl : L.length ≤ 1000) => show Calls Try.prog 16 #[.slice A L.length c] W fun e w' => e = .returned (.int .i64 (cntL L)) ∧ Below W.heap.size W w' from (pcount_any A c L W hs (by omega)).mono fun e w' h => h.known ho (fun m => (okL_mem ho m).symm))
  have HN := Lib.hid (fun (L : List Spn) (A : Option Addr) (c : Nat) (W : World) (ho : okL 4294967296 0 L) (hs : SpL W A L) (hl : L.length ≤ 1000) => show Calls Try.prog 14 #[.slice A L.length c] W fun e w' => ∃ A' c', e = .returned (.slice A' L.length c') ∧ SpL w' A' L ∧ Below W.heap.size W w' from (pnormal_any A c L W hs (by omega)).mono fun e w' h => h.known ho (fun m => (okL_mem ho m).symm))
  obtain ⟨V, hV⟩ : ∃ V, V = okB 4294967296 0 l0 := ⟨_, rfl⟩
  rw [← hV] at H8
  have HSM := Lib.hid (fun (K : List Spn) (A : Option Addr) (c : Nat) (W : World) (hb : Below w.heap.size w W) (ho : okL 4294967296 0 K) (ha : ∀ m, anyS K m = memS 4294967296 l0 m) (hs : SpL W A K) (hv : V = true) => show Calls Try.prog 13 #[.slice A0 l0.length c0, .slice A K.length c] W fun e w' => e = .returned (.bool true) ∧ Below W.heap.size W w' from by
    have hok : okL 4294967296 0 l0 := (okB_iff l0 0).1 (hV.symm.trans hv)
    obtain rfl : l0 = K := okL_uniq l0 K 0 0 hok ho (fun m => ((ha m).trans (okL_mem hok m)).symm)
    exact same_any A0 A c0 c l0 W (s0.kept hb) hs (by omega))
  have hq : l0.length ≤ 60 ∧ l1.length ≤ 60 := by omega
  clear hV
  generalize l0.length = q0 at *
  generalize l1.length = q1 at *
  clear s0 n0 s1 n1 hl0 hl1
  go_enter Try.func8, Try.ntmps8
  go_wp2_with fail
  refine (HL0.out _).mono ?_
  rintro e w00 ⟨rfl, rfl⟩
  go_wp2_with fail
  refine (HL1.out _).mono ?_
  rintro e w0 ⟨rfl, rfl⟩
  have B0 := Lib.hid (Below.refl w0.heap.size w0)
  go_wp2_with fail
  refine (H1.out _ B0.out).mono ?_
  rintro e w1 ⟨KA, okA, anyA, leA, rfl, bb⟩
  have KKA := Lib.hid (show okL 4294967296 0 KA ∧ (∀ m, anyS KA m = memS 4294967296 l0 m) ∧ KA.length ≤ 1000 from ⟨okA, anyA, by omega⟩)
  clear okA anyA leA
  have bKA := cnt_bounds (M := 4294967296) (by decide) KKA.out.1
  obtain ⟨cx, hcx⟩ : ∃ z, z = cntL KA := ⟨_, rfl⟩
  rw [← hcx] at bKA ⊢
  have Ecx := Lib.hid hcx
  clear hcx
  have B1 := Lib.hid (B0.out.trans (bb.mono B0.out.size))
  clear bb
  go_wp2_with fail
  refine (H2.out _ B1.out).mono ?_
  rintro e w2 ⟨KB, okB', anyB, leB, rfl, bb⟩
  have KKB := Lib.hid (show okL 4294967296 0 KB ∧ (∀ m, anyS KB m = memS 4294967296 l1 m) from ⟨okB', anyB⟩)
  clear okB' anyB leB
  have bKB := cnt_bounds (M := 4294967296) (by decide) KKB.out.1
  obtain ⟨cy, hcy⟩ : ∃ z, z = cntL KB := ⟨_, rfl⟩
  rw [← hcy] at bKB ⊢
  have Ecy := Lib.hid hcy
  clear hcy
  have B2 := Lib.hid (B1.out.trans (bb.mono B1.out.size))
  clear bb
  go_wp2_with fail
  refine (H3.out _ B2.out).mono ?_
  rintro e w3 ⟨I, AI, cI, okl, anyl, lel, rfl, ownl, bb⟩
  have KI := Lib.hid (show okL 4294967296 0 I ∧ (∀ m, anyS I m = _) ∧ I.length ≤ 1000 from ⟨okl, anyl, by omega⟩)
  have SI := Lib.hid (spl_of_own ownl)
  clear okl anyl lel ownl
  have B3 := Lib.hid (B2.out.trans (bb.mono B2.out.size))
  clear bb
  go_wp2_with fail
  refine (HC.out I AI cI w3 KI.out.1 SI.out KI.out.2.2).mono ?_
  rintro e w4 ⟨rfl, bb⟩
  have bI := cnt_bounds (M := 4294967296) (by decide) KI.out.1
  obtain ⟨ci, hci⟩ : ∃ z, z = cntL I := ⟨_, rfl⟩
  rw [← hci] at bI ⊢
  have Eci := Lib.hid hci
  clear hci
  clear SI
  have B4 := Lib.hid (B3.out.trans (bb.mono B3.out.size))
  clear bb
  go_wp2_with fail
  refine (H4.out _ B4.out).mono ?_
  rintro e w5 ⟨U, AU, cU, okl, anyl, lel, rfl, ownl, bb⟩
  have KU := Lib.hid (show okL 4294967296 0 U ∧ (∀ m, anyS U m = _) ∧ U.length ≤ 1000 from ⟨okl, anyl, by omega⟩)
  have SU := Lib.hid (spl_of_own ownl)
  clear okl anyl lel ownl
  have B5 := Lib.hid (B4.out.trans (bb.mono B4.out.size))
  clear bb
  go_wp2_with fail
  refine (HC.out U AU cU w5 KU.out.1 SU.out KU.out.2.2).mono ?_
  rintro e w6 ⟨rfl, bb⟩
  have bU := cnt_bounds (M := 4294967296) (by decide) KU.out.1
  obtain ⟨cu, hcu⟩ : ∃ z, z = cntL U := ⟨_, rfl⟩
  rw [← hcu] at bU ⊢
  have Ecu := Lib.hid hcu
  clear hcu
  clear SU
  have B6 := Lib.hid (B5.out.trans (bb.mono B5.out.size))
  clear bb
  have hsum : cu + ci = cx + cy := by
    rw [Ecu.out, Eci.out, Ecx.out, Ecy.out]
    exact cnt_union KKA.out.1 KKB.out.1 KU.out.1 KI.out.1 (fun m => by rw [KU.out.2.1, KKA.out.2.1, KKB.out.2]) (fun m => by rw [KI.out.2.1, KKA.out.2.1, KKB.out.2])
  have n1 : (cu + ci != cx + cy) = false := by simp [hsum]
  clear hsum
  go_wp2_with fail
  refine (H5.out _ B6.out).mono ?_
  rintro e w7 ⟨D, AD, cD, okl, anyl, lel, rfl, ownl, bb⟩
  have KD := Lib.hid (show okL 4294967296 0 D ∧ (∀ m, anyS D m = _) ∧ D.length ≤ 1000 from ⟨okl, anyl, by omega⟩)
  have SD := Lib.hid (spl_of_own ownl)
  clear okl anyl lel ownl
  have B7 := Lib.hid (B6.out.trans (bb.mono B6.out.size))
  clear bb
  go_wp2_with fail
  refine (HC.out D AD cD w7 KD.out.1 SD.out KD.out.2.2).mono ?_
  rintro e w8 ⟨rfl, bb⟩
  have bD := cnt_bounds (M := 4294967296) (by decide) KD.out.1
  obtain ⟨cd, hcd⟩ : ∃ z, z = cntL D := ⟨_, rfl⟩
  rw [← hcd] at bD ⊢
  have Ecd := Lib.hid hcd
  clear hcd
  clear SD
  have B8 := Lib.hid (B7.out.trans (bb.mono B7.out.size))
  clear bb
  have hdif : cd = cx - ci := by
    rw [Ecd.out, Eci.out, Ecx.out]
    exact cnt_but (b := KB) KKA.out.1 KI.out.1 KD.out.1 (fun m => by rw [KI.out.2.1, KKA.out.2.1, KKB.out.2]) (fun m => by rw [KD.out.2.1, KKA.out.2.1, KKB.out.2])
  have n2 : (cd != cx - ci) = false := by simp [hdif]
  have n3 : decide (cx < 0) = false := by simp; omega
  have n4 : decide (4294967297 < cx) = false := by simp; omega
  clear hdif
  go_wp2_with fail
  refine (H6.out _ B8.out).mono ?_
  intro e w9 hs
  obtain ⟨AS, cS, rfl, sS, bb⟩ := hs.known KKA.out.1 KKA.out.2.1
  have SS := Lib.hid sS
  clear hs sS
  have B9 := Lib.hid (B8.out.trans (bb.mono B8.out.size))
  clear bb
  go_wp2_with fail
  refine (HN.out KA AS cS w9 KKA.out.1 SS.out KKA.out.2.2).mono ?_
  rintro e w10 ⟨AT, cT, rfl, sT, bb⟩
  have ST := Lib.hid sT
  have SS := Lib.hid (SS.out.kept bb)
  clear sT
  have B10 := Lib.hid (B9.out.trans (bb.mono B9.out.size))
  clear bb
  go_wp2_with fail
  refine (same_any AT AS cT cS KA w10 ST.out SS.out (Nat.le_trans KKA.out.2.2 (by decide))).mono ?_
  rintro e w11 ⟨rfl, bb⟩
  have SS := Lib.hid (SS.out.kept bb)
  have B11 := Lib.hid (B10.out.trans (bb.mono B10.out.size))
  clear bb
  have hR : decide (D.length = 0) = (ci == cx) := by
    rw [Eci.out, Ecx.out, Bool.eq_iff_iff, decide_eq_true_eq, beq_iff_eq, len0_iff KD.out.1, sub_iff_cnt (M := 4294967296) (b := KB) (by decide) KKA.out.1 KI.out.1 (fun m => by rw [KI.out.2.1, KKA.out.2.1, KKB.out.2])]
    constructor
    · intro h m hm
      have h2 := h m
      rw [KD.out.2.1, ← KKA.out.2.1, ← KKB.out.2, hm] at h2
      simpa using h2
    · intro h m
      rw [KD.out.2.1, ← KKA.out.2.1, ← KKB.out.2]
      cases hm : anyS KA m with
      | false => rfl
      | true => rw [h m hm]; rfl
  obtain ⟨R, hRR⟩ : ∃ R, R = (ci == cx) := ⟨_, rfl⟩
  rw [← hRR] at hR
  have HR := Lib.hid hR
  have HRR := Lib.hid hRR
  clear hR hRR
  go_wp2_with fail
  refine (H7.out _ B11.out).mono ?_
  intro e w12 hs
  obtain ⟨he, bb⟩ := hs.known KD.out.1 KD.out.2.1
  rw [HR.out] at he
  subst he
  have SS := Lib.hid (SS.out.kept bb)
  clear hs
  have B12 := Lib.hid (B11.out.trans (bb.mono B11.out.size))
  clear bb
  have hrr : (ci == cx) = R := HRR.out.symm
  go_wp2_with fail
  refine (H8.out _ B12.out).mono ?_
  rintro e w13 ⟨rfl, bb⟩
  have SS := Lib.hid (SS.out.kept bb)
  have B13 := Lib.hid (B12.out.trans (bb.mono B12.out.size))
  clear bb
  cases V with
  | false =>
    go_wp2_with fail
    refine (awake_any _).mono ?_
    rintro e wz ⟨rfl, b9⟩
    go_wp2_with fail
    go_ret
    exact ⟨rfl, B13.out.trans (b9.mono B13.out.size)⟩
  | true =>
    go_wp2_with fail
    refine (HSM.out KA AS cS w13 B13.out KKA.out.1 KKA.out.2.1 SS.out (by trivial)).mono ?_
    rintro e w14 ⟨rfl, bb⟩
    have B14 := Lib.hid (B13.out.trans (bb.mono B13.out.size))
    clear bb
    go_wp2_with fail
    refine (awake_any _).mono ?_
    rintro e wz ⟨rfl, b9⟩
    go_wp2_with fail
    go_ret
    exact ⟨rfl, B14.out.trans (b9.mono B14.out.size)⟩

set_option maxRecDepth 100000 in
theorem lifted (os : Os) (started : os.Started) (H : Type) (enc : TypeId × Value → H) :
    ReturnsInHanded {} Try.checked os 8 .any (Rows.intervalCountsSpec.pre6 enc Try.prog Try.f8 Rows.intervalCountsRow.domain false) (Rows.intervalCountsSpec.post enc Try.prog Try.f8 false true false false) := by
  refine returnsInHanded_of_change (C := Try.checked) own started (by kernel_rfl) Try.func8
    (ChangeSpec.witness6 (enc := enc) (C := Try.checked) false ⟨#[], #[.slice none 0 0, .slice none 0 0], []⟩ 8 (by kernel_rfl) (by kernel_rfl) (by kernel_rfl) (by kernel_rfl)) ?_
  intro W base args ds gs before hval0 hW hcnd _
  have hval : ∀ (j : Nat) t v, Try.f8.params[j]? = some t → args[j]? = some v → Value.okWide Try.prog W .any base t v := hval0
  have hW' := hW
  obtain ⟨p, q, hA0, hV, rfl, hfz, hnd⟩ := hW
  have hA : DataW.TrodAll enc Try.prog W 0 (fun _ => true) true Try.f8.params.toList args.toList ds p := hA0
  rw [Try.params8] at hA hval
  obtain ⟨v0, vs0, d0, ds0, p0, q0, hargs, rfl, rfl, h0, r0⟩ := trodAll_cons hA
  obtain ⟨v1, vs1, d1, ds1, p1, q1, rfl, rfl, rfl, h1, r1⟩ := trodAll_cons r0
  obtain ⟨rfl, rfl, rfl⟩ := trodAll_nil r1
  obtain rfl : args = #[v0, v1] := by cases args; simp_all
  obtain ⟨rfl, rfl⟩ := trodVars_none hV
  obtain ⟨a0, len0, cap0, rfl⟩ := okWide_slice Try.underlying22 (hval 0 22 v0 rfl rfl)
  have k0 := h0
  have lt0 : ∀ x ∈ p0, x.block < W.heap.size := by obtain ⟨m, hm⟩ := k0; exact DataW.trod_lt m _ _ _ hm
  obtain ⟨l0, s0, e0, n0, m0⟩ := in_spans h0
  obtain ⟨a1, len1, cap1, rfl⟩ := okWide_slice Try.underlying22 (hval 1 22 v1 rfl rfl)
  have k1 := h1
  have lt1 : ∀ x ∈ p1, x.block < W.heap.size := by obtain ⟨m, hm⟩ := k1; exact DataW.trod_lt m _ _ _ hm
  obtain ⟨l1, s1, e1, n1, m1⟩ := in_spans h1
  subst e0
  subst e1
  clear hA0 hval0
  refine (walk a0 cap0 l0 a1 cap1 l1 W s0 n0 s1 n1).mono fun e W' ⟨he, bel⟩ => ?_
  subst he
  exact ⟨_, rfl, _, _, _, [], _, [], hW', trodAll_mk1 (shut_bool Try.underlying4 _), (trodAll_cons_mk (Below.trod laidOut (by kernel_rfl) (of_decide_eq_true (by kernel_rfl)) k0 bel lt0) (trodAll_cons_mk (Below.trod laidOut (by kernel_rfl) (of_decide_eq_true (by kernel_rfl)) k1 bel lt1) trodAll_mk0)), rfl, bel.frame _, fun h => by cases h⟩

theorem over : Rows.intervalCountsRow.holds Try.pinned (OpenSpec.ofChange Rows.intervalCountsSpec) :=
  OpenClaim.holds_of_wide 8 Try.f8 rfl rfl rfl rfl rfl rfl rfl ⟨rfl, rfl, rfl, rfl, rfl⟩ rfl rfl rfl rfl rfl (by kernel_rfl) Try.func8 (by kernel_rfl)
    (of_decide_eq_true (by kernel_rfl)) (by unfold Func.isWrapper; first | (rw [if_pos (by decide +kernel)]; kernel_rfl) | (rw [if_neg (by decide +kernel)]; exact ⟨rfl, rfl⟩))
    (fun os started H enc _ => lifted os started H enc)

theorem proved : Rows.IntervalCountsSaid := over
#print axioms proved
end Go.Proofs.Ytlmjfbgigfmdhaa.intervalCounts
