/- IntervalAlgebra holds: for every two lists of spans and every number membership in the results is the combination of the memberships, and the results are sets. No condition. -/
import Derived.Test.YtlmjfbgigfmdhaaAwk05b
import Derived.Test.YtlmjfbgigfmdhaaRows
namespace Go.Proofs.Ytlmjfbgigfmdhaa.intervalAlgebra
open Go.ChangeShapes Go.WideShapes Go.ChangeAt Go.RowKit
set_option linter.unusedVariables false

theorem own : ownKnob Try.prog.godebug = none := by kernel_rfl
theorem laidOut : laidOutB Try.prog = true := by kernel_rfl
set_option maxHeartbeats 2000000 in
set_option maxRecDepth 20000 in
theorem core (A0 : Option Addr) (c0 : Nat) (l0 : List Spn) (A1 : Option Addr) (c1 : Nat) (l1 : List Spn) (m : Int) (x y i : Bool) (w : World) (s0 : SpL w A0 l0) (n0 : A0 = none → c0 = 0) (s1 : SpL w A1 l1) (n1 : A1 = none → c1 = 0)
    (hl0 : ¬ 60 < l0.length) (hl1 : ¬ 60 < l1.length) (hx : memS 4294967296 l0 m = x) (hy : memS 4294967296 l1 m = y) (hi : (decide (0 ≤ m) && decide (m ≤ 4294967296)) = i) (hxi : x = true → i = true) (hyi : y = true → i = true) :
    Calls Try.prog 7 #[.slice A0 l0.length c0, .slice A1 l1.length c1, .int .i64 m] w fun e w' => e = .returned (.bool true) ∧ Below w.heap.size w w' := by
  have HL0 := Lib.hid (fun (W : World) => show Calls Try.prog 9 #[.slice A0 l0.length c0] W fun e w' => e = .returned (.bool false) ∧ w' = W from by
    have hh := large_any A0 l0.length c0 W
    rwa [show decide ((60 : Int) < (l0.length : Int)) = false by simp; omega] at hh)
  have HL1 := Lib.hid (fun (W : World) => show Calls Try.prog 9 #[.slice A1 l1.length c1] W fun e w' => e = .returned (.bool false) ∧ w' = W from by
    have hh := large_any A1 l1.length c1 W
    rwa [show decide ((60 : Int) < (l1.length : Int)) = false by simp; omega] at hh)
  have H1 := Lib.hid (fun (W : World) (hb : Below w.heap.size w W) => punion_any A0 A1 c0 c1 l0 l1 W (s0.kept hb) (s1.kept hb) (by omega) (by omega))
  have H2 := Lib.hid (fun (W : World) (hb : Below w.heap.size w W) => pinter_any A0 A1 c0 c1 l0 l1 W (s0.kept hb) (s1.kept hb) (by omega) (by omega))
  have H3 := Lib.hid (fun (W : World) (hb : Below w.heap.size w W) => pminus_any A0 A1 c0 c1 l0 l1 W (s0.kept hb) (s1.kept hb) (by omega) (by omega))
  have H4 := Lib.hid (fun (W : World) (hb : Below w.heap.size w W) => pcomp_any A0 c0 l0 0 4294967296 W (s0.kept hb) (by omega))
  have H5 := Lib.hid (fun (W : World) (hb : Below w.heap.size w W) => show Calls Try.prog 18 #[.slice A0 l0.length c0, .int .i64 m] W fun e w' => e = .returned (.bool x) ∧ Below W.heap.size W w' from by have h := pcontains_any A0 c0 l0 m W (s0.kept hb) (by omega); rwa [hx] at h)
  have H6 := Lib.hid (fun (W : World) (hb : Below w.heap.size w W) => show Calls Try.prog 18 #[.slice A1 l1.length c1, .int .i64 m] W fun e w' => e = .returned (.bool y) ∧ Below W.heap.size W w' from by have h := pcontains_any A1 c1 l1 m W (s1.kept hb) (by omega); rwa [hy] at h)
  have HC := Lib.hid (fun (L : List Spn) (A : Option Addr) (c : Nat) (W : World) (v : Bool) (ho : okL 4294967296 0 L) (hv : anyS L m = v) (hs : SpL W A L) (hl : L.length ≤ 1000) => show Calls Try.prog 18 #[.slice A L.length c, .int .i64 m] W fun e w' => e = .returned (.bool v) ∧ Below W.heap.size W w' from by have h := pcontains_any A c L m W hs (by omega); rwa [okL_mem ho, hv] at h)
  have HV := Lib.hid (fun (L : List Spn) (A : Option Addr) (c : Nat) (W : World) (ho : okL 4294967296 0 L) (hs : SpL W A L) (hl : L.length ≤ 1000) => show Calls Try.prog 11 #[.slice A L.length c] W fun e w' => e = .returned (.bool true) ∧ Below W.heap.size W w' from by have h := pvalid_any A c L W hs (by omega); rwa [(okB_iff L 0).2 ho] at h)
  have HX := Lib.hid (show ∀ v : Bool, memS 4294967296 l0 m = x ∧ memS 4294967296 l1 m = y from fun _ => ⟨hx, hy⟩)
  have HI := Lib.hid (show (decide (max 0 0 ≤ m) && decide (m ≤ min 4294967296 4294967296)) = i from hi)
  have hq : l0.length ≤ 60 ∧ l1.length ≤ 60 := by omega
  generalize l0.length = q0 at *
  generalize l1.length = q1 at *
  clear s0 n0 s1 n1 hx hy hl0 hl1
  go_enter Try.func7, Try.ntmps7
  go_wp2_with fail
  refine (HL0.out _).mono ?_
  rintro e w00 ⟨rfl, rfl⟩
  go_wp2_with fail
  refine (HL1.out _).mono ?_
  rintro e w0 ⟨rfl, rfl⟩
  have B0 := Lib.hid (Below.refl w0.heap.size w0)
  go_wp2_with fail
  refine (H1.out _ B0.out).mono ?_
  rintro e w1 ⟨U, AU, cU, okl, anyl, lel, rfl, ownl, bb⟩
  have hU := anyl m
  have hU2 : anyS U m = (x || y) := by rw [hU]; show (memS 4294967296 l0 m || memS 4294967296 l1 m) = _; rw [(HX.out true).1, (HX.out true).2]
  have hU := hU2
  clear hU2
  have KU := Lib.hid (show okL 4294967296 0 U ∧ anyS U m = (x || y) ∧ U.length ≤ 1000 from ⟨okl, hU, by omega⟩)
  have SU := Lib.hid (spl_of_own ownl)
  clear okl anyl lel ownl hU
  have B1 := Lib.hid (B0.out.trans (bb.mono B0.out.size))
  clear bb
  go_wp2_with fail
  refine (H2.out _ B1.out).mono ?_
  rintro e w2 ⟨I, AI, cI, okl, anyl, lel, rfl, ownl, bb⟩
  have hI := anyl m
  have hI2 : anyS I m = (x && y) := by rw [hI]; show (memS 4294967296 l0 m && memS 4294967296 l1 m) = _; rw [(HX.out true).1, (HX.out true).2]
  have hI := hI2
  clear hI2
  have KI := Lib.hid (show okL 4294967296 0 I ∧ anyS I m = (x && y) ∧ I.length ≤ 1000 from ⟨okl, hI, by omega⟩)
  have SI := Lib.hid (spl_of_own ownl)
  have SU := Lib.hid (SU.out.kept bb)
  clear okl anyl lel ownl hI
  have B2 := Lib.hid (B1.out.trans (bb.mono B1.out.size))
  clear bb
  go_wp2_with fail
  refine (H3.out _ B2.out).mono ?_
  rintro e w3 ⟨D, AD, cD, okl, anyl, lel, rfl, ownl, bb⟩
  have hD := anyl m
  have hD2 : anyS D m = (x && !y) := by rw [hD]; show (memS 4294967296 l0 m && !memS 4294967296 l1 m) = _; rw [(HX.out true).1, (HX.out true).2]
  have hD := hD2
  clear hD2
  have KD := Lib.hid (show okL 4294967296 0 D ∧ anyS D m = (x && !y) ∧ D.length ≤ 1000 from ⟨okl, hD, by omega⟩)
  have SD := Lib.hid (spl_of_own ownl)
  have SU := Lib.hid (SU.out.kept bb)
  have SI := Lib.hid (SI.out.kept bb)
  clear okl anyl lel ownl hD
  have B3 := Lib.hid (B2.out.trans (bb.mono B2.out.size))
  clear bb
  go_wp2_with fail
  refine (H4.out _ B3.out).mono ?_
  rintro e w4 ⟨C, AC, cC, okl, anyl, lel, rfl, ownl, bb⟩
  have hC := anyl m
  have hC2 : anyS C m = (i && !x) := by rw [hC]; show (decide (max 0 0 ≤ m) && decide (m ≤ min 4294967296 4294967296) && !memS 4294967296 l0 m) = _; rw [HI.out, (HX.out true).1]
  have hC := hC2
  clear hC2
  have KC := Lib.hid (show okL 4294967296 0 C ∧ anyS C m = (i && !x) ∧ C.length ≤ 1000 from ⟨okl, hC, by omega⟩)
  have SC := Lib.hid (spl_of_own ownl)
  have SU := Lib.hid (SU.out.kept bb)
  have SI := Lib.hid (SI.out.kept bb)
  have SD := Lib.hid (SD.out.kept bb)
  clear okl anyl lel ownl hC
  have B4 := Lib.hid (B3.out.trans (bb.mono B3.out.size))
  clear bb
  go_wp2_with fail
  refine (H5.out _ B4.out).mono ?_
  rintro e w5 ⟨rfl, bb⟩
  have SU := Lib.hid (SU.out.kept bb)
  have SI := Lib.hid (SI.out.kept bb)
  have SD := Lib.hid (SD.out.kept bb)
  have SC := Lib.hid (SC.out.kept bb)
  have B5 := Lib.hid (B4.out.trans (bb.mono B4.out.size))
  clear bb
  go_wp2_with fail
  refine (H6.out _ B5.out).mono ?_
  rintro e w6 ⟨rfl, bb⟩
  have SU := Lib.hid (SU.out.kept bb)
  have SI := Lib.hid (SI.out.kept bb)
  have SD := Lib.hid (SD.out.kept bb)
  have SC := Lib.hid (SC.out.kept bb)
  have B6 := Lib.hid (B5.out.trans (bb.mono B5.out.size))
  clear bb
  clear HX HI
  by_cases d0 : 0 ≤ m
  · have e0 : decide (0 ≤ m) = true := by simpa using d0
    by_cases d1 : m ≤ 4294967296
    · have e1 : decide (m ≤ 4294967296) = true := by simpa using d1
      obtain rfl : i = true := by rw [← hi, e0, e1]; rfl
      clear hi hxi hyi
      cases x <;> cases y
      all_goals
        go_wp2_with fail
        refine (HC.out U AU cU w6 _ KU.out.1 KU.out.2.1 SU.out KU.out.2.2).mono ?_
        rintro e w7 ⟨rfl, bb⟩
        have SU := Lib.hid (SU.out.kept bb)
        have SI := Lib.hid (SI.out.kept bb)
        have SD := Lib.hid (SD.out.kept bb)
        have SC := Lib.hid (SC.out.kept bb)
        have B7 := Lib.hid (B6.out.trans (bb.mono B6.out.size))
        clear bb
        go_wp2_with fail
        refine (HC.out I AI cI w7 _ KI.out.1 KI.out.2.1 SI.out KI.out.2.2).mono ?_
        rintro e w8 ⟨rfl, bb⟩
        have SU := Lib.hid (SU.out.kept bb)
        have SI := Lib.hid (SI.out.kept bb)
        have SD := Lib.hid (SD.out.kept bb)
        have SC := Lib.hid (SC.out.kept bb)
        have B8 := Lib.hid (B7.out.trans (bb.mono B7.out.size))
        clear bb
        go_wp2_with fail
        refine (HC.out D AD cD w8 _ KD.out.1 KD.out.2.1 SD.out KD.out.2.2).mono ?_
        rintro e w9 ⟨rfl, bb⟩
        have SU := Lib.hid (SU.out.kept bb)
        have SI := Lib.hid (SI.out.kept bb)
        have SD := Lib.hid (SD.out.kept bb)
        have SC := Lib.hid (SC.out.kept bb)
        have B9 := Lib.hid (B8.out.trans (bb.mono B8.out.size))
        clear bb
        go_wp2_with fail
        refine (HC.out C AC cC w9 _ KC.out.1 KC.out.2.1 SC.out KC.out.2.2).mono ?_
        rintro e w10 ⟨rfl, bb⟩
        have SU := Lib.hid (SU.out.kept bb)
        have SI := Lib.hid (SI.out.kept bb)
        have SD := Lib.hid (SD.out.kept bb)
        have SC := Lib.hid (SC.out.kept bb)
        have B10 := Lib.hid (B9.out.trans (bb.mono B9.out.size))
        clear bb
        go_wp2_with fail
        refine (HV.out U AU cU w10 KU.out.1 SU.out KU.out.2.2).mono ?_
        rintro e w11 ⟨rfl, bb⟩
        have SU := Lib.hid (SU.out.kept bb)
        have SI := Lib.hid (SI.out.kept bb)
        have SD := Lib.hid (SD.out.kept bb)
        have SC := Lib.hid (SC.out.kept bb)
        have B11 := Lib.hid (B10.out.trans (bb.mono B10.out.size))
        clear bb
        go_wp2_with fail
        refine (HV.out I AI cI w11 KI.out.1 SI.out KI.out.2.2).mono ?_
        rintro e w12 ⟨rfl, bb⟩
        have SU := Lib.hid (SU.out.kept bb)
        have SI := Lib.hid (SI.out.kept bb)
        have SD := Lib.hid (SD.out.kept bb)
        have SC := Lib.hid (SC.out.kept bb)
        have B12 := Lib.hid (B11.out.trans (bb.mono B11.out.size))
        clear bb
        go_wp2_with fail
        refine (HV.out D AD cD w12 KD.out.1 SD.out KD.out.2.2).mono ?_
        rintro e w13 ⟨rfl, bb⟩
        have SU := Lib.hid (SU.out.kept bb)
        have SI := Lib.hid (SI.out.kept bb)
        have SD := Lib.hid (SD.out.kept bb)
        have SC := Lib.hid (SC.out.kept bb)
        have B13 := Lib.hid (B12.out.trans (bb.mono B12.out.size))
        clear bb
        go_wp2_with fail
        refine (HV.out C AC cC w13 KC.out.1 SC.out KC.out.2.2).mono ?_
        rintro e w14 ⟨rfl, bb⟩
        have SU := Lib.hid (SU.out.kept bb)
        have SI := Lib.hid (SI.out.kept bb)
        have SD := Lib.hid (SD.out.kept bb)
        have SC := Lib.hid (SC.out.kept bb)
        have B14 := Lib.hid (B13.out.trans (bb.mono B13.out.size))
        clear bb
        go_wp2_with fail
        refine (awake_any _).mono ?_
        rintro e wz ⟨rfl, bz⟩
        go_wp2_with fail
        go_ret
        exact ⟨rfl, B14.out.trans (bz.mono B14.out.size)⟩
    · have e1 : decide (m ≤ 4294967296) = false := by simpa using d1
      obtain rfl : i = false := by rw [← hi, e1]; simp
      obtain rfl : x = false := by cases x with
        | false => rfl
        | true => exact absurd (hxi rfl) (by decide)
      obtain rfl : y = false := by cases y with
        | false => rfl
        | true => exact absurd (hyi rfl) (by decide)
      clear hi hxi hyi
      go_wp2_with fail
      refine (HC.out U AU cU w6 _ KU.out.1 KU.out.2.1 SU.out KU.out.2.2).mono ?_
      rintro e w7 ⟨rfl, bb⟩
      have SU := Lib.hid (SU.out.kept bb)
      have SI := Lib.hid (SI.out.kept bb)
      have SD := Lib.hid (SD.out.kept bb)
      have SC := Lib.hid (SC.out.kept bb)
      have B7 := Lib.hid (B6.out.trans (bb.mono B6.out.size))
      clear bb
      go_wp2_with fail
      refine (HC.out I AI cI w7 _ KI.out.1 KI.out.2.1 SI.out KI.out.2.2).mono ?_
      rintro e w8 ⟨rfl, bb⟩
      have SU := Lib.hid (SU.out.kept bb)
      have SI := Lib.hid (SI.out.kept bb)
      have SD := Lib.hid (SD.out.kept bb)
      have SC := Lib.hid (SC.out.kept bb)
      have B8 := Lib.hid (B7.out.trans (bb.mono B7.out.size))
      clear bb
      go_wp2_with fail
      refine (HC.out D AD cD w8 _ KD.out.1 KD.out.2.1 SD.out KD.out.2.2).mono ?_
      rintro e w9 ⟨rfl, bb⟩
      have SU := Lib.hid (SU.out.kept bb)
      have SI := Lib.hid (SI.out.kept bb)
      have SD := Lib.hid (SD.out.kept bb)
      have SC := Lib.hid (SC.out.kept bb)
      have B9 := Lib.hid (B8.out.trans (bb.mono B8.out.size))
      clear bb
      go_wp2_with fail
      refine (HC.out C AC cC w9 _ KC.out.1 KC.out.2.1 SC.out KC.out.2.2).mono ?_
      rintro e w10 ⟨rfl, bb⟩
      have SU := Lib.hid (SU.out.kept bb)
      have SI := Lib.hid (SI.out.kept bb)
      have SD := Lib.hid (SD.out.kept bb)
      have SC := Lib.hid (SC.out.kept bb)
      have B10 := Lib.hid (B9.out.trans (bb.mono B9.out.size))
      clear bb
      go_wp2_with fail
      refine (HV.out U AU cU w10 KU.out.1 SU.out KU.out.2.2).mono ?_
      rintro e w11 ⟨rfl, bb⟩
      have SU := Lib.hid (SU.out.kept bb)
      have SI := Lib.hid (SI.out.kept bb)
      have SD := Lib.hid (SD.out.kept bb)
      have SC := Lib.hid (SC.out.kept bb)
      have B11 := Lib.hid (B10.out.trans (bb.mono B10.out.size))
      clear bb
      go_wp2_with fail
      refine (HV.out I AI cI w11 KI.out.1 SI.out KI.out.2.2).mono ?_
      rintro e w12 ⟨rfl, bb⟩
      have SU := Lib.hid (SU.out.kept bb)
      have SI := Lib.hid (SI.out.kept bb)
      have SD := Lib.hid (SD.out.kept bb)
      have SC := Lib.hid (SC.out.kept bb)
      have B12 := Lib.hid (B11.out.trans (bb.mono B11.out.size))
      clear bb
      go_wp2_with fail
      refine (HV.out D AD cD w12 KD.out.1 SD.out KD.out.2.2).mono ?_
      rintro e w13 ⟨rfl, bb⟩
      have SU := Lib.hid (SU.out.kept bb)
      have SI := Lib.hid (SI.out.kept bb)
      have SD := Lib.hid (SD.out.kept bb)
      have SC := Lib.hid (SC.out.kept bb)
      have B13 := Lib.hid (B12.out.trans (bb.mono B12.out.size))
      clear bb
      go_wp2_with fail
      refine (HV.out C AC cC w13 KC.out.1 SC.out KC.out.2.2).mono ?_
      rintro e w14 ⟨rfl, bb⟩
      have SU := Lib.hid (SU.out.kept bb)
      have SI := Lib.hid (SI.out.kept bb)
      have SD := Lib.hid (SD.out.kept bb)
      have SC := Lib.hid (SC.out.kept bb)
      have B14 := Lib.hid (B13.out.trans (bb.mono B13.out.size))
      clear bb
      go_wp2_with fail
      refine (awake_any _).mono ?_
      rintro e wz ⟨rfl, bz⟩
      go_wp2_with fail
      go_ret
      exact ⟨rfl, B14.out.trans (bz.mono B14.out.size)⟩
  · have e0 : decide (0 ≤ m) = false := by simpa using d0
    obtain rfl : i = false := by rw [← hi, e0]; rfl
    obtain rfl : x = false := by cases x with
      | false => rfl
      | true => exact absurd (hxi rfl) (by decide)
    obtain rfl : y = false := by cases y with
      | false => rfl
      | true => exact absurd (hyi rfl) (by decide)
    clear hi hxi hyi
    go_wp2_with fail
    refine (HC.out U AU cU w6 _ KU.out.1 KU.out.2.1 SU.out KU.out.2.2).mono ?_
    rintro e w7 ⟨rfl, bb⟩
    have SU := Lib.hid (SU.out.kept bb)
    have SI := Lib.hid (SI.out.kept bb)
    have SD := Lib.hid (SD.out.kept bb)
    have SC := Lib.hid (SC.out.kept bb)
    have B7 := Lib.hid (B6.out.trans (bb.mono B6.out.size))
    clear bb
    go_wp2_with fail
    refine (HC.out I AI cI w7 _ KI.out.1 KI.out.2.1 SI.out KI.out.2.2).mono ?_
    rintro e w8 ⟨rfl, bb⟩
    have SU := Lib.hid (SU.out.kept bb)
    have SI := Lib.hid (SI.out.kept bb)
    have SD := Lib.hid (SD.out.kept bb)
    have SC := Lib.hid (SC.out.kept bb)
    have B8 := Lib.hid (B7.out.trans (bb.mono B7.out.size))
    clear bb
    go_wp2_with fail
    refine (HC.out D AD cD w8 _ KD.out.1 KD.out.2.1 SD.out KD.out.2.2).mono ?_
    rintro e w9 ⟨rfl, bb⟩
    have SU := Lib.hid (SU.out.kept bb)
    have SI := Lib.hid (SI.out.kept bb)
    have SD := Lib.hid (SD.out.kept bb)
    have SC := Lib.hid (SC.out.kept bb)
    have B9 := Lib.hid (B8.out.trans (bb.mono B8.out.size))
    clear bb
    go_wp2_with fail
    refine (HC.out C AC cC w9 _ KC.out.1 KC.out.2.1 SC.out KC.out.2.2).mono ?_
    rintro e w10 ⟨rfl, bb⟩
    have SU := Lib.hid (SU.out.kept bb)
    have SI := Lib.hid (SI.out.kept bb)
    have SD := Lib.hid (SD.out.kept bb)
    have SC := Lib.hid (SC.out.kept bb)
    have B10 := Lib.hid (B9.out.trans (bb.mono B9.out.size))
    clear bb
    go_wp2_with fail
    refine (HV.out U AU cU w10 KU.out.1 SU.out KU.out.2.2).mono ?_
    rintro e w11 ⟨rfl, bb⟩
    have SU := Lib.hid (SU.out.kept bb)
    have SI := Lib.hid (SI.out.kept bb)
    have SD := Lib.hid (SD.out.kept bb)
    have SC := Lib.hid (SC.out.kept bb)
    have B11 := Lib.hid (B10.out.trans (bb.mono B10.out.size))
    clear bb
    go_wp2_with fail
    refine (HV.out I AI cI w11 KI.out.1 SI.out KI.out.2.2).mono ?_
    rintro e w12 ⟨rfl, bb⟩
    have SU := Lib.hid (SU.out.kept bb)
    have SI := Lib.hid (SI.out.kept bb)
    have SD := Lib.hid (SD.out.kept bb)
    have SC := Lib.hid (SC.out.kept bb)
    have B12 := Lib.hid (B11.out.trans (bb.mono B11.out.size))
    clear bb
    go_wp2_with fail
    refine (HV.out D AD cD w12 KD.out.1 SD.out KD.out.2.2).mono ?_
    rintro e w13 ⟨rfl, bb⟩
    have SU := Lib.hid (SU.out.kept bb)
    have SI := Lib.hid (SI.out.kept bb)
    have SD := Lib.hid (SD.out.kept bb)
    have SC := Lib.hid (SC.out.kept bb)
    have B13 := Lib.hid (B12.out.trans (bb.mono B12.out.size))
    clear bb
    go_wp2_with fail
    refine (HV.out C AC cC w13 KC.out.1 SC.out KC.out.2.2).mono ?_
    rintro e w14 ⟨rfl, bb⟩
    have SU := Lib.hid (SU.out.kept bb)
    have SI := Lib.hid (SI.out.kept bb)
    have SD := Lib.hid (SD.out.kept bb)
    have SC := Lib.hid (SC.out.kept bb)
    have B14 := Lib.hid (B13.out.trans (bb.mono B13.out.size))
    clear bb
    go_wp2_with fail
    refine (awake_any _).mono ?_
    rintro e wz ⟨rfl, bz⟩
    go_wp2_with fail
    go_ret
    exact ⟨rfl, B14.out.trans (bz.mono B14.out.size)⟩
theorem walk (A0 : Option Addr) (c0 : Nat) (l0 : List Spn) (A1 : Option Addr) (c1 : Nat) (l1 : List Spn) (m : Int) (w : World) (s0 : SpL w A0 l0) (n0 : A0 = none → c0 = 0) (s1 : SpL w A1 l1) (n1 : A1 = none → c1 = 0) :
    Calls Try.prog 7 #[.slice A0 l0.length c0, .slice A1 l1.length c1, .int .i64 m] w fun e w' => e = .returned (.bool true) ∧ Below w.heap.size w w' := by
  by_cases hl0 : 60 < l0.length
  · clear s0 n0 s1 n1
    have HL0 := Lib.hid (fun (W : World) => show Calls Try.prog 9 #[.slice A0 l0.length c0] W fun e w' => e = .returned (.bool true) ∧ w' = W from by
      have hh := large_any A0 l0.length c0 W
      rwa [show decide ((60 : Int) < (l0.length : Int)) = true by simp; omega] at hh)
    generalize l0.length = q0 at *
    generalize l1.length = q1 at *
    go_enter Try.func7, Try.ntmps7
    go_wp2_with fail
    refine (HL0.out _).mono ?_
    rintro e w1 ⟨rfl, rfl⟩
    go_wp2_with fail
    refine (awake_any _).mono ?_
    rintro e w9 ⟨rfl, b9⟩
    go_wp2_with fail
    go_ret
    exact ⟨rfl, b9⟩
  by_cases hl1 : 60 < l1.length
  · clear s0 n0 s1 n1
    have HL0 := Lib.hid (fun (W : World) => show Calls Try.prog 9 #[.slice A0 l0.length c0] W fun e w' => e = .returned (.bool false) ∧ w' = W from by
      have hh := large_any A0 l0.length c0 W
      rwa [show decide ((60 : Int) < (l0.length : Int)) = false by simp; omega] at hh)
    have HL1 := Lib.hid (fun (W : World) => show Calls Try.prog 9 #[.slice A1 l1.length c1] W fun e w' => e = .returned (.bool true) ∧ w' = W from by
      have hh := large_any A1 l1.length c1 W
      rwa [show decide ((60 : Int) < (l1.length : Int)) = true by simp; omega] at hh)
    generalize l0.length = q0 at *
    generalize l1.length = q1 at *
    go_enter Try.func7, Try.ntmps7
    go_wp2_with fail
    refine (HL0.out _).mono ?_
    rintro e w1 ⟨rfl, rfl⟩
    go_wp2_with fail
    refine (HL1.out _).mono ?_
    rintro e w2 ⟨rfl, rfl⟩
    go_wp2_with fail
    refine (awake_any _).mono ?_
    rintro e w9 ⟨rfl, b9⟩
    go_wp2_with fail
    go_ret
    exact ⟨rfl, b9⟩
  have hin : ∀ l : List Spn, memS 4294967296 l m = true → (decide (0 ≤ m) && decide (m ≤ 4294967296)) = true := fun l h => by
    have := memS_in h
    simp [this]
  exact core A0 c0 l0 A1 c1 l1 m _ _ _ w s0 n0 s1 n1 hl0 hl1 rfl rfl rfl (hin l0) (hin l1)

set_option maxRecDepth 100000 in
theorem lifted (os : Os) (started : os.Started) (H : Type) (enc : TypeId × Value → H) :
    ReturnsInHanded {} Try.checked os 7 .any (Rows.intervalAlgebraSpec.pre6 enc Try.prog Try.f7 Rows.intervalAlgebraRow.domain false) (Rows.intervalAlgebraSpec.post enc Try.prog Try.f7 false true false false) := by
  refine returnsInHanded_of_change (C := Try.checked) own started (by kernel_rfl) Try.func7
    (ChangeSpec.witness6 (enc := enc) (C := Try.checked) false ⟨#[], #[.slice none 0 0, .slice none 0 0, .int .i64 0], []⟩ 8 (by kernel_rfl) (by kernel_rfl) (by kernel_rfl) (by kernel_rfl)) ?_
  intro W base args ds gs before hval0 hW hcnd _
  have hval : ∀ (j : Nat) t v, Try.f7.params[j]? = some t → args[j]? = some v → Value.okWide Try.prog W .any base t v := hval0
  have hW' := hW
  obtain ⟨p, q, hA0, hV, rfl, hfz, hnd⟩ := hW
  have hA : DataW.TrodAll enc Try.prog W 0 (fun _ => true) true Try.f7.params.toList args.toList ds p := hA0
  rw [Try.params7] at hA hval
  obtain ⟨v0, vs0, d0, ds0, p0, q0, hargs, rfl, rfl, h0, r0⟩ := trodAll_cons hA
  obtain ⟨v1, vs1, d1, ds1, p1, q1, rfl, rfl, rfl, h1, r1⟩ := trodAll_cons r0
  obtain ⟨v2, vs2, d2, ds2, p2, q2, rfl, rfl, rfl, h2, r2⟩ := trodAll_cons r1
  obtain ⟨rfl, rfl, rfl⟩ := trodAll_nil r2
  obtain rfl : args = #[v0, v1, v2] := by cases args; simp_all
  obtain ⟨rfl, rfl⟩ := trodVars_none hV
  obtain ⟨a0, len0, cap0, rfl⟩ := okWide_slice Try.underlying22 (hval 0 22 v0 rfl rfl)
  have k0 := h0
  have lt0 : ∀ x ∈ p0, x.block < W.heap.size := by obtain ⟨m, hm⟩ := k0; exact DataW.trod_lt m _ _ _ hm
  obtain ⟨l0, s0, e0, n0, m0⟩ := in_spans h0
  obtain ⟨a1, len1, cap1, rfl⟩ := okWide_slice Try.underlying22 (hval 1 22 v1 rfl rfl)
  have k1 := h1
  have lt1 : ∀ x ∈ p1, x.block < W.heap.size := by obtain ⟨m, hm⟩ := k1; exact DataW.trod_lt m _ _ _ hm
  obtain ⟨l1, s1, e1, n1, m1⟩ := in_spans h1
  obtain ⟨a2, rfl, rfl, rfl, w2⟩ := open_int Try.underlying3 (hval 2 3 v2 rfl rfl) h2
  subst e0
  subst e1
  clear hA0 hval0
  refine (walk a0 cap0 l0 a1 cap1 l1 a2 W s0 n0 s1 n1).mono fun e W' ⟨he, bel⟩ => ?_
  subst he
  exact ⟨_, rfl, _, _, _, [], _, [], hW', trodAll_mk1 (shut_bool Try.underlying4 _), (trodAll_cons_mk (Below.trod laidOut (by kernel_rfl) (of_decide_eq_true (by kernel_rfl)) k0 bel lt0) (trodAll_cons_mk (Below.trod laidOut (by kernel_rfl) (of_decide_eq_true (by kernel_rfl)) k1 bel lt1) (trodAll_cons_mk (shut_int Try.underlying3 w2) trodAll_mk0))), rfl, bel.frame _, fun h => by cases h⟩

theorem over : Rows.intervalAlgebraRow.holds Try.pinned (OpenSpec.ofChange Rows.intervalAlgebraSpec) :=
  OpenClaim.holds_of_wide 7 Try.f7 rfl rfl rfl rfl rfl rfl rfl ⟨rfl, rfl, rfl, rfl, rfl⟩ rfl rfl rfl rfl rfl (by kernel_rfl) Try.func7 (by kernel_rfl)
    (of_decide_eq_true (by kernel_rfl)) (by unfold Func.isWrapper; first | (rw [if_pos (by decide +kernel)]; kernel_rfl) | (rw [if_neg (by decide +kernel)]; exact ⟨rfl, rfl⟩))
    (fun os started H enc _ => lifted os started H enc)

theorem proved : Rows.IntervalAlgebraSaid := over
#print axioms proved
end Go.Proofs.Ytlmjfbgigfmdhaa.intervalAlgebra
