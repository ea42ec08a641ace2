/- CaptureOrdered holds: for every two lists of records the law about merged records that ascend returns true and leaves memory as it was; no conditions. -/
import Derived.Test.YtnckcdngmffahaaRows
import Derived.Test.YtnckcdngmffahaaChecked
import Derived.Test.YtnckcdngmffahaaCA5
namespace Go.Proofs.Ytnckcdngmffahaa.captureOrdered
open Go.ChangeShapes Go.WideShapes Go.ChangeAt Go.RowKit
open Go.ChangeMaps (open_string shut_string)
set_option linter.unusedVariables false

theorem own : ownKnob Try.prog.godebug = none := by kernel_rfl
theorem laidOut : laidOutB Try.prog = true := by kernel_rfl
set_option maxHeartbeats 4000000 in
set_option maxRecDepth 20000 in
theorem walk (A0 : Option Addr) (c0 : Nat) (l0 : List CRec) (A1 : Option Addr) (c1 : Nat) (l1 : List CRec) (w : World) (s0 : RowL ERec w A0 l0) (n0 : A0 = none → c0 = 0) (m0 : l0.length ≤ maxLen) (f0 : ∀ r ∈ l0, recWf r) (s1 : RowL ERec w A1 l1) (n1 : A1 = none → c1 = 0) (m1 : l1.length ≤ maxLen) (f1 : ∀ r ∈ l1, recWf r) (kc0 : l0.length ≤ c0) (kc1 : l1.length ≤ c1) :
    Calls Try.prog 10 #[.slice A0 l0.length c0, .slice A1 l1.length c1] w fun e w' => e = .returned (.bool true) ∧ Below w.heap.size w w' := by
  have B0 := Lib.hid (Below.refl w.heap.size w)
  have HL0 := Lib.hid (fun (W : World) (hb : Below w.heap.size w W) => rlong9_any A0 c0 l0 W (s0.kept hb) (by unfold maxLen at m0; omega) (fun x hx => by have := (f0 x hx).2.2; unfold maxLen at this; omega))
  have HL1 := Lib.hid (fun (W : World) (hb : Below w.heap.size w W) => rlong9_any A1 c1 l1 W (s1.kept hb) (by unfold maxLen at m1; omega) (fun x hx => by have := (f1 x hx).2.2; unfold maxLen at this; omega))
  have H1 := Lib.hid (fun (W : World) (hb : Below w.heap.size w W) (hl : l0.length ≤ 40 ∧ l1.length ≤ 40) => pmerge9_any A0 A1 c0 c1 l0 l1 W (s0.kept hb) (s1.kept hb) n0 n1 (by omega) (.inr kc0) (.inr kc1))
  have H2 := Lib.hid (fun (W : World) (hb : Below w.heap.size w W) (hl : l0.length ≤ 40) => show Calls Try.prog 18 #[.slice A0 l0.length c0, .slice none 0 0] W (MrgQ W l0) from by
    have := pmerge9_any A0 none c0 0 l0 [] W (s0.kept hb) (RowL.nil _ _) n0 (fun _ => rfl) (by simp; omega) (.inr kc0) (.inl (by simp))
    rwa [merge_nil] at this)
  have H3 := Lib.hid (fun (W : World) (hb : Below w.heap.size w W) (hl : l0.length ≤ 40) => show Calls Try.prog 18 #[.slice none 0 0, .slice A0 l0.length c0] W (MrgQ W l0) from by
    have := pmerge9_any none A0 0 c0 [] l0 W (RowL.nil _ _) (s0.kept hb) (fun _ => rfl) n0 (by simp; omega) (.inl (by simp)) (.inr kc0)
    rwa [nil_merge] at this)
  have HSM := Lib.hid (fun (A : Option Addr) (c : Nat) (W : World) (hb : Below w.heap.size w W) (hr : RowL ERec W A l0) (hl : l0.length ≤ 40) => rsame9_any A A0 c c0 l0 W hr (s0.kept hb) (by omega))
  have HR0 := Lib.hid s0
  have HR1 := Lib.hid s1
  have HML := Lib.hid (merge_len l0 l1)
  have HMA := Lib.hid (fun (h : ascL l0) (k : ascL l1) => merge_ascL h k)
  clear s0 n0 m0 f0 s1 n1 m1 f1 kc0 kc1
  obtain ⟨M, hM⟩ : ∃ M, M = mergeC l0 l1 := ⟨_, rfl⟩
  rw [← hM] at H1 HML HMA
  clear hM
  obtain ⟨q0, hq0⟩ : ∃ q, q = l0.length := ⟨_, rfl⟩
  obtain ⟨q1, hq1⟩ : ∃ q, q = l1.length := ⟨_, rfl⟩
  rw [← hq0] at HL0 H1 H2 H3 HSM HML ⊢
  rw [← hq1] at HL1 H1 HML ⊢
  have HQ0 := Lib.hid hq0
  have HQ1 := Lib.hid hq1
  clear hq0 hq1
  go_enter Try.func10, Try.ntmps10
  go_wp2_with fail
  refine (lives_any _).mono ?_
  rintro e w90 ⟨rfl, b90⟩
  have B9 := Lib.hid (B0.out.trans (b90.mono B0.out.size))
  clear b90 B0
  go_wp2_with fail
  refine (HL0.out _ B9.out).mono ?_
  rintro e w0 ⟨b, rfl, hw0, HLB⟩
  cases b
  · have h40 : q0 ≤ 40 := by have := (HLB rfl).1; have := HQ0.out; omega
    subst hw0
    clear HLB HL0
    go_wp2_with fail
    refine (HL1.out _ B9.out).mono ?_
    rintro e w0 ⟨b, rfl, hw0, HLB⟩
    cases b
    · have h41 : q1 ≤ 40 := by have := (HLB rfl).1; have := HQ1.out; omega
      subst hw0
      clear HLB HL1
      go_wp2_with fail
      refine (H1.out _ B9.out (by have := HQ0.out; have := HQ1.out; omega)).mono ?_
      rintro e w1 ⟨A2, c2, rfl, r2, n2, b2⟩
      have HRM1 := Lib.hid r2
      have B1 := Lib.hid (B9.out.trans (b2.mono B9.out.size))
      clear r2 n2 b2 H1 B9
      obtain ⟨qm, hqm⟩ : ∃ q, q = M.length := ⟨_, rfl⟩
      rw [← hqm] at HML ⊢
      have HQM := Lib.hid hqm
      have hmm : (qm : Int) = (q0 : Int) + (q1 : Int) := by have := HML.out; omega
      have tmm : ((qm : Int) != (q0 : Int) + (q1 : Int)) = false := by rw [hmm]; exact bne_self_eq_false _
      have hqm80 : qm ≤ 80 := by have := HML.out; omega
      have HMM := Lib.hid hmm
      have hml := HML.out
      clear hqm HML hmm
      subst hml
      go_wp2_with fail
      refine (H2.out _ B1.out h40).mono ?_
      rintro e w2 ⟨A3, c3, rfl, r3, n3, b3⟩
      have B2 := Lib.hid (B1.out.trans (b3.mono B1.out.size))
      have HS := Lib.hid (HSM.out A3 c3 w2 B2.out r3 h40)
      have HRM2 := Lib.hid (HRM1.out.kept b3)
      clear r3 n3 b3 B1 H2 HRM1
      rw [← HQ0.out]
      go_wp2_with fail
      refine HS.out.mono ?_
      rintro e w3 ⟨rfl, b3⟩
      have B3 := Lib.hid (B2.out.trans (b3.mono B2.out.size))
      have HRM3 := Lib.hid (HRM2.out.kept b3)
      clear b3 B2 HS HRM2
      go_wp2_with fail
      refine (H3.out _ B3.out h40).mono ?_
      rintro e w4 ⟨A4, c4, rfl, r4, n4, b4⟩
      have B4 := Lib.hid (B3.out.trans (b4.mono B3.out.size))
      have HS := Lib.hid (HSM.out A4 c4 w4 B4.out r4 h40)
      have HRM4 := Lib.hid (HRM3.out.kept b4)
      clear r4 n4 b4 B3 H3 HRM3 HSM
      rw [← HQ0.out]
      go_wp2_with fail
      refine HS.out.mono ?_
      rintro e wb ⟨rfl, b5⟩
      have HBW := Lib.hid (B4.out.trans (b5.mono B4.out.size))
      have HRM := Lib.hid (HRM4.out.kept b5)
      clear b5 B4 HS HRM4
      have HB0 := Lib.hid (Below.refl wb.heap.size wb)
      clear tmm HMM
      go_wp2_with fail
      generalize q0 + q1 = qm at *
      go_loopw [6] (fun v wr => ∃ k : Nat, v = .int .i64 k ∧ 1 ≤ k ∧ (k ≤ q0 ∨ k = 1) ∧ Hid (∀ j x y, j + 1 < k → l0[j]? = some x → l0[j + 1]? = some y → x.tm ≤ y.tm) ∧ Hid (Below wb.heap.size wb wr)) (fun v _ => q0 - (intOf v).toNat)
      case atStart => exact ⟨1, rfl, Nat.le_refl _, .inr rfl, Lib.hid (fun j x y hj _ _ => absurd hj (by omega)), HB0⟩
      case round =>
        clear HB0
        obtain ⟨k, rfl, hk1, hkq, HAS, HB⟩ := hrel
        have hk0 : (0 : Int) ≤ (k : Int) := by omega
        by_cases hlt : k < q0
        · have hki : (k : Int) < (q0 : Int) := by omega
          have dlt : decide ((k : Int) < (q0 : Int)) = true := by simp; omega
          obtain ⟨kp, hkp⟩ : ∃ kp, kp = k - 1 := ⟨_, rfl⟩
          have hkpi : (k : Int) - 1 = (kp : Int) := by omega
          have hkp0 : (0 : Int) ≤ (kp : Int) := by omega
          have hkpq : (kp : Int) < (q0 : Int) := by omega
          obtain ⟨y, hy⟩ : ∃ y, l0[k]? = some y := ⟨l0[k]'(by have := HQ0.out; omega), List.getElem?_eq_getElem _⟩
          obtain ⟨x, hx⟩ : ∃ x, l0[kp]? = some x := ⟨l0[kp]'(by have := HQ0.out; omega), List.getElem?_eq_getElem _⟩
          obtain ⟨g, ob, rfl, hg⟩ := HR0.out.shape9 (by have := HQ0.out; omega)
          have HRW := Lib.hid (HR0.out.kept HBW.out)
          obtain ⟨a0, -, -⟩ := rec_at9 HRW.out hy HB.out
          obtain ⟨b0, -, -⟩ := rec_at9 HRW.out hx HB.out
          have HSTEP := Lib.hid (fun h => ascL_step HAS.out (by rw [← hkp]; exact hx) hy (by omega) h)
          have HASC := Lib.hid (fun (h : ascL l0) => h kp x y hx (by rw [show kp + 1 = k by omega]; exact hy))
          obtain ⟨xt, xs, xd⟩ := x
          obtain ⟨yt, ys, yd⟩ := y
          simp only at a0 b0 HSTEP HASC
          clear hx hy hkp
          by_cases hle : xt ≤ yt
          · have dle : decide (yt < xt) = false := by simp; omega
            have HN := Lib.hid (HSTEP.out hle)
            clear HSTEP HASC hle HAS
            go_wp2_with fail
            go_quiet (fail)
            have HB2 := Lib.hid (below_drewN9 HB.out nq)
            clear HB a0 b0
            generalize wr.drewN nq = w2 at *
            go_wp2_with fail
            go_roundw
            case rel => exact ⟨k + 1, by go_num, by omega, .inl (by omega), HN, HB2⟩
            case measure => simp [intOf]; omega
          · have dle : decide (yt < xt) = true := by simp; omega
            clear HSTEP HASC hle HAS
            go_wp2_with fail
            go_quiet (fail)
            have HB2 := Lib.hid (below_drewN9 HB.out nq)
            clear HB a0 b0
            generalize wr.drewN nq = w2 at *
            go_wp2_with fail
            go_ret
            exact ⟨rfl, HBW.out.trans (HB2.out.mono HBW.out.size)⟩
        · have dlt : decide ((k : Int) < (q0 : Int)) = false := by simp; omega
          have nlt : ¬ (k : Int) < (q0 : Int) := by omega
          have HASL := Lib.hid (show ascL l0 from fun j x y hx hy => by
            have h1 := (List.getElem?_eq_some_iff.1 hy).1
            have h2 := HQ0.out
            exact HAS.out j x y (by omega) hx hy)
          clear HAS hlt hkq hk1
          have HB0 := Lib.hid HB.out
          have HA0 := Lib.hid HASL.out
          clear HB HASL
          go_wp2_with fail
          go_loopw [7] (fun v wr => ∃ k : Nat, v = .int .i64 k ∧ 1 ≤ k ∧ (k ≤ q1 ∨ k = 1) ∧ Hid (∀ j x y, j + 1 < k → l1[j]? = some x → l1[j + 1]? = some y → x.tm ≤ y.tm) ∧ Hid (Below wb.heap.size wb wr)) (fun v _ => q1 - (intOf v).toNat)
          case atStart => exact ⟨1, rfl, Nat.le_refl _, .inr rfl, Lib.hid (fun j x y hj _ _ => absurd hj (by omega)), HB0⟩
          case round =>
            clear HB0
            obtain ⟨k, rfl, hk1, hkq, HAS, HB⟩ := hrel
            have hk0 : (0 : Int) ≤ (k : Int) := by omega
            by_cases hlt : k < q1
            · have hki : (k : Int) < (q1 : Int) := by omega
              have dlt : decide ((k : Int) < (q1 : Int)) = true := by simp; omega
              obtain ⟨kp, hkp⟩ : ∃ kp, kp = k - 1 := ⟨_, rfl⟩
              have hkpi : (k : Int) - 1 = (kp : Int) := by omega
              have hkp0 : (0 : Int) ≤ (kp : Int) := by omega
              have hkpq : (kp : Int) < (q1 : Int) := by omega
              obtain ⟨y, hy⟩ : ∃ y, l1[k]? = some y := ⟨l1[k]'(by have := HQ1.out; omega), List.getElem?_eq_getElem _⟩
              obtain ⟨x, hx⟩ : ∃ x, l1[kp]? = some x := ⟨l1[kp]'(by have := HQ1.out; omega), List.getElem?_eq_getElem _⟩
              obtain ⟨g, ob, rfl, hg⟩ := HR1.out.shape9 (by have := HQ1.out; omega)
              have HRW := Lib.hid (HR1.out.kept HBW.out)
              obtain ⟨a0, -, -⟩ := rec_at9 HRW.out hy HB.out
              obtain ⟨b0, -, -⟩ := rec_at9 HRW.out hx HB.out
              have HSTEP := Lib.hid (fun h => ascL_step HAS.out (by rw [← hkp]; exact hx) hy (by omega) h)
              have HASC := Lib.hid (fun (h : ascL l1) => h kp x y hx (by rw [show kp + 1 = k by omega]; exact hy))
              obtain ⟨xt, xs, xd⟩ := x
              obtain ⟨yt, ys, yd⟩ := y
              simp only at a0 b0 HSTEP HASC
              clear hx hy hkp
              by_cases hle : xt ≤ yt
              · have dle : decide (yt < xt) = false := by simp; omega
                have HN := Lib.hid (HSTEP.out hle)
                clear HSTEP HASC hle HAS
                go_wp2_with fail
                go_quiet (fail)
                have HB2 := Lib.hid (below_drewN9 HB.out nq)
                clear HB a0 b0
                generalize wr.drewN nq = w2 at *
                go_wp2_with fail
                go_roundw
                case rel => exact ⟨k + 1, by go_num, by omega, .inl (by omega), HN, HB2⟩
                case measure => simp [intOf]; omega
              · have dle : decide (yt < xt) = true := by simp; omega
                clear HSTEP HASC hle HAS
                go_wp2_with fail
                go_quiet (fail)
                have HB2 := Lib.hid (below_drewN9 HB.out nq)
                clear HB a0 b0
                generalize wr.drewN nq = w2 at *
                go_wp2_with fail
                go_ret
                exact ⟨rfl, HBW.out.trans (HB2.out.mono HBW.out.size)⟩
            · have dlt : decide ((k : Int) < (q1 : Int)) = false := by simp; omega
              have nlt : ¬ (k : Int) < (q1 : Int) := by omega
              have HASL := Lib.hid (show ascL l1 from fun j x y hx hy => by
                have h1 := (List.getElem?_eq_some_iff.1 hy).1
                have h2 := HQ1.out
                exact HAS.out j x y (by omega) hx hy)
              clear HAS hlt hkq hk1
              have HB0 := Lib.hid HB.out
              have HA1 := Lib.hid HASL.out
              clear HB HASL
              go_wp2_with fail
              go_loopw [8] (fun v wr => ∃ k : Nat, v = .int .i64 k ∧ 1 ≤ k ∧ (k ≤ qm ∨ k = 1) ∧ Hid (∀ j x y, j + 1 < k → M[j]? = some x → M[j + 1]? = some y → x.tm ≤ y.tm) ∧ Hid (Below wb.heap.size wb wr)) (fun v _ => qm - (intOf v).toNat)
              case atStart => exact ⟨1, rfl, Nat.le_refl _, .inr rfl, Lib.hid (fun j x y hj _ _ => absurd hj (by omega)), HB0⟩
              case round =>
                clear HB0
                obtain ⟨k, rfl, hk1, hkq, HAS, HB⟩ := hrel
                have hk0 : (0 : Int) ≤ (k : Int) := by omega
                by_cases hlt : k < qm
                · have hki : (k : Int) < (qm : Int) := by omega
                  have dlt : decide ((k : Int) < (qm : Int)) = true := by simp; omega
                  obtain ⟨kp, hkp⟩ : ∃ kp, kp = k - 1 := ⟨_, rfl⟩
                  have hkpi : (k : Int) - 1 = (kp : Int) := by omega
                  have hkp0 : (0 : Int) ≤ (kp : Int) := by omega
                  have hkpq : (kp : Int) < (qm : Int) := by omega
                  obtain ⟨y, hy⟩ : ∃ y, M[k]? = some y := ⟨M[k]'(by have := HQM.out; omega), List.getElem?_eq_getElem _⟩
                  obtain ⟨x, hx⟩ : ∃ x, M[kp]? = some x := ⟨M[kp]'(by have := HQM.out; omega), List.getElem?_eq_getElem _⟩
                  obtain ⟨g, ob, rfl, hg⟩ := HRM.out.shape9 (by have := HQM.out; omega)
                  have HRW := Lib.hid HRM.out
                  obtain ⟨a0, -, -⟩ := rec_at9 HRW.out hy HB.out
                  obtain ⟨b0, -, -⟩ := rec_at9 HRW.out hx HB.out
                  have HSTEP := Lib.hid (fun h => ascL_step HAS.out (by rw [← hkp]; exact hx) hy (by omega) h)
                  have HASC := Lib.hid (fun (h : ascL M) => h kp x y hx (by rw [show kp + 1 = k by omega]; exact hy))
                  obtain ⟨xt, xs, xd⟩ := x
                  obtain ⟨yt, ys, yd⟩ := y
                  simp only at a0 b0 HSTEP HASC
                  clear hx hy hkp
                  by_cases hle : xt ≤ yt
                  · have dle : decide (yt < xt) = false := by simp; omega
                    have HN := Lib.hid (HSTEP.out hle)
                    clear HSTEP HASC hle HAS
                    go_wp2_with fail
                    go_quiet (fail)
                    have HB2 := Lib.hid (below_drewN9 HB.out nq)
                    clear HB a0 b0
                    generalize wr.drewN nq = w2 at *
                    go_wp2_with fail
                    go_roundw
                    case rel => exact ⟨k + 1, by go_num, by omega, .inl (by omega), HN, HB2⟩
                    case measure => simp [intOf]; omega
                  · have dle : decide (yt < xt) = true := by simp; omega
                    exact absurd (HASC.out (HMA.out HA0.out HA1.out)) hle
                · have dlt : decide ((k : Int) < (qm : Int)) = false := by simp; omega
                  have nlt : ¬ (k : Int) < (qm : Int) := by omega
                  have HASL := Lib.hid (show ascL M from fun j x y hx hy => by
                    have h1 := (List.getElem?_eq_some_iff.1 hy).1
                    have h2 := HQM.out
                    exact HAS.out j x y (by omega) hx hy)
                  clear HAS hlt hkq hk1
                  go_wp2_with fail
                  go_ret
                  exact ⟨rfl, HBW.out.trans (HB.out.mono HBW.out.size)⟩
    · clear HLB HL1 H1 H2 H3
      subst hw0
      go_wp2_with fail
      go_ret
      exact ⟨rfl, B9.out⟩
  · clear HLB HL0 H1 H2 H3
    subst hw0
    go_wp2_with fail
    go_ret
    exact ⟨rfl, B9.out⟩

set_option maxRecDepth 100000 in
theorem lifted (os : Os) (started : os.Started) (H : Type) (enc : TypeId × Value → H) :
    ReturnsInHanded {} Try.checked os 10 .any (Rows.captureOrderedSpec.pre6 enc Try.prog Try.f10 Rows.captureOrderedRow.domain false) (Rows.captureOrderedSpec.post enc Try.prog Try.f10 false true false false) := by
  refine returnsInHanded_of_change (C := Try.checked) own started (by kernel_rfl) Try.func10
    (ChangeSpec.witness6 (enc := enc) (C := Try.checked) false ⟨#[], #[.slice none 0 0, .slice none 0 0], []⟩ 8 (by kernel_rfl) (by kernel_rfl) (by kernel_rfl) (by kernel_rfl)) ?_
  intro W base args ds gs before hval0 hW hcnd _
  have hval : ∀ (j : Nat) t v, Try.f10.params[j]? = some t → args[j]? = some v → Value.okWide Try.prog W .any base t v := hval0
  have hW' := hW
  obtain ⟨p, q, hA0, hV, rfl, hfz, hnd⟩ := hW
  have hA : DataW.TrodAll enc Try.prog W 0 (fun _ => true) true Try.f10.params.toList args.toList ds p := hA0
  rw [Try.params10] at hA hval
  obtain ⟨v0, vs0, d0, ds0, p0, q0, hargs, rfl, rfl, h0, r0⟩ := trodAll_cons hA
  obtain ⟨v1, vs1, d1, ds1, p1, q1, rfl, rfl, rfl, h1, r1⟩ := trodAll_cons r0
  obtain ⟨rfl, rfl, rfl⟩ := trodAll_nil r1
  obtain rfl : args = #[v0, v1] := by cases args; simp_all
  obtain ⟨rfl, rfl⟩ := trodVars_none hV
  obtain ⟨a0, len0, cap0, rfl⟩ := okWide_slice Try.underlying23 (hval 0 23 v0 rfl rfl)
  have k0 := h0
  have lt0 : ∀ x ∈ p0, x.block < W.heap.size := by obtain ⟨m, hm⟩ := k0; exact DataW.trod_lt m _ _ _ hm
  have kc0 := in_cap Try.underlying23 h0
  obtain ⟨l0, s0, e0, n0, m0, f0⟩ := in_recs h0
  obtain ⟨a1, len1, cap1, rfl⟩ := okWide_slice Try.underlying23 (hval 1 23 v1 rfl rfl)
  have k1 := h1
  have lt1 : ∀ x ∈ p1, x.block < W.heap.size := by obtain ⟨m, hm⟩ := k1; exact DataW.trod_lt m _ _ _ hm
  have kc1 := in_cap Try.underlying23 h1
  obtain ⟨l1, s1, e1, n1, m1, f1⟩ := in_recs h1
  subst e0
  subst e1
  clear hA0 hval0
  refine (walk a0 cap0 l0 a1 cap1 l1 W s0 n0 m0 f0 s1 n1 m1 f1 kc0 kc1).mono fun e W' ⟨he, bel⟩ => ?_
  subst he
  exact ⟨_, rfl, _, _, _, [], _, [], hW', trodAll_mk1 (shut_bool Try.underlying4 _), (trodAll_cons_mk (Below.trod laidOut (by kernel_rfl) (of_decide_eq_true (by kernel_rfl)) k0 bel lt0) (trodAll_cons_mk (Below.trod laidOut (by kernel_rfl) (of_decide_eq_true (by kernel_rfl)) k1 bel lt1) trodAll_mk0)), rfl, bel.frame _, fun h => by cases h⟩

theorem over : Rows.captureOrderedRow.holds Try.pinned (OpenSpec.ofChange Rows.captureOrderedSpec) :=
  OpenClaim.holds_of_wide 10 Try.f10 rfl rfl rfl rfl rfl rfl rfl ⟨rfl, rfl, rfl, rfl, rfl⟩ rfl rfl rfl rfl rfl (by kernel_rfl) Try.func10 (by kernel_rfl)
    (of_decide_eq_true (by kernel_rfl)) (by unfold Func.isWrapper; first | (rw [if_pos (by decide +kernel)]; kernel_rfl) | (rw [if_neg (by decide +kernel)]; exact ⟨rfl, rfl⟩))
    (fun os started H enc _ => lifted os started H enc)

theorem proved : Rows.CaptureOrderedSaid := over
#print axioms proved
end Go.Proofs.Ytnckcdngmffahaa.captureOrdered
