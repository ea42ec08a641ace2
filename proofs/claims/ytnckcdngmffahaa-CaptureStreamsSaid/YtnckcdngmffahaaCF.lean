/- CaptureStreams holds: for every list of pieces a Reader returns the records of Read and finds the same error, and the law returns true and leaves memory as it was; no conditions. -/
import Derived.Test.YtnckcdngmffahaaRows
import Derived.Test.YtnckcdngmffahaaChecked
import Derived.Test.YtnckcdngmffahaaCA5
namespace Go.Proofs.Ytnckcdngmffahaa.captureStreams
open Go.ChangeShapes Go.WideShapes Go.ChangeAt Go.RowKit
open Go.ChangeMaps (open_string shut_string)
set_option linter.unusedVariables false

theorem own : ownKnob Try.prog.godebug = none := by kernel_rfl
theorem laidOut : laidOutB Try.prog = true := by kernel_rfl
set_option maxHeartbeats 4000000 in
set_option maxRecDepth 20000 in
theorem walk (A0 : Option Addr) (c0 : Nat) (l0 : List (List UInt8)) (w : World) (s0 : RowL ESt9 w A0 l0) (n0 : A0 = none → c0 = 0) (m0 : l0.length ≤ maxLen) (f0 : ∀ r ∈ l0, r.length ≤ maxLen) :
    Calls Try.prog 8 #[.slice A0 l0.length c0] w fun e w' => e = .returned (.bool true) ∧ Below w.heap.size w w' := by
  have B0 := Lib.hid (Below.refl w.heap.size w)
  have HLG := Lib.hid (fun (W : World) (hb : Below w.heap.size w W) => long9_any A0 c0 l0 W (s0.kept hb) (by unfold maxLen at m0; omega) (fun x hx => by have := f0 x hx; unfold maxLen at this; omega))
  have HS0 := Lib.hid s0
  have HTT := Lib.hid (fun k => tot_take (l := l0) k)
  clear s0 n0 m0 f0
  obtain ⟨q, hq⟩ : ∃ q, q = l0.length := ⟨_, rfl⟩
  rw [← hq] at HLG ⊢
  have HQ := Lib.hid hq
  clear hq
  go_enter Try.func8, Try.ntmps8
  go_wp2_with fail
  refine (lives_any _).mono ?_
  rintro e w90 ⟨rfl, b90⟩
  have B9 := Lib.hid (B0.out.trans (b90.mono B0.out.size))
  clear b90 B0
  go_wp2_with fail
  refine (pnew9_any _).mono ?_
  rintro e w1 ⟨g, S, rfl, hp1, hS1, b1⟩
  have HP1 := Lib.hid hp1
  have HSX := Lib.hid (show ∀ j, S j → w.heap.size ≤ j from fun j hj => Nat.le_trans B9.out.size (hS1 j hj))
  have HB1 := Lib.hid (B9.out.trans (b1.mono B9.out.size))
  clear hp1 hS1 b1 B9
  go_wp2_with fail
  refine (HLG.out _ HB1.out).mono ?_
  rintro e w2 ⟨bb, rfl, hw2, HLB⟩
  subst hw2
  clear HLG
  cases bb
  · have HLE := Lib.hid (HLB rfl)
    have hq40 : q ≤ 40 := by have := (HLB rfl).1; have := HQ.out; omega
    clear HLB
    go_wp2_with fail
    go_loopw [4, 5, 6, 7] (fun v4 v5 v6 v7 wr => ∃ (k n fd : Nat) (S' : Nat → Prop) (A' : Option Addr) (c' : Nat) (out : List CRec) (r : RdC), v4 = .string (str (l0.take k).flatten) ∧ v5 = .slice A' n c' ∧ v6 = .int .i64 fd ∧ v7 = .int .i64 k ∧ k ≤ q ∧ n ≤ 9000 ∧ Hid (n = out.length) ∧ Hid (PRd wr S' g r) ∧ Hid (RunC (l0.take k).flatten r out fd) ∧ Hid (∀ j, S' j → w.heap.size ≤ j) ∧ Hid (∀ c, (Value.slice A' n c').ownBlock = some c → ¬ S' c) ∧ Hid (wr.ownsRow w.heap.size 33 3 (.slice A' n c') n (ERec.cells out)) ∧ Hid (Below w.heap.size w wr)) (fun _ _ _ v7 _ => q - (intOf v7).toNat)
    case atStart => exact ⟨0, 0, 0, S, none, 0, [], newC, rfl, rfl, rfl, rfl, Nat.zero_le _, Nat.zero_le _, Lib.hid rfl, HP1, Lib.hid RunC.new, HSX, Lib.hid (fun c hc => by cases hc), Lib.hid (World.ownsRow_nil _ _ _ _), HB1⟩
    case round =>
      clear HP1 HSX HB1
      obtain ⟨k, n, fd, S', A', c', out, r, rfl, rfl, rfl, rfl, hk, hn9, HNO, HP, HR, HSJ, HD, HO, HB⟩ := hrel
      have hk0 : (0 : Int) ≤ (k : Int) := by omega
      by_cases hlt : k < q
      · have hki : (k : Int) < (q : Int) := by omega
        have dlt : decide ((k : Int) < (q : Int)) = true := by simp; omega
        obtain ⟨x, hget⟩ : ∃ x, l0[k]? = some x := ⟨l0[k]'(by have := HQ.out; omega), List.getElem?_eq_getElem _⟩
        obtain ⟨ga, oa, rfl, hga, -⟩ := HS0.out (by have := HQ.out; omega)
        have cx := st_at9 HS0.out hget HB.out
        have htk := HTT.out (k + 1)
        have hnx := tot_next hget
        obtain ⟨X, hX⟩ : ∃ X, X = (l0.take k).flatten := ⟨_, rfl⟩
        rw [← hX] at HR hnx ⊢
        rw [hnx, List.length_append] at htk
        have hxl : X.length + x.length ≤ 9000 := by have := HLE.out.2; omega
        have HXS := Lib.hid (show str X ++ str x = str (l0.take (k + 1)).flatten by rw [hnx, str_append])
        have HNX := Lib.hid hnx
        have HXL := Lib.hid hxl
        have hrl : r.S.length + x.length ≤ 9000 := by have := HR.out.len; omega
        have hsum : (9223372036854775807 < (str X).size + (str x).size) = False := by rw [str_size, str_size]; simp only [eq_iff_iff, iff_false]; omega
        have HPF := Lib.hid (pfeed9_any g S' r x wr HP.out (by omega) HR.out.ok)
        clear hget htk hnx hX hxl hrl HP
        obtain ⟨D, hD⟩ : ∃ D, D = str x := ⟨_, rfl⟩
        obtain ⟨SX, hSX⟩ : ∃ SX, SX = str X := ⟨_, rfl⟩
        rw [← hD] at cx HXS hsum HPF
        rw [← hSX] at HXS hsum ⊢
        clear hD hSX
        by_cases hf : fd = 0
        · subst hf
          have HRN := Lib.hid (HR.out.step_on x)
          have HFL := Lib.hid (show (out ++ (feedC r x).1).length ≤ 9000 by
            have h1 := HRN.out.outs
            have h2 := feed_len newC (X ++ x)
            have h3 := HXL.out
            rw [h1]
            rw [List.length_append] at h2
            simp only [newC, List.length_nil] at h2 ⊢
            omega)
          clear HR
          generalize feedC r x = F at *
          obtain ⟨ro, er, r2⟩ := F
          simp only at HRN HFL
          go_wp2_with fail
          refine HPF.out.mono ?_
          rintro e w3 ⟨A3, c3, S3, rfl, r3, n3, a3, p3, hs3, k3⟩
          obtain ⟨m, hm⟩ : ∃ m, m = ro.length := ⟨_, rfl⟩
          have r3' : RowL ERec w3 A3 ro := r3
          have hS3 : ∀ j, S3 j → w.heap.size ≤ j := fun j hj => by
            rcases hs3 j hj with h | h
            · exact HSJ.out j h
            · exact Nat.le_trans HB.out.size h
          have hO3 := own_keepB HO.out k3 HD.out
          have hD3 : ∀ c, (Value.slice A' n c').ownBlock = some c → ¬ S3 c := fun c hc hs => by
            rcases hs3 c hs with h | h
            · exact HD.out c hc h
            · have := (own_blk_lt HO.out c hc).2
              omega
          have HS3 := Lib.hid hS3
          have HO3 := Lib.hid hO3
          have HD3 := Lib.hid hD3
          have HP3 := Lib.hid p3
          have HN3 := Lib.hid n3
          have HR3 := Lib.hid r3'
          have HB3 := Lib.hid (k3.below HB.out HSJ.out)
          have HMM := Lib.hid hm
          have hnm : n + m ≤ 9000 := by have := HFL.out; rw [List.length_append] at this; have := HNO.out; omega
          rw [← hm]
          clear r3 r3' n3 a3 p3 hs3 k3 hm hS3 hO3 hD3 HPF HSJ HD HO HB cx
          go_wp2_with (at_builtin; refine wpList_cat9 (E := ERec) rcTy (by rfl) _ _ (by rfl) w.heap.size _ n out ro (by rfl) HO3.out _ m c3 (by rfl) HMM.out HN3.out HR3.out (by omega) (by decide) HB3.out.size ?_)
          intro A4 c4 w4 hown hgrow hat
          have HB4 := Lib.hid (HB3.out.grown hgrow HB3.out.size (fun j hj => (own_blk_lt HO3.out j hj).1))
          have HP4 := Lib.hid (show PRd w4 S3 g r2 from HP3.out.kept hgrow.size (fun j hj => hgrow.block j (HP3.out.lt j hj) (fun e => HD3.out j e.symm hj)))
          have HD4 := Lib.hid (show ∀ c, (Value.slice A4 (n + m) c4).ownBlock = some c → ¬ S3 c from fun c hc hs => by
            rcases hat c hc with h | h
            · exact HD3.out c h hs
            · have := HP3.out.lt c hs
              omega)
          have HO4 := Lib.hid hown
          have HNM := Lib.hid (show n + m = (out ++ ro).length by rw [List.length_append]; have := HNO.out; have := HMM.out; omega)
          clear hown hgrow hat HB3 HP3 HD3 HO3 HN3 HR3 HMM HNO HFL
          have HRN2 := Lib.hid (show RunC (l0.take (k + 1)).flatten r2 (out ++ ro) er by rw [HNX.out]; exact HRN.out)
          clear HRN HNX HXL
          go_wp2_with fail
          go_roundw
          case rel => exact ⟨k + 1, n + m, er, S3, A4, c4, out ++ ro, r2, by rw [HXS.out], rfl, rfl, by go_num, by omega, hnm, HNM, HP4, HRN2, HS3, HD4, HO4, HB4⟩
          case measure => simp [intOf]; omega
        · have hfo := HR.out.step_off hf x
          have HRN := Lib.hid (show RunC (l0.take (k + 1)).flatten r out fd by rw [HNX.out]; exact hfo.2)
          have tf : ((fd : Int) != 0) = true := by rw [bne_iff_ne]; omega
          have nf : ¬ (fd : Int) = 0 := by omega
          rw [hfo.1] at HPF
          clear hfo HR HNX HXL hf
          go_wp2_with fail
          refine HPF.out.mono ?_
          rintro e w3 ⟨A3, c3, S3, rfl, r3, n3, a3, p3, hs3, k3⟩
          have HS3 := Lib.hid (show ∀ j, S3 j → w.heap.size ≤ j from fun j hj => by
            rcases hs3 j hj with h | h
            · exact HSJ.out j h
            · exact Nat.le_trans HB.out.size h)
          have HO3 := Lib.hid (own_keepB HO.out k3 HD.out)
          have HD3 := Lib.hid (show ∀ c, (Value.slice A' n c').ownBlock = some c → ¬ S3 c from fun c hc hs => by
            rcases hs3 c hs with h | h
            · exact HD.out c hc h
            · have := (own_blk_lt HO.out c hc).2
              omega)
          have HP3 := Lib.hid (show PRd w3 S3 g r from p3)
          have HB3 := Lib.hid (k3.below HB.out HSJ.out)
          clear r3 n3 a3 p3 hs3 k3 HPF HSJ HD HO HB cx
          go_wp2_with fail
          go_roundw
          case rel => exact ⟨k + 1, n, fd, S3, A', c', out, r, by rw [HXS.out], rfl, rfl, by go_num, by omega, hn9, HNO, HP3, HRN, HS3, HD3, HO3, HB3⟩
          case measure => simp [intOf]; omega
      · obtain rfl : k = q := by omega
        have dlt : decide ((k : Int) < (k : Int)) = false := by simp
        have nlt : ¬ (k : Int) < (k : Int) := by omega
        have htk := HTT.out k
        obtain ⟨X, hX⟩ : ∃ X, X = (l0.take k).flatten := ⟨_, rfl⟩
        rw [← hX] at HR htk ⊢
        have hxl : X.length ≤ 9000 := by have := HLE.out.2; omega
        have hrl : r.S.length ≤ 9000 := by have := HR.out.len; omega
        have HRD := Lib.hid (fun (W : World) => pread9_any X W (by omega))
        clear hX htk hxl
        generalize str X = SX at *
        by_cases hf : fd = 0
        · subst hf
          have HPC := Lib.hid (pclose9_any g S' r wr HP.out (by omega) HR.out.ok)
          have hro := HR.out.read_on
          have HRO := Lib.hid hro.2
          have hcl := hro.1
          have HL9 := Lib.hid hrl
          clear hrl hro HP
          go_wp2_with fail
          refine HPC.out.mono ?_
          rintro e w3 ⟨S3, rfl, p3, hs3, k3⟩
          have HO3 := Lib.hid (own_keepB HO.out k3 HD.out)
          have HB3 := Lib.hid (k3.below HB.out HSJ.out)
          clear p3 hs3 k3 HPC HSJ HD HO HB
          generalize readC X = R at *
          obtain ⟨R, er, ps⟩ := R
          simp only at hcl HRO
          rw [← hcl] at HRO ⊢
          clear hcl
          go_wp2_with fail
          refine (HRD.out _).mono ?_
          rintro e w4 ⟨A4, c4, rfl, r4, n4, b4⟩
          have r4' : RowL ERec w4 A4 R := r4
          have HB4 := Lib.hid (HB3.out.trans (b4.mono HB3.out.size))
          have HO4 := Lib.hid (own_kept HO3.out b4 (Nat.le_refl _))
          have HR4 := Lib.hid r4'
          clear r4 r4' n4 b4 HRD HB3 HO3
          have tee : ((er : Int) == (er : Int)) = true := beq_self_eq_true _
          by_cases he : er = 0
          · subst he
            obtain rfl : R = out := HRO.out rfl
            have hno := HNO.out
            have HSM := Lib.hid (rsame9_any A' A4 c' c4 R w4 (rowl_of_own (E := ERec) HO4.out hno) HR4.out (by omega))
            rw [← hno] at HSM
            rw [← hno]
            clear hno HRO HNO HO4 HR4
            go_wp2_with fail
            refine HSM.out.mono ?_
            rintro e w5 ⟨rfl, b5⟩
            have HB5 := Lib.hid (HB4.out.trans (b5.mono HB4.out.size))
            clear b5 HB4 HSM
            go_wp2_with fail
            go_ret
            exact ⟨rfl, HB5.out⟩
          · have te : ((er : Int) != 0) = true := by rw [bne_iff_ne]; omega
            have ne : ¬ (er : Int) = 0 := by omega
            clear he HRO HNO HO4 HR4
            go_wp2_with fail
            go_ret
            exact ⟨rfl, HB4.out⟩
        · have hre := HR.out.read_err hf
          have tf : ((fd : Int) == 0) = false := by rw [beq_eq_false_iff_ne]; omega
          have tf2 : ((fd : Int) != 0) = true := by rw [bne_iff_ne]; omega
          have nf : ¬ (fd : Int) = 0 := by omega
          have tee : ((fd : Int) == (fd : Int)) = true := beq_self_eq_true _
          generalize readC X = R at *
          obtain ⟨R, er, ps⟩ := R
          simp only at hre
          subst hre
          clear hrl hf
          go_wp2_with fail
          refine (HRD.out _).mono ?_
          rintro e w4 ⟨A4, c4, rfl, r4, n4, b4⟩
          have HB4 := Lib.hid (HB.out.trans (b4.mono HB.out.size))
          clear r4 n4 b4 HRD HB
          go_wp2_with fail
          go_ret
          exact ⟨rfl, HB4.out⟩
  · clear HLB HP1 HSX
    go_wp2_with fail
    go_ret
    exact ⟨rfl, HB1.out⟩

set_option maxRecDepth 100000 in
theorem lifted (os : Os) (started : os.Started) (H : Type) (enc : TypeId × Value → H) :
    ReturnsInHanded {} Try.checked os 8 .any (Rows.captureStreamsSpec.pre6 enc Try.prog Try.f8 Rows.captureStreamsRow.domain false) (Rows.captureStreamsSpec.post enc Try.prog Try.f8 false true false false) := by
  refine returnsInHanded_of_change (C := Try.checked) own started (by kernel_rfl) Try.func8
    (ChangeSpec.witness6 (enc := enc) (C := Try.checked) false ⟨#[], #[.slice none 0 0], []⟩ 8 (by kernel_rfl) (by kernel_rfl) (by kernel_rfl) (by kernel_rfl)) ?_
  intro W base args ds gs before hval0 hW hcnd _
  have hval : ∀ (j : Nat) t v, Try.f8.params[j]? = some t → args[j]? = some v → Value.okWide Try.prog W .any base t v := hval0
  have hW' := hW
  obtain ⟨p, q, hA0, hV, rfl, hfz, hnd⟩ := hW
  have hA : DataW.TrodAll enc Try.prog W 0 (fun _ => true) true Try.f8.params.toList args.toList ds p := hA0
  rw [Try.params8] at hA hval
  obtain ⟨v0, vs0, d0, ds0, p0, q0, hargs, rfl, rfl, h0, r0⟩ := trodAll_cons hA
  obtain ⟨rfl, rfl, rfl⟩ := trodAll_nil r0
  obtain rfl : args = #[v0] := by cases args; simp_all
  obtain ⟨rfl, rfl⟩ := trodVars_none hV
  obtain ⟨a0, len0, cap0, rfl⟩ := okWide_slice Try.underlying36 (hval 0 36 v0 rfl rfl)
  have k0 := h0
  have lt0 : ∀ x ∈ p0, x.block < W.heap.size := by obtain ⟨m, hm⟩ := k0; exact DataW.trod_lt m _ _ _ hm
  obtain ⟨l0, s0, e0, n0, m0, f0⟩ := in_strs9 h0
  subst e0
  clear hA0 hval0
  refine (walk a0 cap0 l0 W s0 n0 m0 f0).mono fun e W' ⟨he, bel⟩ => ?_
  subst he
  exact ⟨_, rfl, _, _, _, [], _, [], hW', trodAll_mk1 (shut_bool Try.underlying4 _), (trodAll_cons_mk (Below.trod laidOut (by kernel_rfl) (of_decide_eq_true (by kernel_rfl)) k0 bel lt0) trodAll_mk0), rfl, bel.frame _, fun h => by cases h⟩

theorem over : Rows.captureStreamsRow.holds Try.pinned (OpenSpec.ofChange Rows.captureStreamsSpec) :=
  OpenClaim.holds_of_wide 8 Try.f8 rfl rfl rfl rfl rfl rfl rfl ⟨rfl, rfl, rfl, rfl, rfl⟩ rfl rfl rfl rfl rfl (by kernel_rfl) Try.func8 (by kernel_rfl)
    (of_decide_eq_true (by kernel_rfl)) (by unfold Func.isWrapper; first | (rw [if_pos (by decide +kernel)]; kernel_rfl) | (rw [if_neg (by decide +kernel)]; exact ⟨rfl, rfl⟩))
    (fun os started H enc _ => lifted os started H enc)

theorem proved : Rows.CaptureStreamsSaid := over
#print axioms proved
end Go.Proofs.Ytnckcdngmffahaa.captureStreams
