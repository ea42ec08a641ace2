/- Contracts of the functions, part 30: OvPTake. -/
import Derived.Test.YtafpmlikocchpaaPA27
import Derived.Test.YtafpmlikocchpaaPA29
/- Contract of the program of layer 15: Take. -/
namespace Go.Proofs.Ytafpmlikocchpaa
open Go.ChangeShapes Go.WideShapes Go.ChangeAt Go.RowKit
set_option linter.unusedVariables false
set_option maxRecDepth 100000

/-- Bytes and a list that come back. -/
def PTk (w : World) (S : List UInt8) (R : List PcR) (e : Ending) (w' : World) : Prop :=
  ∃ A c, e = .returned (.tuple #[.string (str S), .slice A R.length c]) ∧ RowL EPc w' A R ∧ (A = none → c = 0) ∧ Below w.heap.size w w'
set_option maxHeartbeats 16000000 in
theorem ptake15_any (l : List PcR) (A : Option Addr) (c : Nat) (a : Int) (w : World) (h : RowL EPc w A l) (hl : l.length ≤ 100000) (hv : vldL l) (hz : sizeL l ≤ 1000000000) (ha : (Lit.int .i64 a).wf = true) :
    Calls Try.prog 19 #[.slice A l.length c, .int .i64 a] w (PTk w (takL l a) (cutL l (a + (takL l a).length))) := by
  obtain ⟨TT, hTT⟩ : ∃ T, T = takL l a := ⟨_, rfl⟩
  obtain ⟨RR, hRR⟩ : ∃ R, R = cutL l (a + TT.length) := ⟨_, rfl⟩
  rw [← hTT, ← hRR]
  have HCU := Lib.hid (pcut15_any l A c a w h hl hv ha)
  obtain ⟨Q, hQ⟩ : ∃ Q, Q = cutL l a := ⟨_, rfl⟩
  rw [← hQ] at HCU
  have HTT := Lib.hid (show takL Q a = TT by rw [hTT, hQ]; exact tak_cut hv a)
  have HRR := Lib.hid (show cutL Q (a + TT.length) = RR by rw [hRR, hQ]; exact cut_cut l hv (by omega))
  have HVQ := Lib.hid (show vldF a Q by rw [hQ]; exact vldF_mono (by omega) (cutL_vld hv a))
  have HQL := Lib.hid (show Q.length ≤ 100000 by rw [hQ]; exact Nat.le_trans (List.length_filterMap_le _ _) hl)
  have HSZ := Lib.hid (show sizeL Q ≤ 1000000000 by
    rw [hQ, ← cels_len, cels_cut]
    refine Nat.le_trans (List.length_filter_le _ _) ?_
    rw [cels_len]
    exact hz)
  obtain ⟨n0, hn0⟩ : ∃ n, n = l.length := ⟨_, rfl⟩
  rw [← hn0] at HCU ⊢
  clear h hl hv hz ha hTT hRR hQ hn0
  go_enter Try.func19, Try.ntmps19
  go_wp2_with fail
  refine HCU.out.mono ?_
  rintro en w1 ⟨A1, c1, rfl, h1, h2, h3, h5, h4⟩
  have HS := Lib.hid h1
  have HN0 := Lib.hid h2
  have HB1 := Lib.hid h4
  obtain ⟨m, hm⟩ : ∃ m, m = Q.length := ⟨_, rfl⟩
  rw [← hm] at h3
  have hmc := h3
  have hmb : m ≤ 100000 := by rw [hm]; exact HQL.out
  have HQN := Lib.hid hm
  rw [← hm]
  clear h1 h2 h3 h4 hm HCU
  rcases h5 with rfl | ⟨g, o, rfl⟩
  · clear HS
    have hc0 : c1 = 0 := HN0.out rfl
    subst hc0
    have hm0 : m = 0 := by omega
    subst hm0
    have HQ0 := Lib.hid (List.eq_nil_of_length_eq_zero HQN.out.symm)
    have HTJ := Lib.hid (TakJ.start HVQ.out)
    have HB := Lib.hid (Below.refl w1.heap.size w1)
    have HDA := Lib.hid (fun (W : World) => show Calls Try.prog 37 #[.slice none 0 0] W fun en w' => en = .returned (.string (str [])) ∧ Below W.heap.size W w' from pdata15 [] none 0 W (RowL.nil _ _) (by decide) (by decide))
    have HFT := Lib.hid (show TT = [] ∧ RR = [] by
      have h1 := HTJ.out.stop HVQ.out (fun x hx => by rw [HQ0.out] at hx; cases hx)
      have e1 : TT = [] := by rw [← HTT.out, h1.1]; rfl
      refine ⟨e1, ?_⟩
      rw [← HRR.out, ← HTT.out, h1.2, HQ0.out]
      rfl)
    go_wp2_with fail
    go_loopw [1, 7] (fun s1 s7 wr => s1 = .int .i64 a ∧ s7 = .int .i64 0 ∧ Hid (Below w1.heap.size w1 wr)) (fun _ _ _ => 0)
    case atStart => exact ⟨rfl, rfl, HB⟩
    case round =>
      clear HB
      obtain ⟨rfl, rfl, HB⟩ := hrel
      have dlt : decide ((0 : Int) < (0 : Int)) = false := by decide
      go_upto_region 6 with fail
      refine wp_region_pick (fun w' => Below wr.heap.size wr w') (by kernel_rfl) (by kernel_rfl) (Below.refl _ _) ⟨rfl, rfl, rfl, Nat.le_refl _, fun _ _ => rfl⟩ (fun pw hp hq => ?_)
      have HP := Lib.hid hp
      have HQ9 := Lib.hid hq
      clear hp hq
      repeat (go_big_quiet_step ((with_reducible exact Calls.pick_of HQ9.out (fun W' hb => (HP.out _).trans (hb.mono (HP.out _).size)) (HDA.out _))))
      refine wpQuiet_nil ?_
      rintro _ ⟨u9, rfl⟩
      have HB2 := Lib.hid (HB.out.trans ((HP.out u9).mono HB.out.size))
      generalize pw u9 = wz at *
      clear HP HQ9 HB HDA
      go_wp2_with fail
      go_ret2
      rw [HFT.out.1, HFT.out.2]
      exact ⟨none, 0, rfl, RowL.nil _ _, fun _ => rfl, HB1.out.trans (HB2.out.mono HB1.out.size)⟩
  · clear HN0
    have HTJ0 := Lib.hid (TakJ.start HVQ.out)
    have HB0 := Lib.hid (Below.refl w1.heap.size w1)
    go_wp2_with fail
    go_loopw [1, 7] (fun s1 s7 wr => ∃ (q : Int) (n : Nat), s1 = .int .i64 q ∧ s7 = .int .i64 (n : Int) ∧ n ≤ m ∧ Hid (TakJ Q a n q) ∧ Hid (Below w1.heap.size w1 wr)) (fun _ s7 _ => m - (intOf s7).toNat)
    case atStart => exact ⟨a, 0, rfl, rfl, Nat.zero_le _, HTJ0, HB0⟩
    case round =>
      clear HTJ0 HB0
      obtain ⟨q, n, rfl, rfl, hnm, HTJ, HB⟩ := hrel
      have hni0 : (0 : Int) ≤ (n : Int) := by omega
      have hnmi : (n : Int) ≤ (m : Int) := by omega
      have hnc : n ≤ c1 := by omega
      have hnci : (n : Int) ≤ (c1 : Int) := by omega
      by_cases hlt : n < m
      · have dlt : decide ((n : Int) < (m : Int)) = true := by simp; omega
        have hlti : (n : Int) < (m : Int) := by omega
        obtain ⟨x, hget⟩ : ∃ x, Q[n]? = some x := ⟨Q[n]'(by have := HQN.out; omega), List.getElem?_eq_getElem _⟩
        obtain ⟨a0, a1, a2, a3⟩ := pc_at HS.out hget HB.out
        obtain ⟨v1, v2, v3, v4, v5⟩ := vldF_mem HVQ.out x (List.mem_of_getElem? hget)
        by_cases hq : x.at_ = q
        · have HTN := Lib.hid (HTJ.out.next HVQ.out hget hq)
          obtain ⟨D, hD⟩ : ∃ D, D = str x.dat := ⟨_, rfl⟩
          have hDs : D.size = x.dat.length := by rw [hD, str_size]
          rw [← hD] at a1
          obtain ⟨z, hz⟩ : ∃ z, z = x.at_ + (D.size : Int) := ⟨_, rfl⟩
          have wz : IntKind.i64.wrap z = z := by rw [IntKind.wrap_i64]; omega
          have HEND := Lib.hid (fun W => pend15 x.at_ x.fr x.to_ z D W hz.symm wz)
          rw [show endQ x = z by unfold endQ; rw [hz, hDs]] at HTN
          rw [hq] at a0 HEND
          have de : (q == q) = true := by simp
          clear hget v1 v2 v3 v4 v5 hq hD hDs hz HTJ
          generalize x.fr = xf at *
          generalize x.to_ = xt at *
          go_wp2_with fail
          refine (HEND.out _).mono ?_
          rintro en w2 ⟨rfl, hb2⟩
          have HB2 := Lib.hid (HB.out.trans (hb2.mono HB.out.size))
          clear hb2 HB a0 a1 a2 a3
          go_wp2_with fail
          go_roundw
          case rel => exact ⟨z, n + 1, rfl, by go_num, by omega, HTN, HB2⟩
          case measure => simp [intOf]; omega
        · have de : (x.at_ == q) = false := by simpa using hq
          have HST := Lib.hid (HTJ.out.stop HVQ.out (fun z hz => by rw [hget] at hz; obtain rfl := Option.some.inj hz; exact hq))
          have HFT := Lib.hid (show datL (Q.take n) = TT ∧ RR = Q.drop n by
            have h1 := HST.out
            rw [HTT.out] at h1
            exact ⟨h1.1.symm, by rw [← HRR.out]; exact h1.2⟩)
          have HDAT := Lib.hid (fun (W : World) (hbW : Below wr.heap.size wr W) => show Calls Try.prog 37 #[.slice (some ⟨g, o, none⟩) n c1] W fun en w' => en = .returned (.string (str TT)) ∧ Below W.heap.size W w' from by
            have h1 := pdata15 (Q.take n) (some ⟨g, o, none⟩) c1 W (rowP_take (HS.out.kept (HB.out.trans (hbW.mono HB.out.size))) n) (by rw [List.length_take]; have := HQL.out; omega) (Nat.le_trans (sizeL_take Q n) HSZ.out)
            rw [List.length_take, show min n Q.length = n by have := HQN.out; omega, HFT.out.1] at h1
            exact h1)
          have HRW := Lib.hid (show RowL EPc w1 (some ⟨g, o + n * 4, none⟩) RR ∧ m - n = RR.length from by
            rw [HFT.out.2]
            exact ⟨rowP_drop HS.out n, by rw [List.length_drop]; have := HQN.out; omega⟩)
          clear HST HTJ v1 v2 v3 v4 v5
          have hcn2 : n < c1 := by omega
          go_upto_region 6 with fail
          refine wp_region_pick (fun w' => Below wr.heap.size wr w') (by kernel_rfl) (by kernel_rfl) (Below.refl _ _) ⟨rfl, rfl, rfl, Nat.le_refl _, fun _ _ => rfl⟩ (fun pw hp hq => ?_)
          have HP := Lib.hid hp
          have HQ9 := Lib.hid hq
          clear hp hq
          repeat (go_big_quiet_step ((with_reducible exact Calls.pick_of HQ9.out (fun W' hb => (HP.out _).trans (hb.mono (HP.out _).size)) (HDAT.out _ (HP.out _)))))
          refine wpQuiet_nil ?_
          rintro _ ⟨u9, rfl⟩
          have HB2 := Lib.hid (HB.out.trans ((HP.out u9).mono HB.out.size))
          generalize pw u9 = wz at *
          clear HP HQ9 HB HDAT
          go_wp2_with fail
          go_ret2
          exact ⟨some ⟨g, o + n * 4, none⟩, c1 - n, by rw [← HRW.out.2]; rfl, HRW.out.1.kept HB2.out, (fun h => by cases h), HB1.out.trans (HB2.out.mono HB1.out.size)⟩

      · have dlt : decide ((n : Int) < (m : Int)) = false := by simp; omega
        have nlti : ¬ (n : Int) < (m : Int) := by omega
        have HST := Lib.hid (HTJ.out.stop HVQ.out (fun z hz => by obtain ⟨h8, -⟩ := List.getElem?_eq_some_iff.1 hz; have := HQN.out; omega))
        have HFT := Lib.hid (show datL (Q.take n) = TT ∧ RR = Q.drop n by
          have h1 := HST.out
          rw [HTT.out] at h1
          exact ⟨h1.1.symm, by rw [← HRR.out]; exact h1.2⟩)
        have HDAT := Lib.hid (fun (W : World) (hbW : Below wr.heap.size wr W) => show Calls Try.prog 37 #[.slice (some ⟨g, o, none⟩) n c1] W fun en w' => en = .returned (.string (str TT)) ∧ Below W.heap.size W w' from by
          have h1 := pdata15 (Q.take n) (some ⟨g, o, none⟩) c1 W (rowP_take (HS.out.kept (HB.out.trans (hbW.mono HB.out.size))) n) (by rw [List.length_take]; have := HQL.out; omega) (Nat.le_trans (sizeL_take Q n) HSZ.out)
          rw [List.length_take, show min n Q.length = n by have := HQN.out; omega, HFT.out.1] at h1
          exact h1)
        have HRW := Lib.hid (show RowL EPc w1 (some ⟨g, o + n * 4, none⟩) RR ∧ m - n = RR.length from by
          rw [HFT.out.2]
          exact ⟨rowP_drop HS.out n, by rw [List.length_drop]; have := HQN.out; omega⟩)
        clear HST HTJ
        by_cases hcn : n = c1
        · have HRE := Lib.hid (show RR = [] by
            have h1 := HRW.out.2
            exact List.eq_nil_of_length_eq_zero (by omega))
          have hcz : c1 - n = 0 := by omega
          have hczi : (c1 : Int) - (n : Int) = 0 := by omega
          have hmz : m - n = 0 := by omega
          clear hcn
          go_upto_region 6 with fail
          refine wp_region_pick (fun w' => Below wr.heap.size wr w') (by kernel_rfl) (by kernel_rfl) (Below.refl _ _) ⟨rfl, rfl, rfl, Nat.le_refl _, fun _ _ => rfl⟩ (fun pw hp hq => ?_)
          have HP := Lib.hid hp
          have HQ9 := Lib.hid hq
          clear hp hq
          repeat (go_big_quiet_step ((with_reducible exact Calls.pick_of HQ9.out (fun W' hb => (HP.out _).trans (hb.mono (HP.out _).size)) (HDAT.out _ (HP.out _)))))
          refine wpQuiet_nil ?_
          rintro _ ⟨u9, rfl⟩
          have HB2 := Lib.hid (HB.out.trans ((HP.out u9).mono HB.out.size))
          generalize pw u9 = wz at *
          clear HP HQ9 HB HDAT
          go_wp2_with fail
          go_ret2
          rw [HRE.out]
          exact ⟨some ⟨g, o, none⟩, 0, rfl, RowL.nil _ _, (fun h => by cases h), HB1.out.trans (HB2.out.mono HB1.out.size)⟩
        · have hcn2 : n < c1 := by omega
          go_upto_region 6 with fail
          refine wp_region_pick (fun w' => Below wr.heap.size wr w') (by kernel_rfl) (by kernel_rfl) (Below.refl _ _) ⟨rfl, rfl, rfl, Nat.le_refl _, fun _ _ => rfl⟩ (fun pw hp hq => ?_)
          have HP := Lib.hid hp
          have HQ9 := Lib.hid hq
          clear hp hq
          repeat (go_big_quiet_step ((with_reducible exact Calls.pick_of HQ9.out (fun W' hb => (HP.out _).trans (hb.mono (HP.out _).size)) (HDAT.out _ (HP.out _)))))
          refine wpQuiet_nil ?_
          rintro _ ⟨u9, rfl⟩
          have HB2 := Lib.hid (HB.out.trans ((HP.out u9).mono HB.out.size))
          generalize pw u9 = wz at *
          clear HP HQ9 HB HDAT
          go_wp2_with fail
          go_ret2
          exact ⟨some ⟨g, o + n * 4, none⟩, c1 - n, by rw [← HRW.out.2]; rfl, HRW.out.1.kept HB2.out, (fun h => by cases h), HB1.out.trans (HB2.out.mono HB1.out.size)⟩

end Go.Proofs.Ytafpmlikocchpaa
