/- CaptureFeeds holds: for every list of pieces the law about a Reader beside the reference returns true and leaves memory as it was; no conditions. -/
import Derived.Test.YtnckcdngmffahaaRows
import Derived.Test.YtnckcdngmffahaaChecked
import Derived.Test.YtnckcdngmffahaaCA5
namespace Go.Proofs.Ytnckcdngmffahaa.captureFeeds
open Go.ChangeShapes Go.WideShapes Go.ChangeAt Go.RowKit
open Go.ChangeMaps (open_string shut_string)
set_option linter.unusedVariables false

theorem own : ownKnob Try.prog.godebug = none := by kernel_rfl
theorem laidOut : laidOutB Try.prog = true := by kernel_rfl
set_option maxHeartbeats 4000000 in
set_option maxRecDepth 20000 in
theorem walk (A0 : Option Addr) (c0 : Nat) (l0 : List (List UInt8)) (w : World) (s0 : RowL ESt9 w A0 l0) (n0 : A0 = none → c0 = 0) (m0 : l0.length ≤ maxLen) (f0 : ∀ r ∈ l0, r.length ≤ maxLen) :
    Calls Try.prog 7 #[.slice A0 l0.length c0] w fun e w' => e = .returned (.bool true) ∧ Below w.heap.size w w' := by
  have HLG := Lib.hid (fun (W : World) (hb : Below w.heap.size w W) => long9_any A0 c0 l0 W (s0.kept hb) (by unfold maxLen at m0; omega) (fun x hx => by have := f0 x hx; unfold maxLen at this; omega))
  have HS0 := Lib.hid s0
  have HOK := Lib.hid (stC_ok l0)
  have HTT := Lib.hid (fun k => tot_take (l := l0) k)
  clear s0 n0 m0 f0
  obtain ⟨q, hq⟩ : ∃ q, q = l0.length := ⟨_, rfl⟩
  rw [← hq] at HLG ⊢
  have HQ := Lib.hid hq
  clear hq
  go_enter Try.func7, Try.ntmps7
  go_wp2_with fail
  refine (pnew9_any w).mono ?_
  rintro e w1 ⟨g, S, rfl, hp1, hS1, b1⟩
  obtain ⟨W1, hW1⟩ : ∃ W, W = w1.alloc (.cells #[.string ⟨#[]⟩, .int .i64 0, .bool false, .bool false, .int .i64 0, .int .i64 0, .bool false] 41) := ⟨_, rfl⟩
  obtain ⟨gx, hgx⟩ : ∃ gx, gx = w1.heap.size := ⟨_, rfl⟩
  have hb0 : Below w1.heap.size w1 W1 := by rw [hW1]; exact below_alloc6 w1 _
  have HP1 := Lib.hid (show PRd W1 S g newC from hp1.kept hb0.size (fun k hk => hb0.block k (hp1.lt k hk)))
  have HM1 := Lib.hid (show RdM W1 gx newC from ⟨false, by rw [hW1, hgx]; exact heap_alloc_new w1 _⟩)
  have HB1 := Lib.hid (show Below w.heap.size w W1 from b1.trans (hb0.mono b1.size))
  have HGX := Lib.hid (show w.heap.size ≤ gx by rw [hgx]; exact b1.size)
  have HSX := Lib.hid (show ∀ j, S j → w.heap.size ≤ j ∧ j ≠ gx from fun j hj => ⟨hS1 j hj, fun e => by have := hp1.lt j hj; omega⟩)
  clear hp1 hS1 b1 hb0
  go_wp2_with fail
  rw [← hW1, ← hgx]
  clear hW1 hgx
  refine (HLG.out _ HB1.out).mono ?_
  rintro e w2 ⟨bb, rfl, hw2, HLB⟩
  subst hw2
  clear HLG
  cases bb
  · have HLE := Lib.hid (HLB rfl)
    have hq40 : q ≤ 40 := by have := (HLB rfl).1; have := HQ.out; omega
    clear HLB
    go_wp2_with fail
    go_loopw [5] (fun v5 wr => ∃ (k : Nat) (S' : Nat → Prop), v5 = .int .i64 k ∧ k ≤ q ∧ Hid (PRd wr S' g (stC (l0.take k))) ∧ Hid (RdM wr gx (stC (l0.take k))) ∧ Hid (∀ j, S' j → w.heap.size ≤ j ∧ j ≠ gx) ∧ Hid (Below w.heap.size w wr) ∧ Hid (gx < wr.heap.size)) (fun v5 _ => q - (intOf v5).toNat)
    case atStart => exact ⟨0, S, rfl, Nat.zero_le _, HP1, HM1, HSX, HB1, Lib.hid HM1.out.lt⟩
    case round =>
      clear HP1 HM1 HSX HB1
      obtain ⟨k, S', rfl, hk, HP, HM, HSJ, HB, HGL⟩ := hrel
      have hk0 : (0 : Int) ≤ (k : Int) := by omega
      by_cases hlt : k < q
      · have hki : (k : Int) < (q : Int) := by omega
        have dlt : decide ((k : Int) < (q : Int)) = true := by simp; omega
        obtain ⟨x, hget⟩ : ∃ x, l0[k]? = some x := ⟨l0[k]'(by have := HQ.out; omega), List.getElem?_eq_getElem _⟩
        obtain ⟨ga, oa, rfl, hga, -⟩ := HS0.out (by have := HQ.out; omega)
        have c0 := st_at9 HS0.out hget HB.out
        have HXC := Lib.hid (fun (W : World) (hb : Below w.heap.size w W) => st_at9 HS0.out hget hb)
        obtain ⟨r, hr⟩ : ∃ r, r = stC (l0.take k) := ⟨_, rfl⟩
        rw [← hr] at HP HM
        have hok := HOK.out k
        have hok1 := HOK.out (k + 1)
        rw [tot_next hget, List.length_append] at hok1
        have htk := HTT.out (k + 1)
        rw [tot_next hget, List.length_append] at htk
        rw [← hr] at hok
        have hlen : r.S.length + x.length ≤ 9000 := by have := HLE.out.2; omega
        have HNX := Lib.hid (show stC (l0.take (k + 1)) = (feedC r x).2.2 by rw [stC_next hget, ← hr])
        have HFL := Lib.hid (show (feedC r x).1.length ≤ 1000000 by have := feed_len r x; omega)
        have HPF := Lib.hid (pfeed9_any g S' r x wr HP.out (by omega) hok.1)
        have HRF := Lib.hid (fun (W : World) (h : RdM W gx r) => (rfeed9_any gx r x W h (by omega) hok.1).mono fun _ _ h => h.q)
        clear hget hr hok hok1 htk hlen HP
        obtain ⟨D, hD⟩ : ∃ D, D = str x := ⟨_, rfl⟩
        rw [← hD] at c0 HXC HPF HRF
        clear hD
        generalize feedC r x = F at *
        obtain ⟨out, er, r2⟩ := F
        simp only at HNX HFL
        go_wp2_with fail
        refine HPF.out.mono ?_
        rintro e w3 ⟨A3, c3, S3, rfl, r3, n3, a3, p3, hs3, k3⟩
        have hB3 := k3.below HB.out (fun j hj => (HSJ.out j hj).1)
        have HM3 := Lib.hid (HM.out.keep k3 (fun hh => (HSJ.out gx hh).2 rfl))
        have HS3 := Lib.hid (show ∀ j, S3 j → w.heap.size ≤ j ∧ j ≠ gx from fun j hj => by
          rcases hs3 j hj with h | h
          · exact HSJ.out j h
          · have h1 := HGL.out
            have h2 := HB.out.size
            exact ⟨by omega, by omega⟩)
        have HA3 := Lib.hid (show ∀ a, A3 = some a → a.block ≠ gx from fun a ha => by
          rcases a3 a ha with h | h
          · exact (HS3.out _ h).2
          · have h1 := HGL.out
            omega)
        have HR3 := Lib.hid r3
        have HP3 := Lib.hid p3
        have HB3 := Lib.hid hB3
        have HGL3 := Lib.hid (show gx < w3.heap.size by have := HGL.out; have := k3.size; omega)
        clear r3 n3 a3 p3 hs3 k3 hB3 HPF HM HSJ HGL c0 HB
        have c0 := HXC.out _ HB3.out
        go_wp2_with fail
        refine (HRF.out _ HM3.out).mono ?_
        rintro e w4 ⟨A4, c4, rfl, r4, n4, m4, k4⟩
        have hB4 := k4.below HB3.out (fun j hj => by rw [hj]; exact HGX.out)
        have hr34 := HR3.out.keep k4 (fun a ha => HA3.out a ha)
        have HSM := Lib.hid (rsame9_any A3 A4 c3 c4 out w4 hr34 r4 HFL.out)
        have HP4 := Lib.hid (show PRd w4 S3 g r2 from HP3.out.kept k4.size (fun j hj => k4.block j (HP3.out.lt j hj) (HS3.out j hj).2))
        have HM4 := Lib.hid m4
        have HB4 := Lib.hid hB4
        have HGL4 := Lib.hid (show gx < w4.heap.size by have := HGL3.out; have := k4.size; omega)
        clear r4 n4 m4 k4 hB4 hr34 HR3 HP3 HB3 HM3 HRF HA3 c0 HGL3
        have he : ((er : Int) != (er : Int)) = false := bne_self_eq_false _
        have hel : out.length = out.length := rfl
        go_wp2_with fail
        refine HSM.out.mono ?_
        rintro e w5 ⟨rfl, b5⟩
        have HP5 := Lib.hid (show PRd w5 S3 g (stC (l0.take (k + 1))) by rw [HNX.out]; exact HP4.out.kept b5.size (fun j hj => b5.block j (HP4.out.lt j hj)))
        have HM5 := Lib.hid (show RdM w5 gx (stC (l0.take (k + 1))) by rw [HNX.out]; exact HM4.out.kept b5)
        have HB5 := Lib.hid (HB4.out.trans (b5.mono HB4.out.size))
        have HGL5 := Lib.hid (show gx < w5.heap.size by have := HGL4.out; have := b5.size; omega)
        clear b5 HP4 HM4 HB4 HSM HNX HFL HGL4
        go_wp2_with fail
        go_roundw
        case rel => exact ⟨k + 1, S3, by go_num, by omega, HP5, HM5, HS3, HB5, HGL5⟩
        case measure => simp [intOf]; omega
      · obtain rfl : k = q := by omega
        have dlt : decide ((k : Int) < (k : Int)) = false := by simp
        have nlt : ¬ (k : Int) < (k : Int) := by omega
        have hok := HOK.out k
        have htk := HTT.out k
        obtain ⟨r, hr⟩ : ∃ r, r = stC (l0.take k) := ⟨_, rfl⟩
        rw [← hr] at HP HM hok
        have hlen : r.S.length ≤ 9000 := by have := HLE.out.2; omega
        have HQ1 := Lib.hid hok.1
        have HLN := Lib.hid hlen
        have HPC := Lib.hid (pclose9_any g S' r wr HP.out (by omega) hok.1)
        clear hr hok htk hlen HP
        go_wp2_with fail
        refine HPC.out.mono ?_
        rintro e w3 ⟨S3, rfl, p3, hs3, k3⟩
        have hB3 := k3.below HB.out (fun j hj => (HSJ.out j hj).1)
        have HM3 := Lib.hid (HM.out.keep k3 (fun hh => (HSJ.out gx hh).2 rfl))
        have HS3 := Lib.hid (show ∀ j, S3 j → w.heap.size ≤ j ∧ j ≠ gx from fun j hj => by
          rcases hs3 j hj with h | h
          · exact HSJ.out j h
          · have h1 := HGL.out
            have h2 := HB.out.size
            exact ⟨by omega, by omega⟩)
        have HP3 := Lib.hid p3
        have HB3 := Lib.hid hB3
        clear p3 hs3 k3 hB3 HPC HM HSJ HB HGL
        have HRC := Lib.hid (rclose9_any gx r w3 HM3.out)
        have he : ((closeC r : Int) != (closeC r : Int)) = false := bne_self_eq_false _
        obtain ⟨C, hC⟩ : ∃ C, C = closeC r := ⟨_, rfl⟩
        rw [← hC] at he HRC ⊢
        clear hC
        go_wp2_with fail
        refine HRC.out.mono ?_
        rintro e w4 ⟨rfl, m4, g4⟩
        have k4 := KeepB.grown g4
        have hB4 := k4.below HB3.out (fun j hj => by rw [hj]; exact HGX.out)
        have HP4 := Lib.hid (show PRd w4 S3 g ⟨r.S, r.q, true⟩ from HP3.out.kept k4.size (fun j hj => k4.block j (HP3.out.lt j hj) (HS3.out j hj).2))
        have HB4 := Lib.hid hB4
        clear m4 g4 k4 hB4 HP3 HB3 HM3 HRC
        obtain ⟨rr, hrr⟩ : ∃ rr : RdC, rr = ⟨r.S, r.q, true⟩ := ⟨_, rfl⟩
        have hqq : QOk rr := by rw [hrr]; exact HQ1.out
        have hll : rr.S.length ≤ 9000 := by rw [hrr]; exact HLN.out
        have hff : feedC rr [] = ([], 10, rr) := feed_ended [] (by rw [hrr])
        have hcc : closeC rr = 10 := by rw [hrr]; rfl
        rw [← hrr] at HP4
        have HPF := Lib.hid (show Calls Try.prog 22 #[.pointer (some ⟨g, 0, none⟩), .string ⟨#[]⟩] w4 (FeedQ PRd w4 S3 g ([], 10, rr)) from by
          have := pfeed9_any g S3 rr [] w4 HP4.out (by simp; omega) hqq
          rw [hff] at this
          exact this)
        have HPC := Lib.hid (fun (W : World) (S : Nat → Prop) (h : PRd W S g rr) => show Calls Try.prog 24 #[.pointer (some ⟨g, 0, none⟩)] W fun e w' => ∃ S', e = .returned (.int .i64 10) ∧ PRd w' S' g ⟨rr.S, rr.q, true⟩ ∧ (∀ k, S' k → S k ∨ W.heap.size ≤ k) ∧ KeepB S W w' from by
          have := pclose9_any g S rr W h (by omega) hqq
          unfold CloseQ at this
          rw [hcc] at this
          exact this)
        clear hrr hqq hll hff hcc HQ1 HLN HP4
        go_wp2_with fail
        refine HPF.out.mono ?_
        rintro e w5 ⟨A5, c5, S5, rfl, r5, n5, a5, p5, hs5, k5⟩
        have hB5 := k5.below HB4.out (fun j hj => (HS3.out j hj).1)
        have HS5 := Lib.hid (show ∀ j, S5 j → w.heap.size ≤ j from fun j hj => by
          rcases hs5 j hj with h | h
          · exact (HS3.out j h).1
          · have h2 := HB4.out.size
            omega)
        have HP5 := Lib.hid p5
        have HB5 := Lib.hid hB5
        clear r5 n5 a5 p5 hs5 k5 hB5 HPF HB4 HS3
        go_wp2_with fail
        refine (HPC.out _ _ HP5.out).mono ?_
        rintro e w6 ⟨S6, rfl, p6, hs6, k6⟩
        have HB6 := Lib.hid (k6.below HB5.out (fun j hj => HS5.out j hj))
        clear p6 hs6 k6 HPC HP5 HB5 HS5
        go_wp2_with fail
        refine (lives_any _).mono ?_
        rintro e w99 ⟨rfl, b99⟩
        go_wp2_with fail
        go_ret
        exact ⟨rfl, HB6.out.trans (b99.mono HB6.out.size)⟩
  · clear HLB HP1 HM1 HGX HSX
    go_wp2_with fail
    refine (lives_any _).mono ?_
    rintro e w99 ⟨rfl, b99⟩
    go_wp2_with fail
    go_ret
    exact ⟨rfl, HB1.out.trans (b99.mono HB1.out.size)⟩

set_option maxRecDepth 100000 in
theorem lifted (os : Os) (started : os.Started) (H : Type) (enc : TypeId × Value → H) :
    ReturnsInHanded {} Try.checked os 7 .any (Rows.captureFeedsSpec.pre6 enc Try.prog Try.f7 Rows.captureFeedsRow.domain false) (Rows.captureFeedsSpec.post enc Try.prog Try.f7 false true false false) := by
  refine returnsInHanded_of_change (C := Try.checked) own started (by kernel_rfl) Try.func7
    (ChangeSpec.witness6 (enc := enc) (C := Try.checked) false ⟨#[], #[.slice none 0 0], []⟩ 8 (by kernel_rfl) (by kernel_rfl) (by kernel_rfl) (by kernel_rfl)) ?_
  intro W base args ds gs before hval0 hW hcnd _
  have hval : ∀ (j : Nat) t v, Try.f7.params[j]? = some t → args[j]? = some v → Value.okWide Try.prog W .any base t v := hval0
  have hW' := hW
  obtain ⟨p, q, hA0, hV, rfl, hfz, hnd⟩ := hW
  have hA : DataW.TrodAll enc Try.prog W 0 (fun _ => true) true Try.f7.params.toList args.toList ds p := hA0
  rw [Try.params7] at hA hval
  obtain ⟨v0, vs0, d0, ds0, p0, q0, hargs, rfl, rfl, h0, r0⟩ := trodAll_cons hA
  obtain ⟨rfl, rfl, rfl⟩ := trodAll_nil r0
  obtain rfl : args = #[v0] := by cases args; simp_all
  obtain ⟨rfl, rfl⟩ := trodVars_none hV
  obtain ⟨a0, len0, cap0, rfl⟩ := okWide_slice Try.underlying36 (hval 0 36 v0 rfl rfl)
  have k0 := h0
  have lt0 : ∀ x ∈ p0, x.block < W.heap.size := by obtain ⟨m, hm⟩ := k0; exact DataW.trod_lt m _ _ _ hm
  obtain ⟨l0, s0, e0, n0, m0, f0⟩ := in_strs9 h0
  subst e0
  clear hA0 hval0
  refine (walk a0 cap0 l0 W s0 n0 m0 f0).mono fun e W' ⟨he, bel⟩ => ?_
  subst he
  exact ⟨_, rfl, _, _, _, [], _, [], hW', trodAll_mk1 (shut_bool Try.underlying4 _), (trodAll_cons_mk (Below.trod laidOut (by kernel_rfl) (of_decide_eq_true (by kernel_rfl)) k0 bel lt0) trodAll_mk0), rfl, bel.frame _, fun h => by cases h⟩

theorem over : Rows.captureFeedsRow.holds Try.pinned (OpenSpec.ofChange Rows.captureFeedsSpec) :=
  OpenClaim.holds_of_wide 7 Try.f7 rfl rfl rfl rfl rfl rfl rfl ⟨rfl, rfl, rfl, rfl, rfl⟩ rfl rfl rfl rfl rfl (by kernel_rfl) Try.func7 (by kernel_rfl)
    (of_decide_eq_true (by kernel_rfl)) (by unfold Func.isWrapper; first | (rw [if_pos (by decide +kernel)]; kernel_rfl) | (rw [if_neg (by decide +kernel)]; exact ⟨rfl, rfl⟩))
    (fun os started H enc _ => lifted os started H enc)

theorem proved : Rows.CaptureFeedsSaid := over
#print axioms proved
end Go.Proofs.Ytnckcdngmffahaa.captureFeeds
