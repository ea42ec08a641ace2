/- Contracts of the functions, part 8: SetRCon, SetRInt, SetRMin. -/
import Derived.Deep.RegionHeld3
import Derived.Test.YtmcelgnifpfjpaaAOp3
import Derived.Test.YtmcelgnifpfjpaaAOp4
import Derived.Test.YtmcelgnifpfjpaaAOp6
import Derived.Test.YtmcelgnifpfjpaaAOp7
/- Contract of the reference of layer 7: Contains. -/
namespace Go.Proofs.Ytmcelgnifpfjpaa
open Go.ChangeShapes Go.WideShapes Go.ChangeAt Go.RowKit
set_option linter.unusedVariables false

/-- Does a list contain an address? -/
def hasA (l : List Rg) (a : Ad) : Bool := vA a && anyS (spnL l) (kA a)
theorem inS_tests {x : Rg} {a : Ad} : inS (spn x) (kA a) = (!decide (kA a < kA x.lo) && !decide (kA x.hi < kA a)) := by
  rw [Bool.eq_iff_iff, inS_iff]
  simp [spn]
theorem inS_v {x : Rg} {a : Ad} (hx : x.fits) (ha : a.fits) (hs : someR x = true) (h : inS (spn x) (kA a) = true) : x.lo.v = a.v := by
  rw [inS_iff] at h
  exact (between_v hx.1 ha hx.2 (someR_iff.1 hs).2.2.1 h.1 h.2).symm
set_option maxHeartbeats 4000000 in
set_option maxRecDepth 20000 in
theorem rcontains_any (A : Option Addr) (cap : Nat) (l : List Rg) (va : Bool) (ha la : Nat) (w : World) (h : RowL ER w A l) (hf : ∀ r ∈ l, r.fits) (fa : (⟨va, ha, la⟩ : Ad).fits) (hl : l.length ≤ 100000) :
    Calls Try.prog 16 #[.slice A l.length cap, .agg #[.bool va, .int .u64 ha, .int .u64 la]] w fun e w' => e = .returned (.bool (hasA l ⟨va, ha, la⟩)) ∧ Below w.heap.size w w' := by
  obtain ⟨N, hN⟩ : ∃ n, n = l.length := ⟨_, rfl⟩
  have hn6 : N ≤ 100000 := by omega
  obtain ⟨B, hB⟩ : ∃ B, B = hasA l ⟨va, ha, la⟩ := ⟨_, rfl⟩
  rw [← hN, ← hB]
  have H := Lib.hid h
  have HF := Lib.hid hf
  have HN := Lib.hid hN
  have HR := Lib.hid hB
  have HFA := Lib.hid fa
  have HV := Lib.hid (fun W => rfine_any va ha la W)
  rw [show vldA va ha la = vA ⟨va, ha, la⟩ from rfl] at HV
  have HB0 := Lib.hid (below_alloc6 w (.cells #[.bool va, .int .u64 ha, .int .u64 la] 25))
  have HX0 := Lib.hid (ab_new w va ha la)
  have HK0 := Lib.hid (show (vA ⟨va, ha, la⟩ && anyS (spnL (l.take 0)) (kA ⟨va, ha, la⟩)) = false by simp [spnL, anyS])
  clear h hf hl hN hB fa
  go_enter Try.func16, Try.ntmps16
  go_wp2_with fail
  generalize w.alloc (.cells #[.bool va, .int .u64 ha, .int .u64 la] 25) = W0 at *
  go_loopw [5] (fun s5 wr => ∃ k : Nat, k ≤ N ∧ s5 = .int .i64 k ∧ Hid ((vA ⟨va, ha, la⟩ && anyS (spnL (l.take k)) (kA ⟨va, ha, la⟩)) = false) ∧ Hid (Below w.heap.size w wr) ∧ Hid (AB wr w.heap.size va ha la)) (fun s5 _ => N - (intOf s5).toNat)
  case atStart => exact ⟨0, by omega, rfl, HK0, HB0, HX0⟩
  case round =>
    clear HK0 HB0 HX0
    obtain ⟨k, hk, rfl, HK, HB, HX⟩ := hrel
    by_cases hlt : k < N
    · have hkl : k < l.length := by rw [← HN.out]; exact hlt
      obtain ⟨g, o, rfl, hg⟩ := H.out.shape (by omega)
      obtain ⟨⟨⟨v3, h3, l3⟩, ⟨v4, h4, l4⟩⟩, hget⟩ : ∃ s, l[k]? = some s := ⟨l[k], List.getElem?_eq_getElem hkl⟩
      obtain ⟨c0, c1, c2, c3, c4, c5⟩ := rg_at H.out hget HB.out
      have hki : (k : Int) < (N : Int) := by omega
      have hki0 : (0 : Int) ≤ (k : Int) := by omega
      have hxf := HF.out _ (List.mem_of_getElem? hget)
      have hgw : g < wr.heap.size := Nat.lt_of_lt_of_le hg HB.out.size
      have HS := Lib.hid (fun W => rsome_any v3 h3 l3 v4 h4 l4 W hxf.1 hxf.2)
      have HT1 := Lib.hid (fun W => rbef_key HFA.out hxf.1 W)
      have HT2 := Lib.hid (fun W => rbef_key hxf.2 HFA.out W)
      simp only at HT1 HT2
      have HT := Lib.hid (spnL_take hget (kA ⟨va, ha, la⟩))
      have HIN := Lib.hid (@inS_tests ⟨⟨v3, h3, l3⟩, ⟨v4, h4, l4⟩⟩ ⟨va, ha, la⟩)
      have HINV := Lib.hid (@inS_v ⟨⟨v3, h3, l3⟩, ⟨v4, h4, l4⟩⟩ ⟨va, ha, la⟩ hxf HFA.out)
      have HALL := Lib.hid (show vA ⟨va, ha, la⟩ = true → (someR ⟨⟨v3, h3, l3⟩, ⟨v4, h4, l4⟩⟩ && inS (spn ⟨⟨v3, h3, l3⟩, ⟨v4, h4, l4⟩⟩) (kA ⟨va, ha, la⟩)) = true → B = true from fun e1 e2 => by
        rw [HR.out]
        unfold hasA
        rw [e1, Bool.true_and]
        have e3 := HT.out
        rw [e2, Bool.or_true] at e3
        rw [← List.take_append_drop (k + 1) l, spnL_append, anyS_append, e3, Bool.true_or])
      have HNO := Lib.hid (show (vA ⟨va, ha, la⟩ = true → (someR ⟨⟨v3, h3, l3⟩, ⟨v4, h4, l4⟩⟩ && inS (spn ⟨⟨v3, h3, l3⟩, ⟨v4, h4, l4⟩⟩) (kA ⟨va, ha, la⟩)) = false) → (vA ⟨va, ha, la⟩ && anyS (spnL (l.take (k + 1))) (kA ⟨va, ha, la⟩)) = false from fun e1 => by
        have e2 := HK.out
        rw [HT.out]
        cases hv : vA ⟨va, ha, la⟩ with
        | false => rfl
        | true =>
          rw [hv, Bool.true_and] at e2
          rw [e2, e1 hv]
          rfl)
      clear hget hg hkl hxf HT HK
      rcases Bool.eq_false_or_eq_true (vA ⟨va, ha, la⟩) with t1 | t1
      · skip
        rcases Bool.eq_false_or_eq_true (someR ⟨⟨v3, h3, l3⟩, ⟨v4, h4, l4⟩⟩) with t2 | t2
        · skip
          rcases Bool.eq_false_or_eq_true (v3 == va) with t3 | t3
          · skip
            rcases Bool.eq_false_or_eq_true (decide (kA ⟨va, ha, la⟩ < kA ⟨v3, h3, l3⟩)) with t4 | t4
            · skip
              have HK2 := Lib.hid (HNO.out (fun hv => by rw [t2, HIN.out, t4]; rfl))
              try rw [t1] at HV
              try rw [t2] at HS
              try rw [t4] at HT1
              try rw [t5] at HT2
              clear HALL HNO HIN HINV
              try clear t1
              try clear t2
              try clear t4
              try clear t5
              go_wp2_with fail
              refine wp_region_pick (fun w' => Below wr.heap.size wr w') (by kernel_rfl) (by kernel_rfl) (Below.refl _ _) ⟨rfl, rfl, rfl, Nat.le_refl _, fun _ _ => rfl⟩ (fun p hp hq => ?_)
              have pp0 : ∀ u, (p u).cell? ⟨w.heap.size, 0, none⟩ = some (.bool va) := fun u => (HX.out.kept (hp u) HX.out.lt).c0
              have pp1 : ∀ u, (p u).cell? ⟨w.heap.size, 1, none⟩ = some (.int .u64 ha) := fun u => (HX.out.kept (hp u) HX.out.lt).c1
              have pp2 : ∀ u, (p u).cell? ⟨w.heap.size, 2, none⟩ = some (.int .u64 la) := fun u => (HX.out.kept (hp u) HX.out.lt).c2
              have pp3 : ∀ u, (p u).cell? ⟨g, o + k * 6, none⟩ = some (.bool v3) := fun u => ((hp u).cell (p := ⟨g, o + k * 6, none⟩) hgw).trans c0
              have pp4 : ∀ u, (p u).cell? ⟨g, o + k * 6 + 1, none⟩ = some (.int .u64 h3) := fun u => ((hp u).cell (p := ⟨g, o + k * 6 + 1, none⟩) hgw).trans c1
              have pp5 : ∀ u, (p u).cell? ⟨g, o + k * 6 + 2, none⟩ = some (.int .u64 l3) := fun u => ((hp u).cell (p := ⟨g, o + k * 6 + 2, none⟩) hgw).trans c2
              have pp6 : ∀ u, (p u).cell? ⟨g, o + k * 6 + 3, none⟩ = some (.bool v4) := fun u => ((hp u).cell (p := ⟨g, o + k * 6 + 3, none⟩) hgw).trans c3
              have pp7 : ∀ u, (p u).cell? ⟨g, o + k * 6 + 4, none⟩ = some (.int .u64 h4) := fun u => ((hp u).cell (p := ⟨g, o + k * 6 + 4, none⟩) hgw).trans c4
              have pp8 : ∀ u, (p u).cell? ⟨g, o + k * 6 + 5, none⟩ = some (.int .u64 l4) := fun u => ((hp u).cell (p := ⟨g, o + k * 6 + 5, none⟩) hgw).trans c5
              have HP := Lib.hid hp
              have HQ := Lib.hid hq
              clear hp hq
              repeat (go_big_quiet_step ((first | with_reducible exact Calls.pick_of HQ.out (fun W' hb => (HP.out _).trans (hb.mono (HP.out _).size)) (HV.out _) | with_reducible exact Calls.pick_of HQ.out (fun W' hb => (HP.out _).trans (hb.mono (HP.out _).size)) (HS.out _) | with_reducible exact Calls.pick_of HQ.out (fun W' hb => (HP.out _).trans (hb.mono (HP.out _).size)) (HT1.out _) | with_reducible exact Calls.pick_of HQ.out (fun W' hb => (HP.out _).trans (hb.mono (HP.out _).size)) (HT2.out _))))
              refine wpQuiet_nil ?_
              rintro _ ⟨u, rfl⟩
              have hbp := HP.out u
              generalize p u = w2 at *
              clear HP HQ pp0 pp1 pp2 pp3 pp4 pp5 pp6 pp7 pp8
              have HB2 := Lib.hid (HB.out.trans (hbp.mono HB.out.size))
              have HX2 := Lib.hid (HX.out.kept hbp HX.out.lt)
              clear hbp HB HX c0 c1 c2 c3 c4 c5 hgw
              go_wp2_with fail
              go_roundw
              case rel => exact ⟨k + 1, by omega, by go_num, HK2, HB2, HX2⟩
              case measure => simp [intOf]; omega
            · skip
              rcases Bool.eq_false_or_eq_true (decide (kA ⟨v4, h4, l4⟩ < kA ⟨va, ha, la⟩)) with t5 | t5
              · skip
                have HK2 := Lib.hid (HNO.out (fun hv => by rw [t2, HIN.out, t4, t5]; rfl))
                try rw [t1] at HV
                try rw [t2] at HS
                try rw [t4] at HT1
                try rw [t5] at HT2
                clear HALL HNO HIN HINV
                try clear t1
                try clear t2
                try clear t4
                try clear t5
                go_wp2_with fail
                refine wp_region_pick (fun w' => Below wr.heap.size wr w') (by kernel_rfl) (by kernel_rfl) (Below.refl _ _) ⟨rfl, rfl, rfl, Nat.le_refl _, fun _ _ => rfl⟩ (fun p hp hq => ?_)
                have pp0 : ∀ u, (p u).cell? ⟨w.heap.size, 0, none⟩ = some (.bool va) := fun u => (HX.out.kept (hp u) HX.out.lt).c0
                have pp1 : ∀ u, (p u).cell? ⟨w.heap.size, 1, none⟩ = some (.int .u64 ha) := fun u => (HX.out.kept (hp u) HX.out.lt).c1
                have pp2 : ∀ u, (p u).cell? ⟨w.heap.size, 2, none⟩ = some (.int .u64 la) := fun u => (HX.out.kept (hp u) HX.out.lt).c2
                have pp3 : ∀ u, (p u).cell? ⟨g, o + k * 6, none⟩ = some (.bool v3) := fun u => ((hp u).cell (p := ⟨g, o + k * 6, none⟩) hgw).trans c0
                have pp4 : ∀ u, (p u).cell? ⟨g, o + k * 6 + 1, none⟩ = some (.int .u64 h3) := fun u => ((hp u).cell (p := ⟨g, o + k * 6 + 1, none⟩) hgw).trans c1
                have pp5 : ∀ u, (p u).cell? ⟨g, o + k * 6 + 2, none⟩ = some (.int .u64 l3) := fun u => ((hp u).cell (p := ⟨g, o + k * 6 + 2, none⟩) hgw).trans c2
                have pp6 : ∀ u, (p u).cell? ⟨g, o + k * 6 + 3, none⟩ = some (.bool v4) := fun u => ((hp u).cell (p := ⟨g, o + k * 6 + 3, none⟩) hgw).trans c3
                have pp7 : ∀ u, (p u).cell? ⟨g, o + k * 6 + 4, none⟩ = some (.int .u64 h4) := fun u => ((hp u).cell (p := ⟨g, o + k * 6 + 4, none⟩) hgw).trans c4
                have pp8 : ∀ u, (p u).cell? ⟨g, o + k * 6 + 5, none⟩ = some (.int .u64 l4) := fun u => ((hp u).cell (p := ⟨g, o + k * 6 + 5, none⟩) hgw).trans c5
                have HP := Lib.hid hp
                have HQ := Lib.hid hq
                clear hp hq
                repeat (go_big_quiet_step ((first | with_reducible exact Calls.pick_of HQ.out (fun W' hb => (HP.out _).trans (hb.mono (HP.out _).size)) (HV.out _) | with_reducible exact Calls.pick_of HQ.out (fun W' hb => (HP.out _).trans (hb.mono (HP.out _).size)) (HS.out _) | with_reducible exact Calls.pick_of HQ.out (fun W' hb => (HP.out _).trans (hb.mono (HP.out _).size)) (HT1.out _) | with_reducible exact Calls.pick_of HQ.out (fun W' hb => (HP.out _).trans (hb.mono (HP.out _).size)) (HT2.out _))))
                refine wpQuiet_nil ?_
                rintro _ ⟨u, rfl⟩
                have hbp := HP.out u
                generalize p u = w2 at *
                clear HP HQ pp0 pp1 pp2 pp3 pp4 pp5 pp6 pp7 pp8
                have HB2 := Lib.hid (HB.out.trans (hbp.mono HB.out.size))
                have HX2 := Lib.hid (HX.out.kept hbp HX.out.lt)
                clear hbp HB HX c0 c1 c2 c3 c4 c5 hgw
                go_wp2_with fail
                go_roundw
                case rel => exact ⟨k + 1, by omega, by go_num, HK2, HB2, HX2⟩
                case measure => simp [intOf]; omega
              · skip
                obtain rfl : B = true := HALL.out t1 (by rw [t2, HIN.out, t4, t5]; rfl)
                try rw [t1] at HV
                try rw [t2] at HS
                try rw [t4] at HT1
                try rw [t5] at HT2
                clear HALL HNO HIN HINV
                try clear t1
                try clear t2
                try clear t4
                try clear t5
                go_wp2_with fail
                refine wp_region_pick (fun w' => Below wr.heap.size wr w') (by kernel_rfl) (by kernel_rfl) (Below.refl _ _) ⟨rfl, rfl, rfl, Nat.le_refl _, fun _ _ => rfl⟩ (fun p hp hq => ?_)
                have pp0 : ∀ u, (p u).cell? ⟨w.heap.size, 0, none⟩ = some (.bool va) := fun u => (HX.out.kept (hp u) HX.out.lt).c0
                have pp1 : ∀ u, (p u).cell? ⟨w.heap.size, 1, none⟩ = some (.int .u64 ha) := fun u => (HX.out.kept (hp u) HX.out.lt).c1
                have pp2 : ∀ u, (p u).cell? ⟨w.heap.size, 2, none⟩ = some (.int .u64 la) := fun u => (HX.out.kept (hp u) HX.out.lt).c2
                have pp3 : ∀ u, (p u).cell? ⟨g, o + k * 6, none⟩ = some (.bool v3) := fun u => ((hp u).cell (p := ⟨g, o + k * 6, none⟩) hgw).trans c0
                have pp4 : ∀ u, (p u).cell? ⟨g, o + k * 6 + 1, none⟩ = some (.int .u64 h3) := fun u => ((hp u).cell (p := ⟨g, o + k * 6 + 1, none⟩) hgw).trans c1
                have pp5 : ∀ u, (p u).cell? ⟨g, o + k * 6 + 2, none⟩ = some (.int .u64 l3) := fun u => ((hp u).cell (p := ⟨g, o + k * 6 + 2, none⟩) hgw).trans c2
                have pp6 : ∀ u, (p u).cell? ⟨g, o + k * 6 + 3, none⟩ = some (.bool v4) := fun u => ((hp u).cell (p := ⟨g, o + k * 6 + 3, none⟩) hgw).trans c3
                have pp7 : ∀ u, (p u).cell? ⟨g, o + k * 6 + 4, none⟩ = some (.int .u64 h4) := fun u => ((hp u).cell (p := ⟨g, o + k * 6 + 4, none⟩) hgw).trans c4
                have pp8 : ∀ u, (p u).cell? ⟨g, o + k * 6 + 5, none⟩ = some (.int .u64 l4) := fun u => ((hp u).cell (p := ⟨g, o + k * 6 + 5, none⟩) hgw).trans c5
                have HP := Lib.hid hp
                have HQ := Lib.hid hq
                clear hp hq
                repeat (go_big_quiet_step ((first | with_reducible exact Calls.pick_of HQ.out (fun W' hb => (HP.out _).trans (hb.mono (HP.out _).size)) (HV.out _) | with_reducible exact Calls.pick_of HQ.out (fun W' hb => (HP.out _).trans (hb.mono (HP.out _).size)) (HS.out _) | with_reducible exact Calls.pick_of HQ.out (fun W' hb => (HP.out _).trans (hb.mono (HP.out _).size)) (HT1.out _) | with_reducible exact Calls.pick_of HQ.out (fun W' hb => (HP.out _).trans (hb.mono (HP.out _).size)) (HT2.out _))))
                refine wpQuiet_nil ?_
                rintro _ ⟨u, rfl⟩
                have hbp := HP.out u
                generalize p u = w2 at *
                clear HP HQ pp0 pp1 pp2 pp3 pp4 pp5 pp6 pp7 pp8
                have HB2 := Lib.hid (HB.out.trans (hbp.mono HB.out.size))
                have HX2 := Lib.hid (HX.out.kept hbp HX.out.lt)
                clear hbp HB HX c0 c1 c2 c3 c4 c5 hgw
                go_wp2_with fail
                go_ret
                exact ⟨rfl, HB2.out⟩
          · skip
            have HK2 := Lib.hid (HNO.out (fun hv => by rw [t2, Bool.true_and]; cases hi : inS (spn ⟨⟨v3, h3, l3⟩, ⟨v4, h4, l4⟩⟩) (kA ⟨va, ha, la⟩) with | false => rfl | true => exact absurd (HINV.out t2 hi) (by simpa using t3)))
            try rw [t1] at HV
            try rw [t2] at HS
            try rw [t4] at HT1
            try rw [t5] at HT2
            clear HALL HNO HIN HINV
            try clear t1
            try clear t2
            try clear t4
            try clear t5
            go_wp2_with fail
            refine wp_region_pick (fun w' => Below wr.heap.size wr w') (by kernel_rfl) (by kernel_rfl) (Below.refl _ _) ⟨rfl, rfl, rfl, Nat.le_refl _, fun _ _ => rfl⟩ (fun p hp hq => ?_)
            have pp0 : ∀ u, (p u).cell? ⟨w.heap.size, 0, none⟩ = some (.bool va) := fun u => (HX.out.kept (hp u) HX.out.lt).c0
            have pp1 : ∀ u, (p u).cell? ⟨w.heap.size, 1, none⟩ = some (.int .u64 ha) := fun u => (HX.out.kept (hp u) HX.out.lt).c1
            have pp2 : ∀ u, (p u).cell? ⟨w.heap.size, 2, none⟩ = some (.int .u64 la) := fun u => (HX.out.kept (hp u) HX.out.lt).c2
            have pp3 : ∀ u, (p u).cell? ⟨g, o + k * 6, none⟩ = some (.bool v3) := fun u => ((hp u).cell (p := ⟨g, o + k * 6, none⟩) hgw).trans c0
            have pp4 : ∀ u, (p u).cell? ⟨g, o + k * 6 + 1, none⟩ = some (.int .u64 h3) := fun u => ((hp u).cell (p := ⟨g, o + k * 6 + 1, none⟩) hgw).trans c1
            have pp5 : ∀ u, (p u).cell? ⟨g, o + k * 6 + 2, none⟩ = some (.int .u64 l3) := fun u => ((hp u).cell (p := ⟨g, o + k * 6 + 2, none⟩) hgw).trans c2
            have pp6 : ∀ u, (p u).cell? ⟨g, o + k * 6 + 3, none⟩ = some (.bool v4) := fun u => ((hp u).cell (p := ⟨g, o + k * 6 + 3, none⟩) hgw).trans c3
            have pp7 : ∀ u, (p u).cell? ⟨g, o + k * 6 + 4, none⟩ = some (.int .u64 h4) := fun u => ((hp u).cell (p := ⟨g, o + k * 6 + 4, none⟩) hgw).trans c4
            have pp8 : ∀ u, (p u).cell? ⟨g, o + k * 6 + 5, none⟩ = some (.int .u64 l4) := fun u => ((hp u).cell (p := ⟨g, o + k * 6 + 5, none⟩) hgw).trans c5
            have HP := Lib.hid hp
            have HQ := Lib.hid hq
            clear hp hq
            repeat (go_big_quiet_step ((first | with_reducible exact Calls.pick_of HQ.out (fun W' hb => (HP.out _).trans (hb.mono (HP.out _).size)) (HV.out _) | with_reducible exact Calls.pick_of HQ.out (fun W' hb => (HP.out _).trans (hb.mono (HP.out _).size)) (HS.out _) | with_reducible exact Calls.pick_of HQ.out (fun W' hb => (HP.out _).trans (hb.mono (HP.out _).size)) (HT1.out _) | with_reducible exact Calls.pick_of HQ.out (fun W' hb => (HP.out _).trans (hb.mono (HP.out _).size)) (HT2.out _))))
            refine wpQuiet_nil ?_
            rintro _ ⟨u, rfl⟩
            have hbp := HP.out u
            generalize p u = w2 at *
            clear HP HQ pp0 pp1 pp2 pp3 pp4 pp5 pp6 pp7 pp8
            have HB2 := Lib.hid (HB.out.trans (hbp.mono HB.out.size))
            have HX2 := Lib.hid (HX.out.kept hbp HX.out.lt)
            clear hbp HB HX c0 c1 c2 c3 c4 c5 hgw
            go_wp2_with fail
            go_roundw
            case rel => exact ⟨k + 1, by omega, by go_num, HK2, HB2, HX2⟩
            case measure => simp [intOf]; omega
        · skip
          have HK2 := Lib.hid (HNO.out (fun hv => by rw [t2]; rfl))
          try rw [t1] at HV
          try rw [t2] at HS
          try rw [t4] at HT1
          try rw [t5] at HT2
          clear HALL HNO HIN HINV
          try clear t1
          try clear t2
          try clear t4
          try clear t5
          go_wp2_with fail
          refine wp_region_pick (fun w' => Below wr.heap.size wr w') (by kernel_rfl) (by kernel_rfl) (Below.refl _ _) ⟨rfl, rfl, rfl, Nat.le_refl _, fun _ _ => rfl⟩ (fun p hp hq => ?_)
          have pp0 : ∀ u, (p u).cell? ⟨w.heap.size, 0, none⟩ = some (.bool va) := fun u => (HX.out.kept (hp u) HX.out.lt).c0
          have pp1 : ∀ u, (p u).cell? ⟨w.heap.size, 1, none⟩ = some (.int .u64 ha) := fun u => (HX.out.kept (hp u) HX.out.lt).c1
          have pp2 : ∀ u, (p u).cell? ⟨w.heap.size, 2, none⟩ = some (.int .u64 la) := fun u => (HX.out.kept (hp u) HX.out.lt).c2
          have pp3 : ∀ u, (p u).cell? ⟨g, o + k * 6, none⟩ = some (.bool v3) := fun u => ((hp u).cell (p := ⟨g, o + k * 6, none⟩) hgw).trans c0
          have pp4 : ∀ u, (p u).cell? ⟨g, o + k * 6 + 1, none⟩ = some (.int .u64 h3) := fun u => ((hp u).cell (p := ⟨g, o + k * 6 + 1, none⟩) hgw).trans c1
          have pp5 : ∀ u, (p u).cell? ⟨g, o + k * 6 + 2, none⟩ = some (.int .u64 l3) := fun u => ((hp u).cell (p := ⟨g, o + k * 6 + 2, none⟩) hgw).trans c2
          have pp6 : ∀ u, (p u).cell? ⟨g, o + k * 6 + 3, none⟩ = some (.bool v4) := fun u => ((hp u).cell (p := ⟨g, o + k * 6 + 3, none⟩) hgw).trans c3
          have pp7 : ∀ u, (p u).cell? ⟨g, o + k * 6 + 4, none⟩ = some (.int .u64 h4) := fun u => ((hp u).cell (p := ⟨g, o + k * 6 + 4, none⟩) hgw).trans c4
          have pp8 : ∀ u, (p u).cell? ⟨g, o + k * 6 + 5, none⟩ = some (.int .u64 l4) := fun u => ((hp u).cell (p := ⟨g, o + k * 6 + 5, none⟩) hgw).trans c5
          have HP := Lib.hid hp
          have HQ := Lib.hid hq
          clear hp hq
          repeat (go_big_quiet_step ((first | with_reducible exact Calls.pick_of HQ.out (fun W' hb => (HP.out _).trans (hb.mono (HP.out _).size)) (HV.out _) | with_reducible exact Calls.pick_of HQ.out (fun W' hb => (HP.out _).trans (hb.mono (HP.out _).size)) (HS.out _) | with_reducible exact Calls.pick_of HQ.out (fun W' hb => (HP.out _).trans (hb.mono (HP.out _).size)) (HT1.out _) | with_reducible exact Calls.pick_of HQ.out (fun W' hb => (HP.out _).trans (hb.mono (HP.out _).size)) (HT2.out _))))
          refine wpQuiet_nil ?_
          rintro _ ⟨u, rfl⟩
          have hbp := HP.out u
          generalize p u = w2 at *
          clear HP HQ pp0 pp1 pp2 pp3 pp4 pp5 pp6 pp7 pp8
          have HB2 := Lib.hid (HB.out.trans (hbp.mono HB.out.size))
          have HX2 := Lib.hid (HX.out.kept hbp HX.out.lt)
          clear hbp HB HX c0 c1 c2 c3 c4 c5 hgw
          go_wp2_with fail
          go_roundw
          case rel => exact ⟨k + 1, by omega, by go_num, HK2, HB2, HX2⟩
          case measure => simp [intOf]; omega
      · skip
        have HK2 := Lib.hid (HNO.out (fun hv => by rw [t1] at hv; cases hv))
        try rw [t1] at HV
        try rw [t2] at HS
        try rw [t4] at HT1
        try rw [t5] at HT2
        clear HALL HNO HIN HINV
        try clear t1
        try clear t2
        try clear t4
        try clear t5
        go_wp2_with fail
        refine wp_region_pick (fun w' => Below wr.heap.size wr w') (by kernel_rfl) (by kernel_rfl) (Below.refl _ _) ⟨rfl, rfl, rfl, Nat.le_refl _, fun _ _ => rfl⟩ (fun p hp hq => ?_)
        have pp0 : ∀ u, (p u).cell? ⟨w.heap.size, 0, none⟩ = some (.bool va) := fun u => (HX.out.kept (hp u) HX.out.lt).c0
        have pp1 : ∀ u, (p u).cell? ⟨w.heap.size, 1, none⟩ = some (.int .u64 ha) := fun u => (HX.out.kept (hp u) HX.out.lt).c1
        have pp2 : ∀ u, (p u).cell? ⟨w.heap.size, 2, none⟩ = some (.int .u64 la) := fun u => (HX.out.kept (hp u) HX.out.lt).c2
        have pp3 : ∀ u, (p u).cell? ⟨g, o + k * 6, none⟩ = some (.bool v3) := fun u => ((hp u).cell (p := ⟨g, o + k * 6, none⟩) hgw).trans c0
        have pp4 : ∀ u, (p u).cell? ⟨g, o + k * 6 + 1, none⟩ = some (.int .u64 h3) := fun u => ((hp u).cell (p := ⟨g, o + k * 6 + 1, none⟩) hgw).trans c1
        have pp5 : ∀ u, (p u).cell? ⟨g, o + k * 6 + 2, none⟩ = some (.int .u64 l3) := fun u => ((hp u).cell (p := ⟨g, o + k * 6 + 2, none⟩) hgw).trans c2
        have pp6 : ∀ u, (p u).cell? ⟨g, o + k * 6 + 3, none⟩ = some (.bool v4) := fun u => ((hp u).cell (p := ⟨g, o + k * 6 + 3, none⟩) hgw).trans c3
        have pp7 : ∀ u, (p u).cell? ⟨g, o + k * 6 + 4, none⟩ = some (.int .u64 h4) := fun u => ((hp u).cell (p := ⟨g, o + k * 6 + 4, none⟩) hgw).trans c4
        have pp8 : ∀ u, (p u).cell? ⟨g, o + k * 6 + 5, none⟩ = some (.int .u64 l4) := fun u => ((hp u).cell (p := ⟨g, o + k * 6 + 5, none⟩) hgw).trans c5
        have HP := Lib.hid hp
        have HQ := Lib.hid hq
        clear hp hq
        repeat (go_big_quiet_step ((first | with_reducible exact Calls.pick_of HQ.out (fun W' hb => (HP.out _).trans (hb.mono (HP.out _).size)) (HV.out _) | with_reducible exact Calls.pick_of HQ.out (fun W' hb => (HP.out _).trans (hb.mono (HP.out _).size)) (HS.out _) | with_reducible exact Calls.pick_of HQ.out (fun W' hb => (HP.out _).trans (hb.mono (HP.out _).size)) (HT1.out _) | with_reducible exact Calls.pick_of HQ.out (fun W' hb => (HP.out _).trans (hb.mono (HP.out _).size)) (HT2.out _))))
        refine wpQuiet_nil ?_
        rintro _ ⟨u, rfl⟩
        have hbp := HP.out u
        generalize p u = w2 at *
        clear HP HQ pp0 pp1 pp2 pp3 pp4 pp5 pp6 pp7 pp8
        have HB2 := Lib.hid (HB.out.trans (hbp.mono HB.out.size))
        have HX2 := Lib.hid (HX.out.kept hbp HX.out.lt)
        clear hbp HB HX c0 c1 c2 c3 c4 c5 hgw
        go_wp2_with fail
        go_roundw
        case rel => exact ⟨k + 1, by omega, by go_num, HK2, HB2, HX2⟩
        case measure => simp [intOf]; omega
    · have hkn : k = l.length := by have := HN.out; omega
      obtain rfl : B = false := by
        have := HK.out
        rw [hkn, List.take_length] at this
        exact HR.out.trans this
      have hd : decide ((k : Int) < (N : Int)) = false := by simp; omega
      clear hkn
      go_wp2_with fail
      go_ret
      exact ⟨rfl, HB.out⟩
end Go.Proofs.Ytmcelgnifpfjpaa

/- Contract of the reference of layer 7: Intersect. -/
namespace Go.Proofs.Ytmcelgnifpfjpaa
open Go.ChangeShapes Go.WideShapes Go.ChangeAt Go.RowKit
set_option linter.unusedVariables false

theorem RB.lay7 {w : World} {g : Nat} {v1 : Bool} {h1 l1 : Nat} {v2 : Bool} {h2 l2 : Nat} (h : RB w g v1 h1 l1 v2 h2 l2) : w.cell? ⟨g, 0, none⟩ = some (.bool v1) ∧ w.cell? ⟨g, 1, none⟩ = some (.int .u64 h1) ∧ w.cell? ⟨g, 2, none⟩ = some (.int .u64 l1) ∧ w.cell? ⟨g, 3, none⟩ = some (.bool v2) ∧ w.cell? ⟨g, 4, none⟩ = some (.int .u64 h2) ∧ w.cell? ⟨g, 5, none⟩ = some (.int .u64 l2) ∧ g < w.heap.size :=
  ⟨(h.c 0).trans rfl, (h.c 1).trans rfl, (h.c 2).trans rfl, (h.c 3).trans rfl, (h.c 4).trans rfl, (h.c 5).trans rfl, h.lt⟩
/-- What two ranges have in common. -/
theorem inter_some {x y : Rg} {a b : Ad} (hx : someR x = true) (fx : x.fits) (hy : someR y = true) (fy : y.fits) (hv : x.lo.v = y.lo.v)
    (ha : a = if kA x.lo < kA y.lo then y.lo else x.lo) (hb : b = if kA y.hi < kA x.hi then y.hi else x.hi) : (⟨a, b⟩ : Rg).fits ∧ someR ⟨a, b⟩ = decide (kA a ≤ kA b) ∧ ∀ m, (someR ⟨a, b⟩ && inS (spn ⟨a, b⟩) m) = (inS (spn x) m && inS (spn y) m) := by
  obtain ⟨x1, x2, x3, x4⟩ := someR_iff.1 hx
  obtain ⟨y1, y2, y3, y4⟩ := someR_iff.1 hy
  have hf : (⟨a, b⟩ : Rg).fits := by
    refine ⟨?_, ?_⟩
    · simp only [ha]
      split
      · exact fy.1
      · exact fx.1
    · simp only [hb]
      split
      · exact fy.2
      · exact fx.2
  have hs : someR ⟨a, b⟩ = decide (kA a ≤ kA b) := by
    have va : vA a = true := by rw [ha]; split <;> assumption
    have vb : vA b = true := by rw [hb]; split <;> assumption
    have vv : a.v = b.v := by
      rw [ha, hb]
      split <;> split <;> simp_all
    unfold someR
    simp only
    rw [va, vb, vv]
    simp
  refine ⟨hf, hs, fun m => ?_⟩
  rw [hs, Bool.eq_iff_iff, Bool.and_eq_true, Bool.and_eq_true, inS_iff, inS_iff, inS_iff, decide_eq_true_eq]
  simp only [spn, ha, hb]
  split <;> split <;> omega
theorem inter_ne {x y : Rg} (hx : someR x = true) (fx : x.fits) (hy : someR y = true) (fy : y.fits) (hv : (x.lo.v == y.lo.v) = false) (m : Int) : (inS (spn x) m && inS (spn y) m) = false := by
  obtain ⟨x1, x2, x3, x4⟩ := someR_iff.1 hx
  obtain ⟨y1, y2, y3, y4⟩ := someR_iff.1 hy
  cases h1 : inS (spn x) m with
  | false => rfl
  | true =>
    cases h2 : inS (spn y) m with
    | false => rfl
    | true =>
      exfalso
      have hne : ¬ x.lo.v = y.lo.v := by simpa using hv
      rw [inS_iff] at h1 h2
      simp only [spn] at h1 h2
      cases a : x.lo.v with
      | true =>
        cases b : y.lo.v with
        | true => exact hne (a.trans b.symm)
        | false => have := kA_v6 fx.1 a; have := kA_v4 y2 (y3 ▸ b); omega
      | false =>
        cases b : y.lo.v with
        | false => exact hne (a.trans b.symm)
        | true => have := kA_v6 fy.1 b; have := kA_v4 x2 (x3 ▸ a); omega
/-- The numbers of the first k ranges of a that are in b, and those of a[k] in the first q of b. -/
def intF (a b : List Rg) (k q : Nat) (m : Int) : Bool := (anyS (spnL (a.take k)) m && anyS (spnL b) m) || (anyS (spnL ((a.drop k).take 1)) m && anyS (spnL (b.take q)) m)
theorem intF_zero (a b : List Rg) (k : Nat) (m : Int) : intF a b k 0 m = (anyS (spnL (a.take k)) m && anyS (spnL b) m) := by simp [intF, spnL_nil]
theorem one_any {a : List Rg} {k : Nat} {x : Rg} (hx : a[k]? = some x) (m : Int) : anyS (spnL ((a.drop k).take 1)) m = (someR x && inS (spn x) m) := by
  obtain ⟨hk, e⟩ := List.getElem?_eq_some_iff.1 hx
  rw [List.drop_eq_getElem_cons hk, e]
  have := spnL_snoc [] x m
  simpa [spnL_nil] using this
theorem intF_step {a b : List Rg} {k q : Nat} {x y : Rg} (hx : a[k]? = some x) (hy : b[q]? = some y) (m : Int) : intF a b k (q + 1) m = (intF a b k q m || ((someR x && inS (spn x) m) && (someR y && inS (spn y) m))) := by
  unfold intF
  rw [one_any hx, spnL_take hy]
  cases (anyS (spnL (a.take k)) m && anyS (spnL b) m) <;> cases anyS (spnL (b.take q)) m <;> cases (someR x && inS (spn x) m) <;> cases (someR y && inS (spn y) m) <;> rfl
theorem intF_next {a b : List Rg} {k : Nat} {x : Rg} (hx : a[k]? = some x) (m : Int) : intF a b k b.length m = intF a b (k + 1) 0 m := by
  rw [intF_zero]
  unfold intF
  rw [one_any hx, List.take_length, spnL_take hx]
  cases anyS (spnL (a.take k)) m <;> cases anyS (spnL b) m <;> cases (someR x && inS (spn x) m) <;> rfl
theorem intF_end (a b : List Rg) (m : Int) : intF a b a.length 0 m = (anyS (spnL a) m && anyS (spnL b) m) := by rw [intF_zero, List.take_length]
set_option maxHeartbeats 40000000 in
set_option maxRecDepth 20000 in
theorem rinter_any (A1 A2 : Option Addr) (c1 c2 : Nat) (a b : List Rg) (w : World) (h1 : RowL ER w A1 a) (h2 : RowL ER w A2 b) (f1 : ∀ r ∈ a, r.fits) (f2 : ∀ r ∈ b, r.fits) (hl1 : a.length ≤ 300) (hl2 : b.length ≤ 300) :
    Calls Try.prog 22 #[.slice A1 a.length c1, .slice A2 b.length c2] w (SetO w w.heap.size (fun m => anyS (spnL a) m && anyS (spnL b) m) (a.length * b.length)) := by
  obtain ⟨na, hna⟩ : ∃ n, n = a.length := ⟨_, rfl⟩
  obtain ⟨nb, hnb⟩ : ∃ n, n = b.length := ⟨_, rfl⟩
  have ha9 : na ≤ 300 := by omega
  have hb9 : nb ≤ 300 := by omega
  rw [← hna, ← hnb]
  obtain ⟨M, hM⟩ : ∃ M, M = na * nb := ⟨_, rfl⟩
  have hM9 : na * nb ≤ 90000 := Nat.mul_le_mul ha9 hb9
  rw [← hM] at hM9 ⊢
  have H1 := Lib.hid h1
  have H2 := Lib.hid h2
  have F1 := Lib.hid f1
  have F2 := Lib.hid f2
  have HNA := Lib.hid hna
  have HNB := Lib.hid hnb
  have HM := Lib.hid hM
  have HB0 := Lib.hid (Below.refl w.heap.size w)
  have HO0 := Lib.hid (OwnR.nil w w.heap.size)
  have HA0 := Lib.hid (show ∀ m, anyS (([] : List Rg).map spn) m = intF a b 0 0 m from fun m => by rw [intF_zero]; simp [spnL, anyS])
  clear h1 h2 f1 f2 hna hnb hM hl1 hl2
  go_enter Try.func22, Try.ntmps22
  go_wp2_with fail
  go_loopw [5, 6] (fun s5 s6 wr => ∃ k n c' : Nat, ∃ A' : Option Addr, ∃ out : List Rg, k ≤ na ∧ s6 = .int .i64 k ∧ s5 = .slice A' n c' ∧ Hid (n ≤ k * nb) ∧ Hid (GoodL out) ∧ Hid (∀ m, anyS (out.map spn) m = intF a b k 0 m) ∧ Hid (Below w.heap.size w wr) ∧ Hid (OwnR wr w.heap.size A' n c' out)) (fun _ s6 _ => na - (intOf s6).toNat)
  case atStart => exact ⟨0, 0, 0, none, [], by omega, rfl, rfl, Lib.hid (Nat.zero_le _), Lib.hid good_nil, HA0, HB0, HO0⟩
  case round =>
    clear HA0 HB0 HO0
    obtain ⟨k, n, c', A', out, hk, rfl, rfl, HNK, HG, HA, HB, HO⟩ := hrel
    by_cases hlt : k < na
    · have hki : (k : Int) < (na : Int) := by omega
      have hki0 : (0 : Int) ≤ (k : Int) := by omega
      have HKL := Lib.hid (show k * nb + nb ≤ M from by
        have := Nat.mul_le_mul_right nb (show k + 1 ≤ na from hlt)
        rw [Nat.add_mul, Nat.one_mul] at this
        rw [HM.out]; exact this)
      have HNK2 := Lib.hid (show n ≤ k * nb + 0 from HNK.out)
      obtain ⟨⟨⟨v3, h3, l3⟩, ⟨v4, h4, l4⟩⟩, hget⟩ : ∃ s, a[k]? = some s := ⟨a[k]'(by have := HNA.out; omega), List.getElem?_eq_getElem _⟩
      obtain ⟨g, o, rfl, hg⟩ := H1.out.shape (by have := HNA.out; omega)
      have hxf := F1.out _ (List.mem_of_getElem? hget)
      have HGX := Lib.hid hget
      have HGG := Lib.hid hg
      clear hget hg HNK
      go_wp2_with fail
      go_loopw [5, 7] (fun s5 s7 w2 => ∃ q n c' : Nat, ∃ A' : Option Addr, ∃ out : List Rg, q ≤ nb ∧ s7 = .int .i64 q ∧ s5 = .slice A' n c' ∧ Hid (n ≤ k * nb + q) ∧ Hid (GoodL out) ∧ Hid (∀ m, anyS (out.map spn) m = intF a b k q m) ∧ Hid (Below w.heap.size w w2) ∧ Hid (OwnR w2 w.heap.size A' n c' out)) (fun _ s7 _ => nb - (intOf s7).toNat)
      case atStart => exact ⟨0, n, c', A', out, by omega, rfl, rfl, HNK2, HG, HA, HB, HO⟩
      case round =>
        clear HG HA HB HO HNK2
        obtain ⟨q, n, c', A', out, hq, rfl, rfl, HNK, HG, HA, HB, HO⟩ := hrel
        by_cases hql : q < nb
        · obtain ⟨⟨⟨u3, p3, q3⟩, ⟨u4, p4, q4⟩⟩, hgy⟩ : ∃ s, b[q]? = some s := ⟨b[q]'(by have := HNB.out; omega), List.getElem?_eq_getElem _⟩
          obtain ⟨gy, oy, rfl, hgyl⟩ := H2.out.shape (by have := HNB.out; omega)
          have hyf := F2.out _ (List.mem_of_getElem? hgy)
          obtain ⟨c0, c1, c2, c3, c4, c5⟩ := rg_at H1.out HGX.out HB.out
          obtain ⟨e0, e1, e2, e3, e4, e5⟩ := rg_at H2.out hgy HB.out
          have hqi : (q : Int) < (nb : Int) := by omega
          have hqi0 : (0 : Int) ≤ (q : Int) := by omega
          have hgw : g < wr.heap.size := Nat.lt_of_lt_of_le HGG.out HB.out.size
          have hgyw : gy < wr.heap.size := Nat.lt_of_lt_of_le hgyl HB.out.size
          have HST := Lib.hid (intF_step HGX.out hgy)
          clear hgy
          go_wp2_with fail
          go_region
          · obtain ⟨W1, hW1⟩ : ∃ W, W = ((wr.alloc (.cells #[.bool v3, .int .u64 h3, .int .u64 l3, .bool v4, .int .u64 h4, .int .u64 l4] 43)).alloc (.cells #[.bool u3, .int .u64 p3, .int .u64 q3, .bool u4, .int .u64 p4, .int .u64 q4] 43)).drew := ⟨_, rfl⟩
            obtain ⟨gx, hgx⟩ : ∃ g, g = wr.heap.size := ⟨_, rfl⟩
            obtain ⟨gz, hgz⟩ : ∃ g, g = wr.heap.size + 1 := ⟨_, rfl⟩
            have HX := Lib.hid (show RB W1 gx v3 h3 l3 v4 h4 l4 from by rw [hW1, hgx]; exact (rb_new wr v3 h3 l3 v4 h4 l4).al _)
            have HY := Lib.hid (show RB W1 gz u3 p3 q3 u4 p4 q4 from by rw [hW1, hgz]; exact rb2 wr _ u3 p3 q3 u4 p4 q4)
            have HO1 := Lib.hid (show OwnR W1 w.heap.size A' n c' out from by rw [hW1]; exact (HO.out.al _).al _)
            have HB1 := Lib.hid (show Below w.heap.size w W1 from by rw [hW1]; exact below_drew7 ((HB.out.alloc HB.out.size _).alloc (HB.out.alloc HB.out.size _).size _))
            have HL := Lib.hid (show w.heap.size ≤ gx ∧ gz ≠ gx ∧ (∀ j, (Value.slice A' n c').ownBlock = some j → j ≠ gx) from ⟨by rw [hgx]; exact HB.out.size, by omega, fun j hj => by have := (HO.out.2.lt j hj).2; omega⟩)
            rw [← hW1, ← hgz, ← hgx]
            clear hW1 hgx hgz HO HB c0 c1 c2 c3 c4 c5 e0 e1 e2 e3 e4 e5 hgw hgyw
            have HS1 := Lib.hid (fun W => rsome_any v3 h3 l3 v4 h4 l4 W hxf.1 hxf.2)
            have HS2 := Lib.hid (fun W => rsome_any u3 p3 q3 u4 p4 q4 W hyf.1 hyf.2)
            have HT1 := Lib.hid (fun W => rbef_key hxf.1 hyf.1 W)
            have HT2 := Lib.hid (fun W => rbef_key hyf.2 hxf.2 W)
            simp only at HT1 HT2
            rcases Bool.eq_false_or_eq_true (someR ⟨⟨v3, h3, l3⟩, ⟨v4, h4, l4⟩⟩) with t1 | t1
            · skip
              rw [t1] at HS1
              rcases Bool.eq_false_or_eq_true (someR ⟨⟨u3, p3, q3⟩, ⟨u4, p4, q4⟩⟩) with t2 | t2
              · skip
                rw [t2] at HS2
                rcases Bool.eq_false_or_eq_true (v3 == u3) with t3 | t3
                · skip
                  have hne : (!(v3 == u3)) = false := by rw [t3]; rfl
                  by_cases b1 : kA ⟨v3, h3, l3⟩ < kA ⟨u3, p3, q3⟩
                  · skip
                    by_cases b2 : kA ⟨u4, p4, q4⟩ < kA ⟨v4, h4, l4⟩
                    · skip
                      obtain ⟨hif, his, hia⟩ := @inter_some ⟨⟨v3, h3, l3⟩, ⟨v4, h4, l4⟩⟩ ⟨⟨u3, p3, q3⟩, ⟨u4, p4, q4⟩⟩ ⟨u3, p3, q3⟩ ⟨u4, p4, q4⟩ t1 hxf t2 hyf (by simpa using t3) (by rw [if_pos b1]) (by rw [if_pos b2])
                      have HS3 := Lib.hid (fun W => rsome_any u3 p3 q3 u4 p4 q4 W hif.1 hif.2)
                      rw [decide_eq_true b1] at HT1
                      rw [decide_eq_true b2] at HT2
                      rcases Bool.eq_false_or_eq_true (someR ⟨⟨u3, p3, q3⟩, ⟨u4, p4, q4⟩⟩) with t4 | t4
                      · rw [t4] at HS3
                        have HA2 := Lib.hid (show ∀ m, (anyS (out.map spn) m || inS (spn ⟨⟨u3, p3, q3⟩, ⟨u4, p4, q4⟩⟩) m) = intF a b k (q + 1) m from fun m => by rw [HST.out, HA.out, t1, t2, Bool.true_and, Bool.true_and, ← hia m, t4, Bool.true_and])
                        have hnb : n ≤ 100000 := by have h1 := HNK.out; have h2 := HKL.out; omega
                        have HADD := Lib.hid (fun W (hW : OwnR W w.heap.size A' n c' out) (hsz : w.heap.size ≤ W.heap.size) => show Calls Try.prog 41 #[.slice A' n c', .agg #[.bool u3, .int .u64 p3, .int .u64 q3, .bool u4, .int .u64 p4, .int .u64 q4]] W (SetO W w.heap.size (fun m => anyS (out.map spn) m || inS (spn ⟨⟨u3, p3, q3⟩, ⟨u4, p4, q4⟩⟩) m) (n + 1)) from by
                          rw [hW.1]
                          exact (radd_any A' c' out u3 p3 q3 u4 p4 q4 W hW.row HG.out t4 hif (by rw [← hW.1]; exact hnb)).mono fun _ _ hh => hh.own hsz)
                        have HNK2 := Lib.hid (show ∀ n5, n5 ≤ n + 1 → n5 ≤ k * nb + (q + 1) from fun n5 h => by have := HNK.out; omega)
                        clear hnb
                        clear HA HNK HST t1 t2 t4 his hia hif b1 b2
                        obtain ⟨y1_0, y1_1, y1_2, y1_3, y1_4, y1_5, yl1⟩ := HX.out.lay7
                        obtain ⟨y2_0, y2_1, y2_2, y2_3, y2_4, y2_5, yl2⟩ := HY.out.lay7
                        go_wp2_with fail
                        clear y1_0 y1_1 y1_2 y1_3 y1_4 y1_5 yl1 y2_0 y2_1 y2_2 y2_3 y2_4 y2_5 yl2
                        refine (HS1.out _).mono ?_
                        rintro e w11 ⟨rfl, hb⟩
                        have HO1_1 := Lib.hid (show OwnR w11 w.heap.size A' n c' out from HO1.out.kept hb)
                        have HX_1 := Lib.hid (show RB w11 gx v3 h3 l3 v4 h4 l4 from HX.out.kept hb HX.out.lt)
                        have HY_1 := Lib.hid (show RB w11 gz u3 p3 q3 u4 p4 q4 from HY.out.kept hb HY.out.lt)
                        have HB1_1 := Lib.hid (HB1.out.trans (hb.mono HB1.out.size))
                        clear hb HO1 HX HY HB1
                        obtain ⟨y1_0, y1_1, y1_2, y1_3, y1_4, y1_5, yl1⟩ := HX_1.out.lay7
                        obtain ⟨y2_0, y2_1, y2_2, y2_3, y2_4, y2_5, yl2⟩ := HY_1.out.lay7
                        go_wp2_with fail
                        clear y1_0 y1_1 y1_2 y1_3 y1_4 y1_5 yl1 y2_0 y2_1 y2_2 y2_3 y2_4 y2_5 yl2
                        refine (HS2.out _).mono ?_
                        rintro e w12 ⟨rfl, hb⟩
                        have HO1_2 := Lib.hid (show OwnR w12 w.heap.size A' n c' out from HO1_1.out.kept hb)
                        have HX_2 := Lib.hid (show RB w12 gx v3 h3 l3 v4 h4 l4 from HX_1.out.kept hb HX_1.out.lt)
                        have HY_2 := Lib.hid (show RB w12 gz u3 p3 q3 u4 p4 q4 from HY_1.out.kept hb HY_1.out.lt)
                        have HB1_2 := Lib.hid (HB1_1.out.trans (hb.mono HB1_1.out.size))
                        clear hb HO1_1 HX_1 HY_1 HB1_1
                        obtain ⟨y1_0, y1_1, y1_2, y1_3, y1_4, y1_5, yl1⟩ := HX_2.out.lay7
                        obtain ⟨y2_0, y2_1, y2_2, y2_3, y2_4, y2_5, yl2⟩ := HY_2.out.lay7
                        go_wp2_with fail
                        clear y1_0 y1_1 y1_2 y1_3 y1_4 y1_5 yl1 y2_0 y2_1 y2_2 y2_3 y2_4 y2_5 yl2
                        refine (HT1.out _).mono ?_
                        rintro e w13 ⟨rfl, hb⟩
                        have HO1_3 := Lib.hid (show OwnR w13 w.heap.size A' n c' out from HO1_2.out.kept hb)
                        have HX_3 := Lib.hid (show RB w13 gx v3 h3 l3 v4 h4 l4 from HX_2.out.kept hb HX_2.out.lt)
                        have HY_3 := Lib.hid (show RB w13 gz u3 p3 q3 u4 p4 q4 from HY_2.out.kept hb HY_2.out.lt)
                        have HB1_3 := Lib.hid (HB1_2.out.trans (hb.mono HB1_2.out.size))
                        clear hb HO1_2 HX_2 HY_2 HB1_2
                        obtain ⟨y1_0, y1_1, y1_2, y1_3, y1_4, y1_5, yl1⟩ := HX_3.out.lay7
                        obtain ⟨y2_0, y2_1, y2_2, y2_3, y2_4, y2_5, yl2⟩ := HY_3.out.lay7
                        clear y1_0 y1_1 y1_2 y1_3 y1_4 y1_5 yl1 y2_0 y2_1 y2_2 y2_3 y2_4 y2_5 yl2
                        obtain ⟨W15, hW15⟩ : ∃ W, W = ((w13.setCell ⟨gx, 0, none⟩ (.bool u3)).setCell ⟨gx, 1, none⟩ (.int .u64 p3)).setCell ⟨gx, 2, none⟩ (.int .u64 q3) := ⟨_, rfl⟩
                        obtain ⟨y1_0, y1_1, y1_2, y1_3, y1_4, y1_5, yl1⟩ := HX_3.out.lay7
                        have z1_0 := HX_3.out.f 0
                        have z1_1 := HX_3.out.f 1
                        have z1_2 := HX_3.out.f 2
                        have z1_3 := HX_3.out.f 3
                        have z1_4 := HX_3.out.f 4
                        have z1_5 := HX_3.out.f 5
                        obtain ⟨y2_0, y2_1, y2_2, y2_3, y2_4, y2_5, yl2⟩ := HY_3.out.lay7
                        have HO1_4 := Lib.hid (show OwnR W15 w.heap.size A' n c' out from by rw [hW15]; exact ((HO1_3.out.far2 HL.out.2.2 _).far2 HL.out.2.2 _).far2 HL.out.2.2 _)
                        have HX_4 := Lib.hid (show RB W15 gx u3 p3 q3 v4 h4 l4 from by rw [hW15]; exact HX_3.out.setLo u3 p3 q3)
                        have HY_4 := Lib.hid (show RB W15 gz u3 p3 q3 u4 p4 q4 from by rw [hW15]; exact ((HY_3.out.far HL.out.2.1 _).far HL.out.2.1 _).far HL.out.2.1 _)
                        have HB1_4 := Lib.hid (show Below w.heap.size w W15 from by rw [hW15]; exact ((HB1_3.out.setCell (p := ⟨gx, 0, none⟩) HL.out.1 _).setCell (p := ⟨gx, 1, none⟩) HL.out.1 _).setCell (p := ⟨gx, 2, none⟩) HL.out.1 _)
                        have q1_0 : W15.cell? ⟨gx, 0, none⟩ = some (.bool u3) := (HX_4.out.c 0).trans rfl
                        rw [hW15] at q1_0
                        have q1_1 : W15.cell? ⟨gx, 1, none⟩ = some (.int .u64 p3) := (HX_4.out.c 1).trans rfl
                        rw [hW15] at q1_1
                        have q1_2 : W15.cell? ⟨gx, 2, none⟩ = some (.int .u64 q3) := (HX_4.out.c 2).trans rfl
                        rw [hW15] at q1_2
                        have q1_3 : W15.cell? ⟨gx, 3, none⟩ = some (.bool v4) := (HX_4.out.c 3).trans rfl
                        rw [hW15] at q1_3
                        have q1_4 : W15.cell? ⟨gx, 4, none⟩ = some (.int .u64 h4) := (HX_4.out.c 4).trans rfl
                        rw [hW15] at q1_4
                        have q1_5 : W15.cell? ⟨gx, 5, none⟩ = some (.int .u64 l4) := (HX_4.out.c 5).trans rfl
                        rw [hW15] at q1_5
                        have q2_0 : W15.cell? ⟨gz, 0, none⟩ = some (.bool u3) := (HY_4.out.c 0).trans rfl
                        rw [hW15] at q2_0
                        have q2_1 : W15.cell? ⟨gz, 1, none⟩ = some (.int .u64 p3) := (HY_4.out.c 1).trans rfl
                        rw [hW15] at q2_1
                        have q2_2 : W15.cell? ⟨gz, 2, none⟩ = some (.int .u64 q3) := (HY_4.out.c 2).trans rfl
                        rw [hW15] at q2_2
                        have q2_3 : W15.cell? ⟨gz, 3, none⟩ = some (.bool u4) := (HY_4.out.c 3).trans rfl
                        rw [hW15] at q2_3
                        have q2_4 : W15.cell? ⟨gz, 4, none⟩ = some (.int .u64 p4) := (HY_4.out.c 4).trans rfl
                        rw [hW15] at q2_4
                        have q2_5 : W15.cell? ⟨gz, 5, none⟩ = some (.int .u64 q4) := (HY_4.out.c 5).trans rfl
                        rw [hW15] at q2_5
                        go_wp2_with fail
                        rw [← hW15]
                        clear hW15 HO1_3 HX_3 HY_3 HB1_3
                        clear y1_0 y1_1 y1_2 y1_3 y1_4 y1_5 yl1 z1_0 z1_1 z1_2 z1_3 z1_4 z1_5 y2_0 y2_1 y2_2 y2_3 y2_4 y2_5 yl2 q1_0 q1_1 q1_2 q1_3 q1_4 q1_5 q2_0 q2_1 q2_2 q2_3 q2_4 q2_5
                        refine (HT2.out _).mono ?_
                        rintro e w15 ⟨rfl, hb⟩
                        have HO1_5 := Lib.hid (show OwnR w15 w.heap.size A' n c' out from HO1_4.out.kept hb)
                        have HX_5 := Lib.hid (show RB w15 gx u3 p3 q3 v4 h4 l4 from HX_4.out.kept hb HX_4.out.lt)
                        have HY_5 := Lib.hid (show RB w15 gz u3 p3 q3 u4 p4 q4 from HY_4.out.kept hb HY_4.out.lt)
                        have HB1_5 := Lib.hid (HB1_4.out.trans (hb.mono HB1_4.out.size))
                        clear hb HO1_4 HX_4 HY_4 HB1_4
                        obtain ⟨y1_0, y1_1, y1_2, y1_3, y1_4, y1_5, yl1⟩ := HX_5.out.lay7
                        obtain ⟨y2_0, y2_1, y2_2, y2_3, y2_4, y2_5, yl2⟩ := HY_5.out.lay7
                        clear y1_0 y1_1 y1_2 y1_3 y1_4 y1_5 yl1 y2_0 y2_1 y2_2 y2_3 y2_4 y2_5 yl2
                        obtain ⟨W17, hW17⟩ : ∃ W, W = ((w15.setCell ⟨gx, 3, none⟩ (.bool u4)).setCell ⟨gx, 4, none⟩ (.int .u64 p4)).setCell ⟨gx, 5, none⟩ (.int .u64 q4) := ⟨_, rfl⟩
                        obtain ⟨y1_0, y1_1, y1_2, y1_3, y1_4, y1_5, yl1⟩ := HX_5.out.lay7
                        have z1_0 := HX_5.out.f 0
                        have z1_1 := HX_5.out.f 1
                        have z1_2 := HX_5.out.f 2
                        have z1_3 := HX_5.out.f 3
                        have z1_4 := HX_5.out.f 4
                        have z1_5 := HX_5.out.f 5
                        obtain ⟨y2_0, y2_1, y2_2, y2_3, y2_4, y2_5, yl2⟩ := HY_5.out.lay7
                        have HO1_6 := Lib.hid (show OwnR W17 w.heap.size A' n c' out from by rw [hW17]; exact ((HO1_5.out.far2 HL.out.2.2 _).far2 HL.out.2.2 _).far2 HL.out.2.2 _)
                        have HX_6 := Lib.hid (show RB W17 gx u3 p3 q3 u4 p4 q4 from by rw [hW17]; exact HX_5.out.setHi u4 p4 q4)
                        have HY_6 := Lib.hid (show RB W17 gz u3 p3 q3 u4 p4 q4 from by rw [hW17]; exact ((HY_5.out.far HL.out.2.1 _).far HL.out.2.1 _).far HL.out.2.1 _)
                        have HB1_6 := Lib.hid (show Below w.heap.size w W17 from by rw [hW17]; exact ((HB1_5.out.setCell (p := ⟨gx, 3, none⟩) HL.out.1 _).setCell (p := ⟨gx, 4, none⟩) HL.out.1 _).setCell (p := ⟨gx, 5, none⟩) HL.out.1 _)
                        have q1_0 : W17.cell? ⟨gx, 0, none⟩ = some (.bool u3) := (HX_6.out.c 0).trans rfl
                        rw [hW17] at q1_0
                        have q1_1 : W17.cell? ⟨gx, 1, none⟩ = some (.int .u64 p3) := (HX_6.out.c 1).trans rfl
                        rw [hW17] at q1_1
                        have q1_2 : W17.cell? ⟨gx, 2, none⟩ = some (.int .u64 q3) := (HX_6.out.c 2).trans rfl
                        rw [hW17] at q1_2
                        have q1_3 : W17.cell? ⟨gx, 3, none⟩ = some (.bool u4) := (HX_6.out.c 3).trans rfl
                        rw [hW17] at q1_3
                        have q1_4 : W17.cell? ⟨gx, 4, none⟩ = some (.int .u64 p4) := (HX_6.out.c 4).trans rfl
                        rw [hW17] at q1_4
                        have q1_5 : W17.cell? ⟨gx, 5, none⟩ = some (.int .u64 q4) := (HX_6.out.c 5).trans rfl
                        rw [hW17] at q1_5
                        have q2_0 : W17.cell? ⟨gz, 0, none⟩ = some (.bool u3) := (HY_6.out.c 0).trans rfl
                        rw [hW17] at q2_0
                        have q2_1 : W17.cell? ⟨gz, 1, none⟩ = some (.int .u64 p3) := (HY_6.out.c 1).trans rfl
                        rw [hW17] at q2_1
                        have q2_2 : W17.cell? ⟨gz, 2, none⟩ = some (.int .u64 q3) := (HY_6.out.c 2).trans rfl
                        rw [hW17] at q2_2
                        have q2_3 : W17.cell? ⟨gz, 3, none⟩ = some (.bool u4) := (HY_6.out.c 3).trans rfl
                        rw [hW17] at q2_3
                        have q2_4 : W17.cell? ⟨gz, 4, none⟩ = some (.int .u64 p4) := (HY_6.out.c 4).trans rfl
                        rw [hW17] at q2_4
                        have q2_5 : W17.cell? ⟨gz, 5, none⟩ = some (.int .u64 q4) := (HY_6.out.c 5).trans rfl
                        rw [hW17] at q2_5
                        go_wp2_with fail
                        rw [← hW17]
                        clear hW17 HO1_5 HX_5 HY_5 HB1_5
                        clear y1_0 y1_1 y1_2 y1_3 y1_4 y1_5 yl1 z1_0 z1_1 z1_2 z1_3 z1_4 z1_5 y2_0 y2_1 y2_2 y2_3 y2_4 y2_5 yl2 q1_0 q1_1 q1_2 q1_3 q1_4 q1_5 q2_0 q2_1 q2_2 q2_3 q2_4 q2_5
                        refine (HS3.out _).mono ?_
                        rintro e w17 ⟨rfl, hb⟩
                        have HO1_7 := Lib.hid (show OwnR w17 w.heap.size A' n c' out from HO1_6.out.kept hb)
                        have HX_7 := Lib.hid (show RB w17 gx u3 p3 q3 u4 p4 q4 from HX_6.out.kept hb HX_6.out.lt)
                        have HY_7 := Lib.hid (show RB w17 gz u3 p3 q3 u4 p4 q4 from HY_6.out.kept hb HY_6.out.lt)
                        have HB1_7 := Lib.hid (HB1_6.out.trans (hb.mono HB1_6.out.size))
                        clear hb HO1_6 HX_6 HY_6 HB1_6
                        obtain ⟨y1_0, y1_1, y1_2, y1_3, y1_4, y1_5, yl1⟩ := HX_7.out.lay7
                        obtain ⟨y2_0, y2_1, y2_2, y2_3, y2_4, y2_5, yl2⟩ := HY_7.out.lay7
                        go_wp2_with fail
                        clear y1_0 y1_1 y1_2 y1_3 y1_4 y1_5 yl1 y2_0 y2_1 y2_2 y2_3 y2_4 y2_5 yl2
                        refine (HADD.out _ HO1_7.out HB1_7.out.size).mono ?_
                        rintro e wq ⟨L, A5, n5, c5, g1, g2, g3, rfl, g5, hb⟩
                        have HBq := Lib.hid (HB1_7.out.trans (hb.mono HB1_7.out.size))
                        have HOq := Lib.hid g5
                        have HGq := Lib.hid g1
                        have HAq := Lib.hid (fun m => (g2 m).trans (HA2.out m))
                        have HNq := Lib.hid (HNK2.out n5 g3)
                        clear hb g1 g2 g3 g5
                        go_wp2_with fail
                        go_roundw
                        case rel => exact ⟨q + 1, n5, c5, A5, L, by omega, by go_num, rfl, HNq, HGq, HAq, HBq, HOq⟩
                        case measure => simp [intOf]; omega
                      · rw [t4] at HS3
                        have HA2 := Lib.hid (show ∀ m, anyS (out.map spn) m = intF a b k (q + 1) m from fun m => by rw [HST.out, HA.out, t1, t2, Bool.true_and, Bool.true_and, ← hia m, t4, Bool.false_and, Bool.or_false])
                        have HNK2 := Lib.hid (show n ≤ k * nb + (q + 1) from Nat.le_succ_of_le HNK.out)
                        clear HA HNK HST t1 t2 t4 his hia hif b1 b2
                        obtain ⟨y1_0, y1_1, y1_2, y1_3, y1_4, y1_5, yl1⟩ := HX.out.lay7
                        obtain ⟨y2_0, y2_1, y2_2, y2_3, y2_4, y2_5, yl2⟩ := HY.out.lay7
                        go_wp2_with fail
                        clear y1_0 y1_1 y1_2 y1_3 y1_4 y1_5 yl1 y2_0 y2_1 y2_2 y2_3 y2_4 y2_5 yl2
                        refine (HS1.out _).mono ?_
                        rintro e w11 ⟨rfl, hb⟩
                        have HO1_1 := Lib.hid (show OwnR w11 w.heap.size A' n c' out from HO1.out.kept hb)
                        have HX_1 := Lib.hid (show RB w11 gx v3 h3 l3 v4 h4 l4 from HX.out.kept hb HX.out.lt)
                        have HY_1 := Lib.hid (show RB w11 gz u3 p3 q3 u4 p4 q4 from HY.out.kept hb HY.out.lt)
                        have HB1_1 := Lib.hid (HB1.out.trans (hb.mono HB1.out.size))
                        clear hb HO1 HX HY HB1
                        obtain ⟨y1_0, y1_1, y1_2, y1_3, y1_4, y1_5, yl1⟩ := HX_1.out.lay7
                        obtain ⟨y2_0, y2_1, y2_2, y2_3, y2_4, y2_5, yl2⟩ := HY_1.out.lay7
                        go_wp2_with fail
                        clear y1_0 y1_1 y1_2 y1_3 y1_4 y1_5 yl1 y2_0 y2_1 y2_2 y2_3 y2_4 y2_5 yl2
                        refine (HS2.out _).mono ?_
                        rintro e w12 ⟨rfl, hb⟩
                        have HO1_2 := Lib.hid (show OwnR w12 w.heap.size A' n c' out from HO1_1.out.kept hb)
                        have HX_2 := Lib.hid (show RB w12 gx v3 h3 l3 v4 h4 l4 from HX_1.out.kept hb HX_1.out.lt)
                        have HY_2 := Lib.hid (show RB w12 gz u3 p3 q3 u4 p4 q4 from HY_1.out.kept hb HY_1.out.lt)
                        have HB1_2 := Lib.hid (HB1_1.out.trans (hb.mono HB1_1.out.size))
                        clear hb HO1_1 HX_1 HY_1 HB1_1
                        obtain ⟨y1_0, y1_1, y1_2, y1_3, y1_4, y1_5, yl1⟩ := HX_2.out.lay7
                        obtain ⟨y2_0, y2_1, y2_2, y2_3, y2_4, y2_5, yl2⟩ := HY_2.out.lay7
                        go_wp2_with fail
                        clear y1_0 y1_1 y1_2 y1_3 y1_4 y1_5 yl1 y2_0 y2_1 y2_2 y2_3 y2_4 y2_5 yl2
                        refine (HT1.out _).mono ?_
                        rintro e w13 ⟨rfl, hb⟩
                        have HO1_3 := Lib.hid (show OwnR w13 w.heap.size A' n c' out from HO1_2.out.kept hb)
                        have HX_3 := Lib.hid (show RB w13 gx v3 h3 l3 v4 h4 l4 from HX_2.out.kept hb HX_2.out.lt)
                        have HY_3 := Lib.hid (show RB w13 gz u3 p3 q3 u4 p4 q4 from HY_2.out.kept hb HY_2.out.lt)
                        have HB1_3 := Lib.hid (HB1_2.out.trans (hb.mono HB1_2.out.size))
                        clear hb HO1_2 HX_2 HY_2 HB1_2
                        obtain ⟨y1_0, y1_1, y1_2, y1_3, y1_4, y1_5, yl1⟩ := HX_3.out.lay7
                        obtain ⟨y2_0, y2_1, y2_2, y2_3, y2_4, y2_5, yl2⟩ := HY_3.out.lay7
                        clear y1_0 y1_1 y1_2 y1_3 y1_4 y1_5 yl1 y2_0 y2_1 y2_2 y2_3 y2_4 y2_5 yl2
                        obtain ⟨W15, hW15⟩ : ∃ W, W = ((w13.setCell ⟨gx, 0, none⟩ (.bool u3)).setCell ⟨gx, 1, none⟩ (.int .u64 p3)).setCell ⟨gx, 2, none⟩ (.int .u64 q3) := ⟨_, rfl⟩
                        obtain ⟨y1_0, y1_1, y1_2, y1_3, y1_4, y1_5, yl1⟩ := HX_3.out.lay7
                        have z1_0 := HX_3.out.f 0
                        have z1_1 := HX_3.out.f 1
                        have z1_2 := HX_3.out.f 2
                        have z1_3 := HX_3.out.f 3
                        have z1_4 := HX_3.out.f 4
                        have z1_5 := HX_3.out.f 5
                        obtain ⟨y2_0, y2_1, y2_2, y2_3, y2_4, y2_5, yl2⟩ := HY_3.out.lay7
                        have HO1_4 := Lib.hid (show OwnR W15 w.heap.size A' n c' out from by rw [hW15]; exact ((HO1_3.out.far2 HL.out.2.2 _).far2 HL.out.2.2 _).far2 HL.out.2.2 _)
                        have HX_4 := Lib.hid (show RB W15 gx u3 p3 q3 v4 h4 l4 from by rw [hW15]; exact HX_3.out.setLo u3 p3 q3)
                        have HY_4 := Lib.hid (show RB W15 gz u3 p3 q3 u4 p4 q4 from by rw [hW15]; exact ((HY_3.out.far HL.out.2.1 _).far HL.out.2.1 _).far HL.out.2.1 _)
                        have HB1_4 := Lib.hid (show Below w.heap.size w W15 from by rw [hW15]; exact ((HB1_3.out.setCell (p := ⟨gx, 0, none⟩) HL.out.1 _).setCell (p := ⟨gx, 1, none⟩) HL.out.1 _).setCell (p := ⟨gx, 2, none⟩) HL.out.1 _)
                        have q1_0 : W15.cell? ⟨gx, 0, none⟩ = some (.bool u3) := (HX_4.out.c 0).trans rfl
                        rw [hW15] at q1_0
                        have q1_1 : W15.cell? ⟨gx, 1, none⟩ = some (.int .u64 p3) := (HX_4.out.c 1).trans rfl
                        rw [hW15] at q1_1
                        have q1_2 : W15.cell? ⟨gx, 2, none⟩ = some (.int .u64 q3) := (HX_4.out.c 2).trans rfl
                        rw [hW15] at q1_2
                        have q1_3 : W15.cell? ⟨gx, 3, none⟩ = some (.bool v4) := (HX_4.out.c 3).trans rfl
                        rw [hW15] at q1_3
                        have q1_4 : W15.cell? ⟨gx, 4, none⟩ = some (.int .u64 h4) := (HX_4.out.c 4).trans rfl
                        rw [hW15] at q1_4
                        have q1_5 : W15.cell? ⟨gx, 5, none⟩ = some (.int .u64 l4) := (HX_4.out.c 5).trans rfl
                        rw [hW15] at q1_5
                        have q2_0 : W15.cell? ⟨gz, 0, none⟩ = some (.bool u3) := (HY_4.out.c 0).trans rfl
                        rw [hW15] at q2_0
                        have q2_1 : W15.cell? ⟨gz, 1, none⟩ = some (.int .u64 p3) := (HY_4.out.c 1).trans rfl
                        rw [hW15] at q2_1
                        have q2_2 : W15.cell? ⟨gz, 2, none⟩ = some (.int .u64 q3) := (HY_4.out.c 2).trans rfl
                        rw [hW15] at q2_2
                        have q2_3 : W15.cell? ⟨gz, 3, none⟩ = some (.bool u4) := (HY_4.out.c 3).trans rfl
                        rw [hW15] at q2_3
                        have q2_4 : W15.cell? ⟨gz, 4, none⟩ = some (.int .u64 p4) := (HY_4.out.c 4).trans rfl
                        rw [hW15] at q2_4
                        have q2_5 : W15.cell? ⟨gz, 5, none⟩ = some (.int .u64 q4) := (HY_4.out.c 5).trans rfl
                        rw [hW15] at q2_5
                        go_wp2_with fail
                        rw [← hW15]
                        clear hW15 HO1_3 HX_3 HY_3 HB1_3
                        clear y1_0 y1_1 y1_2 y1_3 y1_4 y1_5 yl1 z1_0 z1_1 z1_2 z1_3 z1_4 z1_5 y2_0 y2_1 y2_2 y2_3 y2_4 y2_5 yl2 q1_0 q1_1 q1_2 q1_3 q1_4 q1_5 q2_0 q2_1 q2_2 q2_3 q2_4 q2_5
                        refine (HT2.out _).mono ?_
                        rintro e w15 ⟨rfl, hb⟩
                        have HO1_5 := Lib.hid (show OwnR w15 w.heap.size A' n c' out from HO1_4.out.kept hb)
                        have HX_5 := Lib.hid (show RB w15 gx u3 p3 q3 v4 h4 l4 from HX_4.out.kept hb HX_4.out.lt)
                        have HY_5 := Lib.hid (show RB w15 gz u3 p3 q3 u4 p4 q4 from HY_4.out.kept hb HY_4.out.lt)
                        have HB1_5 := Lib.hid (HB1_4.out.trans (hb.mono HB1_4.out.size))
                        clear hb HO1_4 HX_4 HY_4 HB1_4
                        obtain ⟨y1_0, y1_1, y1_2, y1_3, y1_4, y1_5, yl1⟩ := HX_5.out.lay7
                        obtain ⟨y2_0, y2_1, y2_2, y2_3, y2_4, y2_5, yl2⟩ := HY_5.out.lay7
                        clear y1_0 y1_1 y1_2 y1_3 y1_4 y1_5 yl1 y2_0 y2_1 y2_2 y2_3 y2_4 y2_5 yl2
                        obtain ⟨W17, hW17⟩ : ∃ W, W = ((w15.setCell ⟨gx, 3, none⟩ (.bool u4)).setCell ⟨gx, 4, none⟩ (.int .u64 p4)).setCell ⟨gx, 5, none⟩ (.int .u64 q4) := ⟨_, rfl⟩
                        obtain ⟨y1_0, y1_1, y1_2, y1_3, y1_4, y1_5, yl1⟩ := HX_5.out.lay7
                        have z1_0 := HX_5.out.f 0
                        have z1_1 := HX_5.out.f 1
                        have z1_2 := HX_5.out.f 2
                        have z1_3 := HX_5.out.f 3
                        have z1_4 := HX_5.out.f 4
                        have z1_5 := HX_5.out.f 5
                        obtain ⟨y2_0, y2_1, y2_2, y2_3, y2_4, y2_5, yl2⟩ := HY_5.out.lay7
                        have HO1_6 := Lib.hid (show OwnR W17 w.heap.size A' n c' out from by rw [hW17]; exact ((HO1_5.out.far2 HL.out.2.2 _).far2 HL.out.2.2 _).far2 HL.out.2.2 _)
                        have HX_6 := Lib.hid (show RB W17 gx u3 p3 q3 u4 p4 q4 from by rw [hW17]; exact HX_5.out.setHi u4 p4 q4)
                        have HY_6 := Lib.hid (show RB W17 gz u3 p3 q3 u4 p4 q4 from by rw [hW17]; exact ((HY_5.out.far HL.out.2.1 _).far HL.out.2.1 _).far HL.out.2.1 _)
                        have HB1_6 := Lib.hid (show Below w.heap.size w W17 from by rw [hW17]; exact ((HB1_5.out.setCell (p := ⟨gx, 3, none⟩) HL.out.1 _).setCell (p := ⟨gx, 4, none⟩) HL.out.1 _).setCell (p := ⟨gx, 5, none⟩) HL.out.1 _)
                        have q1_0 : W17.cell? ⟨gx, 0, none⟩ = some (.bool u3) := (HX_6.out.c 0).trans rfl
                        rw [hW17] at q1_0
                        have q1_1 : W17.cell? ⟨gx, 1, none⟩ = some (.int .u64 p3) := (HX_6.out.c 1).trans rfl
                        rw [hW17] at q1_1
                        have q1_2 : W17.cell? ⟨gx, 2, none⟩ = some (.int .u64 q3) := (HX_6.out.c 2).trans rfl
                        rw [hW17] at q1_2
                        have q1_3 : W17.cell? ⟨gx, 3, none⟩ = some (.bool u4) := (HX_6.out.c 3).trans rfl
                        rw [hW17] at q1_3
                        have q1_4 : W17.cell? ⟨gx, 4, none⟩ = some (.int .u64 p4) := (HX_6.out.c 4).trans rfl
                        rw [hW17] at q1_4
                        have q1_5 : W17.cell? ⟨gx, 5, none⟩ = some (.int .u64 q4) := (HX_6.out.c 5).trans rfl
                        rw [hW17] at q1_5
                        have q2_0 : W17.cell? ⟨gz, 0, none⟩ = some (.bool u3) := (HY_6.out.c 0).trans rfl
                        rw [hW17] at q2_0
                        have q2_1 : W17.cell? ⟨gz, 1, none⟩ = some (.int .u64 p3) := (HY_6.out.c 1).trans rfl
                        rw [hW17] at q2_1
                        have q2_2 : W17.cell? ⟨gz, 2, none⟩ = some (.int .u64 q3) := (HY_6.out.c 2).trans rfl
                        rw [hW17] at q2_2
                        have q2_3 : W17.cell? ⟨gz, 3, none⟩ = some (.bool u4) := (HY_6.out.c 3).trans rfl
                        rw [hW17] at q2_3
                        have q2_4 : W17.cell? ⟨gz, 4, none⟩ = some (.int .u64 p4) := (HY_6.out.c 4).trans rfl
                        rw [hW17] at q2_4
                        have q2_5 : W17.cell? ⟨gz, 5, none⟩ = some (.int .u64 q4) := (HY_6.out.c 5).trans rfl
                        rw [hW17] at q2_5
                        go_wp2_with fail
                        rw [← hW17]
                        clear hW17 HO1_5 HX_5 HY_5 HB1_5
                        clear y1_0 y1_1 y1_2 y1_3 y1_4 y1_5 yl1 z1_0 z1_1 z1_2 z1_3 z1_4 z1_5 y2_0 y2_1 y2_2 y2_3 y2_4 y2_5 yl2 q1_0 q1_1 q1_2 q1_3 q1_4 q1_5 q2_0 q2_1 q2_2 q2_3 q2_4 q2_5
                        refine (HS3.out _).mono ?_
                        rintro e w17 ⟨rfl, hb⟩
                        have HO1_7 := Lib.hid (show OwnR w17 w.heap.size A' n c' out from HO1_6.out.kept hb)
                        have HX_7 := Lib.hid (show RB w17 gx u3 p3 q3 u4 p4 q4 from HX_6.out.kept hb HX_6.out.lt)
                        have HY_7 := Lib.hid (show RB w17 gz u3 p3 q3 u4 p4 q4 from HY_6.out.kept hb HY_6.out.lt)
                        have HB1_7 := Lib.hid (HB1_6.out.trans (hb.mono HB1_6.out.size))
                        clear hb HO1_6 HX_6 HY_6 HB1_6
                        obtain ⟨y1_0, y1_1, y1_2, y1_3, y1_4, y1_5, yl1⟩ := HX_7.out.lay7
                        obtain ⟨y2_0, y2_1, y2_2, y2_3, y2_4, y2_5, yl2⟩ := HY_7.out.lay7
                        go_wp2_with fail
                        clear y1_0 y1_1 y1_2 y1_3 y1_4 y1_5 yl1 y2_0 y2_1 y2_2 y2_3 y2_4 y2_5 yl2
                        go_roundw
                        case rel => exact ⟨q + 1, n, c', A', out, by omega, by go_num, rfl, HNK2, HG, HA2, HB1_7, HO1_7⟩
                        case measure => simp [intOf]; omega
                    · skip
                      obtain ⟨hif, his, hia⟩ := @inter_some ⟨⟨v3, h3, l3⟩, ⟨v4, h4, l4⟩⟩ ⟨⟨u3, p3, q3⟩, ⟨u4, p4, q4⟩⟩ ⟨u3, p3, q3⟩ ⟨v4, h4, l4⟩ t1 hxf t2 hyf (by simpa using t3) (by rw [if_pos b1]) (by rw [if_neg b2])
                      have HS3 := Lib.hid (fun W => rsome_any u3 p3 q3 v4 h4 l4 W hif.1 hif.2)
                      rw [decide_eq_true b1] at HT1
                      rw [decide_eq_false b2] at HT2
                      rcases Bool.eq_false_or_eq_true (someR ⟨⟨u3, p3, q3⟩, ⟨v4, h4, l4⟩⟩) with t4 | t4
                      · rw [t4] at HS3
                        have HA2 := Lib.hid (show ∀ m, (anyS (out.map spn) m || inS (spn ⟨⟨u3, p3, q3⟩, ⟨v4, h4, l4⟩⟩) m) = intF a b k (q + 1) m from fun m => by rw [HST.out, HA.out, t1, t2, Bool.true_and, Bool.true_and, ← hia m, t4, Bool.true_and])
                        have hnb : n ≤ 100000 := by have h1 := HNK.out; have h2 := HKL.out; omega
                        have HADD := Lib.hid (fun W (hW : OwnR W w.heap.size A' n c' out) (hsz : w.heap.size ≤ W.heap.size) => show Calls Try.prog 41 #[.slice A' n c', .agg #[.bool u3, .int .u64 p3, .int .u64 q3, .bool v4, .int .u64 h4, .int .u64 l4]] W (SetO W w.heap.size (fun m => anyS (out.map spn) m || inS (spn ⟨⟨u3, p3, q3⟩, ⟨v4, h4, l4⟩⟩) m) (n + 1)) from by
                          rw [hW.1]
                          exact (radd_any A' c' out u3 p3 q3 v4 h4 l4 W hW.row HG.out t4 hif (by rw [← hW.1]; exact hnb)).mono fun _ _ hh => hh.own hsz)
                        have HNK2 := Lib.hid (show ∀ n5, n5 ≤ n + 1 → n5 ≤ k * nb + (q + 1) from fun n5 h => by have := HNK.out; omega)
                        clear hnb
                        clear HA HNK HST t1 t2 t4 his hia hif b1 b2
                        obtain ⟨y1_0, y1_1, y1_2, y1_3, y1_4, y1_5, yl1⟩ := HX.out.lay7
                        obtain ⟨y2_0, y2_1, y2_2, y2_3, y2_4, y2_5, yl2⟩ := HY.out.lay7
                        go_wp2_with fail
                        clear y1_0 y1_1 y1_2 y1_3 y1_4 y1_5 yl1 y2_0 y2_1 y2_2 y2_3 y2_4 y2_5 yl2
                        refine (HS1.out _).mono ?_
                        rintro e w11 ⟨rfl, hb⟩
                        have HO1_1 := Lib.hid (show OwnR w11 w.heap.size A' n c' out from HO1.out.kept hb)
                        have HX_1 := Lib.hid (show RB w11 gx v3 h3 l3 v4 h4 l4 from HX.out.kept hb HX.out.lt)
                        have HY_1 := Lib.hid (show RB w11 gz u3 p3 q3 u4 p4 q4 from HY.out.kept hb HY.out.lt)
                        have HB1_1 := Lib.hid (HB1.out.trans (hb.mono HB1.out.size))
                        clear hb HO1 HX HY HB1
                        obtain ⟨y1_0, y1_1, y1_2, y1_3, y1_4, y1_5, yl1⟩ := HX_1.out.lay7
                        obtain ⟨y2_0, y2_1, y2_2, y2_3, y2_4, y2_5, yl2⟩ := HY_1.out.lay7
                        go_wp2_with fail
                        clear y1_0 y1_1 y1_2 y1_3 y1_4 y1_5 yl1 y2_0 y2_1 y2_2 y2_3 y2_4 y2_5 yl2
                        refine (HS2.out _).mono ?_
                        rintro e w12 ⟨rfl, hb⟩
                        have HO1_2 := Lib.hid (show OwnR w12 w.heap.size A' n c' out from HO1_1.out.kept hb)
                        have HX_2 := Lib.hid (show RB w12 gx v3 h3 l3 v4 h4 l4 from HX_1.out.kept hb HX_1.out.lt)
                        have HY_2 := Lib.hid (show RB w12 gz u3 p3 q3 u4 p4 q4 from HY_1.out.kept hb HY_1.out.lt)
                        have HB1_2 := Lib.hid (HB1_1.out.trans (hb.mono HB1_1.out.size))
                        clear hb HO1_1 HX_1 HY_1 HB1_1
                        obtain ⟨y1_0, y1_1, y1_2, y1_3, y1_4, y1_5, yl1⟩ := HX_2.out.lay7
                        obtain ⟨y2_0, y2_1, y2_2, y2_3, y2_4, y2_5, yl2⟩ := HY_2.out.lay7
                        go_wp2_with fail
                        clear y1_0 y1_1 y1_2 y1_3 y1_4 y1_5 yl1 y2_0 y2_1 y2_2 y2_3 y2_4 y2_5 yl2
                        refine (HT1.out _).mono ?_
                        rintro e w13 ⟨rfl, hb⟩
                        have HO1_3 := Lib.hid (show OwnR w13 w.heap.size A' n c' out from HO1_2.out.kept hb)
                        have HX_3 := Lib.hid (show RB w13 gx v3 h3 l3 v4 h4 l4 from HX_2.out.kept hb HX_2.out.lt)
                        have HY_3 := Lib.hid (show RB w13 gz u3 p3 q3 u4 p4 q4 from HY_2.out.kept hb HY_2.out.lt)
                        have HB1_3 := Lib.hid (HB1_2.out.trans (hb.mono HB1_2.out.size))
                        clear hb HO1_2 HX_2 HY_2 HB1_2
                        obtain ⟨y1_0, y1_1, y1_2, y1_3, y1_4, y1_5, yl1⟩ := HX_3.out.lay7
                        obtain ⟨y2_0, y2_1, y2_2, y2_3, y2_4, y2_5, yl2⟩ := HY_3.out.lay7
                        clear y1_0 y1_1 y1_2 y1_3 y1_4 y1_5 yl1 y2_0 y2_1 y2_2 y2_3 y2_4 y2_5 yl2
                        obtain ⟨W15, hW15⟩ : ∃ W, W = ((w13.setCell ⟨gx, 0, none⟩ (.bool u3)).setCell ⟨gx, 1, none⟩ (.int .u64 p3)).setCell ⟨gx, 2, none⟩ (.int .u64 q3) := ⟨_, rfl⟩
                        obtain ⟨y1_0, y1_1, y1_2, y1_3, y1_4, y1_5, yl1⟩ := HX_3.out.lay7
                        have z1_0 := HX_3.out.f 0
                        have z1_1 := HX_3.out.f 1
                        have z1_2 := HX_3.out.f 2
                        have z1_3 := HX_3.out.f 3
                        have z1_4 := HX_3.out.f 4
                        have z1_5 := HX_3.out.f 5
                        obtain ⟨y2_0, y2_1, y2_2, y2_3, y2_4, y2_5, yl2⟩ := HY_3.out.lay7
                        have HO1_4 := Lib.hid (show OwnR W15 w.heap.size A' n c' out from by rw [hW15]; exact ((HO1_3.out.far2 HL.out.2.2 _).far2 HL.out.2.2 _).far2 HL.out.2.2 _)
                        have HX_4 := Lib.hid (show RB W15 gx u3 p3 q3 v4 h4 l4 from by rw [hW15]; exact HX_3.out.setLo u3 p3 q3)
                        have HY_4 := Lib.hid (show RB W15 gz u3 p3 q3 u4 p4 q4 from by rw [hW15]; exact ((HY_3.out.far HL.out.2.1 _).far HL.out.2.1 _).far HL.out.2.1 _)
                        have HB1_4 := Lib.hid (show Below w.heap.size w W15 from by rw [hW15]; exact ((HB1_3.out.setCell (p := ⟨gx, 0, none⟩) HL.out.1 _).setCell (p := ⟨gx, 1, none⟩) HL.out.1 _).setCell (p := ⟨gx, 2, none⟩) HL.out.1 _)
                        have q1_0 : W15.cell? ⟨gx, 0, none⟩ = some (.bool u3) := (HX_4.out.c 0).trans rfl
                        rw [hW15] at q1_0
                        have q1_1 : W15.cell? ⟨gx, 1, none⟩ = some (.int .u64 p3) := (HX_4.out.c 1).trans rfl
                        rw [hW15] at q1_1
                        have q1_2 : W15.cell? ⟨gx, 2, none⟩ = some (.int .u64 q3) := (HX_4.out.c 2).trans rfl
                        rw [hW15] at q1_2
                        have q1_3 : W15.cell? ⟨gx, 3, none⟩ = some (.bool v4) := (HX_4.out.c 3).trans rfl
                        rw [hW15] at q1_3
                        have q1_4 : W15.cell? ⟨gx, 4, none⟩ = some (.int .u64 h4) := (HX_4.out.c 4).trans rfl
                        rw [hW15] at q1_4
                        have q1_5 : W15.cell? ⟨gx, 5, none⟩ = some (.int .u64 l4) := (HX_4.out.c 5).trans rfl
                        rw [hW15] at q1_5
                        have q2_0 : W15.cell? ⟨gz, 0, none⟩ = some (.bool u3) := (HY_4.out.c 0).trans rfl
                        rw [hW15] at q2_0
                        have q2_1 : W15.cell? ⟨gz, 1, none⟩ = some (.int .u64 p3) := (HY_4.out.c 1).trans rfl
                        rw [hW15] at q2_1
                        have q2_2 : W15.cell? ⟨gz, 2, none⟩ = some (.int .u64 q3) := (HY_4.out.c 2).trans rfl
                        rw [hW15] at q2_2
                        have q2_3 : W15.cell? ⟨gz, 3, none⟩ = some (.bool u4) := (HY_4.out.c 3).trans rfl
                        rw [hW15] at q2_3
                        have q2_4 : W15.cell? ⟨gz, 4, none⟩ = some (.int .u64 p4) := (HY_4.out.c 4).trans rfl
                        rw [hW15] at q2_4
                        have q2_5 : W15.cell? ⟨gz, 5, none⟩ = some (.int .u64 q4) := (HY_4.out.c 5).trans rfl
                        rw [hW15] at q2_5
                        go_wp2_with fail
                        rw [← hW15]
                        clear hW15 HO1_3 HX_3 HY_3 HB1_3
                        clear y1_0 y1_1 y1_2 y1_3 y1_4 y1_5 yl1 z1_0 z1_1 z1_2 z1_3 z1_4 z1_5 y2_0 y2_1 y2_2 y2_3 y2_4 y2_5 yl2 q1_0 q1_1 q1_2 q1_3 q1_4 q1_5 q2_0 q2_1 q2_2 q2_3 q2_4 q2_5
                        refine (HT2.out _).mono ?_
                        rintro e w15 ⟨rfl, hb⟩
                        have HO1_5 := Lib.hid (show OwnR w15 w.heap.size A' n c' out from HO1_4.out.kept hb)
                        have HX_5 := Lib.hid (show RB w15 gx u3 p3 q3 v4 h4 l4 from HX_4.out.kept hb HX_4.out.lt)
                        have HY_5 := Lib.hid (show RB w15 gz u3 p3 q3 u4 p4 q4 from HY_4.out.kept hb HY_4.out.lt)
                        have HB1_5 := Lib.hid (HB1_4.out.trans (hb.mono HB1_4.out.size))
                        clear hb HO1_4 HX_4 HY_4 HB1_4
                        obtain ⟨y1_0, y1_1, y1_2, y1_3, y1_4, y1_5, yl1⟩ := HX_5.out.lay7
                        obtain ⟨y2_0, y2_1, y2_2, y2_3, y2_4, y2_5, yl2⟩ := HY_5.out.lay7
                        go_wp2_with fail
                        clear y1_0 y1_1 y1_2 y1_3 y1_4 y1_5 yl1 y2_0 y2_1 y2_2 y2_3 y2_4 y2_5 yl2
                        refine (HS3.out _).mono ?_
                        rintro e w16 ⟨rfl, hb⟩
                        have HO1_6 := Lib.hid (show OwnR w16 w.heap.size A' n c' out from HO1_5.out.kept hb)
                        have HX_6 := Lib.hid (show RB w16 gx u3 p3 q3 v4 h4 l4 from HX_5.out.kept hb HX_5.out.lt)
                        have HY_6 := Lib.hid (show RB w16 gz u3 p3 q3 u4 p4 q4 from HY_5.out.kept hb HY_5.out.lt)
                        have HB1_6 := Lib.hid (HB1_5.out.trans (hb.mono HB1_5.out.size))
                        clear hb HO1_5 HX_5 HY_5 HB1_5
                        obtain ⟨y1_0, y1_1, y1_2, y1_3, y1_4, y1_5, yl1⟩ := HX_6.out.lay7
                        obtain ⟨y2_0, y2_1, y2_2, y2_3, y2_4, y2_5, yl2⟩ := HY_6.out.lay7
                        go_wp2_with fail
                        clear y1_0 y1_1 y1_2 y1_3 y1_4 y1_5 yl1 y2_0 y2_1 y2_2 y2_3 y2_4 y2_5 yl2
                        refine (HADD.out _ HO1_6.out HB1_6.out.size).mono ?_
                        rintro e wq ⟨L, A5, n5, c5, g1, g2, g3, rfl, g5, hb⟩
                        have HBq := Lib.hid (HB1_6.out.trans (hb.mono HB1_6.out.size))
                        have HOq := Lib.hid g5
                        have HGq := Lib.hid g1
                        have HAq := Lib.hid (fun m => (g2 m).trans (HA2.out m))
                        have HNq := Lib.hid (HNK2.out n5 g3)
                        clear hb g1 g2 g3 g5
                        go_wp2_with fail
                        go_roundw
                        case rel => exact ⟨q + 1, n5, c5, A5, L, by omega, by go_num, rfl, HNq, HGq, HAq, HBq, HOq⟩
                        case measure => simp [intOf]; omega
                      · rw [t4] at HS3
                        have HA2 := Lib.hid (show ∀ m, anyS (out.map spn) m = intF a b k (q + 1) m from fun m => by rw [HST.out, HA.out, t1, t2, Bool.true_and, Bool.true_and, ← hia m, t4, Bool.false_and, Bool.or_false])
                        have HNK2 := Lib.hid (show n ≤ k * nb + (q + 1) from Nat.le_succ_of_le HNK.out)
                        clear HA HNK HST t1 t2 t4 his hia hif b1 b2
                        obtain ⟨y1_0, y1_1, y1_2, y1_3, y1_4, y1_5, yl1⟩ := HX.out.lay7
                        obtain ⟨y2_0, y2_1, y2_2, y2_3, y2_4, y2_5, yl2⟩ := HY.out.lay7
                        go_wp2_with fail
                        clear y1_0 y1_1 y1_2 y1_3 y1_4 y1_5 yl1 y2_0 y2_1 y2_2 y2_3 y2_4 y2_5 yl2
                        refine (HS1.out _).mono ?_
                        rintro e w11 ⟨rfl, hb⟩
                        have HO1_1 := Lib.hid (show OwnR w11 w.heap.size A' n c' out from HO1.out.kept hb)
                        have HX_1 := Lib.hid (show RB w11 gx v3 h3 l3 v4 h4 l4 from HX.out.kept hb HX.out.lt)
                        have HY_1 := Lib.hid (show RB w11 gz u3 p3 q3 u4 p4 q4 from HY.out.kept hb HY.out.lt)
                        have HB1_1 := Lib.hid (HB1.out.trans (hb.mono HB1.out.size))
                        clear hb HO1 HX HY HB1
                        obtain ⟨y1_0, y1_1, y1_2, y1_3, y1_4, y1_5, yl1⟩ := HX_1.out.lay7
                        obtain ⟨y2_0, y2_1, y2_2, y2_3, y2_4, y2_5, yl2⟩ := HY_1.out.lay7
                        go_wp2_with fail
                        clear y1_0 y1_1 y1_2 y1_3 y1_4 y1_5 yl1 y2_0 y2_1 y2_2 y2_3 y2_4 y2_5 yl2
                        refine (HS2.out _).mono ?_
                        rintro e w12 ⟨rfl, hb⟩
                        have HO1_2 := Lib.hid (show OwnR w12 w.heap.size A' n c' out from HO1_1.out.kept hb)
                        have HX_2 := Lib.hid (show RB w12 gx v3 h3 l3 v4 h4 l4 from HX_1.out.kept hb HX_1.out.lt)
                        have HY_2 := Lib.hid (show RB w12 gz u3 p3 q3 u4 p4 q4 from HY_1.out.kept hb HY_1.out.lt)
                        have HB1_2 := Lib.hid (HB1_1.out.trans (hb.mono HB1_1.out.size))
                        clear hb HO1_1 HX_1 HY_1 HB1_1
                        obtain ⟨y1_0, y1_1, y1_2, y1_3, y1_4, y1_5, yl1⟩ := HX_2.out.lay7
                        obtain ⟨y2_0, y2_1, y2_2, y2_3, y2_4, y2_5, yl2⟩ := HY_2.out.lay7
                        go_wp2_with fail
                        clear y1_0 y1_1 y1_2 y1_3 y1_4 y1_5 yl1 y2_0 y2_1 y2_2 y2_3 y2_4 y2_5 yl2
                        refine (HT1.out _).mono ?_
                        rintro e w13 ⟨rfl, hb⟩
                        have HO1_3 := Lib.hid (show OwnR w13 w.heap.size A' n c' out from HO1_2.out.kept hb)
                        have HX_3 := Lib.hid (show RB w13 gx v3 h3 l3 v4 h4 l4 from HX_2.out.kept hb HX_2.out.lt)
                        have HY_3 := Lib.hid (show RB w13 gz u3 p3 q3 u4 p4 q4 from HY_2.out.kept hb HY_2.out.lt)
                        have HB1_3 := Lib.hid (HB1_2.out.trans (hb.mono HB1_2.out.size))
                        clear hb HO1_2 HX_2 HY_2 HB1_2
                        obtain ⟨y1_0, y1_1, y1_2, y1_3, y1_4, y1_5, yl1⟩ := HX_3.out.lay7
                        obtain ⟨y2_0, y2_1, y2_2, y2_3, y2_4, y2_5, yl2⟩ := HY_3.out.lay7
                        clear y1_0 y1_1 y1_2 y1_3 y1_4 y1_5 yl1 y2_0 y2_1 y2_2 y2_3 y2_4 y2_5 yl2
                        obtain ⟨W15, hW15⟩ : ∃ W, W = ((w13.setCell ⟨gx, 0, none⟩ (.bool u3)).setCell ⟨gx, 1, none⟩ (.int .u64 p3)).setCell ⟨gx, 2, none⟩ (.int .u64 q3) := ⟨_, rfl⟩
                        obtain ⟨y1_0, y1_1, y1_2, y1_3, y1_4, y1_5, yl1⟩ := HX_3.out.lay7
                        have z1_0 := HX_3.out.f 0
                        have z1_1 := HX_3.out.f 1
                        have z1_2 := HX_3.out.f 2
                        have z1_3 := HX_3.out.f 3
                        have z1_4 := HX_3.out.f 4
                        have z1_5 := HX_3.out.f 5
                        obtain ⟨y2_0, y2_1, y2_2, y2_3, y2_4, y2_5, yl2⟩ := HY_3.out.lay7
                        have HO1_4 := Lib.hid (show OwnR W15 w.heap.size A' n c' out from by rw [hW15]; exact ((HO1_3.out.far2 HL.out.2.2 _).far2 HL.out.2.2 _).far2 HL.out.2.2 _)
                        have HX_4 := Lib.hid (show RB W15 gx u3 p3 q3 v4 h4 l4 from by rw [hW15]; exact HX_3.out.setLo u3 p3 q3)
                        have HY_4 := Lib.hid (show RB W15 gz u3 p3 q3 u4 p4 q4 from by rw [hW15]; exact ((HY_3.out.far HL.out.2.1 _).far HL.out.2.1 _).far HL.out.2.1 _)
                        have HB1_4 := Lib.hid (show Below w.heap.size w W15 from by rw [hW15]; exact ((HB1_3.out.setCell (p := ⟨gx, 0, none⟩) HL.out.1 _).setCell (p := ⟨gx, 1, none⟩) HL.out.1 _).setCell (p := ⟨gx, 2, none⟩) HL.out.1 _)
                        have q1_0 : W15.cell? ⟨gx, 0, none⟩ = some (.bool u3) := (HX_4.out.c 0).trans rfl
                        rw [hW15] at q1_0
                        have q1_1 : W15.cell? ⟨gx, 1, none⟩ = some (.int .u64 p3) := (HX_4.out.c 1).trans rfl
                        rw [hW15] at q1_1
                        have q1_2 : W15.cell? ⟨gx, 2, none⟩ = some (.int .u64 q3) := (HX_4.out.c 2).trans rfl
                        rw [hW15] at q1_2
                        have q1_3 : W15.cell? ⟨gx, 3, none⟩ = some (.bool v4) := (HX_4.out.c 3).trans rfl
                        rw [hW15] at q1_3
                        have q1_4 : W15.cell? ⟨gx, 4, none⟩ = some (.int .u64 h4) := (HX_4.out.c 4).trans rfl
                        rw [hW15] at q1_4
                        have q1_5 : W15.cell? ⟨gx, 5, none⟩ = some (.int .u64 l4) := (HX_4.out.c 5).trans rfl
                        rw [hW15] at q1_5
                        have q2_0 : W15.cell? ⟨gz, 0, none⟩ = some (.bool u3) := (HY_4.out.c 0).trans rfl
                        rw [hW15] at q2_0
                        have q2_1 : W15.cell? ⟨gz, 1, none⟩ = some (.int .u64 p3) := (HY_4.out.c 1).trans rfl
                        rw [hW15] at q2_1
                        have q2_2 : W15.cell? ⟨gz, 2, none⟩ = some (.int .u64 q3) := (HY_4.out.c 2).trans rfl
                        rw [hW15] at q2_2
                        have q2_3 : W15.cell? ⟨gz, 3, none⟩ = some (.bool u4) := (HY_4.out.c 3).trans rfl
                        rw [hW15] at q2_3
                        have q2_4 : W15.cell? ⟨gz, 4, none⟩ = some (.int .u64 p4) := (HY_4.out.c 4).trans rfl
                        rw [hW15] at q2_4
                        have q2_5 : W15.cell? ⟨gz, 5, none⟩ = some (.int .u64 q4) := (HY_4.out.c 5).trans rfl
                        rw [hW15] at q2_5
                        go_wp2_with fail
                        rw [← hW15]
                        clear hW15 HO1_3 HX_3 HY_3 HB1_3
                        clear y1_0 y1_1 y1_2 y1_3 y1_4 y1_5 yl1 z1_0 z1_1 z1_2 z1_3 z1_4 z1_5 y2_0 y2_1 y2_2 y2_3 y2_4 y2_5 yl2 q1_0 q1_1 q1_2 q1_3 q1_4 q1_5 q2_0 q2_1 q2_2 q2_3 q2_4 q2_5
                        refine (HT2.out _).mono ?_
                        rintro e w15 ⟨rfl, hb⟩
                        have HO1_5 := Lib.hid (show OwnR w15 w.heap.size A' n c' out from HO1_4.out.kept hb)
                        have HX_5 := Lib.hid (show RB w15 gx u3 p3 q3 v4 h4 l4 from HX_4.out.kept hb HX_4.out.lt)
                        have HY_5 := Lib.hid (show RB w15 gz u3 p3 q3 u4 p4 q4 from HY_4.out.kept hb HY_4.out.lt)
                        have HB1_5 := Lib.hid (HB1_4.out.trans (hb.mono HB1_4.out.size))
                        clear hb HO1_4 HX_4 HY_4 HB1_4
                        obtain ⟨y1_0, y1_1, y1_2, y1_3, y1_4, y1_5, yl1⟩ := HX_5.out.lay7
                        obtain ⟨y2_0, y2_1, y2_2, y2_3, y2_4, y2_5, yl2⟩ := HY_5.out.lay7
                        go_wp2_with fail
                        clear y1_0 y1_1 y1_2 y1_3 y1_4 y1_5 yl1 y2_0 y2_1 y2_2 y2_3 y2_4 y2_5 yl2
                        refine (HS3.out _).mono ?_
                        rintro e w16 ⟨rfl, hb⟩
                        have HO1_6 := Lib.hid (show OwnR w16 w.heap.size A' n c' out from HO1_5.out.kept hb)
                        have HX_6 := Lib.hid (show RB w16 gx u3 p3 q3 v4 h4 l4 from HX_5.out.kept hb HX_5.out.lt)
                        have HY_6 := Lib.hid (show RB w16 gz u3 p3 q3 u4 p4 q4 from HY_5.out.kept hb HY_5.out.lt)
                        have HB1_6 := Lib.hid (HB1_5.out.trans (hb.mono HB1_5.out.size))
                        clear hb HO1_5 HX_5 HY_5 HB1_5
                        obtain ⟨y1_0, y1_1, y1_2, y1_3, y1_4, y1_5, yl1⟩ := HX_6.out.lay7
                        obtain ⟨y2_0, y2_1, y2_2, y2_3, y2_4, y2_5, yl2⟩ := HY_6.out.lay7
                        go_wp2_with fail
                        clear y1_0 y1_1 y1_2 y1_3 y1_4 y1_5 yl1 y2_0 y2_1 y2_2 y2_3 y2_4 y2_5 yl2
                        go_roundw
                        case rel => exact ⟨q + 1, n, c', A', out, by omega, by go_num, rfl, HNK2, HG, HA2, HB1_6, HO1_6⟩
                        case measure => simp [intOf]; omega
                  · skip
                    by_cases b2 : kA ⟨u4, p4, q4⟩ < kA ⟨v4, h4, l4⟩
                    · skip
                      obtain ⟨hif, his, hia⟩ := @inter_some ⟨⟨v3, h3, l3⟩, ⟨v4, h4, l4⟩⟩ ⟨⟨u3, p3, q3⟩, ⟨u4, p4, q4⟩⟩ ⟨v3, h3, l3⟩ ⟨u4, p4, q4⟩ t1 hxf t2 hyf (by simpa using t3) (by rw [if_neg b1]) (by rw [if_pos b2])
                      have HS3 := Lib.hid (fun W => rsome_any v3 h3 l3 u4 p4 q4 W hif.1 hif.2)
                      rw [decide_eq_false b1] at HT1
                      rw [decide_eq_true b2] at HT2
                      rcases Bool.eq_false_or_eq_true (someR ⟨⟨v3, h3, l3⟩, ⟨u4, p4, q4⟩⟩) with t4 | t4
                      · rw [t4] at HS3
                        have HA2 := Lib.hid (show ∀ m, (anyS (out.map spn) m || inS (spn ⟨⟨v3, h3, l3⟩, ⟨u4, p4, q4⟩⟩) m) = intF a b k (q + 1) m from fun m => by rw [HST.out, HA.out, t1, t2, Bool.true_and, Bool.true_and, ← hia m, t4, Bool.true_and])
                        have hnb : n ≤ 100000 := by have h1 := HNK.out; have h2 := HKL.out; omega
                        have HADD := Lib.hid (fun W (hW : OwnR W w.heap.size A' n c' out) (hsz : w.heap.size ≤ W.heap.size) => show Calls Try.prog 41 #[.slice A' n c', .agg #[.bool v3, .int .u64 h3, .int .u64 l3, .bool u4, .int .u64 p4, .int .u64 q4]] W (SetO W w.heap.size (fun m => anyS (out.map spn) m || inS (spn ⟨⟨v3, h3, l3⟩, ⟨u4, p4, q4⟩⟩) m) (n + 1)) from by
                          rw [hW.1]
                          exact (radd_any A' c' out v3 h3 l3 u4 p4 q4 W hW.row HG.out t4 hif (by rw [← hW.1]; exact hnb)).mono fun _ _ hh => hh.own hsz)
                        have HNK2 := Lib.hid (show ∀ n5, n5 ≤ n + 1 → n5 ≤ k * nb + (q + 1) from fun n5 h => by have := HNK.out; omega)
                        clear hnb
                        clear HA HNK HST t1 t2 t4 his hia hif b1 b2
                        obtain ⟨y1_0, y1_1, y1_2, y1_3, y1_4, y1_5, yl1⟩ := HX.out.lay7
                        obtain ⟨y2_0, y2_1, y2_2, y2_3, y2_4, y2_5, yl2⟩ := HY.out.lay7
                        go_wp2_with fail
                        clear y1_0 y1_1 y1_2 y1_3 y1_4 y1_5 yl1 y2_0 y2_1 y2_2 y2_3 y2_4 y2_5 yl2
                        refine (HS1.out _).mono ?_
                        rintro e w11 ⟨rfl, hb⟩
                        have HO1_1 := Lib.hid (show OwnR w11 w.heap.size A' n c' out from HO1.out.kept hb)
                        have HX_1 := Lib.hid (show RB w11 gx v3 h3 l3 v4 h4 l4 from HX.out.kept hb HX.out.lt)
                        have HY_1 := Lib.hid (show RB w11 gz u3 p3 q3 u4 p4 q4 from HY.out.kept hb HY.out.lt)
                        have HB1_1 := Lib.hid (HB1.out.trans (hb.mono HB1.out.size))
                        clear hb HO1 HX HY HB1
                        obtain ⟨y1_0, y1_1, y1_2, y1_3, y1_4, y1_5, yl1⟩ := HX_1.out.lay7
                        obtain ⟨y2_0, y2_1, y2_2, y2_3, y2_4, y2_5, yl2⟩ := HY_1.out.lay7
                        go_wp2_with fail
                        clear y1_0 y1_1 y1_2 y1_3 y1_4 y1_5 yl1 y2_0 y2_1 y2_2 y2_3 y2_4 y2_5 yl2
                        refine (HS2.out _).mono ?_
                        rintro e w12 ⟨rfl, hb⟩
                        have HO1_2 := Lib.hid (show OwnR w12 w.heap.size A' n c' out from HO1_1.out.kept hb)
                        have HX_2 := Lib.hid (show RB w12 gx v3 h3 l3 v4 h4 l4 from HX_1.out.kept hb HX_1.out.lt)
                        have HY_2 := Lib.hid (show RB w12 gz u3 p3 q3 u4 p4 q4 from HY_1.out.kept hb HY_1.out.lt)
                        have HB1_2 := Lib.hid (HB1_1.out.trans (hb.mono HB1_1.out.size))
                        clear hb HO1_1 HX_1 HY_1 HB1_1
                        obtain ⟨y1_0, y1_1, y1_2, y1_3, y1_4, y1_5, yl1⟩ := HX_2.out.lay7
                        obtain ⟨y2_0, y2_1, y2_2, y2_3, y2_4, y2_5, yl2⟩ := HY_2.out.lay7
                        go_wp2_with fail
                        clear y1_0 y1_1 y1_2 y1_3 y1_4 y1_5 yl1 y2_0 y2_1 y2_2 y2_3 y2_4 y2_5 yl2
                        refine (HT1.out _).mono ?_
                        rintro e w13 ⟨rfl, hb⟩
                        have HO1_3 := Lib.hid (show OwnR w13 w.heap.size A' n c' out from HO1_2.out.kept hb)
                        have HX_3 := Lib.hid (show RB w13 gx v3 h3 l3 v4 h4 l4 from HX_2.out.kept hb HX_2.out.lt)
                        have HY_3 := Lib.hid (show RB w13 gz u3 p3 q3 u4 p4 q4 from HY_2.out.kept hb HY_2.out.lt)
                        have HB1_3 := Lib.hid (HB1_2.out.trans (hb.mono HB1_2.out.size))
                        clear hb HO1_2 HX_2 HY_2 HB1_2
                        obtain ⟨y1_0, y1_1, y1_2, y1_3, y1_4, y1_5, yl1⟩ := HX_3.out.lay7
                        obtain ⟨y2_0, y2_1, y2_2, y2_3, y2_4, y2_5, yl2⟩ := HY_3.out.lay7
                        go_wp2_with fail
                        clear y1_0 y1_1 y1_2 y1_3 y1_4 y1_5 yl1 y2_0 y2_1 y2_2 y2_3 y2_4 y2_5 yl2
                        refine (HT2.out _).mono ?_
                        rintro e w14 ⟨rfl, hb⟩
                        have HO1_4 := Lib.hid (show OwnR w14 w.heap.size A' n c' out from HO1_3.out.kept hb)
                        have HX_4 := Lib.hid (show RB w14 gx v3 h3 l3 v4 h4 l4 from HX_3.out.kept hb HX_3.out.lt)
                        have HY_4 := Lib.hid (show RB w14 gz u3 p3 q3 u4 p4 q4 from HY_3.out.kept hb HY_3.out.lt)
                        have HB1_4 := Lib.hid (HB1_3.out.trans (hb.mono HB1_3.out.size))
                        clear hb HO1_3 HX_3 HY_3 HB1_3
                        obtain ⟨y1_0, y1_1, y1_2, y1_3, y1_4, y1_5, yl1⟩ := HX_4.out.lay7
                        obtain ⟨y2_0, y2_1, y2_2, y2_3, y2_4, y2_5, yl2⟩ := HY_4.out.lay7
                        clear y1_0 y1_1 y1_2 y1_3 y1_4 y1_5 yl1 y2_0 y2_1 y2_2 y2_3 y2_4 y2_5 yl2
                        obtain ⟨W16, hW16⟩ : ∃ W, W = ((w14.setCell ⟨gx, 3, none⟩ (.bool u4)).setCell ⟨gx, 4, none⟩ (.int .u64 p4)).setCell ⟨gx, 5, none⟩ (.int .u64 q4) := ⟨_, rfl⟩
                        obtain ⟨y1_0, y1_1, y1_2, y1_3, y1_4, y1_5, yl1⟩ := HX_4.out.lay7
                        have z1_0 := HX_4.out.f 0
                        have z1_1 := HX_4.out.f 1
                        have z1_2 := HX_4.out.f 2
                        have z1_3 := HX_4.out.f 3
                        have z1_4 := HX_4.out.f 4
                        have z1_5 := HX_4.out.f 5
                        obtain ⟨y2_0, y2_1, y2_2, y2_3, y2_4, y2_5, yl2⟩ := HY_4.out.lay7
                        have HO1_5 := Lib.hid (show OwnR W16 w.heap.size A' n c' out from by rw [hW16]; exact ((HO1_4.out.far2 HL.out.2.2 _).far2 HL.out.2.2 _).far2 HL.out.2.2 _)
                        have HX_5 := Lib.hid (show RB W16 gx v3 h3 l3 u4 p4 q4 from by rw [hW16]; exact HX_4.out.setHi u4 p4 q4)
                        have HY_5 := Lib.hid (show RB W16 gz u3 p3 q3 u4 p4 q4 from by rw [hW16]; exact ((HY_4.out.far HL.out.2.1 _).far HL.out.2.1 _).far HL.out.2.1 _)
                        have HB1_5 := Lib.hid (show Below w.heap.size w W16 from by rw [hW16]; exact ((HB1_4.out.setCell (p := ⟨gx, 3, none⟩) HL.out.1 _).setCell (p := ⟨gx, 4, none⟩) HL.out.1 _).setCell (p := ⟨gx, 5, none⟩) HL.out.1 _)
                        have q1_0 : W16.cell? ⟨gx, 0, none⟩ = some (.bool v3) := (HX_5.out.c 0).trans rfl
                        rw [hW16] at q1_0
                        have q1_1 : W16.cell? ⟨gx, 1, none⟩ = some (.int .u64 h3) := (HX_5.out.c 1).trans rfl
                        rw [hW16] at q1_1
                        have q1_2 : W16.cell? ⟨gx, 2, none⟩ = some (.int .u64 l3) := (HX_5.out.c 2).trans rfl
                        rw [hW16] at q1_2
                        have q1_3 : W16.cell? ⟨gx, 3, none⟩ = some (.bool u4) := (HX_5.out.c 3).trans rfl
                        rw [hW16] at q1_3
                        have q1_4 : W16.cell? ⟨gx, 4, none⟩ = some (.int .u64 p4) := (HX_5.out.c 4).trans rfl
                        rw [hW16] at q1_4
                        have q1_5 : W16.cell? ⟨gx, 5, none⟩ = some (.int .u64 q4) := (HX_5.out.c 5).trans rfl
                        rw [hW16] at q1_5
                        have q2_0 : W16.cell? ⟨gz, 0, none⟩ = some (.bool u3) := (HY_5.out.c 0).trans rfl
                        rw [hW16] at q2_0
                        have q2_1 : W16.cell? ⟨gz, 1, none⟩ = some (.int .u64 p3) := (HY_5.out.c 1).trans rfl
                        rw [hW16] at q2_1
                        have q2_2 : W16.cell? ⟨gz, 2, none⟩ = some (.int .u64 q3) := (HY_5.out.c 2).trans rfl
                        rw [hW16] at q2_2
                        have q2_3 : W16.cell? ⟨gz, 3, none⟩ = some (.bool u4) := (HY_5.out.c 3).trans rfl
                        rw [hW16] at q2_3
                        have q2_4 : W16.cell? ⟨gz, 4, none⟩ = some (.int .u64 p4) := (HY_5.out.c 4).trans rfl
                        rw [hW16] at q2_4
                        have q2_5 : W16.cell? ⟨gz, 5, none⟩ = some (.int .u64 q4) := (HY_5.out.c 5).trans rfl
                        rw [hW16] at q2_5
                        go_wp2_with fail
                        rw [← hW16]
                        clear hW16 HO1_4 HX_4 HY_4 HB1_4
                        clear y1_0 y1_1 y1_2 y1_3 y1_4 y1_5 yl1 z1_0 z1_1 z1_2 z1_3 z1_4 z1_5 y2_0 y2_1 y2_2 y2_3 y2_4 y2_5 yl2 q1_0 q1_1 q1_2 q1_3 q1_4 q1_5 q2_0 q2_1 q2_2 q2_3 q2_4 q2_5
                        refine (HS3.out _).mono ?_
                        rintro e w16 ⟨rfl, hb⟩
                        have HO1_6 := Lib.hid (show OwnR w16 w.heap.size A' n c' out from HO1_5.out.kept hb)
                        have HX_6 := Lib.hid (show RB w16 gx v3 h3 l3 u4 p4 q4 from HX_5.out.kept hb HX_5.out.lt)
                        have HY_6 := Lib.hid (show RB w16 gz u3 p3 q3 u4 p4 q4 from HY_5.out.kept hb HY_5.out.lt)
                        have HB1_6 := Lib.hid (HB1_5.out.trans (hb.mono HB1_5.out.size))
                        clear hb HO1_5 HX_5 HY_5 HB1_5
                        obtain ⟨y1_0, y1_1, y1_2, y1_3, y1_4, y1_5, yl1⟩ := HX_6.out.lay7
                        obtain ⟨y2_0, y2_1, y2_2, y2_3, y2_4, y2_5, yl2⟩ := HY_6.out.lay7
                        go_wp2_with fail
                        clear y1_0 y1_1 y1_2 y1_3 y1_4 y1_5 yl1 y2_0 y2_1 y2_2 y2_3 y2_4 y2_5 yl2
                        refine (HADD.out _ HO1_6.out HB1_6.out.size).mono ?_
                        rintro e wq ⟨L, A5, n5, c5, g1, g2, g3, rfl, g5, hb⟩
                        have HBq := Lib.hid (HB1_6.out.trans (hb.mono HB1_6.out.size))
                        have HOq := Lib.hid g5
                        have HGq := Lib.hid g1
                        have HAq := Lib.hid (fun m => (g2 m).trans (HA2.out m))
                        have HNq := Lib.hid (HNK2.out n5 g3)
                        clear hb g1 g2 g3 g5
                        go_wp2_with fail
                        go_roundw
                        case rel => exact ⟨q + 1, n5, c5, A5, L, by omega, by go_num, rfl, HNq, HGq, HAq, HBq, HOq⟩
                        case measure => simp [intOf]; omega
                      · rw [t4] at HS3
                        have HA2 := Lib.hid (show ∀ m, anyS (out.map spn) m = intF a b k (q + 1) m from fun m => by rw [HST.out, HA.out, t1, t2, Bool.true_and, Bool.true_and, ← hia m, t4, Bool.false_and, Bool.or_false])
                        have HNK2 := Lib.hid (show n ≤ k * nb + (q + 1) from Nat.le_succ_of_le HNK.out)
                        clear HA HNK HST t1 t2 t4 his hia hif b1 b2
                        obtain ⟨y1_0, y1_1, y1_2, y1_3, y1_4, y1_5, yl1⟩ := HX.out.lay7
                        obtain ⟨y2_0, y2_1, y2_2, y2_3, y2_4, y2_5, yl2⟩ := HY.out.lay7
                        go_wp2_with fail
                        clear y1_0 y1_1 y1_2 y1_3 y1_4 y1_5 yl1 y2_0 y2_1 y2_2 y2_3 y2_4 y2_5 yl2
                        refine (HS1.out _).mono ?_
                        rintro e w11 ⟨rfl, hb⟩
                        have HO1_1 := Lib.hid (show OwnR w11 w.heap.size A' n c' out from HO1.out.kept hb)
                        have HX_1 := Lib.hid (show RB w11 gx v3 h3 l3 v4 h4 l4 from HX.out.kept hb HX.out.lt)
                        have HY_1 := Lib.hid (show RB w11 gz u3 p3 q3 u4 p4 q4 from HY.out.kept hb HY.out.lt)
                        have HB1_1 := Lib.hid (HB1.out.trans (hb.mono HB1.out.size))
                        clear hb HO1 HX HY HB1
                        obtain ⟨y1_0, y1_1, y1_2, y1_3, y1_4, y1_5, yl1⟩ := HX_1.out.lay7
                        obtain ⟨y2_0, y2_1, y2_2, y2_3, y2_4, y2_5, yl2⟩ := HY_1.out.lay7
                        go_wp2_with fail
                        clear y1_0 y1_1 y1_2 y1_3 y1_4 y1_5 yl1 y2_0 y2_1 y2_2 y2_3 y2_4 y2_5 yl2
                        refine (HS2.out _).mono ?_
                        rintro e w12 ⟨rfl, hb⟩
                        have HO1_2 := Lib.hid (show OwnR w12 w.heap.size A' n c' out from HO1_1.out.kept hb)
                        have HX_2 := Lib.hid (show RB w12 gx v3 h3 l3 v4 h4 l4 from HX_1.out.kept hb HX_1.out.lt)
                        have HY_2 := Lib.hid (show RB w12 gz u3 p3 q3 u4 p4 q4 from HY_1.out.kept hb HY_1.out.lt)
                        have HB1_2 := Lib.hid (HB1_1.out.trans (hb.mono HB1_1.out.size))
                        clear hb HO1_1 HX_1 HY_1 HB1_1
                        obtain ⟨y1_0, y1_1, y1_2, y1_3, y1_4, y1_5, yl1⟩ := HX_2.out.lay7
                        obtain ⟨y2_0, y2_1, y2_2, y2_3, y2_4, y2_5, yl2⟩ := HY_2.out.lay7
                        go_wp2_with fail
                        clear y1_0 y1_1 y1_2 y1_3 y1_4 y1_5 yl1 y2_0 y2_1 y2_2 y2_3 y2_4 y2_5 yl2
                        refine (HT1.out _).mono ?_
                        rintro e w13 ⟨rfl, hb⟩
                        have HO1_3 := Lib.hid (show OwnR w13 w.heap.size A' n c' out from HO1_2.out.kept hb)
                        have HX_3 := Lib.hid (show RB w13 gx v3 h3 l3 v4 h4 l4 from HX_2.out.kept hb HX_2.out.lt)
                        have HY_3 := Lib.hid (show RB w13 gz u3 p3 q3 u4 p4 q4 from HY_2.out.kept hb HY_2.out.lt)
                        have HB1_3 := Lib.hid (HB1_2.out.trans (hb.mono HB1_2.out.size))
                        clear hb HO1_2 HX_2 HY_2 HB1_2
                        obtain ⟨y1_0, y1_1, y1_2, y1_3, y1_4, y1_5, yl1⟩ := HX_3.out.lay7
                        obtain ⟨y2_0, y2_1, y2_2, y2_3, y2_4, y2_5, yl2⟩ := HY_3.out.lay7
                        go_wp2_with fail
                        clear y1_0 y1_1 y1_2 y1_3 y1_4 y1_5 yl1 y2_0 y2_1 y2_2 y2_3 y2_4 y2_5 yl2
                        refine (HT2.out _).mono ?_
                        rintro e w14 ⟨rfl, hb⟩
                        have HO1_4 := Lib.hid (show OwnR w14 w.heap.size A' n c' out from HO1_3.out.kept hb)
                        have HX_4 := Lib.hid (show RB w14 gx v3 h3 l3 v4 h4 l4 from HX_3.out.kept hb HX_3.out.lt)
                        have HY_4 := Lib.hid (show RB w14 gz u3 p3 q3 u4 p4 q4 from HY_3.out.kept hb HY_3.out.lt)
                        have HB1_4 := Lib.hid (HB1_3.out.trans (hb.mono HB1_3.out.size))
                        clear hb HO1_3 HX_3 HY_3 HB1_3
                        obtain ⟨y1_0, y1_1, y1_2, y1_3, y1_4, y1_5, yl1⟩ := HX_4.out.lay7
                        obtain ⟨y2_0, y2_1, y2_2, y2_3, y2_4, y2_5, yl2⟩ := HY_4.out.lay7
                        clear y1_0 y1_1 y1_2 y1_3 y1_4 y1_5 yl1 y2_0 y2_1 y2_2 y2_3 y2_4 y2_5 yl2
                        obtain ⟨W16, hW16⟩ : ∃ W, W = ((w14.setCell ⟨gx, 3, none⟩ (.bool u4)).setCell ⟨gx, 4, none⟩ (.int .u64 p4)).setCell ⟨gx, 5, none⟩ (.int .u64 q4) := ⟨_, rfl⟩
                        obtain ⟨y1_0, y1_1, y1_2, y1_3, y1_4, y1_5, yl1⟩ := HX_4.out.lay7
                        have z1_0 := HX_4.out.f 0
                        have z1_1 := HX_4.out.f 1
                        have z1_2 := HX_4.out.f 2
                        have z1_3 := HX_4.out.f 3
                        have z1_4 := HX_4.out.f 4
                        have z1_5 := HX_4.out.f 5
                        obtain ⟨y2_0, y2_1, y2_2, y2_3, y2_4, y2_5, yl2⟩ := HY_4.out.lay7
                        have HO1_5 := Lib.hid (show OwnR W16 w.heap.size A' n c' out from by rw [hW16]; exact ((HO1_4.out.far2 HL.out.2.2 _).far2 HL.out.2.2 _).far2 HL.out.2.2 _)
                        have HX_5 := Lib.hid (show RB W16 gx v3 h3 l3 u4 p4 q4 from by rw [hW16]; exact HX_4.out.setHi u4 p4 q4)
                        have HY_5 := Lib.hid (show RB W16 gz u3 p3 q3 u4 p4 q4 from by rw [hW16]; exact ((HY_4.out.far HL.out.2.1 _).far HL.out.2.1 _).far HL.out.2.1 _)
                        have HB1_5 := Lib.hid (show Below w.heap.size w W16 from by rw [hW16]; exact ((HB1_4.out.setCell (p := ⟨gx, 3, none⟩) HL.out.1 _).setCell (p := ⟨gx, 4, none⟩) HL.out.1 _).setCell (p := ⟨gx, 5, none⟩) HL.out.1 _)
                        have q1_0 : W16.cell? ⟨gx, 0, none⟩ = some (.bool v3) := (HX_5.out.c 0).trans rfl
                        rw [hW16] at q1_0
                        have q1_1 : W16.cell? ⟨gx, 1, none⟩ = some (.int .u64 h3) := (HX_5.out.c 1).trans rfl
                        rw [hW16] at q1_1
                        have q1_2 : W16.cell? ⟨gx, 2, none⟩ = some (.int .u64 l3) := (HX_5.out.c 2).trans rfl
                        rw [hW16] at q1_2
                        have q1_3 : W16.cell? ⟨gx, 3, none⟩ = some (.bool u4) := (HX_5.out.c 3).trans rfl
                        rw [hW16] at q1_3
                        have q1_4 : W16.cell? ⟨gx, 4, none⟩ = some (.int .u64 p4) := (HX_5.out.c 4).trans rfl
                        rw [hW16] at q1_4
                        have q1_5 : W16.cell? ⟨gx, 5, none⟩ = some (.int .u64 q4) := (HX_5.out.c 5).trans rfl
                        rw [hW16] at q1_5
                        have q2_0 : W16.cell? ⟨gz, 0, none⟩ = some (.bool u3) := (HY_5.out.c 0).trans rfl
                        rw [hW16] at q2_0
                        have q2_1 : W16.cell? ⟨gz, 1, none⟩ = some (.int .u64 p3) := (HY_5.out.c 1).trans rfl
                        rw [hW16] at q2_1
                        have q2_2 : W16.cell? ⟨gz, 2, none⟩ = some (.int .u64 q3) := (HY_5.out.c 2).trans rfl
                        rw [hW16] at q2_2
                        have q2_3 : W16.cell? ⟨gz, 3, none⟩ = some (.bool u4) := (HY_5.out.c 3).trans rfl
                        rw [hW16] at q2_3
                        have q2_4 : W16.cell? ⟨gz, 4, none⟩ = some (.int .u64 p4) := (HY_5.out.c 4).trans rfl
                        rw [hW16] at q2_4
                        have q2_5 : W16.cell? ⟨gz, 5, none⟩ = some (.int .u64 q4) := (HY_5.out.c 5).trans rfl
                        rw [hW16] at q2_5
                        go_wp2_with fail
                        rw [← hW16]
                        clear hW16 HO1_4 HX_4 HY_4 HB1_4
                        clear y1_0 y1_1 y1_2 y1_3 y1_4 y1_5 yl1 z1_0 z1_1 z1_2 z1_3 z1_4 z1_5 y2_0 y2_1 y2_2 y2_3 y2_4 y2_5 yl2 q1_0 q1_1 q1_2 q1_3 q1_4 q1_5 q2_0 q2_1 q2_2 q2_3 q2_4 q2_5
                        refine (HS3.out _).mono ?_
                        rintro e w16 ⟨rfl, hb⟩
                        have HO1_6 := Lib.hid (show OwnR w16 w.heap.size A' n c' out from HO1_5.out.kept hb)
                        have HX_6 := Lib.hid (show RB w16 gx v3 h3 l3 u4 p4 q4 from HX_5.out.kept hb HX_5.out.lt)
                        have HY_6 := Lib.hid (show RB w16 gz u3 p3 q3 u4 p4 q4 from HY_5.out.kept hb HY_5.out.lt)
                        have HB1_6 := Lib.hid (HB1_5.out.trans (hb.mono HB1_5.out.size))
                        clear hb HO1_5 HX_5 HY_5 HB1_5
                        obtain ⟨y1_0, y1_1, y1_2, y1_3, y1_4, y1_5, yl1⟩ := HX_6.out.lay7
                        obtain ⟨y2_0, y2_1, y2_2, y2_3, y2_4, y2_5, yl2⟩ := HY_6.out.lay7
                        go_wp2_with fail
                        clear y1_0 y1_1 y1_2 y1_3 y1_4 y1_5 yl1 y2_0 y2_1 y2_2 y2_3 y2_4 y2_5 yl2
                        go_roundw
                        case rel => exact ⟨q + 1, n, c', A', out, by omega, by go_num, rfl, HNK2, HG, HA2, HB1_6, HO1_6⟩
                        case measure => simp [intOf]; omega
                    · skip
                      obtain ⟨hif, his, hia⟩ := @inter_some ⟨⟨v3, h3, l3⟩, ⟨v4, h4, l4⟩⟩ ⟨⟨u3, p3, q3⟩, ⟨u4, p4, q4⟩⟩ ⟨v3, h3, l3⟩ ⟨v4, h4, l4⟩ t1 hxf t2 hyf (by simpa using t3) (by rw [if_neg b1]) (by rw [if_neg b2])
                      have HS3 := Lib.hid (fun W => rsome_any v3 h3 l3 v4 h4 l4 W hif.1 hif.2)
                      rw [decide_eq_false b1] at HT1
                      rw [decide_eq_false b2] at HT2
                      rcases Bool.eq_false_or_eq_true (someR ⟨⟨v3, h3, l3⟩, ⟨v4, h4, l4⟩⟩) with t4 | t4
                      · rw [t4] at HS3
                        have HA2 := Lib.hid (show ∀ m, (anyS (out.map spn) m || inS (spn ⟨⟨v3, h3, l3⟩, ⟨v4, h4, l4⟩⟩) m) = intF a b k (q + 1) m from fun m => by rw [HST.out, HA.out, t1, t2, Bool.true_and, Bool.true_and, ← hia m, t4, Bool.true_and])
                        have hnb : n ≤ 100000 := by have h1 := HNK.out; have h2 := HKL.out; omega
                        have HADD := Lib.hid (fun W (hW : OwnR W w.heap.size A' n c' out) (hsz : w.heap.size ≤ W.heap.size) => show Calls Try.prog 41 #[.slice A' n c', .agg #[.bool v3, .int .u64 h3, .int .u64 l3, .bool v4, .int .u64 h4, .int .u64 l4]] W (SetO W w.heap.size (fun m => anyS (out.map spn) m || inS (spn ⟨⟨v3, h3, l3⟩, ⟨v4, h4, l4⟩⟩) m) (n + 1)) from by
                          rw [hW.1]
                          exact (radd_any A' c' out v3 h3 l3 v4 h4 l4 W hW.row HG.out t4 hif (by rw [← hW.1]; exact hnb)).mono fun _ _ hh => hh.own hsz)
                        have HNK2 := Lib.hid (show ∀ n5, n5 ≤ n + 1 → n5 ≤ k * nb + (q + 1) from fun n5 h => by have := HNK.out; omega)
                        clear hnb
                        clear HA HNK HST t1 t2 t4 his hia hif b1 b2
                        obtain ⟨y1_0, y1_1, y1_2, y1_3, y1_4, y1_5, yl1⟩ := HX.out.lay7
                        obtain ⟨y2_0, y2_1, y2_2, y2_3, y2_4, y2_5, yl2⟩ := HY.out.lay7
                        go_wp2_with fail
                        clear y1_0 y1_1 y1_2 y1_3 y1_4 y1_5 yl1 y2_0 y2_1 y2_2 y2_3 y2_4 y2_5 yl2
                        refine (HS1.out _).mono ?_
                        rintro e w11 ⟨rfl, hb⟩
                        have HO1_1 := Lib.hid (show OwnR w11 w.heap.size A' n c' out from HO1.out.kept hb)
                        have HX_1 := Lib.hid (show RB w11 gx v3 h3 l3 v4 h4 l4 from HX.out.kept hb HX.out.lt)
                        have HY_1 := Lib.hid (show RB w11 gz u3 p3 q3 u4 p4 q4 from HY.out.kept hb HY.out.lt)
                        have HB1_1 := Lib.hid (HB1.out.trans (hb.mono HB1.out.size))
                        clear hb HO1 HX HY HB1
                        obtain ⟨y1_0, y1_1, y1_2, y1_3, y1_4, y1_5, yl1⟩ := HX_1.out.lay7
                        obtain ⟨y2_0, y2_1, y2_2, y2_3, y2_4, y2_5, yl2⟩ := HY_1.out.lay7
                        go_wp2_with fail
                        clear y1_0 y1_1 y1_2 y1_3 y1_4 y1_5 yl1 y2_0 y2_1 y2_2 y2_3 y2_4 y2_5 yl2
                        refine (HS2.out _).mono ?_
                        rintro e w12 ⟨rfl, hb⟩
                        have HO1_2 := Lib.hid (show OwnR w12 w.heap.size A' n c' out from HO1_1.out.kept hb)
                        have HX_2 := Lib.hid (show RB w12 gx v3 h3 l3 v4 h4 l4 from HX_1.out.kept hb HX_1.out.lt)
                        have HY_2 := Lib.hid (show RB w12 gz u3 p3 q3 u4 p4 q4 from HY_1.out.kept hb HY_1.out.lt)
                        have HB1_2 := Lib.hid (HB1_1.out.trans (hb.mono HB1_1.out.size))
                        clear hb HO1_1 HX_1 HY_1 HB1_1
                        obtain ⟨y1_0, y1_1, y1_2, y1_3, y1_4, y1_5, yl1⟩ := HX_2.out.lay7
                        obtain ⟨y2_0, y2_1, y2_2, y2_3, y2_4, y2_5, yl2⟩ := HY_2.out.lay7
                        go_wp2_with fail
                        clear y1_0 y1_1 y1_2 y1_3 y1_4 y1_5 yl1 y2_0 y2_1 y2_2 y2_3 y2_4 y2_5 yl2
                        refine (HT1.out _).mono ?_
                        rintro e w13 ⟨rfl, hb⟩
                        have HO1_3 := Lib.hid (show OwnR w13 w.heap.size A' n c' out from HO1_2.out.kept hb)
                        have HX_3 := Lib.hid (show RB w13 gx v3 h3 l3 v4 h4 l4 from HX_2.out.kept hb HX_2.out.lt)
                        have HY_3 := Lib.hid (show RB w13 gz u3 p3 q3 u4 p4 q4 from HY_2.out.kept hb HY_2.out.lt)
                        have HB1_3 := Lib.hid (HB1_2.out.trans (hb.mono HB1_2.out.size))
                        clear hb HO1_2 HX_2 HY_2 HB1_2
                        obtain ⟨y1_0, y1_1, y1_2, y1_3, y1_4, y1_5, yl1⟩ := HX_3.out.lay7
                        obtain ⟨y2_0, y2_1, y2_2, y2_3, y2_4, y2_5, yl2⟩ := HY_3.out.lay7
                        go_wp2_with fail
                        clear y1_0 y1_1 y1_2 y1_3 y1_4 y1_5 yl1 y2_0 y2_1 y2_2 y2_3 y2_4 y2_5 yl2
                        refine (HT2.out _).mono ?_
                        rintro e w14 ⟨rfl, hb⟩
                        have HO1_4 := Lib.hid (show OwnR w14 w.heap.size A' n c' out from HO1_3.out.kept hb)
                        have HX_4 := Lib.hid (show RB w14 gx v3 h3 l3 v4 h4 l4 from HX_3.out.kept hb HX_3.out.lt)
                        have HY_4 := Lib.hid (show RB w14 gz u3 p3 q3 u4 p4 q4 from HY_3.out.kept hb HY_3.out.lt)
                        have HB1_4 := Lib.hid (HB1_3.out.trans (hb.mono HB1_3.out.size))
                        clear hb HO1_3 HX_3 HY_3 HB1_3
                        obtain ⟨y1_0, y1_1, y1_2, y1_3, y1_4, y1_5, yl1⟩ := HX_4.out.lay7
                        obtain ⟨y2_0, y2_1, y2_2, y2_3, y2_4, y2_5, yl2⟩ := HY_4.out.lay7
                        go_wp2_with fail
                        clear y1_0 y1_1 y1_2 y1_3 y1_4 y1_5 yl1 y2_0 y2_1 y2_2 y2_3 y2_4 y2_5 yl2
                        refine (HS3.out _).mono ?_
                        rintro e w15 ⟨rfl, hb⟩
                        have HO1_5 := Lib.hid (show OwnR w15 w.heap.size A' n c' out from HO1_4.out.kept hb)
                        have HX_5 := Lib.hid (show RB w15 gx v3 h3 l3 v4 h4 l4 from HX_4.out.kept hb HX_4.out.lt)
                        have HY_5 := Lib.hid (show RB w15 gz u3 p3 q3 u4 p4 q4 from HY_4.out.kept hb HY_4.out.lt)
                        have HB1_5 := Lib.hid (HB1_4.out.trans (hb.mono HB1_4.out.size))
                        clear hb HO1_4 HX_4 HY_4 HB1_4
                        obtain ⟨y1_0, y1_1, y1_2, y1_3, y1_4, y1_5, yl1⟩ := HX_5.out.lay7
                        obtain ⟨y2_0, y2_1, y2_2, y2_3, y2_4, y2_5, yl2⟩ := HY_5.out.lay7
                        go_wp2_with fail
                        clear y1_0 y1_1 y1_2 y1_3 y1_4 y1_5 yl1 y2_0 y2_1 y2_2 y2_3 y2_4 y2_5 yl2
                        refine (HADD.out _ HO1_5.out HB1_5.out.size).mono ?_
                        rintro e wq ⟨L, A5, n5, c5, g1, g2, g3, rfl, g5, hb⟩
                        have HBq := Lib.hid (HB1_5.out.trans (hb.mono HB1_5.out.size))
                        have HOq := Lib.hid g5
                        have HGq := Lib.hid g1
                        have HAq := Lib.hid (fun m => (g2 m).trans (HA2.out m))
                        have HNq := Lib.hid (HNK2.out n5 g3)
                        clear hb g1 g2 g3 g5
                        go_wp2_with fail
                        go_roundw
                        case rel => exact ⟨q + 1, n5, c5, A5, L, by omega, by go_num, rfl, HNq, HGq, HAq, HBq, HOq⟩
                        case measure => simp [intOf]; omega
                      · rw [t4] at HS3
                        have HA2 := Lib.hid (show ∀ m, anyS (out.map spn) m = intF a b k (q + 1) m from fun m => by rw [HST.out, HA.out, t1, t2, Bool.true_and, Bool.true_and, ← hia m, t4, Bool.false_and, Bool.or_false])
                        have HNK2 := Lib.hid (show n ≤ k * nb + (q + 1) from Nat.le_succ_of_le HNK.out)
                        clear HA HNK HST t1 t2 t4 his hia hif b1 b2
                        obtain ⟨y1_0, y1_1, y1_2, y1_3, y1_4, y1_5, yl1⟩ := HX.out.lay7
                        obtain ⟨y2_0, y2_1, y2_2, y2_3, y2_4, y2_5, yl2⟩ := HY.out.lay7
                        go_wp2_with fail
                        clear y1_0 y1_1 y1_2 y1_3 y1_4 y1_5 yl1 y2_0 y2_1 y2_2 y2_3 y2_4 y2_5 yl2
                        refine (HS1.out _).mono ?_
                        rintro e w11 ⟨rfl, hb⟩
                        have HO1_1 := Lib.hid (show OwnR w11 w.heap.size A' n c' out from HO1.out.kept hb)
                        have HX_1 := Lib.hid (show RB w11 gx v3 h3 l3 v4 h4 l4 from HX.out.kept hb HX.out.lt)
                        have HY_1 := Lib.hid (show RB w11 gz u3 p3 q3 u4 p4 q4 from HY.out.kept hb HY.out.lt)
                        have HB1_1 := Lib.hid (HB1.out.trans (hb.mono HB1.out.size))
                        clear hb HO1 HX HY HB1
                        obtain ⟨y1_0, y1_1, y1_2, y1_3, y1_4, y1_5, yl1⟩ := HX_1.out.lay7
                        obtain ⟨y2_0, y2_1, y2_2, y2_3, y2_4, y2_5, yl2⟩ := HY_1.out.lay7
                        go_wp2_with fail
                        clear y1_0 y1_1 y1_2 y1_3 y1_4 y1_5 yl1 y2_0 y2_1 y2_2 y2_3 y2_4 y2_5 yl2
                        refine (HS2.out _).mono ?_
                        rintro e w12 ⟨rfl, hb⟩
                        have HO1_2 := Lib.hid (show OwnR w12 w.heap.size A' n c' out from HO1_1.out.kept hb)
                        have HX_2 := Lib.hid (show RB w12 gx v3 h3 l3 v4 h4 l4 from HX_1.out.kept hb HX_1.out.lt)
                        have HY_2 := Lib.hid (show RB w12 gz u3 p3 q3 u4 p4 q4 from HY_1.out.kept hb HY_1.out.lt)
                        have HB1_2 := Lib.hid (HB1_1.out.trans (hb.mono HB1_1.out.size))
                        clear hb HO1_1 HX_1 HY_1 HB1_1
                        obtain ⟨y1_0, y1_1, y1_2, y1_3, y1_4, y1_5, yl1⟩ := HX_2.out.lay7
                        obtain ⟨y2_0, y2_1, y2_2, y2_3, y2_4, y2_5, yl2⟩ := HY_2.out.lay7
                        go_wp2_with fail
                        clear y1_0 y1_1 y1_2 y1_3 y1_4 y1_5 yl1 y2_0 y2_1 y2_2 y2_3 y2_4 y2_5 yl2
                        refine (HT1.out _).mono ?_
                        rintro e w13 ⟨rfl, hb⟩
                        have HO1_3 := Lib.hid (show OwnR w13 w.heap.size A' n c' out from HO1_2.out.kept hb)
                        have HX_3 := Lib.hid (show RB w13 gx v3 h3 l3 v4 h4 l4 from HX_2.out.kept hb HX_2.out.lt)
                        have HY_3 := Lib.hid (show RB w13 gz u3 p3 q3 u4 p4 q4 from HY_2.out.kept hb HY_2.out.lt)
                        have HB1_3 := Lib.hid (HB1_2.out.trans (hb.mono HB1_2.out.size))
                        clear hb HO1_2 HX_2 HY_2 HB1_2
                        obtain ⟨y1_0, y1_1, y1_2, y1_3, y1_4, y1_5, yl1⟩ := HX_3.out.lay7
                        obtain ⟨y2_0, y2_1, y2_2, y2_3, y2_4, y2_5, yl2⟩ := HY_3.out.lay7
                        go_wp2_with fail
                        clear y1_0 y1_1 y1_2 y1_3 y1_4 y1_5 yl1 y2_0 y2_1 y2_2 y2_3 y2_4 y2_5 yl2
                        refine (HT2.out _).mono ?_
                        rintro e w14 ⟨rfl, hb⟩
                        have HO1_4 := Lib.hid (show OwnR w14 w.heap.size A' n c' out from HO1_3.out.kept hb)
                        have HX_4 := Lib.hid (show RB w14 gx v3 h3 l3 v4 h4 l4 from HX_3.out.kept hb HX_3.out.lt)
                        have HY_4 := Lib.hid (show RB w14 gz u3 p3 q3 u4 p4 q4 from HY_3.out.kept hb HY_3.out.lt)
                        have HB1_4 := Lib.hid (HB1_3.out.trans (hb.mono HB1_3.out.size))
                        clear hb HO1_3 HX_3 HY_3 HB1_3
                        obtain ⟨y1_0, y1_1, y1_2, y1_3, y1_4, y1_5, yl1⟩ := HX_4.out.lay7
                        obtain ⟨y2_0, y2_1, y2_2, y2_3, y2_4, y2_5, yl2⟩ := HY_4.out.lay7
                        go_wp2_with fail
                        clear y1_0 y1_1 y1_2 y1_3 y1_4 y1_5 yl1 y2_0 y2_1 y2_2 y2_3 y2_4 y2_5 yl2
                        refine (HS3.out _).mono ?_
                        rintro e w15 ⟨rfl, hb⟩
                        have HO1_5 := Lib.hid (show OwnR w15 w.heap.size A' n c' out from HO1_4.out.kept hb)
                        have HX_5 := Lib.hid (show RB w15 gx v3 h3 l3 v4 h4 l4 from HX_4.out.kept hb HX_4.out.lt)
                        have HY_5 := Lib.hid (show RB w15 gz u3 p3 q3 u4 p4 q4 from HY_4.out.kept hb HY_4.out.lt)
                        have HB1_5 := Lib.hid (HB1_4.out.trans (hb.mono HB1_4.out.size))
                        clear hb HO1_4 HX_4 HY_4 HB1_4
                        obtain ⟨y1_0, y1_1, y1_2, y1_3, y1_4, y1_5, yl1⟩ := HX_5.out.lay7
                        obtain ⟨y2_0, y2_1, y2_2, y2_3, y2_4, y2_5, yl2⟩ := HY_5.out.lay7
                        go_wp2_with fail
                        clear y1_0 y1_1 y1_2 y1_3 y1_4 y1_5 yl1 y2_0 y2_1 y2_2 y2_3 y2_4 y2_5 yl2
                        go_roundw
                        case rel => exact ⟨q + 1, n, c', A', out, by omega, by go_num, rfl, HNK2, HG, HA2, HB1_5, HO1_5⟩
                        case measure => simp [intOf]; omega
                · skip
                  have hne : (!(v3 == u3)) = true := by rw [t3]; rfl
                  have hn0 := inter_ne t1 hxf t2 hyf t3
                  have HA2 := Lib.hid (show ∀ m, anyS (out.map spn) m = intF a b k (q + 1) m from fun m => by rw [HST.out, HA.out]; rw [t1, t2, Bool.true_and, Bool.true_and, hn0, Bool.or_false])
                  have HNK2 := Lib.hid (show n ≤ k * nb + (q + 1) from Nat.le_succ_of_le HNK.out)
                  clear HA HNK HST t1 t2 hn0
                  obtain ⟨y1_0, y1_1, y1_2, y1_3, y1_4, y1_5, yl1⟩ := HX.out.lay7
                  obtain ⟨y2_0, y2_1, y2_2, y2_3, y2_4, y2_5, yl2⟩ := HY.out.lay7
                  go_wp2_with fail
                  clear y1_0 y1_1 y1_2 y1_3 y1_4 y1_5 yl1 y2_0 y2_1 y2_2 y2_3 y2_4 y2_5 yl2
                  refine (HS1.out _).mono ?_
                  rintro e w11 ⟨rfl, hb⟩
                  have HO1_1 := Lib.hid (show OwnR w11 w.heap.size A' n c' out from HO1.out.kept hb)
                  have HX_1 := Lib.hid (show RB w11 gx v3 h3 l3 v4 h4 l4 from HX.out.kept hb HX.out.lt)
                  have HY_1 := Lib.hid (show RB w11 gz u3 p3 q3 u4 p4 q4 from HY.out.kept hb HY.out.lt)
                  have HB1_1 := Lib.hid (HB1.out.trans (hb.mono HB1.out.size))
                  clear hb HO1 HX HY HB1
                  obtain ⟨y1_0, y1_1, y1_2, y1_3, y1_4, y1_5, yl1⟩ := HX_1.out.lay7
                  obtain ⟨y2_0, y2_1, y2_2, y2_3, y2_4, y2_5, yl2⟩ := HY_1.out.lay7
                  go_wp2_with fail
                  clear y1_0 y1_1 y1_2 y1_3 y1_4 y1_5 yl1 y2_0 y2_1 y2_2 y2_3 y2_4 y2_5 yl2
                  refine (HS2.out _).mono ?_
                  rintro e w12 ⟨rfl, hb⟩
                  have HO1_2 := Lib.hid (show OwnR w12 w.heap.size A' n c' out from HO1_1.out.kept hb)
                  have HX_2 := Lib.hid (show RB w12 gx v3 h3 l3 v4 h4 l4 from HX_1.out.kept hb HX_1.out.lt)
                  have HY_2 := Lib.hid (show RB w12 gz u3 p3 q3 u4 p4 q4 from HY_1.out.kept hb HY_1.out.lt)
                  have HB1_2 := Lib.hid (HB1_1.out.trans (hb.mono HB1_1.out.size))
                  clear hb HO1_1 HX_1 HY_1 HB1_1
                  obtain ⟨y1_0, y1_1, y1_2, y1_3, y1_4, y1_5, yl1⟩ := HX_2.out.lay7
                  obtain ⟨y2_0, y2_1, y2_2, y2_3, y2_4, y2_5, yl2⟩ := HY_2.out.lay7
                  go_wp2_with fail
                  clear y1_0 y1_1 y1_2 y1_3 y1_4 y1_5 yl1 y2_0 y2_1 y2_2 y2_3 y2_4 y2_5 yl2
                  go_roundw
                  case rel => exact ⟨q + 1, n, c', A', out, by omega, by go_num, rfl, HNK2, HG, HA2, HB1_2, HO1_2⟩
                  case measure => simp [intOf]; omega
              · skip
                rw [t2] at HS2
                have HA2 := Lib.hid (show ∀ m, anyS (out.map spn) m = intF a b k (q + 1) m from fun m => by rw [HST.out, HA.out]; rw [t2, Bool.false_and, Bool.and_false, Bool.or_false])
                have HNK2 := Lib.hid (show n ≤ k * nb + (q + 1) from Nat.le_succ_of_le HNK.out)
                clear HA HNK HST t1 t2
                obtain ⟨y1_0, y1_1, y1_2, y1_3, y1_4, y1_5, yl1⟩ := HX.out.lay7
                obtain ⟨y2_0, y2_1, y2_2, y2_3, y2_4, y2_5, yl2⟩ := HY.out.lay7
                go_wp2_with fail
                clear y1_0 y1_1 y1_2 y1_3 y1_4 y1_5 yl1 y2_0 y2_1 y2_2 y2_3 y2_4 y2_5 yl2
                refine (HS1.out _).mono ?_
                rintro e w11 ⟨rfl, hb⟩
                have HO1_1 := Lib.hid (show OwnR w11 w.heap.size A' n c' out from HO1.out.kept hb)
                have HX_1 := Lib.hid (show RB w11 gx v3 h3 l3 v4 h4 l4 from HX.out.kept hb HX.out.lt)
                have HY_1 := Lib.hid (show RB w11 gz u3 p3 q3 u4 p4 q4 from HY.out.kept hb HY.out.lt)
                have HB1_1 := Lib.hid (HB1.out.trans (hb.mono HB1.out.size))
                clear hb HO1 HX HY HB1
                obtain ⟨y1_0, y1_1, y1_2, y1_3, y1_4, y1_5, yl1⟩ := HX_1.out.lay7
                obtain ⟨y2_0, y2_1, y2_2, y2_3, y2_4, y2_5, yl2⟩ := HY_1.out.lay7
                go_wp2_with fail
                clear y1_0 y1_1 y1_2 y1_3 y1_4 y1_5 yl1 y2_0 y2_1 y2_2 y2_3 y2_4 y2_5 yl2
                refine (HS2.out _).mono ?_
                rintro e w12 ⟨rfl, hb⟩
                have HO1_2 := Lib.hid (show OwnR w12 w.heap.size A' n c' out from HO1_1.out.kept hb)
                have HX_2 := Lib.hid (show RB w12 gx v3 h3 l3 v4 h4 l4 from HX_1.out.kept hb HX_1.out.lt)
                have HY_2 := Lib.hid (show RB w12 gz u3 p3 q3 u4 p4 q4 from HY_1.out.kept hb HY_1.out.lt)
                have HB1_2 := Lib.hid (HB1_1.out.trans (hb.mono HB1_1.out.size))
                clear hb HO1_1 HX_1 HY_1 HB1_1
                obtain ⟨y1_0, y1_1, y1_2, y1_3, y1_4, y1_5, yl1⟩ := HX_2.out.lay7
                obtain ⟨y2_0, y2_1, y2_2, y2_3, y2_4, y2_5, yl2⟩ := HY_2.out.lay7
                go_wp2_with fail
                clear y1_0 y1_1 y1_2 y1_3 y1_4 y1_5 yl1 y2_0 y2_1 y2_2 y2_3 y2_4 y2_5 yl2
                go_roundw
                case rel => exact ⟨q + 1, n, c', A', out, by omega, by go_num, rfl, HNK2, HG, HA2, HB1_2, HO1_2⟩
                case measure => simp [intOf]; omega
            · skip
              rw [t1] at HS1
              have HA2 := Lib.hid (show ∀ m, anyS (out.map spn) m = intF a b k (q + 1) m from fun m => by rw [HST.out, HA.out]; rw [t1, Bool.false_and, Bool.false_and, Bool.or_false])
              have HNK2 := Lib.hid (show n ≤ k * nb + (q + 1) from Nat.le_succ_of_le HNK.out)
              clear HA HNK HST t1
              obtain ⟨y1_0, y1_1, y1_2, y1_3, y1_4, y1_5, yl1⟩ := HX.out.lay7
              obtain ⟨y2_0, y2_1, y2_2, y2_3, y2_4, y2_5, yl2⟩ := HY.out.lay7
              go_wp2_with fail
              clear y1_0 y1_1 y1_2 y1_3 y1_4 y1_5 yl1 y2_0 y2_1 y2_2 y2_3 y2_4 y2_5 yl2
              refine (HS1.out _).mono ?_
              rintro e w11 ⟨rfl, hb⟩
              have HO1_1 := Lib.hid (show OwnR w11 w.heap.size A' n c' out from HO1.out.kept hb)
              have HX_1 := Lib.hid (show RB w11 gx v3 h3 l3 v4 h4 l4 from HX.out.kept hb HX.out.lt)
              have HY_1 := Lib.hid (show RB w11 gz u3 p3 q3 u4 p4 q4 from HY.out.kept hb HY.out.lt)
              have HB1_1 := Lib.hid (HB1.out.trans (hb.mono HB1.out.size))
              clear hb HO1 HX HY HB1
              obtain ⟨y1_0, y1_1, y1_2, y1_3, y1_4, y1_5, yl1⟩ := HX_1.out.lay7
              obtain ⟨y2_0, y2_1, y2_2, y2_3, y2_4, y2_5, yl2⟩ := HY_1.out.lay7
              go_wp2_with fail
              clear y1_0 y1_1 y1_2 y1_3 y1_4 y1_5 yl1 y2_0 y2_1 y2_2 y2_3 y2_4 y2_5 yl2
              go_roundw
              case rel => exact ⟨q + 1, n, c', A', out, by omega, by go_num, rfl, HNK2, HG, HA2, HB1_1, HO1_1⟩
              case measure => simp [intOf]; omega
          · obtain ⟨W1, hW1⟩ : ∃ W, W = ((wr.alloc (.cells #[.bool u3, .int .u64 p3, .int .u64 q3, .bool u4, .int .u64 p4, .int .u64 q4] 43)).alloc (.cells #[.bool v3, .int .u64 h3, .int .u64 l3, .bool v4, .int .u64 h4, .int .u64 l4] 43)).drew := ⟨_, rfl⟩
            obtain ⟨gx, hgx⟩ : ∃ g, g = wr.heap.size + 1 := ⟨_, rfl⟩
            obtain ⟨gz, hgz⟩ : ∃ g, g = wr.heap.size := ⟨_, rfl⟩
            have HX := Lib.hid (show RB W1 gx v3 h3 l3 v4 h4 l4 from by rw [hW1, hgx]; exact rb2 wr _ v3 h3 l3 v4 h4 l4)
            have HY := Lib.hid (show RB W1 gz u3 p3 q3 u4 p4 q4 from by rw [hW1, hgz]; exact (rb_new wr u3 p3 q3 u4 p4 q4).al _)
            have HO1 := Lib.hid (show OwnR W1 w.heap.size A' n c' out from by rw [hW1]; exact (HO.out.al _).al _)
            have HB1 := Lib.hid (show Below w.heap.size w W1 from by rw [hW1]; exact below_drew7 ((HB.out.alloc HB.out.size _).alloc (HB.out.alloc HB.out.size _).size _))
            have HL := Lib.hid (show w.heap.size ≤ gx ∧ gz ≠ gx ∧ (∀ j, (Value.slice A' n c').ownBlock = some j → j ≠ gx) from ⟨by have := HB.out.size; omega, by omega, fun j hj => by have := (HO.out.2.lt j hj).2; omega⟩)
            rw [← hW1, ← hgx, ← hgz]
            clear hW1 hgx hgz HO HB c0 c1 c2 c3 c4 c5 e0 e1 e2 e3 e4 e5 hgw hgyw
            have HS1 := Lib.hid (fun W => rsome_any v3 h3 l3 v4 h4 l4 W hxf.1 hxf.2)
            have HS2 := Lib.hid (fun W => rsome_any u3 p3 q3 u4 p4 q4 W hyf.1 hyf.2)
            have HT1 := Lib.hid (fun W => rbef_key hxf.1 hyf.1 W)
            have HT2 := Lib.hid (fun W => rbef_key hyf.2 hxf.2 W)
            simp only at HT1 HT2
            rcases Bool.eq_false_or_eq_true (someR ⟨⟨v3, h3, l3⟩, ⟨v4, h4, l4⟩⟩) with t1 | t1
            · skip
              rw [t1] at HS1
              rcases Bool.eq_false_or_eq_true (someR ⟨⟨u3, p3, q3⟩, ⟨u4, p4, q4⟩⟩) with t2 | t2
              · skip
                rw [t2] at HS2
                rcases Bool.eq_false_or_eq_true (v3 == u3) with t3 | t3
                · skip
                  have hne : (!(v3 == u3)) = false := by rw [t3]; rfl
                  by_cases b1 : kA ⟨v3, h3, l3⟩ < kA ⟨u3, p3, q3⟩
                  · skip
                    by_cases b2 : kA ⟨u4, p4, q4⟩ < kA ⟨v4, h4, l4⟩
                    · skip
                      obtain ⟨hif, his, hia⟩ := @inter_some ⟨⟨v3, h3, l3⟩, ⟨v4, h4, l4⟩⟩ ⟨⟨u3, p3, q3⟩, ⟨u4, p4, q4⟩⟩ ⟨u3, p3, q3⟩ ⟨u4, p4, q4⟩ t1 hxf t2 hyf (by simpa using t3) (by rw [if_pos b1]) (by rw [if_pos b2])
                      have HS3 := Lib.hid (fun W => rsome_any u3 p3 q3 u4 p4 q4 W hif.1 hif.2)
                      rw [decide_eq_true b1] at HT1
                      rw [decide_eq_true b2] at HT2
                      rcases Bool.eq_false_or_eq_true (someR ⟨⟨u3, p3, q3⟩, ⟨u4, p4, q4⟩⟩) with t4 | t4
                      · rw [t4] at HS3
                        have HA2 := Lib.hid (show ∀ m, (anyS (out.map spn) m || inS (spn ⟨⟨u3, p3, q3⟩, ⟨u4, p4, q4⟩⟩) m) = intF a b k (q + 1) m from fun m => by rw [HST.out, HA.out, t1, t2, Bool.true_and, Bool.true_and, ← hia m, t4, Bool.true_and])
                        have hnb : n ≤ 100000 := by have h1 := HNK.out; have h2 := HKL.out; omega
                        have HADD := Lib.hid (fun W (hW : OwnR W w.heap.size A' n c' out) (hsz : w.heap.size ≤ W.heap.size) => show Calls Try.prog 41 #[.slice A' n c', .agg #[.bool u3, .int .u64 p3, .int .u64 q3, .bool u4, .int .u64 p4, .int .u64 q4]] W (SetO W w.heap.size (fun m => anyS (out.map spn) m || inS (spn ⟨⟨u3, p3, q3⟩, ⟨u4, p4, q4⟩⟩) m) (n + 1)) from by
                          rw [hW.1]
                          exact (radd_any A' c' out u3 p3 q3 u4 p4 q4 W hW.row HG.out t4 hif (by rw [← hW.1]; exact hnb)).mono fun _ _ hh => hh.own hsz)
                        have HNK2 := Lib.hid (show ∀ n5, n5 ≤ n + 1 → n5 ≤ k * nb + (q + 1) from fun n5 h => by have := HNK.out; omega)
                        clear hnb
                        clear HA HNK HST t1 t2 t4 his hia hif b1 b2
                        obtain ⟨y1_0, y1_1, y1_2, y1_3, y1_4, y1_5, yl1⟩ := HX.out.lay7
                        obtain ⟨y2_0, y2_1, y2_2, y2_3, y2_4, y2_5, yl2⟩ := HY.out.lay7
                        go_wp2_with fail
                        clear y1_0 y1_1 y1_2 y1_3 y1_4 y1_5 yl1 y2_0 y2_1 y2_2 y2_3 y2_4 y2_5 yl2
                        refine (HS1.out _).mono ?_
                        rintro e w11 ⟨rfl, hb⟩
                        have HO1_1 := Lib.hid (show OwnR w11 w.heap.size A' n c' out from HO1.out.kept hb)
                        have HX_1 := Lib.hid (show RB w11 gx v3 h3 l3 v4 h4 l4 from HX.out.kept hb HX.out.lt)
                        have HY_1 := Lib.hid (show RB w11 gz u3 p3 q3 u4 p4 q4 from HY.out.kept hb HY.out.lt)
                        have HB1_1 := Lib.hid (HB1.out.trans (hb.mono HB1.out.size))
                        clear hb HO1 HX HY HB1
                        obtain ⟨y1_0, y1_1, y1_2, y1_3, y1_4, y1_5, yl1⟩ := HX_1.out.lay7
                        obtain ⟨y2_0, y2_1, y2_2, y2_3, y2_4, y2_5, yl2⟩ := HY_1.out.lay7
                        go_wp2_with fail
                        clear y1_0 y1_1 y1_2 y1_3 y1_4 y1_5 yl1 y2_0 y2_1 y2_2 y2_3 y2_4 y2_5 yl2
                        refine (HS2.out _).mono ?_
                        rintro e w12 ⟨rfl, hb⟩
                        have HO1_2 := Lib.hid (show OwnR w12 w.heap.size A' n c' out from HO1_1.out.kept hb)
                        have HX_2 := Lib.hid (show RB w12 gx v3 h3 l3 v4 h4 l4 from HX_1.out.kept hb HX_1.out.lt)
                        have HY_2 := Lib.hid (show RB w12 gz u3 p3 q3 u4 p4 q4 from HY_1.out.kept hb HY_1.out.lt)
                        have HB1_2 := Lib.hid (HB1_1.out.trans (hb.mono HB1_1.out.size))
                        clear hb HO1_1 HX_1 HY_1 HB1_1
                        obtain ⟨y1_0, y1_1, y1_2, y1_3, y1_4, y1_5, yl1⟩ := HX_2.out.lay7
                        obtain ⟨y2_0, y2_1, y2_2, y2_3, y2_4, y2_5, yl2⟩ := HY_2.out.lay7
                        go_wp2_with fail
                        clear y1_0 y1_1 y1_2 y1_3 y1_4 y1_5 yl1 y2_0 y2_1 y2_2 y2_3 y2_4 y2_5 yl2
                        refine (HT1.out _).mono ?_
                        rintro e w13 ⟨rfl, hb⟩
                        have HO1_3 := Lib.hid (show OwnR w13 w.heap.size A' n c' out from HO1_2.out.kept hb)
                        have HX_3 := Lib.hid (show RB w13 gx v3 h3 l3 v4 h4 l4 from HX_2.out.kept hb HX_2.out.lt)
                        have HY_3 := Lib.hid (show RB w13 gz u3 p3 q3 u4 p4 q4 from HY_2.out.kept hb HY_2.out.lt)
                        have HB1_3 := Lib.hid (HB1_2.out.trans (hb.mono HB1_2.out.size))
                        clear hb HO1_2 HX_2 HY_2 HB1_2
                        obtain ⟨y1_0, y1_1, y1_2, y1_3, y1_4, y1_5, yl1⟩ := HX_3.out.lay7
                        obtain ⟨y2_0, y2_1, y2_2, y2_3, y2_4, y2_5, yl2⟩ := HY_3.out.lay7
                        clear y1_0 y1_1 y1_2 y1_3 y1_4 y1_5 yl1 y2_0 y2_1 y2_2 y2_3 y2_4 y2_5 yl2
                        obtain ⟨W15, hW15⟩ : ∃ W, W = ((w13.setCell ⟨gx, 0, none⟩ (.bool u3)).setCell ⟨gx, 1, none⟩ (.int .u64 p3)).setCell ⟨gx, 2, none⟩ (.int .u64 q3) := ⟨_, rfl⟩
                        obtain ⟨y1_0, y1_1, y1_2, y1_3, y1_4, y1_5, yl1⟩ := HX_3.out.lay7
                        have z1_0 := HX_3.out.f 0
                        have z1_1 := HX_3.out.f 1
                        have z1_2 := HX_3.out.f 2
                        have z1_3 := HX_3.out.f 3
                        have z1_4 := HX_3.out.f 4
                        have z1_5 := HX_3.out.f 5
                        obtain ⟨y2_0, y2_1, y2_2, y2_3, y2_4, y2_5, yl2⟩ := HY_3.out.lay7
                        have HO1_4 := Lib.hid (show OwnR W15 w.heap.size A' n c' out from by rw [hW15]; exact ((HO1_3.out.far2 HL.out.2.2 _).far2 HL.out.2.2 _).far2 HL.out.2.2 _)
                        have HX_4 := Lib.hid (show RB W15 gx u3 p3 q3 v4 h4 l4 from by rw [hW15]; exact HX_3.out.setLo u3 p3 q3)
                        have HY_4 := Lib.hid (show RB W15 gz u3 p3 q3 u4 p4 q4 from by rw [hW15]; exact ((HY_3.out.far HL.out.2.1 _).far HL.out.2.1 _).far HL.out.2.1 _)
                        have HB1_4 := Lib.hid (show Below w.heap.size w W15 from by rw [hW15]; exact ((HB1_3.out.setCell (p := ⟨gx, 0, none⟩) HL.out.1 _).setCell (p := ⟨gx, 1, none⟩) HL.out.1 _).setCell (p := ⟨gx, 2, none⟩) HL.out.1 _)
                        have q1_0 : W15.cell? ⟨gx, 0, none⟩ = some (.bool u3) := (HX_4.out.c 0).trans rfl
                        rw [hW15] at q1_0
                        have q1_1 : W15.cell? ⟨gx, 1, none⟩ = some (.int .u64 p3) := (HX_4.out.c 1).trans rfl
                        rw [hW15] at q1_1
                        have q1_2 : W15.cell? ⟨gx, 2, none⟩ = some (.int .u64 q3) := (HX_4.out.c 2).trans rfl
                        rw [hW15] at q1_2
                        have q1_3 : W15.cell? ⟨gx, 3, none⟩ = some (.bool v4) := (HX_4.out.c 3).trans rfl
                        rw [hW15] at q1_3
                        have q1_4 : W15.cell? ⟨gx, 4, none⟩ = some (.int .u64 h4) := (HX_4.out.c 4).trans rfl
                        rw [hW15] at q1_4
                        have q1_5 : W15.cell? ⟨gx, 5, none⟩ = some (.int .u64 l4) := (HX_4.out.c 5).trans rfl
                        rw [hW15] at q1_5
                        have q2_0 : W15.cell? ⟨gz, 0, none⟩ = some (.bool u3) := (HY_4.out.c 0).trans rfl
                        rw [hW15] at q2_0
                        have q2_1 : W15.cell? ⟨gz, 1, none⟩ = some (.int .u64 p3) := (HY_4.out.c 1).trans rfl
                        rw [hW15] at q2_1
                        have q2_2 : W15.cell? ⟨gz, 2, none⟩ = some (.int .u64 q3) := (HY_4.out.c 2).trans rfl
                        rw [hW15] at q2_2
                        have q2_3 : W15.cell? ⟨gz, 3, none⟩ = some (.bool u4) := (HY_4.out.c 3).trans rfl
                        rw [hW15] at q2_3
                        have q2_4 : W15.cell? ⟨gz, 4, none⟩ = some (.int .u64 p4) := (HY_4.out.c 4).trans rfl
                        rw [hW15] at q2_4
                        have q2_5 : W15.cell? ⟨gz, 5, none⟩ = some (.int .u64 q4) := (HY_4.out.c 5).trans rfl
                        rw [hW15] at q2_5
                        go_wp2_with fail
                        rw [← hW15]
                        clear hW15 HO1_3 HX_3 HY_3 HB1_3
                        clear y1_0 y1_1 y1_2 y1_3 y1_4 y1_5 yl1 z1_0 z1_1 z1_2 z1_3 z1_4 z1_5 y2_0 y2_1 y2_2 y2_3 y2_4 y2_5 yl2 q1_0 q1_1 q1_2 q1_3 q1_4 q1_5 q2_0 q2_1 q2_2 q2_3 q2_4 q2_5
                        refine (HT2.out _).mono ?_
                        rintro e w15 ⟨rfl, hb⟩
                        have HO1_5 := Lib.hid (show OwnR w15 w.heap.size A' n c' out from HO1_4.out.kept hb)
                        have HX_5 := Lib.hid (show RB w15 gx u3 p3 q3 v4 h4 l4 from HX_4.out.kept hb HX_4.out.lt)
                        have HY_5 := Lib.hid (show RB w15 gz u3 p3 q3 u4 p4 q4 from HY_4.out.kept hb HY_4.out.lt)
                        have HB1_5 := Lib.hid (HB1_4.out.trans (hb.mono HB1_4.out.size))
                        clear hb HO1_4 HX_4 HY_4 HB1_4
                        obtain ⟨y1_0, y1_1, y1_2, y1_3, y1_4, y1_5, yl1⟩ := HX_5.out.lay7
                        obtain ⟨y2_0, y2_1, y2_2, y2_3, y2_4, y2_5, yl2⟩ := HY_5.out.lay7
                        clear y1_0 y1_1 y1_2 y1_3 y1_4 y1_5 yl1 y2_0 y2_1 y2_2 y2_3 y2_4 y2_5 yl2
                        obtain ⟨W17, hW17⟩ : ∃ W, W = ((w15.setCell ⟨gx, 3, none⟩ (.bool u4)).setCell ⟨gx, 4, none⟩ (.int .u64 p4)).setCell ⟨gx, 5, none⟩ (.int .u64 q4) := ⟨_, rfl⟩
                        obtain ⟨y1_0, y1_1, y1_2, y1_3, y1_4, y1_5, yl1⟩ := HX_5.out.lay7
                        have z1_0 := HX_5.out.f 0
                        have z1_1 := HX_5.out.f 1
                        have z1_2 := HX_5.out.f 2
                        have z1_3 := HX_5.out.f 3
                        have z1_4 := HX_5.out.f 4
                        have z1_5 := HX_5.out.f 5
                        obtain ⟨y2_0, y2_1, y2_2, y2_3, y2_4, y2_5, yl2⟩ := HY_5.out.lay7
                        have HO1_6 := Lib.hid (show OwnR W17 w.heap.size A' n c' out from by rw [hW17]; exact ((HO1_5.out.far2 HL.out.2.2 _).far2 HL.out.2.2 _).far2 HL.out.2.2 _)
                        have HX_6 := Lib.hid (show RB W17 gx u3 p3 q3 u4 p4 q4 from by rw [hW17]; exact HX_5.out.setHi u4 p4 q4)
                        have HY_6 := Lib.hid (show RB W17 gz u3 p3 q3 u4 p4 q4 from by rw [hW17]; exact ((HY_5.out.far HL.out.2.1 _).far HL.out.2.1 _).far HL.out.2.1 _)
                        have HB1_6 := Lib.hid (show Below w.heap.size w W17 from by rw [hW17]; exact ((HB1_5.out.setCell (p := ⟨gx, 3, none⟩) HL.out.1 _).setCell (p := ⟨gx, 4, none⟩) HL.out.1 _).setCell (p := ⟨gx, 5, none⟩) HL.out.1 _)
                        have q1_0 : W17.cell? ⟨gx, 0, none⟩ = some (.bool u3) := (HX_6.out.c 0).trans rfl
                        rw [hW17] at q1_0
                        have q1_1 : W17.cell? ⟨gx, 1, none⟩ = some (.int .u64 p3) := (HX_6.out.c 1).trans rfl
                        rw [hW17] at q1_1
                        have q1_2 : W17.cell? ⟨gx, 2, none⟩ = some (.int .u64 q3) := (HX_6.out.c 2).trans rfl
                        rw [hW17] at q1_2
                        have q1_3 : W17.cell? ⟨gx, 3, none⟩ = some (.bool u4) := (HX_6.out.c 3).trans rfl
                        rw [hW17] at q1_3
                        have q1_4 : W17.cell? ⟨gx, 4, none⟩ = some (.int .u64 p4) := (HX_6.out.c 4).trans rfl
                        rw [hW17] at q1_4
                        have q1_5 : W17.cell? ⟨gx, 5, none⟩ = some (.int .u64 q4) := (HX_6.out.c 5).trans rfl
                        rw [hW17] at q1_5
                        have q2_0 : W17.cell? ⟨gz, 0, none⟩ = some (.bool u3) := (HY_6.out.c 0).trans rfl
                        rw [hW17] at q2_0
                        have q2_1 : W17.cell? ⟨gz, 1, none⟩ = some (.int .u64 p3) := (HY_6.out.c 1).trans rfl
                        rw [hW17] at q2_1
                        have q2_2 : W17.cell? ⟨gz, 2, none⟩ = some (.int .u64 q3) := (HY_6.out.c 2).trans rfl
                        rw [hW17] at q2_2
                        have q2_3 : W17.cell? ⟨gz, 3, none⟩ = some (.bool u4) := (HY_6.out.c 3).trans rfl
                        rw [hW17] at q2_3
                        have q2_4 : W17.cell? ⟨gz, 4, none⟩ = some (.int .u64 p4) := (HY_6.out.c 4).trans rfl
                        rw [hW17] at q2_4
                        have q2_5 : W17.cell? ⟨gz, 5, none⟩ = some (.int .u64 q4) := (HY_6.out.c 5).trans rfl
                        rw [hW17] at q2_5
                        go_wp2_with fail
                        rw [← hW17]
                        clear hW17 HO1_5 HX_5 HY_5 HB1_5
                        clear y1_0 y1_1 y1_2 y1_3 y1_4 y1_5 yl1 z1_0 z1_1 z1_2 z1_3 z1_4 z1_5 y2_0 y2_1 y2_2 y2_3 y2_4 y2_5 yl2 q1_0 q1_1 q1_2 q1_3 q1_4 q1_5 q2_0 q2_1 q2_2 q2_3 q2_4 q2_5
                        refine (HS3.out _).mono ?_
                        rintro e w17 ⟨rfl, hb⟩
                        have HO1_7 := Lib.hid (show OwnR w17 w.heap.size A' n c' out from HO1_6.out.kept hb)
                        have HX_7 := Lib.hid (show RB w17 gx u3 p3 q3 u4 p4 q4 from HX_6.out.kept hb HX_6.out.lt)
                        have HY_7 := Lib.hid (show RB w17 gz u3 p3 q3 u4 p4 q4 from HY_6.out.kept hb HY_6.out.lt)
                        have HB1_7 := Lib.hid (HB1_6.out.trans (hb.mono HB1_6.out.size))
                        clear hb HO1_6 HX_6 HY_6 HB1_6
                        obtain ⟨y1_0, y1_1, y1_2, y1_3, y1_4, y1_5, yl1⟩ := HX_7.out.lay7
                        obtain ⟨y2_0, y2_1, y2_2, y2_3, y2_4, y2_5, yl2⟩ := HY_7.out.lay7
                        go_wp2_with fail
                        clear y1_0 y1_1 y1_2 y1_3 y1_4 y1_5 yl1 y2_0 y2_1 y2_2 y2_3 y2_4 y2_5 yl2
                        refine (HADD.out _ HO1_7.out HB1_7.out.size).mono ?_
                        rintro e wq ⟨L, A5, n5, c5, g1, g2, g3, rfl, g5, hb⟩
                        have HBq := Lib.hid (HB1_7.out.trans (hb.mono HB1_7.out.size))
                        have HOq := Lib.hid g5
                        have HGq := Lib.hid g1
                        have HAq := Lib.hid (fun m => (g2 m).trans (HA2.out m))
                        have HNq := Lib.hid (HNK2.out n5 g3)
                        clear hb g1 g2 g3 g5
                        go_wp2_with fail
                        go_roundw
                        case rel => exact ⟨q + 1, n5, c5, A5, L, by omega, by go_num, rfl, HNq, HGq, HAq, HBq, HOq⟩
                        case measure => simp [intOf]; omega
                      · rw [t4] at HS3
                        have HA2 := Lib.hid (show ∀ m, anyS (out.map spn) m = intF a b k (q + 1) m from fun m => by rw [HST.out, HA.out, t1, t2, Bool.true_and, Bool.true_and, ← hia m, t4, Bool.false_and, Bool.or_false])
                        have HNK2 := Lib.hid (show n ≤ k * nb + (q + 1) from Nat.le_succ_of_le HNK.out)
                        clear HA HNK HST t1 t2 t4 his hia hif b1 b2
                        obtain ⟨y1_0, y1_1, y1_2, y1_3, y1_4, y1_5, yl1⟩ := HX.out.lay7
                        obtain ⟨y2_0, y2_1, y2_2, y2_3, y2_4, y2_5, yl2⟩ := HY.out.lay7
                        go_wp2_with fail
                        clear y1_0 y1_1 y1_2 y1_3 y1_4 y1_5 yl1 y2_0 y2_1 y2_2 y2_3 y2_4 y2_5 yl2
                        refine (HS1.out _).mono ?_
                        rintro e w11 ⟨rfl, hb⟩
                        have HO1_1 := Lib.hid (show OwnR w11 w.heap.size A' n c' out from HO1.out.kept hb)
                        have HX_1 := Lib.hid (show RB w11 gx v3 h3 l3 v4 h4 l4 from HX.out.kept hb HX.out.lt)
                        have HY_1 := Lib.hid (show RB w11 gz u3 p3 q3 u4 p4 q4 from HY.out.kept hb HY.out.lt)
                        have HB1_1 := Lib.hid (HB1.out.trans (hb.mono HB1.out.size))
                        clear hb HO1 HX HY HB1
                        obtain ⟨y1_0, y1_1, y1_2, y1_3, y1_4, y1_5, yl1⟩ := HX_1.out.lay7
                        obtain ⟨y2_0, y2_1, y2_2, y2_3, y2_4, y2_5, yl2⟩ := HY_1.out.lay7
                        go_wp2_with fail
                        clear y1_0 y1_1 y1_2 y1_3 y1_4 y1_5 yl1 y2_0 y2_1 y2_2 y2_3 y2_4 y2_5 yl2
                        refine (HS2.out _).mono ?_
                        rintro e w12 ⟨rfl, hb⟩
                        have HO1_2 := Lib.hid (show OwnR w12 w.heap.size A' n c' out from HO1_1.out.kept hb)
                        have HX_2 := Lib.hid (show RB w12 gx v3 h3 l3 v4 h4 l4 from HX_1.out.kept hb HX_1.out.lt)
                        have HY_2 := Lib.hid (show RB w12 gz u3 p3 q3 u4 p4 q4 from HY_1.out.kept hb HY_1.out.lt)
                        have HB1_2 := Lib.hid (HB1_1.out.trans (hb.mono HB1_1.out.size))
                        clear hb HO1_1 HX_1 HY_1 HB1_1
                        obtain ⟨y1_0, y1_1, y1_2, y1_3, y1_4, y1_5, yl1⟩ := HX_2.out.lay7
                        obtain ⟨y2_0, y2_1, y2_2, y2_3, y2_4, y2_5, yl2⟩ := HY_2.out.lay7
                        go_wp2_with fail
                        clear y1_0 y1_1 y1_2 y1_3 y1_4 y1_5 yl1 y2_0 y2_1 y2_2 y2_3 y2_4 y2_5 yl2
                        refine (HT1.out _).mono ?_
                        rintro e w13 ⟨rfl, hb⟩
                        have HO1_3 := Lib.hid (show OwnR w13 w.heap.size A' n c' out from HO1_2.out.kept hb)
                        have HX_3 := Lib.hid (show RB w13 gx v3 h3 l3 v4 h4 l4 from HX_2.out.kept hb HX_2.out.lt)
                        have HY_3 := Lib.hid (show RB w13 gz u3 p3 q3 u4 p4 q4 from HY_2.out.kept hb HY_2.out.lt)
                        have HB1_3 := Lib.hid (HB1_2.out.trans (hb.mono HB1_2.out.size))
                        clear hb HO1_2 HX_2 HY_2 HB1_2
                        obtain ⟨y1_0, y1_1, y1_2, y1_3, y1_4, y1_5, yl1⟩ := HX_3.out.lay7
                        obtain ⟨y2_0, y2_1, y2_2, y2_3, y2_4, y2_5, yl2⟩ := HY_3.out.lay7
                        clear y1_0 y1_1 y1_2 y1_3 y1_4 y1_5 yl1 y2_0 y2_1 y2_2 y2_3 y2_4 y2_5 yl2
                        obtain ⟨W15, hW15⟩ : ∃ W, W = ((w13.setCell ⟨gx, 0, none⟩ (.bool u3)).setCell ⟨gx, 1, none⟩ (.int .u64 p3)).setCell ⟨gx, 2, none⟩ (.int .u64 q3) := ⟨_, rfl⟩
                        obtain ⟨y1_0, y1_1, y1_2, y1_3, y1_4, y1_5, yl1⟩ := HX_3.out.lay7
                        have z1_0 := HX_3.out.f 0
                        have z1_1 := HX_3.out.f 1
                        have z1_2 := HX_3.out.f 2
                        have z1_3 := HX_3.out.f 3
                        have z1_4 := HX_3.out.f 4
                        have z1_5 := HX_3.out.f 5
                        obtain ⟨y2_0, y2_1, y2_2, y2_3, y2_4, y2_5, yl2⟩ := HY_3.out.lay7
                        have HO1_4 := Lib.hid (show OwnR W15 w.heap.size A' n c' out from by rw [hW15]; exact ((HO1_3.out.far2 HL.out.2.2 _).far2 HL.out.2.2 _).far2 HL.out.2.2 _)
                        have HX_4 := Lib.hid (show RB W15 gx u3 p3 q3 v4 h4 l4 from by rw [hW15]; exact HX_3.out.setLo u3 p3 q3)
                        have HY_4 := Lib.hid (show RB W15 gz u3 p3 q3 u4 p4 q4 from by rw [hW15]; exact ((HY_3.out.far HL.out.2.1 _).far HL.out.2.1 _).far HL.out.2.1 _)
                        have HB1_4 := Lib.hid (show Below w.heap.size w W15 from by rw [hW15]; exact ((HB1_3.out.setCell (p := ⟨gx, 0, none⟩) HL.out.1 _).setCell (p := ⟨gx, 1, none⟩) HL.out.1 _).setCell (p := ⟨gx, 2, none⟩) HL.out.1 _)
                        have q1_0 : W15.cell? ⟨gx, 0, none⟩ = some (.bool u3) := (HX_4.out.c 0).trans rfl
                        rw [hW15] at q1_0
                        have q1_1 : W15.cell? ⟨gx, 1, none⟩ = some (.int .u64 p3) := (HX_4.out.c 1).trans rfl
                        rw [hW15] at q1_1
                        have q1_2 : W15.cell? ⟨gx, 2, none⟩ = some (.int .u64 q3) := (HX_4.out.c 2).trans rfl
                        rw [hW15] at q1_2
                        have q1_3 : W15.cell? ⟨gx, 3, none⟩ = some (.bool v4) := (HX_4.out.c 3).trans rfl
                        rw [hW15] at q1_3
                        have q1_4 : W15.cell? ⟨gx, 4, none⟩ = some (.int .u64 h4) := (HX_4.out.c 4).trans rfl
                        rw [hW15] at q1_4
                        have q1_5 : W15.cell? ⟨gx, 5, none⟩ = some (.int .u64 l4) := (HX_4.out.c 5).trans rfl
                        rw [hW15] at q1_5
                        have q2_0 : W15.cell? ⟨gz, 0, none⟩ = some (.bool u3) := (HY_4.out.c 0).trans rfl
                        rw [hW15] at q2_0
                        have q2_1 : W15.cell? ⟨gz, 1, none⟩ = some (.int .u64 p3) := (HY_4.out.c 1).trans rfl
                        rw [hW15] at q2_1
                        have q2_2 : W15.cell? ⟨gz, 2, none⟩ = some (.int .u64 q3) := (HY_4.out.c 2).trans rfl
                        rw [hW15] at q2_2
                        have q2_3 : W15.cell? ⟨gz, 3, none⟩ = some (.bool u4) := (HY_4.out.c 3).trans rfl
                        rw [hW15] at q2_3
                        have q2_4 : W15.cell? ⟨gz, 4, none⟩ = some (.int .u64 p4) := (HY_4.out.c 4).trans rfl
                        rw [hW15] at q2_4
                        have q2_5 : W15.cell? ⟨gz, 5, none⟩ = some (.int .u64 q4) := (HY_4.out.c 5).trans rfl
                        rw [hW15] at q2_5
                        go_wp2_with fail
                        rw [← hW15]
                        clear hW15 HO1_3 HX_3 HY_3 HB1_3
                        clear y1_0 y1_1 y1_2 y1_3 y1_4 y1_5 yl1 z1_0 z1_1 z1_2 z1_3 z1_4 z1_5 y2_0 y2_1 y2_2 y2_3 y2_4 y2_5 yl2 q1_0 q1_1 q1_2 q1_3 q1_4 q1_5 q2_0 q2_1 q2_2 q2_3 q2_4 q2_5
                        refine (HT2.out _).mono ?_
                        rintro e w15 ⟨rfl, hb⟩
                        have HO1_5 := Lib.hid (show OwnR w15 w.heap.size A' n c' out from HO1_4.out.kept hb)
                        have HX_5 := Lib.hid (show RB w15 gx u3 p3 q3 v4 h4 l4 from HX_4.out.kept hb HX_4.out.lt)
                        have HY_5 := Lib.hid (show RB w15 gz u3 p3 q3 u4 p4 q4 from HY_4.out.kept hb HY_4.out.lt)
                        have HB1_5 := Lib.hid (HB1_4.out.trans (hb.mono HB1_4.out.size))
                        clear hb HO1_4 HX_4 HY_4 HB1_4
                        obtain ⟨y1_0, y1_1, y1_2, y1_3, y1_4, y1_5, yl1⟩ := HX_5.out.lay7
                        obtain ⟨y2_0, y2_1, y2_2, y2_3, y2_4, y2_5, yl2⟩ := HY_5.out.lay7
                        clear y1_0 y1_1 y1_2 y1_3 y1_4 y1_5 yl1 y2_0 y2_1 y2_2 y2_3 y2_4 y2_5 yl2
                        obtain ⟨W17, hW17⟩ : ∃ W, W = ((w15.setCell ⟨gx, 3, none⟩ (.bool u4)).setCell ⟨gx, 4, none⟩ (.int .u64 p4)).setCell ⟨gx, 5, none⟩ (.int .u64 q4) := ⟨_, rfl⟩
                        obtain ⟨y1_0, y1_1, y1_2, y1_3, y1_4, y1_5, yl1⟩ := HX_5.out.lay7
                        have z1_0 := HX_5.out.f 0
                        have z1_1 := HX_5.out.f 1
                        have z1_2 := HX_5.out.f 2
                        have z1_3 := HX_5.out.f 3
                        have z1_4 := HX_5.out.f 4
                        have z1_5 := HX_5.out.f 5
                        obtain ⟨y2_0, y2_1, y2_2, y2_3, y2_4, y2_5, yl2⟩ := HY_5.out.lay7
                        have HO1_6 := Lib.hid (show OwnR W17 w.heap.size A' n c' out from by rw [hW17]; exact ((HO1_5.out.far2 HL.out.2.2 _).far2 HL.out.2.2 _).far2 HL.out.2.2 _)
                        have HX_6 := Lib.hid (show RB W17 gx u3 p3 q3 u4 p4 q4 from by rw [hW17]; exact HX_5.out.setHi u4 p4 q4)
                        have HY_6 := Lib.hid (show RB W17 gz u3 p3 q3 u4 p4 q4 from by rw [hW17]; exact ((HY_5.out.far HL.out.2.1 _).far HL.out.2.1 _).far HL.out.2.1 _)
                        have HB1_6 := Lib.hid (show Below w.heap.size w W17 from by rw [hW17]; exact ((HB1_5.out.setCell (p := ⟨gx, 3, none⟩) HL.out.1 _).setCell (p := ⟨gx, 4, none⟩) HL.out.1 _).setCell (p := ⟨gx, 5, none⟩) HL.out.1 _)
                        have q1_0 : W17.cell? ⟨gx, 0, none⟩ = some (.bool u3) := (HX_6.out.c 0).trans rfl
                        rw [hW17] at q1_0
                        have q1_1 : W17.cell? ⟨gx, 1, none⟩ = some (.int .u64 p3) := (HX_6.out.c 1).trans rfl
                        rw [hW17] at q1_1
                        have q1_2 : W17.cell? ⟨gx, 2, none⟩ = some (.int .u64 q3) := (HX_6.out.c 2).trans rfl
                        rw [hW17] at q1_2
                        have q1_3 : W17.cell? ⟨gx, 3, none⟩ = some (.bool u4) := (HX_6.out.c 3).trans rfl
                        rw [hW17] at q1_3
                        have q1_4 : W17.cell? ⟨gx, 4, none⟩ = some (.int .u64 p4) := (HX_6.out.c 4).trans rfl
                        rw [hW17] at q1_4
                        have q1_5 : W17.cell? ⟨gx, 5, none⟩ = some (.int .u64 q4) := (HX_6.out.c 5).trans rfl
                        rw [hW17] at q1_5
                        have q2_0 : W17.cell? ⟨gz, 0, none⟩ = some (.bool u3) := (HY_6.out.c 0).trans rfl
                        rw [hW17] at q2_0
                        have q2_1 : W17.cell? ⟨gz, 1, none⟩ = some (.int .u64 p3) := (HY_6.out.c 1).trans rfl
                        rw [hW17] at q2_1
                        have q2_2 : W17.cell? ⟨gz, 2, none⟩ = some (.int .u64 q3) := (HY_6.out.c 2).trans rfl
                        rw [hW17] at q2_2
                        have q2_3 : W17.cell? ⟨gz, 3, none⟩ = some (.bool u4) := (HY_6.out.c 3).trans rfl
                        rw [hW17] at q2_3
                        have q2_4 : W17.cell? ⟨gz, 4, none⟩ = some (.int .u64 p4) := (HY_6.out.c 4).trans rfl
                        rw [hW17] at q2_4
                        have q2_5 : W17.cell? ⟨gz, 5, none⟩ = some (.int .u64 q4) := (HY_6.out.c 5).trans rfl
                        rw [hW17] at q2_5
                        go_wp2_with fail
                        rw [← hW17]
                        clear hW17 HO1_5 HX_5 HY_5 HB1_5
                        clear y1_0 y1_1 y1_2 y1_3 y1_4 y1_5 yl1 z1_0 z1_1 z1_2 z1_3 z1_4 z1_5 y2_0 y2_1 y2_2 y2_3 y2_4 y2_5 yl2 q1_0 q1_1 q1_2 q1_3 q1_4 q1_5 q2_0 q2_1 q2_2 q2_3 q2_4 q2_5
                        refine (HS3.out _).mono ?_
                        rintro e w17 ⟨rfl, hb⟩
                        have HO1_7 := Lib.hid (show OwnR w17 w.heap.size A' n c' out from HO1_6.out.kept hb)
                        have HX_7 := Lib.hid (show RB w17 gx u3 p3 q3 u4 p4 q4 from HX_6.out.kept hb HX_6.out.lt)
                        have HY_7 := Lib.hid (show RB w17 gz u3 p3 q3 u4 p4 q4 from HY_6.out.kept hb HY_6.out.lt)
                        have HB1_7 := Lib.hid (HB1_6.out.trans (hb.mono HB1_6.out.size))
                        clear hb HO1_6 HX_6 HY_6 HB1_6
                        obtain ⟨y1_0, y1_1, y1_2, y1_3, y1_4, y1_5, yl1⟩ := HX_7.out.lay7
                        obtain ⟨y2_0, y2_1, y2_2, y2_3, y2_4, y2_5, yl2⟩ := HY_7.out.lay7
                        go_wp2_with fail
                        clear y1_0 y1_1 y1_2 y1_3 y1_4 y1_5 yl1 y2_0 y2_1 y2_2 y2_3 y2_4 y2_5 yl2
                        go_roundw
                        case rel => exact ⟨q + 1, n, c', A', out, by omega, by go_num, rfl, HNK2, HG, HA2, HB1_7, HO1_7⟩
                        case measure => simp [intOf]; omega
                    · skip
                      obtain ⟨hif, his, hia⟩ := @inter_some ⟨⟨v3, h3, l3⟩, ⟨v4, h4, l4⟩⟩ ⟨⟨u3, p3, q3⟩, ⟨u4, p4, q4⟩⟩ ⟨u3, p3, q3⟩ ⟨v4, h4, l4⟩ t1 hxf t2 hyf (by simpa using t3) (by rw [if_pos b1]) (by rw [if_neg b2])
                      have HS3 := Lib.hid (fun W => rsome_any u3 p3 q3 v4 h4 l4 W hif.1 hif.2)
                      rw [decide_eq_true b1] at HT1
                      rw [decide_eq_false b2] at HT2
                      rcases Bool.eq_false_or_eq_true (someR ⟨⟨u3, p3, q3⟩, ⟨v4, h4, l4⟩⟩) with t4 | t4
                      · rw [t4] at HS3
                        have HA2 := Lib.hid (show ∀ m, (anyS (out.map spn) m || inS (spn ⟨⟨u3, p3, q3⟩, ⟨v4, h4, l4⟩⟩) m) = intF a b k (q + 1) m from fun m => by rw [HST.out, HA.out, t1, t2, Bool.true_and, Bool.true_and, ← hia m, t4, Bool.true_and])
                        have hnb : n ≤ 100000 := by have h1 := HNK.out; have h2 := HKL.out; omega
                        have HADD := Lib.hid (fun W (hW : OwnR W w.heap.size A' n c' out) (hsz : w.heap.size ≤ W.heap.size) => show Calls Try.prog 41 #[.slice A' n c', .agg #[.bool u3, .int .u64 p3, .int .u64 q3, .bool v4, .int .u64 h4, .int .u64 l4]] W (SetO W w.heap.size (fun m => anyS (out.map spn) m || inS (spn ⟨⟨u3, p3, q3⟩, ⟨v4, h4, l4⟩⟩) m) (n + 1)) from by
                          rw [hW.1]
                          exact (radd_any A' c' out u3 p3 q3 v4 h4 l4 W hW.row HG.out t4 hif (by rw [← hW.1]; exact hnb)).mono fun _ _ hh => hh.own hsz)
                        have HNK2 := Lib.hid (show ∀ n5, n5 ≤ n + 1 → n5 ≤ k * nb + (q + 1) from fun n5 h => by have := HNK.out; omega)
                        clear hnb
                        clear HA HNK HST t1 t2 t4 his hia hif b1 b2
                        obtain ⟨y1_0, y1_1, y1_2, y1_3, y1_4, y1_5, yl1⟩ := HX.out.lay7
                        obtain ⟨y2_0, y2_1, y2_2, y2_3, y2_4, y2_5, yl2⟩ := HY.out.lay7
                        go_wp2_with fail
                        clear y1_0 y1_1 y1_2 y1_3 y1_4 y1_5 yl1 y2_0 y2_1 y2_2 y2_3 y2_4 y2_5 yl2
                        refine (HS1.out _).mono ?_
                        rintro e w11 ⟨rfl, hb⟩
                        have HO1_1 := Lib.hid (show OwnR w11 w.heap.size A' n c' out from HO1.out.kept hb)
                        have HX_1 := Lib.hid (show RB w11 gx v3 h3 l3 v4 h4 l4 from HX.out.kept hb HX.out.lt)
                        have HY_1 := Lib.hid (show RB w11 gz u3 p3 q3 u4 p4 q4 from HY.out.kept hb HY.out.lt)
                        have HB1_1 := Lib.hid (HB1.out.trans (hb.mono HB1.out.size))
                        clear hb HO1 HX HY HB1
                        obtain ⟨y1_0, y1_1, y1_2, y1_3, y1_4, y1_5, yl1⟩ := HX_1.out.lay7
                        obtain ⟨y2_0, y2_1, y2_2, y2_3, y2_4, y2_5, yl2⟩ := HY_1.out.lay7
                        go_wp2_with fail
                        clear y1_0 y1_1 y1_2 y1_3 y1_4 y1_5 yl1 y2_0 y2_1 y2_2 y2_3 y2_4 y2_5 yl2
                        refine (HS2.out _).mono ?_
                        rintro e w12 ⟨rfl, hb⟩
                        have HO1_2 := Lib.hid (show OwnR w12 w.heap.size A' n c' out from HO1_1.out.kept hb)
                        have HX_2 := Lib.hid (show RB w12 gx v3 h3 l3 v4 h4 l4 from HX_1.out.kept hb HX_1.out.lt)
                        have HY_2 := Lib.hid (show RB w12 gz u3 p3 q3 u4 p4 q4 from HY_1.out.kept hb HY_1.out.lt)
                        have HB1_2 := Lib.hid (HB1_1.out.trans (hb.mono HB1_1.out.size))
                        clear hb HO1_1 HX_1 HY_1 HB1_1
                        obtain ⟨y1_0, y1_1, y1_2, y1_3, y1_4, y1_5, yl1⟩ := HX_2.out.lay7
                        obtain ⟨y2_0, y2_1, y2_2, y2_3, y2_4, y2_5, yl2⟩ := HY_2.out.lay7
                        go_wp2_with fail
                        clear y1_0 y1_1 y1_2 y1_3 y1_4 y1_5 yl1 y2_0 y2_1 y2_2 y2_3 y2_4 y2_5 yl2
                        refine (HT1.out _).mono ?_
                        rintro e w13 ⟨rfl, hb⟩
                        have HO1_3 := Lib.hid (show OwnR w13 w.heap.size A' n c' out from HO1_2.out.kept hb)
                        have HX_3 := Lib.hid (show RB w13 gx v3 h3 l3 v4 h4 l4 from HX_2.out.kept hb HX_2.out.lt)
                        have HY_3 := Lib.hid (show RB w13 gz u3 p3 q3 u4 p4 q4 from HY_2.out.kept hb HY_2.out.lt)
                        have HB1_3 := Lib.hid (HB1_2.out.trans (hb.mono HB1_2.out.size))
                        clear hb HO1_2 HX_2 HY_2 HB1_2
                        obtain ⟨y1_0, y1_1, y1_2, y1_3, y1_4, y1_5, yl1⟩ := HX_3.out.lay7
                        obtain ⟨y2_0, y2_1, y2_2, y2_3, y2_4, y2_5, yl2⟩ := HY_3.out.lay7
                        clear y1_0 y1_1 y1_2 y1_3 y1_4 y1_5 yl1 y2_0 y2_1 y2_2 y2_3 y2_4 y2_5 yl2
                        obtain ⟨W15, hW15⟩ : ∃ W, W = ((w13.setCell ⟨gx, 0, none⟩ (.bool u3)).setCell ⟨gx, 1, none⟩ (.int .u64 p3)).setCell ⟨gx, 2, none⟩ (.int .u64 q3) := ⟨_, rfl⟩
                        obtain ⟨y1_0, y1_1, y1_2, y1_3, y1_4, y1_5, yl1⟩ := HX_3.out.lay7
                        have z1_0 := HX_3.out.f 0
                        have z1_1 := HX_3.out.f 1
                        have z1_2 := HX_3.out.f 2
                        have z1_3 := HX_3.out.f 3
                        have z1_4 := HX_3.out.f 4
                        have z1_5 := HX_3.out.f 5
                        obtain ⟨y2_0, y2_1, y2_2, y2_3, y2_4, y2_5, yl2⟩ := HY_3.out.lay7
                        have HO1_4 := Lib.hid (show OwnR W15 w.heap.size A' n c' out from by rw [hW15]; exact ((HO1_3.out.far2 HL.out.2.2 _).far2 HL.out.2.2 _).far2 HL.out.2.2 _)
                        have HX_4 := Lib.hid (show RB W15 gx u3 p3 q3 v4 h4 l4 from by rw [hW15]; exact HX_3.out.setLo u3 p3 q3)
                        have HY_4 := Lib.hid (show RB W15 gz u3 p3 q3 u4 p4 q4 from by rw [hW15]; exact ((HY_3.out.far HL.out.2.1 _).far HL.out.2.1 _).far HL.out.2.1 _)
                        have HB1_4 := Lib.hid (show Below w.heap.size w W15 from by rw [hW15]; exact ((HB1_3.out.setCell (p := ⟨gx, 0, none⟩) HL.out.1 _).setCell (p := ⟨gx, 1, none⟩) HL.out.1 _).setCell (p := ⟨gx, 2, none⟩) HL.out.1 _)
                        have q1_0 : W15.cell? ⟨gx, 0, none⟩ = some (.bool u3) := (HX_4.out.c 0).trans rfl
                        rw [hW15] at q1_0
                        have q1_1 : W15.cell? ⟨gx, 1, none⟩ = some (.int .u64 p3) := (HX_4.out.c 1).trans rfl
                        rw [hW15] at q1_1
                        have q1_2 : W15.cell? ⟨gx, 2, none⟩ = some (.int .u64 q3) := (HX_4.out.c 2).trans rfl
                        rw [hW15] at q1_2
                        have q1_3 : W15.cell? ⟨gx, 3, none⟩ = some (.bool v4) := (HX_4.out.c 3).trans rfl
                        rw [hW15] at q1_3
                        have q1_4 : W15.cell? ⟨gx, 4, none⟩ = some (.int .u64 h4) := (HX_4.out.c 4).trans rfl
                        rw [hW15] at q1_4
                        have q1_5 : W15.cell? ⟨gx, 5, none⟩ = some (.int .u64 l4) := (HX_4.out.c 5).trans rfl
                        rw [hW15] at q1_5
                        have q2_0 : W15.cell? ⟨gz, 0, none⟩ = some (.bool u3) := (HY_4.out.c 0).trans rfl
                        rw [hW15] at q2_0
                        have q2_1 : W15.cell? ⟨gz, 1, none⟩ = some (.int .u64 p3) := (HY_4.out.c 1).trans rfl
                        rw [hW15] at q2_1
                        have q2_2 : W15.cell? ⟨gz, 2, none⟩ = some (.int .u64 q3) := (HY_4.out.c 2).trans rfl
                        rw [hW15] at q2_2
                        have q2_3 : W15.cell? ⟨gz, 3, none⟩ = some (.bool u4) := (HY_4.out.c 3).trans rfl
                        rw [hW15] at q2_3
                        have q2_4 : W15.cell? ⟨gz, 4, none⟩ = some (.int .u64 p4) := (HY_4.out.c 4).trans rfl
                        rw [hW15] at q2_4
                        have q2_5 : W15.cell? ⟨gz, 5, none⟩ = some (.int .u64 q4) := (HY_4.out.c 5).trans rfl
                        rw [hW15] at q2_5
                        go_wp2_with fail
                        rw [← hW15]
                        clear hW15 HO1_3 HX_3 HY_3 HB1_3
                        clear y1_0 y1_1 y1_2 y1_3 y1_4 y1_5 yl1 z1_0 z1_1 z1_2 z1_3 z1_4 z1_5 y2_0 y2_1 y2_2 y2_3 y2_4 y2_5 yl2 q1_0 q1_1 q1_2 q1_3 q1_4 q1_5 q2_0 q2_1 q2_2 q2_3 q2_4 q2_5
                        refine (HT2.out _).mono ?_
                        rintro e w15 ⟨rfl, hb⟩
                        have HO1_5 := Lib.hid (show OwnR w15 w.heap.size A' n c' out from HO1_4.out.kept hb)
                        have HX_5 := Lib.hid (show RB w15 gx u3 p3 q3 v4 h4 l4 from HX_4.out.kept hb HX_4.out.lt)
                        have HY_5 := Lib.hid (show RB w15 gz u3 p3 q3 u4 p4 q4 from HY_4.out.kept hb HY_4.out.lt)
                        have HB1_5 := Lib.hid (HB1_4.out.trans (hb.mono HB1_4.out.size))
                        clear hb HO1_4 HX_4 HY_4 HB1_4
                        obtain ⟨y1_0, y1_1, y1_2, y1_3, y1_4, y1_5, yl1⟩ := HX_5.out.lay7
                        obtain ⟨y2_0, y2_1, y2_2, y2_3, y2_4, y2_5, yl2⟩ := HY_5.out.lay7
                        go_wp2_with fail
                        clear y1_0 y1_1 y1_2 y1_3 y1_4 y1_5 yl1 y2_0 y2_1 y2_2 y2_3 y2_4 y2_5 yl2
                        refine (HS3.out _).mono ?_
                        rintro e w16 ⟨rfl, hb⟩
                        have HO1_6 := Lib.hid (show OwnR w16 w.heap.size A' n c' out from HO1_5.out.kept hb)
                        have HX_6 := Lib.hid (show RB w16 gx u3 p3 q3 v4 h4 l4 from HX_5.out.kept hb HX_5.out.lt)
                        have HY_6 := Lib.hid (show RB w16 gz u3 p3 q3 u4 p4 q4 from HY_5.out.kept hb HY_5.out.lt)
                        have HB1_6 := Lib.hid (HB1_5.out.trans (hb.mono HB1_5.out.size))
                        clear hb HO1_5 HX_5 HY_5 HB1_5
                        obtain ⟨y1_0, y1_1, y1_2, y1_3, y1_4, y1_5, yl1⟩ := HX_6.out.lay7
                        obtain ⟨y2_0, y2_1, y2_2, y2_3, y2_4, y2_5, yl2⟩ := HY_6.out.lay7
                        go_wp2_with fail
                        clear y1_0 y1_1 y1_2 y1_3 y1_4 y1_5 yl1 y2_0 y2_1 y2_2 y2_3 y2_4 y2_5 yl2
                        refine (HADD.out _ HO1_6.out HB1_6.out.size).mono ?_
                        rintro e wq ⟨L, A5, n5, c5, g1, g2, g3, rfl, g5, hb⟩
                        have HBq := Lib.hid (HB1_6.out.trans (hb.mono HB1_6.out.size))
                        have HOq := Lib.hid g5
                        have HGq := Lib.hid g1
                        have HAq := Lib.hid (fun m => (g2 m).trans (HA2.out m))
                        have HNq := Lib.hid (HNK2.out n5 g3)
                        clear hb g1 g2 g3 g5
                        go_wp2_with fail
                        go_roundw
                        case rel => exact ⟨q + 1, n5, c5, A5, L, by omega, by go_num, rfl, HNq, HGq, HAq, HBq, HOq⟩
                        case measure => simp [intOf]; omega
                      · rw [t4] at HS3
                        have HA2 := Lib.hid (show ∀ m, anyS (out.map spn) m = intF a b k (q + 1) m from fun m => by rw [HST.out, HA.out, t1, t2, Bool.true_and, Bool.true_and, ← hia m, t4, Bool.false_and, Bool.or_false])
                        have HNK2 := Lib.hid (show n ≤ k * nb + (q + 1) from Nat.le_succ_of_le HNK.out)
                        clear HA HNK HST t1 t2 t4 his hia hif b1 b2
                        obtain ⟨y1_0, y1_1, y1_2, y1_3, y1_4, y1_5, yl1⟩ := HX.out.lay7
                        obtain ⟨y2_0, y2_1, y2_2, y2_3, y2_4, y2_5, yl2⟩ := HY.out.lay7
                        go_wp2_with fail
                        clear y1_0 y1_1 y1_2 y1_3 y1_4 y1_5 yl1 y2_0 y2_1 y2_2 y2_3 y2_4 y2_5 yl2
                        refine (HS1.out _).mono ?_
                        rintro e w11 ⟨rfl, hb⟩
                        have HO1_1 := Lib.hid (show OwnR w11 w.heap.size A' n c' out from HO1.out.kept hb)
                        have HX_1 := Lib.hid (show RB w11 gx v3 h3 l3 v4 h4 l4 from HX.out.kept hb HX.out.lt)
                        have HY_1 := Lib.hid (show RB w11 gz u3 p3 q3 u4 p4 q4 from HY.out.kept hb HY.out.lt)
                        have HB1_1 := Lib.hid (HB1.out.trans (hb.mono HB1.out.size))
                        clear hb HO1 HX HY HB1
                        obtain ⟨y1_0, y1_1, y1_2, y1_3, y1_4, y1_5, yl1⟩ := HX_1.out.lay7
                        obtain ⟨y2_0, y2_1, y2_2, y2_3, y2_4, y2_5, yl2⟩ := HY_1.out.lay7
                        go_wp2_with fail
                        clear y1_0 y1_1 y1_2 y1_3 y1_4 y1_5 yl1 y2_0 y2_1 y2_2 y2_3 y2_4 y2_5 yl2
                        refine (HS2.out _).mono ?_
                        rintro e w12 ⟨rfl, hb⟩
                        have HO1_2 := Lib.hid (show OwnR w12 w.heap.size A' n c' out from HO1_1.out.kept hb)
                        have HX_2 := Lib.hid (show RB w12 gx v3 h3 l3 v4 h4 l4 from HX_1.out.kept hb HX_1.out.lt)
                        have HY_2 := Lib.hid (show RB w12 gz u3 p3 q3 u4 p4 q4 from HY_1.out.kept hb HY_1.out.lt)
                        have HB1_2 := Lib.hid (HB1_1.out.trans (hb.mono HB1_1.out.size))
                        clear hb HO1_1 HX_1 HY_1 HB1_1
                        obtain ⟨y1_0, y1_1, y1_2, y1_3, y1_4, y1_5, yl1⟩ := HX_2.out.lay7
                        obtain ⟨y2_0, y2_1, y2_2, y2_3, y2_4, y2_5, yl2⟩ := HY_2.out.lay7
                        go_wp2_with fail
                        clear y1_0 y1_1 y1_2 y1_3 y1_4 y1_5 yl1 y2_0 y2_1 y2_2 y2_3 y2_4 y2_5 yl2
                        refine (HT1.out _).mono ?_
                        rintro e w13 ⟨rfl, hb⟩
                        have HO1_3 := Lib.hid (show OwnR w13 w.heap.size A' n c' out from HO1_2.out.kept hb)
                        have HX_3 := Lib.hid (show RB w13 gx v3 h3 l3 v4 h4 l4 from HX_2.out.kept hb HX_2.out.lt)
                        have HY_3 := Lib.hid (show RB w13 gz u3 p3 q3 u4 p4 q4 from HY_2.out.kept hb HY_2.out.lt)
                        have HB1_3 := Lib.hid (HB1_2.out.trans (hb.mono HB1_2.out.size))
                        clear hb HO1_2 HX_2 HY_2 HB1_2
                        obtain ⟨y1_0, y1_1, y1_2, y1_3, y1_4, y1_5, yl1⟩ := HX_3.out.lay7
                        obtain ⟨y2_0, y2_1, y2_2, y2_3, y2_4, y2_5, yl2⟩ := HY_3.out.lay7
                        clear y1_0 y1_1 y1_2 y1_3 y1_4 y1_5 yl1 y2_0 y2_1 y2_2 y2_3 y2_4 y2_5 yl2
                        obtain ⟨W15, hW15⟩ : ∃ W, W = ((w13.setCell ⟨gx, 0, none⟩ (.bool u3)).setCell ⟨gx, 1, none⟩ (.int .u64 p3)).setCell ⟨gx, 2, none⟩ (.int .u64 q3) := ⟨_, rfl⟩
                        obtain ⟨y1_0, y1_1, y1_2, y1_3, y1_4, y1_5, yl1⟩ := HX_3.out.lay7
                        have z1_0 := HX_3.out.f 0
                        have z1_1 := HX_3.out.f 1
                        have z1_2 := HX_3.out.f 2
                        have z1_3 := HX_3.out.f 3
                        have z1_4 := HX_3.out.f 4
                        have z1_5 := HX_3.out.f 5
                        obtain ⟨y2_0, y2_1, y2_2, y2_3, y2_4, y2_5, yl2⟩ := HY_3.out.lay7
                        have HO1_4 := Lib.hid (show OwnR W15 w.heap.size A' n c' out from by rw [hW15]; exact ((HO1_3.out.far2 HL.out.2.2 _).far2 HL.out.2.2 _).far2 HL.out.2.2 _)
                        have HX_4 := Lib.hid (show RB W15 gx u3 p3 q3 v4 h4 l4 from by rw [hW15]; exact HX_3.out.setLo u3 p3 q3)
                        have HY_4 := Lib.hid (show RB W15 gz u3 p3 q3 u4 p4 q4 from by rw [hW15]; exact ((HY_3.out.far HL.out.2.1 _).far HL.out.2.1 _).far HL.out.2.1 _)
                        have HB1_4 := Lib.hid (show Below w.heap.size w W15 from by rw [hW15]; exact ((HB1_3.out.setCell (p := ⟨gx, 0, none⟩) HL.out.1 _).setCell (p := ⟨gx, 1, none⟩) HL.out.1 _).setCell (p := ⟨gx, 2, none⟩) HL.out.1 _)
                        have q1_0 : W15.cell? ⟨gx, 0, none⟩ = some (.bool u3) := (HX_4.out.c 0).trans rfl
                        rw [hW15] at q1_0
                        have q1_1 : W15.cell? ⟨gx, 1, none⟩ = some (.int .u64 p3) := (HX_4.out.c 1).trans rfl
                        rw [hW15] at q1_1
                        have q1_2 : W15.cell? ⟨gx, 2, none⟩ = some (.int .u64 q3) := (HX_4.out.c 2).trans rfl
                        rw [hW15] at q1_2
                        have q1_3 : W15.cell? ⟨gx, 3, none⟩ = some (.bool v4) := (HX_4.out.c 3).trans rfl
                        rw [hW15] at q1_3
                        have q1_4 : W15.cell? ⟨gx, 4, none⟩ = some (.int .u64 h4) := (HX_4.out.c 4).trans rfl
                        rw [hW15] at q1_4
                        have q1_5 : W15.cell? ⟨gx, 5, none⟩ = some (.int .u64 l4) := (HX_4.out.c 5).trans rfl
                        rw [hW15] at q1_5
                        have q2_0 : W15.cell? ⟨gz, 0, none⟩ = some (.bool u3) := (HY_4.out.c 0).trans rfl
                        rw [hW15] at q2_0
                        have q2_1 : W15.cell? ⟨gz, 1, none⟩ = some (.int .u64 p3) := (HY_4.out.c 1).trans rfl
                        rw [hW15] at q2_1
                        have q2_2 : W15.cell? ⟨gz, 2, none⟩ = some (.int .u64 q3) := (HY_4.out.c 2).trans rfl
                        rw [hW15] at q2_2
                        have q2_3 : W15.cell? ⟨gz, 3, none⟩ = some (.bool u4) := (HY_4.out.c 3).trans rfl
                        rw [hW15] at q2_3
                        have q2_4 : W15.cell? ⟨gz, 4, none⟩ = some (.int .u64 p4) := (HY_4.out.c 4).trans rfl
                        rw [hW15] at q2_4
                        have q2_5 : W15.cell? ⟨gz, 5, none⟩ = some (.int .u64 q4) := (HY_4.out.c 5).trans rfl
                        rw [hW15] at q2_5
                        go_wp2_with fail
                        rw [← hW15]
                        clear hW15 HO1_3 HX_3 HY_3 HB1_3
                        clear y1_0 y1_1 y1_2 y1_3 y1_4 y1_5 yl1 z1_0 z1_1 z1_2 z1_3 z1_4 z1_5 y2_0 y2_1 y2_2 y2_3 y2_4 y2_5 yl2 q1_0 q1_1 q1_2 q1_3 q1_4 q1_5 q2_0 q2_1 q2_2 q2_3 q2_4 q2_5
                        refine (HT2.out _).mono ?_
                        rintro e w15 ⟨rfl, hb⟩
                        have HO1_5 := Lib.hid (show OwnR w15 w.heap.size A' n c' out from HO1_4.out.kept hb)
                        have HX_5 := Lib.hid (show RB w15 gx u3 p3 q3 v4 h4 l4 from HX_4.out.kept hb HX_4.out.lt)
                        have HY_5 := Lib.hid (show RB w15 gz u3 p3 q3 u4 p4 q4 from HY_4.out.kept hb HY_4.out.lt)
                        have HB1_5 := Lib.hid (HB1_4.out.trans (hb.mono HB1_4.out.size))
                        clear hb HO1_4 HX_4 HY_4 HB1_4
                        obtain ⟨y1_0, y1_1, y1_2, y1_3, y1_4, y1_5, yl1⟩ := HX_5.out.lay7
                        obtain ⟨y2_0, y2_1, y2_2, y2_3, y2_4, y2_5, yl2⟩ := HY_5.out.lay7
                        go_wp2_with fail
                        clear y1_0 y1_1 y1_2 y1_3 y1_4 y1_5 yl1 y2_0 y2_1 y2_2 y2_3 y2_4 y2_5 yl2
                        refine (HS3.out _).mono ?_
                        rintro e w16 ⟨rfl, hb⟩
                        have HO1_6 := Lib.hid (show OwnR w16 w.heap.size A' n c' out from HO1_5.out.kept hb)
                        have HX_6 := Lib.hid (show RB w16 gx u3 p3 q3 v4 h4 l4 from HX_5.out.kept hb HX_5.out.lt)
                        have HY_6 := Lib.hid (show RB w16 gz u3 p3 q3 u4 p4 q4 from HY_5.out.kept hb HY_5.out.lt)
                        have HB1_6 := Lib.hid (HB1_5.out.trans (hb.mono HB1_5.out.size))
                        clear hb HO1_5 HX_5 HY_5 HB1_5
                        obtain ⟨y1_0, y1_1, y1_2, y1_3, y1_4, y1_5, yl1⟩ := HX_6.out.lay7
                        obtain ⟨y2_0, y2_1, y2_2, y2_3, y2_4, y2_5, yl2⟩ := HY_6.out.lay7
                        go_wp2_with fail
                        clear y1_0 y1_1 y1_2 y1_3 y1_4 y1_5 yl1 y2_0 y2_1 y2_2 y2_3 y2_4 y2_5 yl2
                        go_roundw
                        case rel => exact ⟨q + 1, n, c', A', out, by omega, by go_num, rfl, HNK2, HG, HA2, HB1_6, HO1_6⟩
                        case measure => simp [intOf]; omega
                  · skip
                    by_cases b2 : kA ⟨u4, p4, q4⟩ < kA ⟨v4, h4, l4⟩
                    · skip
                      obtain ⟨hif, his, hia⟩ := @inter_some ⟨⟨v3, h3, l3⟩, ⟨v4, h4, l4⟩⟩ ⟨⟨u3, p3, q3⟩, ⟨u4, p4, q4⟩⟩ ⟨v3, h3, l3⟩ ⟨u4, p4, q4⟩ t1 hxf t2 hyf (by simpa using t3) (by rw [if_neg b1]) (by rw [if_pos b2])
                      have HS3 := Lib.hid (fun W => rsome_any v3 h3 l3 u4 p4 q4 W hif.1 hif.2)
                      rw [decide_eq_false b1] at HT1
                      rw [decide_eq_true b2] at HT2
                      rcases Bool.eq_false_or_eq_true (someR ⟨⟨v3, h3, l3⟩, ⟨u4, p4, q4⟩⟩) with t4 | t4
                      · rw [t4] at HS3
                        have HA2 := Lib.hid (show ∀ m, (anyS (out.map spn) m || inS (spn ⟨⟨v3, h3, l3⟩, ⟨u4, p4, q4⟩⟩) m) = intF a b k (q + 1) m from fun m => by rw [HST.out, HA.out, t1, t2, Bool.true_and, Bool.true_and, ← hia m, t4, Bool.true_and])
                        have hnb : n ≤ 100000 := by have h1 := HNK.out; have h2 := HKL.out; omega
                        have HADD := Lib.hid (fun W (hW : OwnR W w.heap.size A' n c' out) (hsz : w.heap.size ≤ W.heap.size) => show Calls Try.prog 41 #[.slice A' n c', .agg #[.bool v3, .int .u64 h3, .int .u64 l3, .bool u4, .int .u64 p4, .int .u64 q4]] W (SetO W w.heap.size (fun m => anyS (out.map spn) m || inS (spn ⟨⟨v3, h3, l3⟩, ⟨u4, p4, q4⟩⟩) m) (n + 1)) from by
                          rw [hW.1]
                          exact (radd_any A' c' out v3 h3 l3 u4 p4 q4 W hW.row HG.out t4 hif (by rw [← hW.1]; exact hnb)).mono fun _ _ hh => hh.own hsz)
                        have HNK2 := Lib.hid (show ∀ n5, n5 ≤ n + 1 → n5 ≤ k * nb + (q + 1) from fun n5 h => by have := HNK.out; omega)
                        clear hnb
                        clear HA HNK HST t1 t2 t4 his hia hif b1 b2
                        obtain ⟨y1_0, y1_1, y1_2, y1_3, y1_4, y1_5, yl1⟩ := HX.out.lay7
                        obtain ⟨y2_0, y2_1, y2_2, y2_3, y2_4, y2_5, yl2⟩ := HY.out.lay7
                        go_wp2_with fail
                        clear y1_0 y1_1 y1_2 y1_3 y1_4 y1_5 yl1 y2_0 y2_1 y2_2 y2_3 y2_4 y2_5 yl2
                        refine (HS1.out _).mono ?_
                        rintro e w11 ⟨rfl, hb⟩
                        have HO1_1 := Lib.hid (show OwnR w11 w.heap.size A' n c' out from HO1.out.kept hb)
                        have HX_1 := Lib.hid (show RB w11 gx v3 h3 l3 v4 h4 l4 from HX.out.kept hb HX.out.lt)
                        have HY_1 := Lib.hid (show RB w11 gz u3 p3 q3 u4 p4 q4 from HY.out.kept hb HY.out.lt)
                        have HB1_1 := Lib.hid (HB1.out.trans (hb.mono HB1.out.size))
                        clear hb HO1 HX HY HB1
                        obtain ⟨y1_0, y1_1, y1_2, y1_3, y1_4, y1_5, yl1⟩ := HX_1.out.lay7
                        obtain ⟨y2_0, y2_1, y2_2, y2_3, y2_4, y2_5, yl2⟩ := HY_1.out.lay7
                        go_wp2_with fail
                        clear y1_0 y1_1 y1_2 y1_3 y1_4 y1_5 yl1 y2_0 y2_1 y2_2 y2_3 y2_4 y2_5 yl2
                        refine (HS2.out _).mono ?_
                        rintro e w12 ⟨rfl, hb⟩
                        have HO1_2 := Lib.hid (show OwnR w12 w.heap.size A' n c' out from HO1_1.out.kept hb)
                        have HX_2 := Lib.hid (show RB w12 gx v3 h3 l3 v4 h4 l4 from HX_1.out.kept hb HX_1.out.lt)
                        have HY_2 := Lib.hid (show RB w12 gz u3 p3 q3 u4 p4 q4 from HY_1.out.kept hb HY_1.out.lt)
                        have HB1_2 := Lib.hid (HB1_1.out.trans (hb.mono HB1_1.out.size))
                        clear hb HO1_1 HX_1 HY_1 HB1_1
                        obtain ⟨y1_0, y1_1, y1_2, y1_3, y1_4, y1_5, yl1⟩ := HX_2.out.lay7
                        obtain ⟨y2_0, y2_1, y2_2, y2_3, y2_4, y2_5, yl2⟩ := HY_2.out.lay7
                        go_wp2_with fail
                        clear y1_0 y1_1 y1_2 y1_3 y1_4 y1_5 yl1 y2_0 y2_1 y2_2 y2_3 y2_4 y2_5 yl2
                        refine (HT1.out _).mono ?_
                        rintro e w13 ⟨rfl, hb⟩
                        have HO1_3 := Lib.hid (show OwnR w13 w.heap.size A' n c' out from HO1_2.out.kept hb)
                        have HX_3 := Lib.hid (show RB w13 gx v3 h3 l3 v4 h4 l4 from HX_2.out.kept hb HX_2.out.lt)
                        have HY_3 := Lib.hid (show RB w13 gz u3 p3 q3 u4 p4 q4 from HY_2.out.kept hb HY_2.out.lt)
                        have HB1_3 := Lib.hid (HB1_2.out.trans (hb.mono HB1_2.out.size))
                        clear hb HO1_2 HX_2 HY_2 HB1_2
                        obtain ⟨y1_0, y1_1, y1_2, y1_3, y1_4, y1_5, yl1⟩ := HX_3.out.lay7
                        obtain ⟨y2_0, y2_1, y2_2, y2_3, y2_4, y2_5, yl2⟩ := HY_3.out.lay7
                        go_wp2_with fail
                        clear y1_0 y1_1 y1_2 y1_3 y1_4 y1_5 yl1 y2_0 y2_1 y2_2 y2_3 y2_4 y2_5 yl2
                        refine (HT2.out _).mono ?_
                        rintro e w14 ⟨rfl, hb⟩
                        have HO1_4 := Lib.hid (show OwnR w14 w.heap.size A' n c' out from HO1_3.out.kept hb)
                        have HX_4 := Lib.hid (show RB w14 gx v3 h3 l3 v4 h4 l4 from HX_3.out.kept hb HX_3.out.lt)
                        have HY_4 := Lib.hid (show RB w14 gz u3 p3 q3 u4 p4 q4 from HY_3.out.kept hb HY_3.out.lt)
                        have HB1_4 := Lib.hid (HB1_3.out.trans (hb.mono HB1_3.out.size))
                        clear hb HO1_3 HX_3 HY_3 HB1_3
                        obtain ⟨y1_0, y1_1, y1_2, y1_3, y1_4, y1_5, yl1⟩ := HX_4.out.lay7
                        obtain ⟨y2_0, y2_1, y2_2, y2_3, y2_4, y2_5, yl2⟩ := HY_4.out.lay7
                        clear y1_0 y1_1 y1_2 y1_3 y1_4 y1_5 yl1 y2_0 y2_1 y2_2 y2_3 y2_4 y2_5 yl2
                        obtain ⟨W16, hW16⟩ : ∃ W, W = ((w14.setCell ⟨gx, 3, none⟩ (.bool u4)).setCell ⟨gx, 4, none⟩ (.int .u64 p4)).setCell ⟨gx, 5, none⟩ (.int .u64 q4) := ⟨_, rfl⟩
                        obtain ⟨y1_0, y1_1, y1_2, y1_3, y1_4, y1_5, yl1⟩ := HX_4.out.lay7
                        have z1_0 := HX_4.out.f 0
                        have z1_1 := HX_4.out.f 1
                        have z1_2 := HX_4.out.f 2
                        have z1_3 := HX_4.out.f 3
                        have z1_4 := HX_4.out.f 4
                        have z1_5 := HX_4.out.f 5
                        obtain ⟨y2_0, y2_1, y2_2, y2_3, y2_4, y2_5, yl2⟩ := HY_4.out.lay7
                        have HO1_5 := Lib.hid (show OwnR W16 w.heap.size A' n c' out from by rw [hW16]; exact ((HO1_4.out.far2 HL.out.2.2 _).far2 HL.out.2.2 _).far2 HL.out.2.2 _)
                        have HX_5 := Lib.hid (show RB W16 gx v3 h3 l3 u4 p4 q4 from by rw [hW16]; exact HX_4.out.setHi u4 p4 q4)
                        have HY_5 := Lib.hid (show RB W16 gz u3 p3 q3 u4 p4 q4 from by rw [hW16]; exact ((HY_4.out.far HL.out.2.1 _).far HL.out.2.1 _).far HL.out.2.1 _)
                        have HB1_5 := Lib.hid (show Below w.heap.size w W16 from by rw [hW16]; exact ((HB1_4.out.setCell (p := ⟨gx, 3, none⟩) HL.out.1 _).setCell (p := ⟨gx, 4, none⟩) HL.out.1 _).setCell (p := ⟨gx, 5, none⟩) HL.out.1 _)
                        have q1_0 : W16.cell? ⟨gx, 0, none⟩ = some (.bool v3) := (HX_5.out.c 0).trans rfl
                        rw [hW16] at q1_0
                        have q1_1 : W16.cell? ⟨gx, 1, none⟩ = some (.int .u64 h3) := (HX_5.out.c 1).trans rfl
                        rw [hW16] at q1_1
                        have q1_2 : W16.cell? ⟨gx, 2, none⟩ = some (.int .u64 l3) := (HX_5.out.c 2).trans rfl
                        rw [hW16] at q1_2
                        have q1_3 : W16.cell? ⟨gx, 3, none⟩ = some (.bool u4) := (HX_5.out.c 3).trans rfl
                        rw [hW16] at q1_3
                        have q1_4 : W16.cell? ⟨gx, 4, none⟩ = some (.int .u64 p4) := (HX_5.out.c 4).trans rfl
                        rw [hW16] at q1_4
                        have q1_5 : W16.cell? ⟨gx, 5, none⟩ = some (.int .u64 q4) := (HX_5.out.c 5).trans rfl
                        rw [hW16] at q1_5
                        have q2_0 : W16.cell? ⟨gz, 0, none⟩ = some (.bool u3) := (HY_5.out.c 0).trans rfl
                        rw [hW16] at q2_0
                        have q2_1 : W16.cell? ⟨gz, 1, none⟩ = some (.int .u64 p3) := (HY_5.out.c 1).trans rfl
                        rw [hW16] at q2_1
                        have q2_2 : W16.cell? ⟨gz, 2, none⟩ = some (.int .u64 q3) := (HY_5.out.c 2).trans rfl
                        rw [hW16] at q2_2
                        have q2_3 : W16.cell? ⟨gz, 3, none⟩ = some (.bool u4) := (HY_5.out.c 3).trans rfl
                        rw [hW16] at q2_3
                        have q2_4 : W16.cell? ⟨gz, 4, none⟩ = some (.int .u64 p4) := (HY_5.out.c 4).trans rfl
                        rw [hW16] at q2_4
                        have q2_5 : W16.cell? ⟨gz, 5, none⟩ = some (.int .u64 q4) := (HY_5.out.c 5).trans rfl
                        rw [hW16] at q2_5
                        go_wp2_with fail
                        rw [← hW16]
                        clear hW16 HO1_4 HX_4 HY_4 HB1_4
                        clear y1_0 y1_1 y1_2 y1_3 y1_4 y1_5 yl1 z1_0 z1_1 z1_2 z1_3 z1_4 z1_5 y2_0 y2_1 y2_2 y2_3 y2_4 y2_5 yl2 q1_0 q1_1 q1_2 q1_3 q1_4 q1_5 q2_0 q2_1 q2_2 q2_3 q2_4 q2_5
                        refine (HS3.out _).mono ?_
                        rintro e w16 ⟨rfl, hb⟩
                        have HO1_6 := Lib.hid (show OwnR w16 w.heap.size A' n c' out from HO1_5.out.kept hb)
                        have HX_6 := Lib.hid (show RB w16 gx v3 h3 l3 u4 p4 q4 from HX_5.out.kept hb HX_5.out.lt)
                        have HY_6 := Lib.hid (show RB w16 gz u3 p3 q3 u4 p4 q4 from HY_5.out.kept hb HY_5.out.lt)
                        have HB1_6 := Lib.hid (HB1_5.out.trans (hb.mono HB1_5.out.size))
                        clear hb HO1_5 HX_5 HY_5 HB1_5
                        obtain ⟨y1_0, y1_1, y1_2, y1_3, y1_4, y1_5, yl1⟩ := HX_6.out.lay7
                        obtain ⟨y2_0, y2_1, y2_2, y2_3, y2_4, y2_5, yl2⟩ := HY_6.out.lay7
                        go_wp2_with fail
                        clear y1_0 y1_1 y1_2 y1_3 y1_4 y1_5 yl1 y2_0 y2_1 y2_2 y2_3 y2_4 y2_5 yl2
                        refine (HADD.out _ HO1_6.out HB1_6.out.size).mono ?_
                        rintro e wq ⟨L, A5, n5, c5, g1, g2, g3, rfl, g5, hb⟩
                        have HBq := Lib.hid (HB1_6.out.trans (hb.mono HB1_6.out.size))
                        have HOq := Lib.hid g5
                        have HGq := Lib.hid g1
                        have HAq := Lib.hid (fun m => (g2 m).trans (HA2.out m))
                        have HNq := Lib.hid (HNK2.out n5 g3)
                        clear hb g1 g2 g3 g5
                        go_wp2_with fail
                        go_roundw
                        case rel => exact ⟨q + 1, n5, c5, A5, L, by omega, by go_num, rfl, HNq, HGq, HAq, HBq, HOq⟩
                        case measure => simp [intOf]; omega
                      · rw [t4] at HS3
                        have HA2 := Lib.hid (show ∀ m, anyS (out.map spn) m = intF a b k (q + 1) m from fun m => by rw [HST.out, HA.out, t1, t2, Bool.true_and, Bool.true_and, ← hia m, t4, Bool.false_and, Bool.or_false])
                        have HNK2 := Lib.hid (show n ≤ k * nb + (q + 1) from Nat.le_succ_of_le HNK.out)
                        clear HA HNK HST t1 t2 t4 his hia hif b1 b2
                        obtain ⟨y1_0, y1_1, y1_2, y1_3, y1_4, y1_5, yl1⟩ := HX.out.lay7
                        obtain ⟨y2_0, y2_1, y2_2, y2_3, y2_4, y2_5, yl2⟩ := HY.out.lay7
                        go_wp2_with fail
                        clear y1_0 y1_1 y1_2 y1_3 y1_4 y1_5 yl1 y2_0 y2_1 y2_2 y2_3 y2_4 y2_5 yl2
                        refine (HS1.out _).mono ?_
                        rintro e w11 ⟨rfl, hb⟩
                        have HO1_1 := Lib.hid (show OwnR w11 w.heap.size A' n c' out from HO1.out.kept hb)
                        have HX_1 := Lib.hid (show RB w11 gx v3 h3 l3 v4 h4 l4 from HX.out.kept hb HX.out.lt)
                        have HY_1 := Lib.hid (show RB w11 gz u3 p3 q3 u4 p4 q4 from HY.out.kept hb HY.out.lt)
                        have HB1_1 := Lib.hid (HB1.out.trans (hb.mono HB1.out.size))
                        clear hb HO1 HX HY HB1
                        obtain ⟨y1_0, y1_1, y1_2, y1_3, y1_4, y1_5, yl1⟩ := HX_1.out.lay7
                        obtain ⟨y2_0, y2_1, y2_2, y2_3, y2_4, y2_5, yl2⟩ := HY_1.out.lay7
                        go_wp2_with fail
                        clear y1_0 y1_1 y1_2 y1_3 y1_4 y1_5 yl1 y2_0 y2_1 y2_2 y2_3 y2_4 y2_5 yl2
                        refine (HS2.out _).mono ?_
                        rintro e w12 ⟨rfl, hb⟩
                        have HO1_2 := Lib.hid (show OwnR w12 w.heap.size A' n c' out from HO1_1.out.kept hb)
                        have HX_2 := Lib.hid (show RB w12 gx v3 h3 l3 v4 h4 l4 from HX_1.out.kept hb HX_1.out.lt)
                        have HY_2 := Lib.hid (show RB w12 gz u3 p3 q3 u4 p4 q4 from HY_1.out.kept hb HY_1.out.lt)
                        have HB1_2 := Lib.hid (HB1_1.out.trans (hb.mono HB1_1.out.size))
                        clear hb HO1_1 HX_1 HY_1 HB1_1
                        obtain ⟨y1_0, y1_1, y1_2, y1_3, y1_4, y1_5, yl1⟩ := HX_2.out.lay7
                        obtain ⟨y2_0, y2_1, y2_2, y2_3, y2_4, y2_5, yl2⟩ := HY_2.out.lay7
                        go_wp2_with fail
                        clear y1_0 y1_1 y1_2 y1_3 y1_4 y1_5 yl1 y2_0 y2_1 y2_2 y2_3 y2_4 y2_5 yl2
                        refine (HT1.out _).mono ?_
                        rintro e w13 ⟨rfl, hb⟩
                        have HO1_3 := Lib.hid (show OwnR w13 w.heap.size A' n c' out from HO1_2.out.kept hb)
                        have HX_3 := Lib.hid (show RB w13 gx v3 h3 l3 v4 h4 l4 from HX_2.out.kept hb HX_2.out.lt)
                        have HY_3 := Lib.hid (show RB w13 gz u3 p3 q3 u4 p4 q4 from HY_2.out.kept hb HY_2.out.lt)
                        have HB1_3 := Lib.hid (HB1_2.out.trans (hb.mono HB1_2.out.size))
                        clear hb HO1_2 HX_2 HY_2 HB1_2
                        obtain ⟨y1_0, y1_1, y1_2, y1_3, y1_4, y1_5, yl1⟩ := HX_3.out.lay7
                        obtain ⟨y2_0, y2_1, y2_2, y2_3, y2_4, y2_5, yl2⟩ := HY_3.out.lay7
                        go_wp2_with fail
                        clear y1_0 y1_1 y1_2 y1_3 y1_4 y1_5 yl1 y2_0 y2_1 y2_2 y2_3 y2_4 y2_5 yl2
                        refine (HT2.out _).mono ?_
                        rintro e w14 ⟨rfl, hb⟩
                        have HO1_4 := Lib.hid (show OwnR w14 w.heap.size A' n c' out from HO1_3.out.kept hb)
                        have HX_4 := Lib.hid (show RB w14 gx v3 h3 l3 v4 h4 l4 from HX_3.out.kept hb HX_3.out.lt)
                        have HY_4 := Lib.hid (show RB w14 gz u3 p3 q3 u4 p4 q4 from HY_3.out.kept hb HY_3.out.lt)
                        have HB1_4 := Lib.hid (HB1_3.out.trans (hb.mono HB1_3.out.size))
                        clear hb HO1_3 HX_3 HY_3 HB1_3
                        obtain ⟨y1_0, y1_1, y1_2, y1_3, y1_4, y1_5, yl1⟩ := HX_4.out.lay7
                        obtain ⟨y2_0, y2_1, y2_2, y2_3, y2_4, y2_5, yl2⟩ := HY_4.out.lay7
                        clear y1_0 y1_1 y1_2 y1_3 y1_4 y1_5 yl1 y2_0 y2_1 y2_2 y2_3 y2_4 y2_5 yl2
                        obtain ⟨W16, hW16⟩ : ∃ W, W = ((w14.setCell ⟨gx, 3, none⟩ (.bool u4)).setCell ⟨gx, 4, none⟩ (.int .u64 p4)).setCell ⟨gx, 5, none⟩ (.int .u64 q4) := ⟨_, rfl⟩
                        obtain ⟨y1_0, y1_1, y1_2, y1_3, y1_4, y1_5, yl1⟩ := HX_4.out.lay7
                        have z1_0 := HX_4.out.f 0
                        have z1_1 := HX_4.out.f 1
                        have z1_2 := HX_4.out.f 2
                        have z1_3 := HX_4.out.f 3
                        have z1_4 := HX_4.out.f 4
                        have z1_5 := HX_4.out.f 5
                        obtain ⟨y2_0, y2_1, y2_2, y2_3, y2_4, y2_5, yl2⟩ := HY_4.out.lay7
                        have HO1_5 := Lib.hid (show OwnR W16 w.heap.size A' n c' out from by rw [hW16]; exact ((HO1_4.out.far2 HL.out.2.2 _).far2 HL.out.2.2 _).far2 HL.out.2.2 _)
                        have HX_5 := Lib.hid (show RB W16 gx v3 h3 l3 u4 p4 q4 from by rw [hW16]; exact HX_4.out.setHi u4 p4 q4)
                        have HY_5 := Lib.hid (show RB W16 gz u3 p3 q3 u4 p4 q4 from by rw [hW16]; exact ((HY_4.out.far HL.out.2.1 _).far HL.out.2.1 _).far HL.out.2.1 _)
                        have HB1_5 := Lib.hid (show Below w.heap.size w W16 from by rw [hW16]; exact ((HB1_4.out.setCell (p := ⟨gx, 3, none⟩) HL.out.1 _).setCell (p := ⟨gx, 4, none⟩) HL.out.1 _).setCell (p := ⟨gx, 5, none⟩) HL.out.1 _)
                        have q1_0 : W16.cell? ⟨gx, 0, none⟩ = some (.bool v3) := (HX_5.out.c 0).trans rfl
                        rw [hW16] at q1_0
                        have q1_1 : W16.cell? ⟨gx, 1, none⟩ = some (.int .u64 h3) := (HX_5.out.c 1).trans rfl
                        rw [hW16] at q1_1
                        have q1_2 : W16.cell? ⟨gx, 2, none⟩ = some (.int .u64 l3) := (HX_5.out.c 2).trans rfl
                        rw [hW16] at q1_2
                        have q1_3 : W16.cell? ⟨gx, 3, none⟩ = some (.bool u4) := (HX_5.out.c 3).trans rfl
                        rw [hW16] at q1_3
                        have q1_4 : W16.cell? ⟨gx, 4, none⟩ = some (.int .u64 p4) := (HX_5.out.c 4).trans rfl
                        rw [hW16] at q1_4
                        have q1_5 : W16.cell? ⟨gx, 5, none⟩ = some (.int .u64 q4) := (HX_5.out.c 5).trans rfl
                        rw [hW16] at q1_5
                        have q2_0 : W16.cell? ⟨gz, 0, none⟩ = some (.bool u3) := (HY_5.out.c 0).trans rfl
                        rw [hW16] at q2_0
                        have q2_1 : W16.cell? ⟨gz, 1, none⟩ = some (.int .u64 p3) := (HY_5.out.c 1).trans rfl
                        rw [hW16] at q2_1
                        have q2_2 : W16.cell? ⟨gz, 2, none⟩ = some (.int .u64 q3) := (HY_5.out.c 2).trans rfl
                        rw [hW16] at q2_2
                        have q2_3 : W16.cell? ⟨gz, 3, none⟩ = some (.bool u4) := (HY_5.out.c 3).trans rfl
                        rw [hW16] at q2_3
                        have q2_4 : W16.cell? ⟨gz, 4, none⟩ = some (.int .u64 p4) := (HY_5.out.c 4).trans rfl
                        rw [hW16] at q2_4
                        have q2_5 : W16.cell? ⟨gz, 5, none⟩ = some (.int .u64 q4) := (HY_5.out.c 5).trans rfl
                        rw [hW16] at q2_5
                        go_wp2_with fail
                        rw [← hW16]
                        clear hW16 HO1_4 HX_4 HY_4 HB1_4
                        clear y1_0 y1_1 y1_2 y1_3 y1_4 y1_5 yl1 z1_0 z1_1 z1_2 z1_3 z1_4 z1_5 y2_0 y2_1 y2_2 y2_3 y2_4 y2_5 yl2 q1_0 q1_1 q1_2 q1_3 q1_4 q1_5 q2_0 q2_1 q2_2 q2_3 q2_4 q2_5
                        refine (HS3.out _).mono ?_
                        rintro e w16 ⟨rfl, hb⟩
                        have HO1_6 := Lib.hid (show OwnR w16 w.heap.size A' n c' out from HO1_5.out.kept hb)
                        have HX_6 := Lib.hid (show RB w16 gx v3 h3 l3 u4 p4 q4 from HX_5.out.kept hb HX_5.out.lt)
                        have HY_6 := Lib.hid (show RB w16 gz u3 p3 q3 u4 p4 q4 from HY_5.out.kept hb HY_5.out.lt)
                        have HB1_6 := Lib.hid (HB1_5.out.trans (hb.mono HB1_5.out.size))
                        clear hb HO1_5 HX_5 HY_5 HB1_5
                        obtain ⟨y1_0, y1_1, y1_2, y1_3, y1_4, y1_5, yl1⟩ := HX_6.out.lay7
                        obtain ⟨y2_0, y2_1, y2_2, y2_3, y2_4, y2_5, yl2⟩ := HY_6.out.lay7
                        go_wp2_with fail
                        clear y1_0 y1_1 y1_2 y1_3 y1_4 y1_5 yl1 y2_0 y2_1 y2_2 y2_3 y2_4 y2_5 yl2
                        go_roundw
                        case rel => exact ⟨q + 1, n, c', A', out, by omega, by go_num, rfl, HNK2, HG, HA2, HB1_6, HO1_6⟩
                        case measure => simp [intOf]; omega
                    · skip
                      obtain ⟨hif, his, hia⟩ := @inter_some ⟨⟨v3, h3, l3⟩, ⟨v4, h4, l4⟩⟩ ⟨⟨u3, p3, q3⟩, ⟨u4, p4, q4⟩⟩ ⟨v3, h3, l3⟩ ⟨v4, h4, l4⟩ t1 hxf t2 hyf (by simpa using t3) (by rw [if_neg b1]) (by rw [if_neg b2])
                      have HS3 := Lib.hid (fun W => rsome_any v3 h3 l3 v4 h4 l4 W hif.1 hif.2)
                      rw [decide_eq_false b1] at HT1
                      rw [decide_eq_false b2] at HT2
                      rcases Bool.eq_false_or_eq_true (someR ⟨⟨v3, h3, l3⟩, ⟨v4, h4, l4⟩⟩) with t4 | t4
                      · rw [t4] at HS3
                        have HA2 := Lib.hid (show ∀ m, (anyS (out.map spn) m || inS (spn ⟨⟨v3, h3, l3⟩, ⟨v4, h4, l4⟩⟩) m) = intF a b k (q + 1) m from fun m => by rw [HST.out, HA.out, t1, t2, Bool.true_and, Bool.true_and, ← hia m, t4, Bool.true_and])
                        have hnb : n ≤ 100000 := by have h1 := HNK.out; have h2 := HKL.out; omega
                        have HADD := Lib.hid (fun W (hW : OwnR W w.heap.size A' n c' out) (hsz : w.heap.size ≤ W.heap.size) => show Calls Try.prog 41 #[.slice A' n c', .agg #[.bool v3, .int .u64 h3, .int .u64 l3, .bool v4, .int .u64 h4, .int .u64 l4]] W (SetO W w.heap.size (fun m => anyS (out.map spn) m || inS (spn ⟨⟨v3, h3, l3⟩, ⟨v4, h4, l4⟩⟩) m) (n + 1)) from by
                          rw [hW.1]
                          exact (radd_any A' c' out v3 h3 l3 v4 h4 l4 W hW.row HG.out t4 hif (by rw [← hW.1]; exact hnb)).mono fun _ _ hh => hh.own hsz)
                        have HNK2 := Lib.hid (show ∀ n5, n5 ≤ n + 1 → n5 ≤ k * nb + (q + 1) from fun n5 h => by have := HNK.out; omega)
                        clear hnb
                        clear HA HNK HST t1 t2 t4 his hia hif b1 b2
                        obtain ⟨y1_0, y1_1, y1_2, y1_3, y1_4, y1_5, yl1⟩ := HX.out.lay7
                        obtain ⟨y2_0, y2_1, y2_2, y2_3, y2_4, y2_5, yl2⟩ := HY.out.lay7
                        go_wp2_with fail
                        clear y1_0 y1_1 y1_2 y1_3 y1_4 y1_5 yl1 y2_0 y2_1 y2_2 y2_3 y2_4 y2_5 yl2
                        refine (HS1.out _).mono ?_
                        rintro e w11 ⟨rfl, hb⟩
                        have HO1_1 := Lib.hid (show OwnR w11 w.heap.size A' n c' out from HO1.out.kept hb)
                        have HX_1 := Lib.hid (show RB w11 gx v3 h3 l3 v4 h4 l4 from HX.out.kept hb HX.out.lt)
                        have HY_1 := Lib.hid (show RB w11 gz u3 p3 q3 u4 p4 q4 from HY.out.kept hb HY.out.lt)
                        have HB1_1 := Lib.hid (HB1.out.trans (hb.mono HB1.out.size))
                        clear hb HO1 HX HY HB1
                        obtain ⟨y1_0, y1_1, y1_2, y1_3, y1_4, y1_5, yl1⟩ := HX_1.out.lay7
                        obtain ⟨y2_0, y2_1, y2_2, y2_3, y2_4, y2_5, yl2⟩ := HY_1.out.lay7
                        go_wp2_with fail
                        clear y1_0 y1_1 y1_2 y1_3 y1_4 y1_5 yl1 y2_0 y2_1 y2_2 y2_3 y2_4 y2_5 yl2
                        refine (HS2.out _).mono ?_
                        rintro e w12 ⟨rfl, hb⟩
                        have HO1_2 := Lib.hid (show OwnR w12 w.heap.size A' n c' out from HO1_1.out.kept hb)
                        have HX_2 := Lib.hid (show RB w12 gx v3 h3 l3 v4 h4 l4 from HX_1.out.kept hb HX_1.out.lt)
                        have HY_2 := Lib.hid (show RB w12 gz u3 p3 q3 u4 p4 q4 from HY_1.out.kept hb HY_1.out.lt)
                        have HB1_2 := Lib.hid (HB1_1.out.trans (hb.mono HB1_1.out.size))
                        clear hb HO1_1 HX_1 HY_1 HB1_1
                        obtain ⟨y1_0, y1_1, y1_2, y1_3, y1_4, y1_5, yl1⟩ := HX_2.out.lay7
                        obtain ⟨y2_0, y2_1, y2_2, y2_3, y2_4, y2_5, yl2⟩ := HY_2.out.lay7
                        go_wp2_with fail
                        clear y1_0 y1_1 y1_2 y1_3 y1_4 y1_5 yl1 y2_0 y2_1 y2_2 y2_3 y2_4 y2_5 yl2
                        refine (HT1.out _).mono ?_
                        rintro e w13 ⟨rfl, hb⟩
                        have HO1_3 := Lib.hid (show OwnR w13 w.heap.size A' n c' out from HO1_2.out.kept hb)
                        have HX_3 := Lib.hid (show RB w13 gx v3 h3 l3 v4 h4 l4 from HX_2.out.kept hb HX_2.out.lt)
                        have HY_3 := Lib.hid (show RB w13 gz u3 p3 q3 u4 p4 q4 from HY_2.out.kept hb HY_2.out.lt)
                        have HB1_3 := Lib.hid (HB1_2.out.trans (hb.mono HB1_2.out.size))
                        clear hb HO1_2 HX_2 HY_2 HB1_2
                        obtain ⟨y1_0, y1_1, y1_2, y1_3, y1_4, y1_5, yl1⟩ := HX_3.out.lay7
                        obtain ⟨y2_0, y2_1, y2_2, y2_3, y2_4, y2_5, yl2⟩ := HY_3.out.lay7
                        go_wp2_with fail
                        clear y1_0 y1_1 y1_2 y1_3 y1_4 y1_5 yl1 y2_0 y2_1 y2_2 y2_3 y2_4 y2_5 yl2
                        refine (HT2.out _).mono ?_
                        rintro e w14 ⟨rfl, hb⟩
                        have HO1_4 := Lib.hid (show OwnR w14 w.heap.size A' n c' out from HO1_3.out.kept hb)
                        have HX_4 := Lib.hid (show RB w14 gx v3 h3 l3 v4 h4 l4 from HX_3.out.kept hb HX_3.out.lt)
                        have HY_4 := Lib.hid (show RB w14 gz u3 p3 q3 u4 p4 q4 from HY_3.out.kept hb HY_3.out.lt)
                        have HB1_4 := Lib.hid (HB1_3.out.trans (hb.mono HB1_3.out.size))
                        clear hb HO1_3 HX_3 HY_3 HB1_3
                        obtain ⟨y1_0, y1_1, y1_2, y1_3, y1_4, y1_5, yl1⟩ := HX_4.out.lay7
                        obtain ⟨y2_0, y2_1, y2_2, y2_3, y2_4, y2_5, yl2⟩ := HY_4.out.lay7
                        go_wp2_with fail
                        clear y1_0 y1_1 y1_2 y1_3 y1_4 y1_5 yl1 y2_0 y2_1 y2_2 y2_3 y2_4 y2_5 yl2
                        refine (HS3.out _).mono ?_
                        rintro e w15 ⟨rfl, hb⟩
                        have HO1_5 := Lib.hid (show OwnR w15 w.heap.size A' n c' out from HO1_4.out.kept hb)
                        have HX_5 := Lib.hid (show RB w15 gx v3 h3 l3 v4 h4 l4 from HX_4.out.kept hb HX_4.out.lt)
                        have HY_5 := Lib.hid (show RB w15 gz u3 p3 q3 u4 p4 q4 from HY_4.out.kept hb HY_4.out.lt)
                        have HB1_5 := Lib.hid (HB1_4.out.trans (hb.mono HB1_4.out.size))
                        clear hb HO1_4 HX_4 HY_4 HB1_4
                        obtain ⟨y1_0, y1_1, y1_2, y1_3, y1_4, y1_5, yl1⟩ := HX_5.out.lay7
                        obtain ⟨y2_0, y2_1, y2_2, y2_3, y2_4, y2_5, yl2⟩ := HY_5.out.lay7
                        go_wp2_with fail
                        clear y1_0 y1_1 y1_2 y1_3 y1_4 y1_5 yl1 y2_0 y2_1 y2_2 y2_3 y2_4 y2_5 yl2
                        refine (HADD.out _ HO1_5.out HB1_5.out.size).mono ?_
                        rintro e wq ⟨L, A5, n5, c5, g1, g2, g3, rfl, g5, hb⟩
                        have HBq := Lib.hid (HB1_5.out.trans (hb.mono HB1_5.out.size))
                        have HOq := Lib.hid g5
                        have HGq := Lib.hid g1
                        have HAq := Lib.hid (fun m => (g2 m).trans (HA2.out m))
                        have HNq := Lib.hid (HNK2.out n5 g3)
                        clear hb g1 g2 g3 g5
                        go_wp2_with fail
                        go_roundw
                        case rel => exact ⟨q + 1, n5, c5, A5, L, by omega, by go_num, rfl, HNq, HGq, HAq, HBq, HOq⟩
                        case measure => simp [intOf]; omega
                      · rw [t4] at HS3
                        have HA2 := Lib.hid (show ∀ m, anyS (out.map spn) m = intF a b k (q + 1) m from fun m => by rw [HST.out, HA.out, t1, t2, Bool.true_and, Bool.true_and, ← hia m, t4, Bool.false_and, Bool.or_false])
                        have HNK2 := Lib.hid (show n ≤ k * nb + (q + 1) from Nat.le_succ_of_le HNK.out)
                        clear HA HNK HST t1 t2 t4 his hia hif b1 b2
                        obtain ⟨y1_0, y1_1, y1_2, y1_3, y1_4, y1_5, yl1⟩ := HX.out.lay7
                        obtain ⟨y2_0, y2_1, y2_2, y2_3, y2_4, y2_5, yl2⟩ := HY.out.lay7
                        go_wp2_with fail
                        clear y1_0 y1_1 y1_2 y1_3 y1_4 y1_5 yl1 y2_0 y2_1 y2_2 y2_3 y2_4 y2_5 yl2
                        refine (HS1.out _).mono ?_
                        rintro e w11 ⟨rfl, hb⟩
                        have HO1_1 := Lib.hid (show OwnR w11 w.heap.size A' n c' out from HO1.out.kept hb)
                        have HX_1 := Lib.hid (show RB w11 gx v3 h3 l3 v4 h4 l4 from HX.out.kept hb HX.out.lt)
                        have HY_1 := Lib.hid (show RB w11 gz u3 p3 q3 u4 p4 q4 from HY.out.kept hb HY.out.lt)
                        have HB1_1 := Lib.hid (HB1.out.trans (hb.mono HB1.out.size))
                        clear hb HO1 HX HY HB1
                        obtain ⟨y1_0, y1_1, y1_2, y1_3, y1_4, y1_5, yl1⟩ := HX_1.out.lay7
                        obtain ⟨y2_0, y2_1, y2_2, y2_3, y2_4, y2_5, yl2⟩ := HY_1.out.lay7
                        go_wp2_with fail
                        clear y1_0 y1_1 y1_2 y1_3 y1_4 y1_5 yl1 y2_0 y2_1 y2_2 y2_3 y2_4 y2_5 yl2
                        refine (HS2.out _).mono ?_
                        rintro e w12 ⟨rfl, hb⟩
                        have HO1_2 := Lib.hid (show OwnR w12 w.heap.size A' n c' out from HO1_1.out.kept hb)
                        have HX_2 := Lib.hid (show RB w12 gx v3 h3 l3 v4 h4 l4 from HX_1.out.kept hb HX_1.out.lt)
                        have HY_2 := Lib.hid (show RB w12 gz u3 p3 q3 u4 p4 q4 from HY_1.out.kept hb HY_1.out.lt)
                        have HB1_2 := Lib.hid (HB1_1.out.trans (hb.mono HB1_1.out.size))
                        clear hb HO1_1 HX_1 HY_1 HB1_1
                        obtain ⟨y1_0, y1_1, y1_2, y1_3, y1_4, y1_5, yl1⟩ := HX_2.out.lay7
                        obtain ⟨y2_0, y2_1, y2_2, y2_3, y2_4, y2_5, yl2⟩ := HY_2.out.lay7
                        go_wp2_with fail
                        clear y1_0 y1_1 y1_2 y1_3 y1_4 y1_5 yl1 y2_0 y2_1 y2_2 y2_3 y2_4 y2_5 yl2
                        refine (HT1.out _).mono ?_
                        rintro e w13 ⟨rfl, hb⟩
                        have HO1_3 := Lib.hid (show OwnR w13 w.heap.size A' n c' out from HO1_2.out.kept hb)
                        have HX_3 := Lib.hid (show RB w13 gx v3 h3 l3 v4 h4 l4 from HX_2.out.kept hb HX_2.out.lt)
                        have HY_3 := Lib.hid (show RB w13 gz u3 p3 q3 u4 p4 q4 from HY_2.out.kept hb HY_2.out.lt)
                        have HB1_3 := Lib.hid (HB1_2.out.trans (hb.mono HB1_2.out.size))
                        clear hb HO1_2 HX_2 HY_2 HB1_2
                        obtain ⟨y1_0, y1_1, y1_2, y1_3, y1_4, y1_5, yl1⟩ := HX_3.out.lay7
                        obtain ⟨y2_0, y2_1, y2_2, y2_3, y2_4, y2_5, yl2⟩ := HY_3.out.lay7
                        go_wp2_with fail
                        clear y1_0 y1_1 y1_2 y1_3 y1_4 y1_5 yl1 y2_0 y2_1 y2_2 y2_3 y2_4 y2_5 yl2
                        refine (HT2.out _).mono ?_
                        rintro e w14 ⟨rfl, hb⟩
                        have HO1_4 := Lib.hid (show OwnR w14 w.heap.size A' n c' out from HO1_3.out.kept hb)
                        have HX_4 := Lib.hid (show RB w14 gx v3 h3 l3 v4 h4 l4 from HX_3.out.kept hb HX_3.out.lt)
                        have HY_4 := Lib.hid (show RB w14 gz u3 p3 q3 u4 p4 q4 from HY_3.out.kept hb HY_3.out.lt)
                        have HB1_4 := Lib.hid (HB1_3.out.trans (hb.mono HB1_3.out.size))
                        clear hb HO1_3 HX_3 HY_3 HB1_3
                        obtain ⟨y1_0, y1_1, y1_2, y1_3, y1_4, y1_5, yl1⟩ := HX_4.out.lay7
                        obtain ⟨y2_0, y2_1, y2_2, y2_3, y2_4, y2_5, yl2⟩ := HY_4.out.lay7
                        go_wp2_with fail
                        clear y1_0 y1_1 y1_2 y1_3 y1_4 y1_5 yl1 y2_0 y2_1 y2_2 y2_3 y2_4 y2_5 yl2
                        refine (HS3.out _).mono ?_
                        rintro e w15 ⟨rfl, hb⟩
                        have HO1_5 := Lib.hid (show OwnR w15 w.heap.size A' n c' out from HO1_4.out.kept hb)
                        have HX_5 := Lib.hid (show RB w15 gx v3 h3 l3 v4 h4 l4 from HX_4.out.kept hb HX_4.out.lt)
                        have HY_5 := Lib.hid (show RB w15 gz u3 p3 q3 u4 p4 q4 from HY_4.out.kept hb HY_4.out.lt)
                        have HB1_5 := Lib.hid (HB1_4.out.trans (hb.mono HB1_4.out.size))
                        clear hb HO1_4 HX_4 HY_4 HB1_4
                        obtain ⟨y1_0, y1_1, y1_2, y1_3, y1_4, y1_5, yl1⟩ := HX_5.out.lay7
                        obtain ⟨y2_0, y2_1, y2_2, y2_3, y2_4, y2_5, yl2⟩ := HY_5.out.lay7
                        go_wp2_with fail
                        clear y1_0 y1_1 y1_2 y1_3 y1_4 y1_5 yl1 y2_0 y2_1 y2_2 y2_3 y2_4 y2_5 yl2
                        go_roundw
                        case rel => exact ⟨q + 1, n, c', A', out, by omega, by go_num, rfl, HNK2, HG, HA2, HB1_5, HO1_5⟩
                        case measure => simp [intOf]; omega
                · skip
                  have hne : (!(v3 == u3)) = true := by rw [t3]; rfl
                  have hn0 := inter_ne t1 hxf t2 hyf t3
                  have HA2 := Lib.hid (show ∀ m, anyS (out.map spn) m = intF a b k (q + 1) m from fun m => by rw [HST.out, HA.out]; rw [t1, t2, Bool.true_and, Bool.true_and, hn0, Bool.or_false])
                  have HNK2 := Lib.hid (show n ≤ k * nb + (q + 1) from Nat.le_succ_of_le HNK.out)
                  clear HA HNK HST t1 t2 hn0
                  obtain ⟨y1_0, y1_1, y1_2, y1_3, y1_4, y1_5, yl1⟩ := HX.out.lay7
                  obtain ⟨y2_0, y2_1, y2_2, y2_3, y2_4, y2_5, yl2⟩ := HY.out.lay7
                  go_wp2_with fail
                  clear y1_0 y1_1 y1_2 y1_3 y1_4 y1_5 yl1 y2_0 y2_1 y2_2 y2_3 y2_4 y2_5 yl2
                  refine (HS1.out _).mono ?_
                  rintro e w11 ⟨rfl, hb⟩
                  have HO1_1 := Lib.hid (show OwnR w11 w.heap.size A' n c' out from HO1.out.kept hb)
                  have HX_1 := Lib.hid (show RB w11 gx v3 h3 l3 v4 h4 l4 from HX.out.kept hb HX.out.lt)
                  have HY_1 := Lib.hid (show RB w11 gz u3 p3 q3 u4 p4 q4 from HY.out.kept hb HY.out.lt)
                  have HB1_1 := Lib.hid (HB1.out.trans (hb.mono HB1.out.size))
                  clear hb HO1 HX HY HB1
                  obtain ⟨y1_0, y1_1, y1_2, y1_3, y1_4, y1_5, yl1⟩ := HX_1.out.lay7
                  obtain ⟨y2_0, y2_1, y2_2, y2_3, y2_4, y2_5, yl2⟩ := HY_1.out.lay7
                  go_wp2_with fail
                  clear y1_0 y1_1 y1_2 y1_3 y1_4 y1_5 yl1 y2_0 y2_1 y2_2 y2_3 y2_4 y2_5 yl2
                  refine (HS2.out _).mono ?_
                  rintro e w12 ⟨rfl, hb⟩
                  have HO1_2 := Lib.hid (show OwnR w12 w.heap.size A' n c' out from HO1_1.out.kept hb)
                  have HX_2 := Lib.hid (show RB w12 gx v3 h3 l3 v4 h4 l4 from HX_1.out.kept hb HX_1.out.lt)
                  have HY_2 := Lib.hid (show RB w12 gz u3 p3 q3 u4 p4 q4 from HY_1.out.kept hb HY_1.out.lt)
                  have HB1_2 := Lib.hid (HB1_1.out.trans (hb.mono HB1_1.out.size))
                  clear hb HO1_1 HX_1 HY_1 HB1_1
                  obtain ⟨y1_0, y1_1, y1_2, y1_3, y1_4, y1_5, yl1⟩ := HX_2.out.lay7
                  obtain ⟨y2_0, y2_1, y2_2, y2_3, y2_4, y2_5, yl2⟩ := HY_2.out.lay7
                  go_wp2_with fail
                  clear y1_0 y1_1 y1_2 y1_3 y1_4 y1_5 yl1 y2_0 y2_1 y2_2 y2_3 y2_4 y2_5 yl2
                  go_roundw
                  case rel => exact ⟨q + 1, n, c', A', out, by omega, by go_num, rfl, HNK2, HG, HA2, HB1_2, HO1_2⟩
                  case measure => simp [intOf]; omega
              · skip
                rw [t2] at HS2
                have HA2 := Lib.hid (show ∀ m, anyS (out.map spn) m = intF a b k (q + 1) m from fun m => by rw [HST.out, HA.out]; rw [t2, Bool.false_and, Bool.and_false, Bool.or_false])
                have HNK2 := Lib.hid (show n ≤ k * nb + (q + 1) from Nat.le_succ_of_le HNK.out)
                clear HA HNK HST t1 t2
                obtain ⟨y1_0, y1_1, y1_2, y1_3, y1_4, y1_5, yl1⟩ := HX.out.lay7
                obtain ⟨y2_0, y2_1, y2_2, y2_3, y2_4, y2_5, yl2⟩ := HY.out.lay7
                go_wp2_with fail
                clear y1_0 y1_1 y1_2 y1_3 y1_4 y1_5 yl1 y2_0 y2_1 y2_2 y2_3 y2_4 y2_5 yl2
                refine (HS1.out _).mono ?_
                rintro e w11 ⟨rfl, hb⟩
                have HO1_1 := Lib.hid (show OwnR w11 w.heap.size A' n c' out from HO1.out.kept hb)
                have HX_1 := Lib.hid (show RB w11 gx v3 h3 l3 v4 h4 l4 from HX.out.kept hb HX.out.lt)
                have HY_1 := Lib.hid (show RB w11 gz u3 p3 q3 u4 p4 q4 from HY.out.kept hb HY.out.lt)
                have HB1_1 := Lib.hid (HB1.out.trans (hb.mono HB1.out.size))
                clear hb HO1 HX HY HB1
                obtain ⟨y1_0, y1_1, y1_2, y1_3, y1_4, y1_5, yl1⟩ := HX_1.out.lay7
                obtain ⟨y2_0, y2_1, y2_2, y2_3, y2_4, y2_5, yl2⟩ := HY_1.out.lay7
                go_wp2_with fail
                clear y1_0 y1_1 y1_2 y1_3 y1_4 y1_5 yl1 y2_0 y2_1 y2_2 y2_3 y2_4 y2_5 yl2
                refine (HS2.out _).mono ?_
                rintro e w12 ⟨rfl, hb⟩
                have HO1_2 := Lib.hid (show OwnR w12 w.heap.size A' n c' out from HO1_1.out.kept hb)
                have HX_2 := Lib.hid (show RB w12 gx v3 h3 l3 v4 h4 l4 from HX_1.out.kept hb HX_1.out.lt)
                have HY_2 := Lib.hid (show RB w12 gz u3 p3 q3 u4 p4 q4 from HY_1.out.kept hb HY_1.out.lt)
                have HB1_2 := Lib.hid (HB1_1.out.trans (hb.mono HB1_1.out.size))
                clear hb HO1_1 HX_1 HY_1 HB1_1
                obtain ⟨y1_0, y1_1, y1_2, y1_3, y1_4, y1_5, yl1⟩ := HX_2.out.lay7
                obtain ⟨y2_0, y2_1, y2_2, y2_3, y2_4, y2_5, yl2⟩ := HY_2.out.lay7
                go_wp2_with fail
                clear y1_0 y1_1 y1_2 y1_3 y1_4 y1_5 yl1 y2_0 y2_1 y2_2 y2_3 y2_4 y2_5 yl2
                go_roundw
                case rel => exact ⟨q + 1, n, c', A', out, by omega, by go_num, rfl, HNK2, HG, HA2, HB1_2, HO1_2⟩
                case measure => simp [intOf]; omega
            · skip
              rw [t1] at HS1
              have HA2 := Lib.hid (show ∀ m, anyS (out.map spn) m = intF a b k (q + 1) m from fun m => by rw [HST.out, HA.out]; rw [t1, Bool.false_and, Bool.false_and, Bool.or_false])
              have HNK2 := Lib.hid (show n ≤ k * nb + (q + 1) from Nat.le_succ_of_le HNK.out)
              clear HA HNK HST t1
              obtain ⟨y1_0, y1_1, y1_2, y1_3, y1_4, y1_5, yl1⟩ := HX.out.lay7
              obtain ⟨y2_0, y2_1, y2_2, y2_3, y2_4, y2_5, yl2⟩ := HY.out.lay7
              go_wp2_with fail
              clear y1_0 y1_1 y1_2 y1_3 y1_4 y1_5 yl1 y2_0 y2_1 y2_2 y2_3 y2_4 y2_5 yl2
              refine (HS1.out _).mono ?_
              rintro e w11 ⟨rfl, hb⟩
              have HO1_1 := Lib.hid (show OwnR w11 w.heap.size A' n c' out from HO1.out.kept hb)
              have HX_1 := Lib.hid (show RB w11 gx v3 h3 l3 v4 h4 l4 from HX.out.kept hb HX.out.lt)
              have HY_1 := Lib.hid (show RB w11 gz u3 p3 q3 u4 p4 q4 from HY.out.kept hb HY.out.lt)
              have HB1_1 := Lib.hid (HB1.out.trans (hb.mono HB1.out.size))
              clear hb HO1 HX HY HB1
              obtain ⟨y1_0, y1_1, y1_2, y1_3, y1_4, y1_5, yl1⟩ := HX_1.out.lay7
              obtain ⟨y2_0, y2_1, y2_2, y2_3, y2_4, y2_5, yl2⟩ := HY_1.out.lay7
              go_wp2_with fail
              clear y1_0 y1_1 y1_2 y1_3 y1_4 y1_5 yl1 y2_0 y2_1 y2_2 y2_3 y2_4 y2_5 yl2
              go_roundw
              case rel => exact ⟨q + 1, n, c', A', out, by omega, by go_num, rfl, HNK2, HG, HA2, HB1_1, HO1_1⟩
              case measure => simp [intOf]; omega
        · have hqn : q = b.length := by have := HNB.out; omega
          have HA2 := Lib.hid (show ∀ m, anyS (out.map spn) m = intF a b (k + 1) 0 m from fun m => by rw [HA.out, hqn, intF_next HGX.out])
          have HNK2 := Lib.hid (show n ≤ (k + 1) * nb from by have := HNK.out; rw [Nat.add_mul]; omega)
          have hd : decide ((q : Int) < (nb : Int)) = false := by simp; omega
          clear hqn HA HNK
          go_wp2_with fail
          go_roundw
          case rel => exact ⟨k + 1, n, c', A', out, by omega, by go_num, rfl, HNK2, HG, HA2, HB, HO⟩
          case measure => simp [intOf]; omega
    · have hkn : k = a.length := by have := HNA.out; omega
      have HA2 := Lib.hid (show ∀ m, anyS (out.map spn) m = (anyS (spnL a) m && anyS (spnL b) m) from fun m => by rw [HA.out, hkn, intF_end])
      have HNN := Lib.hid (show n ≤ M by have h1 := HNK.out; have h2 := HM.out; rw [show k = na by omega] at h1; omega)
      have hd : decide ((k : Int) < (na : Int)) = false := by simp; omega
      clear hkn HA HNK
      go_wp2_with fail
      go_ret
      exact ⟨out, A', n, c', HG.out, HA2.out, HNN.out, rfl, HO.out, HB.out⟩
end Go.Proofs.Ytmcelgnifpfjpaa

/- Contracts of the reference of layer 7: Minus, Subset. -/
namespace Go.Proofs.Ytmcelgnifpfjpaa
open Go.ChangeShapes Go.WideShapes Go.ChangeAt Go.RowKit
set_option linter.unusedVariables false

theorem rinter_own (base : Nat) (A1 A2 : Option Addr) (c1 n2 c2 : Nat) (a b : List Rg) (w : World) (h1 : RowL ER w A1 a) (h2 : OwnR w base A2 n2 c2 b) (f1 : ∀ r ∈ a, r.fits) (f2 : ∀ r ∈ b, r.fits) (hl1 : a.length ≤ 300) (hl2 : n2 ≤ 300) :
    Calls Try.prog 22 #[.slice A1 a.length c1, .slice A2 n2 c2] w (SetO w w.heap.size (fun m => anyS (spnL a) m && anyS (spnL b) m) (a.length * n2)) := by
  rw [h2.1]
  exact rinter_any A1 A2 c1 c2 a b w h1 h2.row f1 f2 hl1 (by rw [← h2.1]; exact hl2)
theorem rminus_any (A1 A2 : Option Addr) (c1 c2 : Nat) (a b : List Rg) (w : World) (h1 : RowL ER w A1 a) (h2 : RowL ER w A2 b) (f1 : ∀ r ∈ a, r.fits) (f2 : ∀ r ∈ b, r.fits) (hl1 : a.length ≤ 100) (hl2 : b.length ≤ 100) :
    Calls Try.prog 24 #[.slice A1 a.length c1, .slice A2 b.length c2] w (SetO w w.heap.size (fun m => anyS (spnL a) m && !anyS (spnL b) m) 30000) := by
  have HC := Lib.hid (rcompl_any A2 c2 b w h2 f2 (by omega))
  have HI := Lib.hid (fun (W : World) (A : Option Addr) (n c : Nat) (L : List Rg) (hb : Below w.heap.size w W) (ho : OwnR W w.heap.size A n c L) (hL : GoodL L) (hn : n ≤ 300) => rinter_own w.heap.size A1 A c1 n c a L W (h1.kept hb) ho f1 (okL_fits hL) (by omega) hn)
  have HF := Lib.hid (fun m (h : anyS (spnL a) m = true) => any_U f1 h)
  obtain ⟨N, hN⟩ : ∃ n, n = a.length := ⟨_, rfl⟩
  obtain ⟨M, hM⟩ : ∃ n, n = b.length := ⟨_, rfl⟩
  rw [← hM] at HC
  rw [← hN] at HI
  rw [← hN, ← hM]
  have hN1 : N ≤ 100 := by omega
  have hM1 : M ≤ 100 := by omega
  clear h1 h2 f1 f2 hl1 hl2 hN hM
  go_enter Try.func24, Try.ntmps24
  go_wp2_with fail
  refine HC.out.mono ?_
  rintro e w1 ⟨L, A5, n5, c5, g1, g2, g3, rfl, g5, hb⟩
  have HN := Lib.hid (show N * n5 ≤ 30000 from Nat.le_trans (Nat.mul_le_mul hN1 (show n5 ≤ 202 by omega)) (by decide))
  have HK := Lib.hid (HI.out w1 A5 n5 c5 L hb g5 g1 (by omega))
  have HG := Lib.hid (show ∀ m, anyS (spnL L) m = (isU m && !anyS (spnL b) m) from fun m => by rw [spnL_good g1]; exact g2 m)
  have HB := Lib.hid hb
  clear g1 g2 g3 g5 hb HC HI
  go_wp2_with fail
  refine HK.out.mono ?_
  rintro e w2 ⟨K, A6, n6, c6, g1, g2, g3, rfl, g5, hb⟩
  have HE := Lib.hid (show SetO w w.heap.size (fun m => anyS (spnL a) m && !anyS (spnL b) m) 30000 (.returned (.slice A6 n6 c6)) w2 from ⟨K, A6, n6, c6, g1, fun m => (g2 m).trans (by
    show (anyS (spnL a) m && anyS (spnL L) m) = (anyS (spnL a) m && !anyS (spnL b) m)
    rw [HG.out m]
    cases h : anyS (spnL a) m with
    | true => rw [HF.out m h]; rfl
    | false => rfl), Nat.le_trans g3 HN.out, rfl, ⟨g5.1, own_mono g5.2 HB.out.size⟩, HB.out.trans (hb.mono HB.out.size)⟩)
  clear g1 g2 g3 g5 hb HK
  go_wp2_with fail
  go_ret
  exact HE.out

/-- The answer of Subset: whether the difference, as a set, is empty. -/
theorem rsubset_any (A1 A2 : Option Addr) (c1 c2 : Nat) (a b : List Rg) (w : World) (h1 : RowL ER w A1 a) (h2 : RowL ER w A2 b) (f1 : ∀ r ∈ a, r.fits) (f2 : ∀ r ∈ b, r.fits) (hl1 : a.length ≤ 100) (hl2 : b.length ≤ 100) :
    Calls Try.prog 26 #[.slice A1 a.length c1, .slice A2 b.length c2] w (SubO w (fun m => anyS (spnL a) m && !anyS (spnL b) m)) := by
  have HC := Lib.hid (rminus_any A1 A2 c1 c2 a b w h1 h2 f1 f2 (by omega) (by omega))
  obtain ⟨N, hN⟩ : ∃ n, n = a.length := ⟨_, rfl⟩
  obtain ⟨M, hM⟩ : ∃ n, n = b.length := ⟨_, rfl⟩
  rw [← hN, ← hM] at HC ⊢
  clear h1 h2 f1 f2 hl1 hl2 hN hM
  go_enter Try.func26, Try.ntmps26
  go_wp2_with fail
  refine HC.out.mono ?_
  rintro e w1 ⟨L, A5, n5, c5, g1, g2, g3, rfl, g5, hb⟩
  have HE := Lib.hid (show SubO w (fun m => anyS (spnL a) m && !anyS (spnL b) m) (.returned (.bool (n5 == 0))) w1 from ⟨L, g1, g2, by rw [g5.1], hb⟩)
  clear g1 g2 g3 g5 hb HC
  cases n5 with
  | zero =>
    go_wp2_with fail
    go_ret
    exact HE.out
  | succ k =>
    have hd : decide (((k + 1 : Nat) : Int) = 0) = false := by simp; omega
    have hd2 : (((k + 1 : Nat) : Int) == 0) = false := by simp; omega
    have he : (k + 1 == 0) = false := by simp
    rw [he] at HE
    go_wp2_with fail
    go_ret
    exact HE.out
end Go.Proofs.Ytmcelgnifpfjpaa
