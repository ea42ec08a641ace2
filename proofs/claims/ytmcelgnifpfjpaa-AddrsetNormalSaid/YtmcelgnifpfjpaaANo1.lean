/- Contracts of the functions, further part 1: In07b, SetRVal, SetPCon. -/
import Derived.Test.YtmcelgnifpfjpaaAOp4
import Derived.Test.YtmcelgnifpfjpaaAOp6
import Derived.Test.YtmcelgnifpfjpaaAOp7
/- An address by value as it comes in. -/
namespace Go.Proofs.Ytmcelgnifpfjpaa
open Go.ChangeShapes Go.WideShapes Go.ChangeAt Go.RowKit
open Go.Joins
set_option linter.unusedVariables false

variable {H : Type} {enc : TypeId × Value → H}
theorem array37 {α : Type} {a : Array α} (h : a.size = 3) : ∃ x y z, a = #[x, y, z] := by
  rcases a with ⟨l⟩
  match l, h with
  | [x, y, z], _ => exact ⟨x, y, z, rfl⟩
set_option maxRecDepth 20000 in
theorem in_addr7 {r : Reach} {w : World} {base b0 : Nat} {spare : Nat → Bool} {held : Bool} {v : Value} {d : DataW H} {p : List MemPlace} (hv : Value.okWide Try.prog w r b0 25 v) (h : DataW.Trod enc Try.prog w base spare held 25 v d p) :
    ∃ a : Ad, a.fits ∧ v = .agg #[.bool a.v, .int .u64 a.h, .int .u64 a.l] := by
  obtain ⟨g0, g1, g2, hsA, _⟩ := offsA7
  obtain ⟨cs, rfl, hsz⟩ := okWide_struct hsA hv
  obtain ⟨c0, c1, c2, rfl⟩ := array37 (hsz.trans cellsAd7)
  obtain ⟨fuel, hf⟩ := h
  obtain ⟨a, fa, rfl, rfl, rfl⟩ := open_ad7 hf
  exact ⟨a, fa, rfl⟩
end Go.Proofs.Ytmcelgnifpfjpaa

/- Contract of the reference of layer 7: Valid. -/
namespace Go.Proofs.Ytmcelgnifpfjpaa
open Go.ChangeShapes Go.WideShapes Go.ChangeAt Go.RowKit
set_option linter.unusedVariables false

set_option maxHeartbeats 1000000 in
set_option maxRecDepth 20000 in
theorem rvalid7_any (A : Option Addr) (cap : Nat) (l : List Rg) (w : World) (h : RowL ER w A l) (hf : ∀ r ∈ l, r.fits) (hl : l.length ≤ 1000000) :
    Calls Try.prog 14 #[.slice A l.length cap] w fun e w' => e = .returned (.bool (okR l)) ∧ Below w.heap.size w w' := by
  obtain ⟨n, hn⟩ : ∃ n, n = l.length := ⟨_, rfl⟩
  have hn6 : n ≤ 1000000 := by omega
  obtain ⟨B, hB⟩ : ∃ B, B = okR l := ⟨_, rfl⟩
  rw [← hn, ← hB]
  have H := Lib.hid h
  have HF := Lib.hid hf
  have HR := Lib.hid hB
  have HN := Lib.hid hn
  have HW := Lib.hid (Below.refl w.heap.size w)
  clear h hB hn hl hf
  go_enter Try.func14, Try.ntmps14
  go_wp2_with fail
  go_loopw [3] (fun i wr => ∃ k : Nat, k ≤ n ∧ i = .int .i64 k ∧ Hid (GoodL (l.take k)) ∧ Hid (Below w.heap.size w wr)) (fun i wr => n - (intOf i).toNat)
  case atStart => exact ⟨0, by omega, rfl, Lib.hid good_nil, HW⟩
  case round =>
    obtain ⟨k, hk, rfl, HK, HB⟩ := hrel
    clear HW
    by_cases hlt : k < n
    · have hkl : k < l.length := by rw [← HN.out]; exact hlt
      obtain ⟨g, o, rfl, hg⟩ := H.out.shape (by omega)
      obtain ⟨⟨⟨v1, h1, l1⟩, ⟨v2, h2, l2⟩⟩, hget⟩ : ∃ s, l[k]? = some s := ⟨l[k], List.getElem?_eq_getElem hkl⟩
      obtain ⟨c0, c1, c2, c3, c4, c5⟩ := rg_at H.out hget HB.out
      have hfit := HF.out _ (List.mem_of_getElem? hget)
      have HH := Lib.hid (fun W => rsome_any v1 h1 l1 v2 h2 l2 W hfit.1 hfit.2)
      have hki : (k : Int) < (n : Int) := by omega
      have hki0 : (0 : Int) ≤ (k : Int) := by omega
      have HG := Lib.hid hget
      have hgw : g < wr.heap.size := Nat.lt_of_lt_of_le hg HB.out.size
      cases hs : someR ⟨⟨v1, h1, l1⟩, ⟨v2, h2, l2⟩⟩ with
      | false =>
        obtain rfl : B = false := HR.out.trans (okR_none (List.mem_of_getElem? hget) hs)
        rw [hs] at HH
        clear hs hget hfit hg
        go_wp2_with fail
        refine wp_region_pick (fun w' => Below wr.heap.size wr w') (by kernel_rfl) (by kernel_rfl) (Below.refl _ _) ⟨rfl, rfl, rfl, Nat.le_refl _, fun _ _ => rfl⟩ (fun p hp hq => ?_)
        have pp0 : ∀ u, (p u).cell? ⟨g, o + k * 6, none⟩ = some (.bool v1) := fun u => ((hp u).cell (p := ⟨g, o + k * 6, none⟩) hgw).trans c0
        have pp1 : ∀ u, (p u).cell? ⟨g, o + k * 6 + 1, none⟩ = some (.int .u64 h1) := fun u => ((hp u).cell (p := ⟨g, o + k * 6 + 1, none⟩) hgw).trans c1
        have pp2 : ∀ u, (p u).cell? ⟨g, o + k * 6 + 2, none⟩ = some (.int .u64 l1) := fun u => ((hp u).cell (p := ⟨g, o + k * 6 + 2, none⟩) hgw).trans c2
        have pp3 : ∀ u, (p u).cell? ⟨g, o + k * 6 + 3, none⟩ = some (.bool v2) := fun u => ((hp u).cell (p := ⟨g, o + k * 6 + 3, none⟩) hgw).trans c3
        have pp4 : ∀ u, (p u).cell? ⟨g, o + k * 6 + 4, none⟩ = some (.int .u64 h2) := fun u => ((hp u).cell (p := ⟨g, o + k * 6 + 4, none⟩) hgw).trans c4
        have pp5 : ∀ u, (p u).cell? ⟨g, o + k * 6 + 5, none⟩ = some (.int .u64 l2) := fun u => ((hp u).cell (p := ⟨g, o + k * 6 + 5, none⟩) hgw).trans c5
        have HP := Lib.hid hp
        have HQ := Lib.hid hq
        clear hp hq
        repeat (go_big_quiet_step ((first | with_reducible exact Calls.pick_of HQ.out (fun W' hb => (HP.out _).trans (hb.mono (HP.out _).size)) (HH.out _))))
        refine wpQuiet_nil ?_
        rintro _ ⟨u, rfl⟩
        have hbp := HP.out u
        generalize p u = w2 at *
        clear HP HQ pp0 pp1 pp2 pp3 pp4 pp5
        have HB2 := Lib.hid (HB.out.trans (hbp.mono HB.out.size))
        clear hbp HB c0 c1 c2 c3 c4 c5
        go_wp2_with fail
        go_ret
        exact ⟨rfl, HB2.out⟩
      | true =>
        rw [hs] at HH
        have hsp := someR_span hs hfit
        have hsv := someR_iff.1 hs
        by_cases h4 : 0 < k
        · obtain ⟨j, rfl⟩ : ∃ j, k = j + 1 := ⟨k - 1, by omega⟩
          obtain ⟨⟨⟨v3, h3, l3⟩, ⟨v4, h4', l4⟩⟩, htg⟩ : ∃ t, l[j]? = some t := ⟨l[j], List.getElem?_eq_getElem (by omega)⟩
          obtain ⟨t0, t1, t2, t3, t4, t5⟩ := rg_at H.out htg HB.out
          have htfit := HF.out _ (List.mem_of_getElem? htg)
          have hts := (HK.out.1 _ (List.mem_of_getElem? (show (l.take (j + 1))[j]? = some _ by rw [List.getElem?_take_of_lt (by omega)]; exact htg))).1
          have htv := someR_iff.1 hts
          have HA := Lib.hid (fun W => rbef_key htfit.2 hfit.1 W)
          have HJ := Lib.hid (fun W => rjoin_any v3 h3 l3 v4 h4' l4 v1 h1 l1 v2 h2 l2 W htv.2.2.1.symm htfit.2 hfit.1 htv.2.1 hsv.1)
          have hnv := near_v htfit.2 hfit.1 htv.2.1 hsv.1
          simp only at HA hnv
          have hnx : nxt 0 ((l.take (j + 1)).map spn) = kA ⟨v4, h4', l4⟩ + 2 := nxt_takeR htg
          have hd4 : decide ((0 : Int) < ((j + 1 : Nat) : Int)) = true := decide_eq_true (by omega)
          have hd4b : decide (0 < j + 1) = true := by simp
          have hw1 : IntKind.i64.wrap (((j + 1 : Nat) : Int) - 1) = (j : Int) := by rw [show ((j + 1 : Nat) : Int) - 1 = (j : Int) by omega]; exact IntWalk.i64_in _ (by omega)
          have hj0 : (0 : Int) ≤ (j : Int) := by omega
          have hjn : (j : Int) < (n : Int) := by omega
          cases ha : decide (kA ⟨v4, h4', l4⟩ < kA ⟨v1, h1, l1⟩) with
          | false =>
            rw [ha] at HA
            obtain rfl : B = false := HR.out.trans (okR_fall hget (by rw [hnx]; have := of_decide_eq_false ha; show ¬ _ ≤ kA (⟨v1, h1, l1⟩ : Ad); omega))
            generalize hkj : j + 1 = k at *
            clear hs hget hfit hg htg htfit hts htv hsp hsv hnx ha hkj h4 hk hkl HJ hnv
            go_wp2_with fail
            refine wp_region_pick (fun w' => Below wr.heap.size wr w') (by kernel_rfl) (by kernel_rfl) (Below.refl _ _) ⟨rfl, rfl, rfl, Nat.le_refl _, fun _ _ => rfl⟩ (fun p hp hq => ?_)
            have pp0 : ∀ u, (p u).cell? ⟨g, o + k * 6, none⟩ = some (.bool v1) := fun u => ((hp u).cell (p := ⟨g, o + k * 6, none⟩) hgw).trans c0
            have pp1 : ∀ u, (p u).cell? ⟨g, o + k * 6 + 1, none⟩ = some (.int .u64 h1) := fun u => ((hp u).cell (p := ⟨g, o + k * 6 + 1, none⟩) hgw).trans c1
            have pp2 : ∀ u, (p u).cell? ⟨g, o + k * 6 + 2, none⟩ = some (.int .u64 l1) := fun u => ((hp u).cell (p := ⟨g, o + k * 6 + 2, none⟩) hgw).trans c2
            have pp3 : ∀ u, (p u).cell? ⟨g, o + k * 6 + 3, none⟩ = some (.bool v2) := fun u => ((hp u).cell (p := ⟨g, o + k * 6 + 3, none⟩) hgw).trans c3
            have pp4 : ∀ u, (p u).cell? ⟨g, o + k * 6 + 4, none⟩ = some (.int .u64 h2) := fun u => ((hp u).cell (p := ⟨g, o + k * 6 + 4, none⟩) hgw).trans c4
            have pp5 : ∀ u, (p u).cell? ⟨g, o + k * 6 + 5, none⟩ = some (.int .u64 l2) := fun u => ((hp u).cell (p := ⟨g, o + k * 6 + 5, none⟩) hgw).trans c5
            have pp6 : ∀ u, (p u).cell? ⟨g, o + j * 6, none⟩ = some (.bool v3) := fun u => ((hp u).cell (p := ⟨g, o + j * 6, none⟩) hgw).trans t0
            have pp7 : ∀ u, (p u).cell? ⟨g, o + j * 6 + 1, none⟩ = some (.int .u64 h3) := fun u => ((hp u).cell (p := ⟨g, o + j * 6 + 1, none⟩) hgw).trans t1
            have pp8 : ∀ u, (p u).cell? ⟨g, o + j * 6 + 2, none⟩ = some (.int .u64 l3) := fun u => ((hp u).cell (p := ⟨g, o + j * 6 + 2, none⟩) hgw).trans t2
            have pp9 : ∀ u, (p u).cell? ⟨g, o + j * 6 + 3, none⟩ = some (.bool v4) := fun u => ((hp u).cell (p := ⟨g, o + j * 6 + 3, none⟩) hgw).trans t3
            have pp10 : ∀ u, (p u).cell? ⟨g, o + j * 6 + 4, none⟩ = some (.int .u64 h4') := fun u => ((hp u).cell (p := ⟨g, o + j * 6 + 4, none⟩) hgw).trans t4
            have pp11 : ∀ u, (p u).cell? ⟨g, o + j * 6 + 5, none⟩ = some (.int .u64 l4) := fun u => ((hp u).cell (p := ⟨g, o + j * 6 + 5, none⟩) hgw).trans t5
            have HP := Lib.hid hp
            have HQ := Lib.hid hq
            clear hp hq
            repeat (go_big_quiet_step ((first | with_reducible exact Calls.pick_of HQ.out (fun W' hb => (HP.out _).trans (hb.mono (HP.out _).size)) (HH.out _) | with_reducible exact Calls.pick_of HQ.out (fun W' hb => (HP.out _).trans (hb.mono (HP.out _).size)) (HA.out _))))
            refine wpQuiet_nil ?_
            rintro _ ⟨u, rfl⟩
            have hbp := HP.out u
            generalize p u = w2 at *
            clear HP HQ pp0 pp1 pp2 pp3 pp4 pp5 pp6 pp7 pp8 pp9 pp10 pp11
            have HB2 := Lib.hid (HB.out.trans (hbp.mono HB.out.size))
            clear hbp HB c0 c1 c2 c3 c4 c5 t0 t1 t2 t3 t4 t5
            go_wp2_with fail
            go_ret
            exact ⟨rfl, HB2.out⟩
          | true =>
            rw [ha] at HA
            cases hj : (v4 == v1 && decide (kA ⟨v1, h1, l1⟩ ≤ kA ⟨v4, h4', l4⟩ + 1)) with
            | true =>
              rw [hj] at HJ
              obtain rfl : B = false := HR.out.trans (okR_fall hget (by
                rw [hnx]
                rw [Bool.and_eq_true, decide_eq_true_eq] at hj
                show ¬ _ ≤ kA (⟨v1, h1, l1⟩ : Ad)
                omega))
              generalize hkj : j + 1 = k at *
              clear hs hget hfit hg htg htfit hts htv hsp hsv hnx ha hkj h4 hk hkl hj hnv
              go_wp2_with fail
              refine wp_region_pick (fun w' => Below wr.heap.size wr w') (by kernel_rfl) (by kernel_rfl) (Below.refl _ _) ⟨rfl, rfl, rfl, Nat.le_refl _, fun _ _ => rfl⟩ (fun p hp hq => ?_)
              have pp0 : ∀ u, (p u).cell? ⟨g, o + k * 6, none⟩ = some (.bool v1) := fun u => ((hp u).cell (p := ⟨g, o + k * 6, none⟩) hgw).trans c0
              have pp1 : ∀ u, (p u).cell? ⟨g, o + k * 6 + 1, none⟩ = some (.int .u64 h1) := fun u => ((hp u).cell (p := ⟨g, o + k * 6 + 1, none⟩) hgw).trans c1
              have pp2 : ∀ u, (p u).cell? ⟨g, o + k * 6 + 2, none⟩ = some (.int .u64 l1) := fun u => ((hp u).cell (p := ⟨g, o + k * 6 + 2, none⟩) hgw).trans c2
              have pp3 : ∀ u, (p u).cell? ⟨g, o + k * 6 + 3, none⟩ = some (.bool v2) := fun u => ((hp u).cell (p := ⟨g, o + k * 6 + 3, none⟩) hgw).trans c3
              have pp4 : ∀ u, (p u).cell? ⟨g, o + k * 6 + 4, none⟩ = some (.int .u64 h2) := fun u => ((hp u).cell (p := ⟨g, o + k * 6 + 4, none⟩) hgw).trans c4
              have pp5 : ∀ u, (p u).cell? ⟨g, o + k * 6 + 5, none⟩ = some (.int .u64 l2) := fun u => ((hp u).cell (p := ⟨g, o + k * 6 + 5, none⟩) hgw).trans c5
              have pp6 : ∀ u, (p u).cell? ⟨g, o + j * 6, none⟩ = some (.bool v3) := fun u => ((hp u).cell (p := ⟨g, o + j * 6, none⟩) hgw).trans t0
              have pp7 : ∀ u, (p u).cell? ⟨g, o + j * 6 + 1, none⟩ = some (.int .u64 h3) := fun u => ((hp u).cell (p := ⟨g, o + j * 6 + 1, none⟩) hgw).trans t1
              have pp8 : ∀ u, (p u).cell? ⟨g, o + j * 6 + 2, none⟩ = some (.int .u64 l3) := fun u => ((hp u).cell (p := ⟨g, o + j * 6 + 2, none⟩) hgw).trans t2
              have pp9 : ∀ u, (p u).cell? ⟨g, o + j * 6 + 3, none⟩ = some (.bool v4) := fun u => ((hp u).cell (p := ⟨g, o + j * 6 + 3, none⟩) hgw).trans t3
              have pp10 : ∀ u, (p u).cell? ⟨g, o + j * 6 + 4, none⟩ = some (.int .u64 h4') := fun u => ((hp u).cell (p := ⟨g, o + j * 6 + 4, none⟩) hgw).trans t4
              have pp11 : ∀ u, (p u).cell? ⟨g, o + j * 6 + 5, none⟩ = some (.int .u64 l4) := fun u => ((hp u).cell (p := ⟨g, o + j * 6 + 5, none⟩) hgw).trans t5
              have HP := Lib.hid hp
              have HQ := Lib.hid hq
              clear hp hq
              repeat (go_big_quiet_step ((first | with_reducible exact Calls.pick_of HQ.out (fun W' hb => (HP.out _).trans (hb.mono (HP.out _).size)) (HH.out _) | with_reducible exact Calls.pick_of HQ.out (fun W' hb => (HP.out _).trans (hb.mono (HP.out _).size)) (HA.out _) | with_reducible exact Calls.pick_of HQ.out (fun W' hb => (HP.out _).trans (hb.mono (HP.out _).size)) (HJ.out _))))
              refine wpQuiet_nil ?_
              rintro _ ⟨u, rfl⟩
              have hbp := HP.out u
              generalize p u = w2 at *
              clear HP HQ pp0 pp1 pp2 pp3 pp4 pp5 pp6 pp7 pp8 pp9 pp10 pp11
              have HB2 := Lib.hid (HB.out.trans (hbp.mono HB.out.size))
              clear hbp HB c0 c1 c2 c3 c4 c5 t0 t1 t2 t3 t4 t5
              go_wp2_with fail
              go_ret
              exact ⟨rfl, HB2.out⟩
            | false =>
              rw [hj] at HJ
              have HK2 := Lib.hid (valid_step HF.out hget HK.out hs (by
                rw [hnx]
                have h5 := of_decide_eq_true ha
                rw [Bool.and_eq_false_iff] at hj
                show _ ≤ kA (⟨v1, h1, l1⟩ : Ad)
                rcases hj with hj | hj
                · by_cases c : kA ⟨v1, h1, l1⟩ ≤ kA ⟨v4, h4', l4⟩ + 1
                  · exact absurd (hnv (by omega) c) (by simpa using hj)
                  · omega
                · have := of_decide_eq_false hj; omega))
              generalize hkj : j + 1 = k at *
              clear hs hget hfit hg htg htfit hts htv hsp hsv hnx ha hkj h4 hkl HK hj hnv
              go_wp2_with fail
              refine wp_region_pick (fun w' => Below wr.heap.size wr w') (by kernel_rfl) (by kernel_rfl) (Below.refl _ _) ⟨rfl, rfl, rfl, Nat.le_refl _, fun _ _ => rfl⟩ (fun p hp hq => ?_)
              have pp0 : ∀ u, (p u).cell? ⟨g, o + k * 6, none⟩ = some (.bool v1) := fun u => ((hp u).cell (p := ⟨g, o + k * 6, none⟩) hgw).trans c0
              have pp1 : ∀ u, (p u).cell? ⟨g, o + k * 6 + 1, none⟩ = some (.int .u64 h1) := fun u => ((hp u).cell (p := ⟨g, o + k * 6 + 1, none⟩) hgw).trans c1
              have pp2 : ∀ u, (p u).cell? ⟨g, o + k * 6 + 2, none⟩ = some (.int .u64 l1) := fun u => ((hp u).cell (p := ⟨g, o + k * 6 + 2, none⟩) hgw).trans c2
              have pp3 : ∀ u, (p u).cell? ⟨g, o + k * 6 + 3, none⟩ = some (.bool v2) := fun u => ((hp u).cell (p := ⟨g, o + k * 6 + 3, none⟩) hgw).trans c3
              have pp4 : ∀ u, (p u).cell? ⟨g, o + k * 6 + 4, none⟩ = some (.int .u64 h2) := fun u => ((hp u).cell (p := ⟨g, o + k * 6 + 4, none⟩) hgw).trans c4
              have pp5 : ∀ u, (p u).cell? ⟨g, o + k * 6 + 5, none⟩ = some (.int .u64 l2) := fun u => ((hp u).cell (p := ⟨g, o + k * 6 + 5, none⟩) hgw).trans c5
              have pp6 : ∀ u, (p u).cell? ⟨g, o + j * 6, none⟩ = some (.bool v3) := fun u => ((hp u).cell (p := ⟨g, o + j * 6, none⟩) hgw).trans t0
              have pp7 : ∀ u, (p u).cell? ⟨g, o + j * 6 + 1, none⟩ = some (.int .u64 h3) := fun u => ((hp u).cell (p := ⟨g, o + j * 6 + 1, none⟩) hgw).trans t1
              have pp8 : ∀ u, (p u).cell? ⟨g, o + j * 6 + 2, none⟩ = some (.int .u64 l3) := fun u => ((hp u).cell (p := ⟨g, o + j * 6 + 2, none⟩) hgw).trans t2
              have pp9 : ∀ u, (p u).cell? ⟨g, o + j * 6 + 3, none⟩ = some (.bool v4) := fun u => ((hp u).cell (p := ⟨g, o + j * 6 + 3, none⟩) hgw).trans t3
              have pp10 : ∀ u, (p u).cell? ⟨g, o + j * 6 + 4, none⟩ = some (.int .u64 h4') := fun u => ((hp u).cell (p := ⟨g, o + j * 6 + 4, none⟩) hgw).trans t4
              have pp11 : ∀ u, (p u).cell? ⟨g, o + j * 6 + 5, none⟩ = some (.int .u64 l4) := fun u => ((hp u).cell (p := ⟨g, o + j * 6 + 5, none⟩) hgw).trans t5
              have HP := Lib.hid hp
              have HQ := Lib.hid hq
              clear hp hq
              repeat (go_big_quiet_step ((first | with_reducible exact Calls.pick_of HQ.out (fun W' hb => (HP.out _).trans (hb.mono (HP.out _).size)) (HH.out _) | with_reducible exact Calls.pick_of HQ.out (fun W' hb => (HP.out _).trans (hb.mono (HP.out _).size)) (HA.out _) | with_reducible exact Calls.pick_of HQ.out (fun W' hb => (HP.out _).trans (hb.mono (HP.out _).size)) (HJ.out _))))
              refine wpQuiet_nil ?_
              rintro _ ⟨u, rfl⟩
              have hbp := HP.out u
              generalize p u = w2 at *
              clear HP HQ pp0 pp1 pp2 pp3 pp4 pp5 pp6 pp7 pp8 pp9 pp10 pp11
              have HB2 := Lib.hid (HB.out.trans (hbp.mono HB.out.size))
              clear hbp HB c0 c1 c2 c3 c4 c5 t0 t1 t2 t3 t4 t5
              go_wp2_with fail
              go_round
              case rel => exact ⟨k + 1, by omega, by go_num, HK2, HB2⟩
              case measure => simp [intOf]; omega
        · have hk0 : k = 0 := by omega
          have HK2 := Lib.hid (valid_step HF.out hget HK.out hs (by rw [hk0]; exact hsp.1))
          have d4 : decide ((0 : Int) < (k : Int)) = false := by simp; omega
          have d4b : decide (0 < k) = false := by simp; omega
          clear hs hget hfit hg hsp hsv hk0 hkl HK
          go_wp2_with fail
          refine wp_region_pick (fun w' => Below wr.heap.size wr w') (by kernel_rfl) (by kernel_rfl) (Below.refl _ _) ⟨rfl, rfl, rfl, Nat.le_refl _, fun _ _ => rfl⟩ (fun p hp hq => ?_)
          have pp0 : ∀ u, (p u).cell? ⟨g, o + k * 6, none⟩ = some (.bool v1) := fun u => ((hp u).cell (p := ⟨g, o + k * 6, none⟩) hgw).trans c0
          have pp1 : ∀ u, (p u).cell? ⟨g, o + k * 6 + 1, none⟩ = some (.int .u64 h1) := fun u => ((hp u).cell (p := ⟨g, o + k * 6 + 1, none⟩) hgw).trans c1
          have pp2 : ∀ u, (p u).cell? ⟨g, o + k * 6 + 2, none⟩ = some (.int .u64 l1) := fun u => ((hp u).cell (p := ⟨g, o + k * 6 + 2, none⟩) hgw).trans c2
          have pp3 : ∀ u, (p u).cell? ⟨g, o + k * 6 + 3, none⟩ = some (.bool v2) := fun u => ((hp u).cell (p := ⟨g, o + k * 6 + 3, none⟩) hgw).trans c3
          have pp4 : ∀ u, (p u).cell? ⟨g, o + k * 6 + 4, none⟩ = some (.int .u64 h2) := fun u => ((hp u).cell (p := ⟨g, o + k * 6 + 4, none⟩) hgw).trans c4
          have pp5 : ∀ u, (p u).cell? ⟨g, o + k * 6 + 5, none⟩ = some (.int .u64 l2) := fun u => ((hp u).cell (p := ⟨g, o + k * 6 + 5, none⟩) hgw).trans c5
          have HP := Lib.hid hp
          have HQ := Lib.hid hq
          clear hp hq
          repeat (go_big_quiet_step ((first | with_reducible exact Calls.pick_of HQ.out (fun W' hb => (HP.out _).trans (hb.mono (HP.out _).size)) (HH.out _))))
          refine wpQuiet_nil ?_
          rintro _ ⟨u, rfl⟩
          have hbp := HP.out u
          generalize p u = w2 at *
          clear HP HQ pp0 pp1 pp2 pp3 pp4 pp5
          have HB2 := Lib.hid (HB.out.trans (hbp.mono HB.out.size))
          clear hbp HB c0 c1 c2 c3 c4 c5
          go_wp2_with fail
          go_round
          case rel => exact ⟨k + 1, by omega, by go_num, HK2, HB2⟩
          case measure => simp [intOf]; omega
    · have hkn : k = l.length := by have := HN.out; omega
      obtain rfl : B = true := by
        have := HK.out
        rw [hkn, List.take_length] at this
        exact HR.out.trans ((okR_iff HF.out).2 this)
      obtain rfl : k = n := by omega
      clear hkn
      have hd : decide ((k : Int) < (k : Int)) = false := by simp
      go_wp2_with fail
      go_ret
      exact ⟨rfl, HB.out⟩
end Go.Proofs.Ytmcelgnifpfjpaa

/- Contract of the program of layer 7: Contains. -/
namespace Go.Proofs.Ytmcelgnifpfjpaa
open Go.ChangeShapes Go.WideShapes Go.ChangeAt Go.RowKit
set_option linter.unusedVariables false

set_option maxHeartbeats 1000000 in
set_option maxRecDepth 20000 in
theorem phas_raw (v1 : Bool) (h1 l1 : Nat) (v2 : Bool) (h2 l2 : Nat) (w : World) :
    Calls Try.prog 34 #[.agg #[.bool v1, .int .u64 h1, .int .u64 l1, .bool v2, .int .u64 h2, .int .u64 l2]] w fun e w' => e = .returned (.bool (vA ⟨v1, h1, l1⟩ && (vA ⟨v2, h2, l2⟩ && (v1 == v2 && !decide (cmpA v2 h2 l2 v1 h1 l1 < 0))))) ∧ Below w.heap.size w w' := by
  have HV1 := Lib.hid (fun W => qvalid_any v1 h1 l1 W)
  have HV2 := Lib.hid (fun W => qvalid_any v2 h2 l2 W)
  have HC := Lib.hid (fun W => pbef_any v2 h2 l2 v1 h1 l1 W)
  rw [show vldA v1 h1 l1 = vA ⟨v1, h1, l1⟩ from rfl] at HV1
  rw [show vldA v2 h2 l2 = vA ⟨v2, h2, l2⟩ from rfl] at HV2
  generalize vA ⟨v1, h1, l1⟩ = b1 at *
  generalize vA ⟨v2, h2, l2⟩ = b2 at *
  generalize decide (cmpA v2 h2 l2 v1 h1 l1 < 0) = b4 at *
  obtain ⟨b3, d3⟩ : ∃ b, (v1 == v2) = b := ⟨_, rfl⟩
  rw [d3]
  obtain ⟨W0, hW0⟩ : ∃ W, W = w.alloc (.cells #[.bool v1, .int .u64 h1, .int .u64 l1, .bool v2, .int .u64 h2, .int .u64 l2] 43) := ⟨_, rfl⟩
  have HE0 := Lib.hid (show RB W0 w.heap.size v1 h1 l1 v2 h2 l2 from by rw [hW0]; exact rb_new w v1 h1 l1 v2 h2 l2)
  have HB0 := Lib.hid (show Below w.heap.size w W0 by rw [hW0]; exact below_alloc6 w _)
  cases b1
  case false =>
    go_enter Try.func34, Try.ntmps34
    go_wp2_with fail
    rw [← hW0]
    clear hW0
    refine (HV1.out _).mono ?_
    rintro e w1 ⟨rfl, hb⟩
    have HE1 := Lib.hid (show RB w1 w.heap.size v1 h1 l1 v2 h2 l2 from HE0.out.kept hb HE0.out.lt)
    have HB1 := Lib.hid (HB0.out.trans (hb.mono HB0.out.size))
    clear hb HE0 HB0 
    have f0_0 : w1.cell? ⟨w.heap.size, 0, none⟩ = some (.bool v1) := (HE1.out.c 0).trans rfl
    have f0_1 : w1.cell? ⟨w.heap.size, 1, none⟩ = some (.int .u64 h1) := (HE1.out.c 1).trans rfl
    have f0_2 : w1.cell? ⟨w.heap.size, 2, none⟩ = some (.int .u64 l1) := (HE1.out.c 2).trans rfl
    have f0_3 : w1.cell? ⟨w.heap.size, 3, none⟩ = some (.bool v2) := (HE1.out.c 3).trans rfl
    have f0_4 : w1.cell? ⟨w.heap.size, 4, none⟩ = some (.int .u64 h2) := (HE1.out.c 4).trans rfl
    have f0_5 : w1.cell? ⟨w.heap.size, 5, none⟩ = some (.int .u64 l2) := (HE1.out.c 5).trans rfl
    have fl0 := HE1.out.lt
    go_wp2_with fail
    go_ret
    exact ⟨rfl, HB1.out⟩
  cases b2
  case false =>
    go_enter Try.func34, Try.ntmps34
    go_wp2_with fail
    rw [← hW0]
    clear hW0
    refine (HV1.out _).mono ?_
    rintro e w1 ⟨rfl, hb⟩
    have HE1 := Lib.hid (show RB w1 w.heap.size v1 h1 l1 v2 h2 l2 from HE0.out.kept hb HE0.out.lt)
    have HB1 := Lib.hid (HB0.out.trans (hb.mono HB0.out.size))
    clear hb HE0 HB0 
    have f0_0 : w1.cell? ⟨w.heap.size, 0, none⟩ = some (.bool v1) := (HE1.out.c 0).trans rfl
    have f0_1 : w1.cell? ⟨w.heap.size, 1, none⟩ = some (.int .u64 h1) := (HE1.out.c 1).trans rfl
    have f0_2 : w1.cell? ⟨w.heap.size, 2, none⟩ = some (.int .u64 l1) := (HE1.out.c 2).trans rfl
    have f0_3 : w1.cell? ⟨w.heap.size, 3, none⟩ = some (.bool v2) := (HE1.out.c 3).trans rfl
    have f0_4 : w1.cell? ⟨w.heap.size, 4, none⟩ = some (.int .u64 h2) := (HE1.out.c 4).trans rfl
    have f0_5 : w1.cell? ⟨w.heap.size, 5, none⟩ = some (.int .u64 l2) := (HE1.out.c 5).trans rfl
    have fl0 := HE1.out.lt
    go_wp2_with fail
    clear f0_0 f0_1 f0_2 f0_3 f0_4 f0_5 fl0
    refine (HV2.out _).mono ?_
    rintro e w2 ⟨rfl, hb⟩
    have HE2 := Lib.hid (show RB w2 w.heap.size v1 h1 l1 v2 h2 l2 from HE1.out.kept hb HE1.out.lt)
    have HB2 := Lib.hid (HB1.out.trans (hb.mono HB1.out.size))
    clear hb HE1 HB1 
    have f0_0 : w2.cell? ⟨w.heap.size, 0, none⟩ = some (.bool v1) := (HE2.out.c 0).trans rfl
    have f0_1 : w2.cell? ⟨w.heap.size, 1, none⟩ = some (.int .u64 h1) := (HE2.out.c 1).trans rfl
    have f0_2 : w2.cell? ⟨w.heap.size, 2, none⟩ = some (.int .u64 l1) := (HE2.out.c 2).trans rfl
    have f0_3 : w2.cell? ⟨w.heap.size, 3, none⟩ = some (.bool v2) := (HE2.out.c 3).trans rfl
    have f0_4 : w2.cell? ⟨w.heap.size, 4, none⟩ = some (.int .u64 h2) := (HE2.out.c 4).trans rfl
    have f0_5 : w2.cell? ⟨w.heap.size, 5, none⟩ = some (.int .u64 l2) := (HE2.out.c 5).trans rfl
    have fl0 := HE2.out.lt
    go_wp2_with fail
    go_ret
    exact ⟨rfl, HB2.out⟩
  cases b3
  case false =>
    go_enter Try.func34, Try.ntmps34
    go_wp2_with fail
    rw [← hW0]
    clear hW0
    refine (HV1.out _).mono ?_
    rintro e w1 ⟨rfl, hb⟩
    have HE1 := Lib.hid (show RB w1 w.heap.size v1 h1 l1 v2 h2 l2 from HE0.out.kept hb HE0.out.lt)
    have HB1 := Lib.hid (HB0.out.trans (hb.mono HB0.out.size))
    clear hb HE0 HB0 
    have f0_0 : w1.cell? ⟨w.heap.size, 0, none⟩ = some (.bool v1) := (HE1.out.c 0).trans rfl
    have f0_1 : w1.cell? ⟨w.heap.size, 1, none⟩ = some (.int .u64 h1) := (HE1.out.c 1).trans rfl
    have f0_2 : w1.cell? ⟨w.heap.size, 2, none⟩ = some (.int .u64 l1) := (HE1.out.c 2).trans rfl
    have f0_3 : w1.cell? ⟨w.heap.size, 3, none⟩ = some (.bool v2) := (HE1.out.c 3).trans rfl
    have f0_4 : w1.cell? ⟨w.heap.size, 4, none⟩ = some (.int .u64 h2) := (HE1.out.c 4).trans rfl
    have f0_5 : w1.cell? ⟨w.heap.size, 5, none⟩ = some (.int .u64 l2) := (HE1.out.c 5).trans rfl
    have fl0 := HE1.out.lt
    go_wp2_with fail
    clear f0_0 f0_1 f0_2 f0_3 f0_4 f0_5 fl0
    refine (HV2.out _).mono ?_
    rintro e w2 ⟨rfl, hb⟩
    have HE2 := Lib.hid (show RB w2 w.heap.size v1 h1 l1 v2 h2 l2 from HE1.out.kept hb HE1.out.lt)
    have HB2 := Lib.hid (HB1.out.trans (hb.mono HB1.out.size))
    clear hb HE1 HB1 
    have f0_0 : w2.cell? ⟨w.heap.size, 0, none⟩ = some (.bool v1) := (HE2.out.c 0).trans rfl
    have f0_1 : w2.cell? ⟨w.heap.size, 1, none⟩ = some (.int .u64 h1) := (HE2.out.c 1).trans rfl
    have f0_2 : w2.cell? ⟨w.heap.size, 2, none⟩ = some (.int .u64 l1) := (HE2.out.c 2).trans rfl
    have f0_3 : w2.cell? ⟨w.heap.size, 3, none⟩ = some (.bool v2) := (HE2.out.c 3).trans rfl
    have f0_4 : w2.cell? ⟨w.heap.size, 4, none⟩ = some (.int .u64 h2) := (HE2.out.c 4).trans rfl
    have f0_5 : w2.cell? ⟨w.heap.size, 5, none⟩ = some (.int .u64 l2) := (HE2.out.c 5).trans rfl
    have fl0 := HE2.out.lt
    go_wp2_with fail
    go_ret
    exact ⟨rfl, HB2.out⟩
  cases b4
  all_goals
    go_enter Try.func34, Try.ntmps34
    go_wp2_with fail
    rw [← hW0]
    clear hW0
    refine (HV1.out _).mono ?_
    rintro e w1 ⟨rfl, hb⟩
    have HE1 := Lib.hid (show RB w1 w.heap.size v1 h1 l1 v2 h2 l2 from HE0.out.kept hb HE0.out.lt)
    have HB1 := Lib.hid (HB0.out.trans (hb.mono HB0.out.size))
    clear hb HE0 HB0 
    have f0_0 : w1.cell? ⟨w.heap.size, 0, none⟩ = some (.bool v1) := (HE1.out.c 0).trans rfl
    have f0_1 : w1.cell? ⟨w.heap.size, 1, none⟩ = some (.int .u64 h1) := (HE1.out.c 1).trans rfl
    have f0_2 : w1.cell? ⟨w.heap.size, 2, none⟩ = some (.int .u64 l1) := (HE1.out.c 2).trans rfl
    have f0_3 : w1.cell? ⟨w.heap.size, 3, none⟩ = some (.bool v2) := (HE1.out.c 3).trans rfl
    have f0_4 : w1.cell? ⟨w.heap.size, 4, none⟩ = some (.int .u64 h2) := (HE1.out.c 4).trans rfl
    have f0_5 : w1.cell? ⟨w.heap.size, 5, none⟩ = some (.int .u64 l2) := (HE1.out.c 5).trans rfl
    have fl0 := HE1.out.lt
    go_wp2_with fail
    clear f0_0 f0_1 f0_2 f0_3 f0_4 f0_5 fl0
    refine (HV2.out _).mono ?_
    rintro e w2 ⟨rfl, hb⟩
    have HE2 := Lib.hid (show RB w2 w.heap.size v1 h1 l1 v2 h2 l2 from HE1.out.kept hb HE1.out.lt)
    have HB2 := Lib.hid (HB1.out.trans (hb.mono HB1.out.size))
    clear hb HE1 HB1 
    have f0_0 : w2.cell? ⟨w.heap.size, 0, none⟩ = some (.bool v1) := (HE2.out.c 0).trans rfl
    have f0_1 : w2.cell? ⟨w.heap.size, 1, none⟩ = some (.int .u64 h1) := (HE2.out.c 1).trans rfl
    have f0_2 : w2.cell? ⟨w.heap.size, 2, none⟩ = some (.int .u64 l1) := (HE2.out.c 2).trans rfl
    have f0_3 : w2.cell? ⟨w.heap.size, 3, none⟩ = some (.bool v2) := (HE2.out.c 3).trans rfl
    have f0_4 : w2.cell? ⟨w.heap.size, 4, none⟩ = some (.int .u64 h2) := (HE2.out.c 4).trans rfl
    have f0_5 : w2.cell? ⟨w.heap.size, 5, none⟩ = some (.int .u64 l2) := (HE2.out.c 5).trans rfl
    have fl0 := HE2.out.lt
    go_wp2_with fail
    clear f0_0 f0_1 f0_2 f0_3 f0_4 f0_5 fl0
    refine (HC.out _).mono ?_
    rintro e w3 ⟨rfl, hb⟩
    have HE3 := Lib.hid (show RB w3 w.heap.size v1 h1 l1 v2 h2 l2 from HE2.out.kept hb HE2.out.lt)
    have HB3 := Lib.hid (HB2.out.trans (hb.mono HB2.out.size))
    clear hb HE2 HB2 
    have f0_0 : w3.cell? ⟨w.heap.size, 0, none⟩ = some (.bool v1) := (HE3.out.c 0).trans rfl
    have f0_1 : w3.cell? ⟨w.heap.size, 1, none⟩ = some (.int .u64 h1) := (HE3.out.c 1).trans rfl
    have f0_2 : w3.cell? ⟨w.heap.size, 2, none⟩ = some (.int .u64 l1) := (HE3.out.c 2).trans rfl
    have f0_3 : w3.cell? ⟨w.heap.size, 3, none⟩ = some (.bool v2) := (HE3.out.c 3).trans rfl
    have f0_4 : w3.cell? ⟨w.heap.size, 4, none⟩ = some (.int .u64 h2) := (HE3.out.c 4).trans rfl
    have f0_5 : w3.cell? ⟨w.heap.size, 5, none⟩ = some (.int .u64 l2) := (HE3.out.c 5).trans rfl
    have fl0 := HE3.out.lt
    go_wp2_with fail
    go_ret
    exact ⟨rfl, HB3.out⟩
/-- The program's test of a range, for whatever numbers. -/
def predA (a : Ad) (r : Rg) : Bool := (vA r.lo && (vA r.hi && (r.lo.v == r.hi.v && !decide (cmpA r.hi.v r.hi.h r.hi.l r.lo.v r.lo.h r.lo.l < 0)))) && (!decide (cmpA a.v a.h a.l r.lo.v r.lo.h r.lo.l < 0) && !decide (cmpA r.hi.v r.hi.h r.hi.l a.v a.h a.l < 0))
theorem predA_fits {a : Ad} {r : Rg} (ha : a.fits) (hr : r.fits) : predA a r = (someR r && inS (spn r) (kA a)) := by
  unfold predA
  rw [cmp_key hr.2 hr.1, cmp_key ha hr.1, cmp_key hr.2 ha, ← someR_tests r.lo r.hi hr.1 hr.2]
  congr 1
  rw [Bool.eq_iff_iff, inS_iff]
  simp [spn]
theorem any_pred {a : Ad} (ha : a.fits) : ∀ {l : List Rg}, (∀ r ∈ l, r.fits) → l.any (predA a) = anyS (spnL l) (kA a)
  | [], _ => rfl
  | x :: r, hf => by
    rw [List.any_cons, predA_fits ha (hf x (by simp)), any_pred ha (fun y hy => hf y (by simp [hy])), spnL_cons, anyS_append]
    congr 1
    cases someR x <;> simp [anyS]
set_option maxHeartbeats 1000000 in
set_option maxRecDepth 20000 in
theorem pconR_any (v1 : Bool) (h1 l1 : Nat) (v2 : Bool) (h2 l2 : Nat) (va : Bool) (ha la : Nat) (b : Nat) (w : World) (hb : AB w b va ha la) :
    Calls Try.prog 46 #[.agg #[.bool v1, .int .u64 h1, .int .u64 l1, .bool v2, .int .u64 h2, .int .u64 l2], .pointer (some ⟨b, 0, none⟩)] w fun e w' => e = .returned (.bool (predA ⟨va, ha, la⟩ ⟨⟨v1, h1, l1⟩, ⟨v2, h2, l2⟩⟩)) ∧ Below w.heap.size w w' := by
  have HH := Lib.hid (fun W => phas_raw v1 h1 l1 v2 h2 l2 W)
  have HT1 := Lib.hid (fun W => pbef_any va ha la v1 h1 l1 W)
  have HT2 := Lib.hid (fun W => pbef_any v2 h2 l2 va ha la W)
  unfold predA
  simp only
  generalize (vA ⟨v1, h1, l1⟩ && (vA ⟨v2, h2, l2⟩ && (v1 == v2 && !decide (cmpA v2 h2 l2 v1 h1 l1 < 0)))) = b1 at *
  generalize decide (cmpA va ha la v1 h1 l1 < 0) = b2 at *
  generalize decide (cmpA v2 h2 l2 va ha la < 0) = b3 at *
  have HA0 := Lib.hid hb
  have HBR := Lib.hid (Below.refl w.heap.size w)
  clear hb
  cases b1
  case false =>
    have y0_0 : w.cell? ⟨b, 0, none⟩ = some (.bool va) := HA0.out.c0
    have y0_1 : w.cell? ⟨b, 1, none⟩ = some (.int .u64 ha) := HA0.out.c1
    have y0_2 : w.cell? ⟨b, 2, none⟩ = some (.int .u64 la) := HA0.out.c2
    have yl0 := HA0.out.lt
    go_enter Try.func46, Try.ntmps46
    go_wp2_with fail
    clear y0_0 y0_1 y0_2 yl0
    obtain ⟨W12, hW12⟩ : ∃ W, W = w.alloc (.cells #[.bool v1, .int .u64 h1, .int .u64 l1, .bool v2, .int .u64 h2, .int .u64 l2] 43) := ⟨_, rfl⟩
    obtain ⟨gx, hgx⟩ : ∃ g, g = w.heap.size := ⟨_, rfl⟩
    have HA0_1 := Lib.hid (show AB W12 b va ha la from by rw [hW12]; exact HA0.out.al _)
    have Lgx := Lib.hid (show b < gx ∧ w.heap.size ≤ gx from by rw [hgx]; exact ⟨HA0.out.lt, HBR.out.size⟩)
    have HX := Lib.hid (show RB W12 gx v1 h1 l1 v2 h2 l2 from by rw [hW12, hgx]; exact rb_new w v1 h1 l1 v2 h2 l2)
    have HSZgx := Lib.hid (show W12.heap.size = gx + 1 from by rw [hW12, hgx]; simp)
    have HUPgx := Lib.hid (show w.heap.size ≤ W12.heap.size from by rw [hW12]; simp)
    have HBR_1 := Lib.hid (show Below w.heap.size w W12 by rw [hW12]; exact HBR.out.alloc HBR.out.size _)
    clear HA0 HBR
    rw [← hW12, ← hgx]
    clear hW12 hgx
    have y0_0 : W12.cell? ⟨b, 0, none⟩ = some (.bool va) := HA0_1.out.c0
    have y0_1 : W12.cell? ⟨b, 1, none⟩ = some (.int .u64 ha) := HA0_1.out.c1
    have y0_2 : W12.cell? ⟨b, 2, none⟩ = some (.int .u64 la) := HA0_1.out.c2
    have yl0 := HA0_1.out.lt
    have y1_0 : W12.cell? ⟨gx, 0, none⟩ = some (.bool v1) := (HX.out.c 0).trans rfl
    have y1_1 : W12.cell? ⟨gx, 1, none⟩ = some (.int .u64 h1) := (HX.out.c 1).trans rfl
    have y1_2 : W12.cell? ⟨gx, 2, none⟩ = some (.int .u64 l1) := (HX.out.c 2).trans rfl
    have y1_3 : W12.cell? ⟨gx, 3, none⟩ = some (.bool v2) := (HX.out.c 3).trans rfl
    have y1_4 : W12.cell? ⟨gx, 4, none⟩ = some (.int .u64 h2) := (HX.out.c 4).trans rfl
    have y1_5 : W12.cell? ⟨gx, 5, none⟩ = some (.int .u64 l2) := (HX.out.c 5).trans rfl
    have yl1 := HX.out.lt
    clear y0_0 y0_1 y0_2 yl0 y1_0 y1_1 y1_2 y1_3 y1_4 y1_5 yl1
    refine (HH.out _).mono ?_
    rintro e w12 ⟨rfl, hb⟩
    have HA0_2 := Lib.hid (show AB w12 b va ha la from HA0_1.out.kept hb HA0_1.out.lt)
    have HX_2 := Lib.hid (show RB w12 gx v1 h1 l1 v2 h2 l2 from HX.out.kept hb HX.out.lt)
    have HBR_2 := Lib.hid (HBR_1.out.trans (hb.mono HBR_1.out.size))
    clear hb HA0_1 HX HBR_1
    have y0_0 : w12.cell? ⟨b, 0, none⟩ = some (.bool va) := HA0_2.out.c0
    have y0_1 : w12.cell? ⟨b, 1, none⟩ = some (.int .u64 ha) := HA0_2.out.c1
    have y0_2 : w12.cell? ⟨b, 2, none⟩ = some (.int .u64 la) := HA0_2.out.c2
    have yl0 := HA0_2.out.lt
    have y1_0 : w12.cell? ⟨gx, 0, none⟩ = some (.bool v1) := (HX_2.out.c 0).trans rfl
    have y1_1 : w12.cell? ⟨gx, 1, none⟩ = some (.int .u64 h1) := (HX_2.out.c 1).trans rfl
    have y1_2 : w12.cell? ⟨gx, 2, none⟩ = some (.int .u64 l1) := (HX_2.out.c 2).trans rfl
    have y1_3 : w12.cell? ⟨gx, 3, none⟩ = some (.bool v2) := (HX_2.out.c 3).trans rfl
    have y1_4 : w12.cell? ⟨gx, 4, none⟩ = some (.int .u64 h2) := (HX_2.out.c 4).trans rfl
    have y1_5 : w12.cell? ⟨gx, 5, none⟩ = some (.int .u64 l2) := (HX_2.out.c 5).trans rfl
    have yl1 := HX_2.out.lt
    go_wp2_with fail
    go_ret
    exact ⟨rfl, HBR_2.out⟩
  cases b2
  case true =>
    have y0_0 : w.cell? ⟨b, 0, none⟩ = some (.bool va) := HA0.out.c0
    have y0_1 : w.cell? ⟨b, 1, none⟩ = some (.int .u64 ha) := HA0.out.c1
    have y0_2 : w.cell? ⟨b, 2, none⟩ = some (.int .u64 la) := HA0.out.c2
    have yl0 := HA0.out.lt
    go_enter Try.func46, Try.ntmps46
    go_wp2_with fail
    clear y0_0 y0_1 y0_2 yl0
    obtain ⟨W12, hW12⟩ : ∃ W, W = w.alloc (.cells #[.bool v1, .int .u64 h1, .int .u64 l1, .bool v2, .int .u64 h2, .int .u64 l2] 43) := ⟨_, rfl⟩
    obtain ⟨gx, hgx⟩ : ∃ g, g = w.heap.size := ⟨_, rfl⟩
    have HA0_1 := Lib.hid (show AB W12 b va ha la from by rw [hW12]; exact HA0.out.al _)
    have Lgx := Lib.hid (show b < gx ∧ w.heap.size ≤ gx from by rw [hgx]; exact ⟨HA0.out.lt, HBR.out.size⟩)
    have HX := Lib.hid (show RB W12 gx v1 h1 l1 v2 h2 l2 from by rw [hW12, hgx]; exact rb_new w v1 h1 l1 v2 h2 l2)
    have HSZgx := Lib.hid (show W12.heap.size = gx + 1 from by rw [hW12, hgx]; simp)
    have HUPgx := Lib.hid (show w.heap.size ≤ W12.heap.size from by rw [hW12]; simp)
    have HBR_1 := Lib.hid (show Below w.heap.size w W12 by rw [hW12]; exact HBR.out.alloc HBR.out.size _)
    clear HA0 HBR
    rw [← hW12, ← hgx]
    clear hW12 hgx
    have y0_0 : W12.cell? ⟨b, 0, none⟩ = some (.bool va) := HA0_1.out.c0
    have y0_1 : W12.cell? ⟨b, 1, none⟩ = some (.int .u64 ha) := HA0_1.out.c1
    have y0_2 : W12.cell? ⟨b, 2, none⟩ = some (.int .u64 la) := HA0_1.out.c2
    have yl0 := HA0_1.out.lt
    have y1_0 : W12.cell? ⟨gx, 0, none⟩ = some (.bool v1) := (HX.out.c 0).trans rfl
    have y1_1 : W12.cell? ⟨gx, 1, none⟩ = some (.int .u64 h1) := (HX.out.c 1).trans rfl
    have y1_2 : W12.cell? ⟨gx, 2, none⟩ = some (.int .u64 l1) := (HX.out.c 2).trans rfl
    have y1_3 : W12.cell? ⟨gx, 3, none⟩ = some (.bool v2) := (HX.out.c 3).trans rfl
    have y1_4 : W12.cell? ⟨gx, 4, none⟩ = some (.int .u64 h2) := (HX.out.c 4).trans rfl
    have y1_5 : W12.cell? ⟨gx, 5, none⟩ = some (.int .u64 l2) := (HX.out.c 5).trans rfl
    have yl1 := HX.out.lt
    clear y0_0 y0_1 y0_2 yl0 y1_0 y1_1 y1_2 y1_3 y1_4 y1_5 yl1
    refine (HH.out _).mono ?_
    rintro e w12 ⟨rfl, hb⟩
    have HA0_2 := Lib.hid (show AB w12 b va ha la from HA0_1.out.kept hb HA0_1.out.lt)
    have HX_2 := Lib.hid (show RB w12 gx v1 h1 l1 v2 h2 l2 from HX.out.kept hb HX.out.lt)
    have HBR_2 := Lib.hid (HBR_1.out.trans (hb.mono HBR_1.out.size))
    clear hb HA0_1 HX HBR_1
    have y0_0 : w12.cell? ⟨b, 0, none⟩ = some (.bool va) := HA0_2.out.c0
    have y0_1 : w12.cell? ⟨b, 1, none⟩ = some (.int .u64 ha) := HA0_2.out.c1
    have y0_2 : w12.cell? ⟨b, 2, none⟩ = some (.int .u64 la) := HA0_2.out.c2
    have yl0 := HA0_2.out.lt
    have y1_0 : w12.cell? ⟨gx, 0, none⟩ = some (.bool v1) := (HX_2.out.c 0).trans rfl
    have y1_1 : w12.cell? ⟨gx, 1, none⟩ = some (.int .u64 h1) := (HX_2.out.c 1).trans rfl
    have y1_2 : w12.cell? ⟨gx, 2, none⟩ = some (.int .u64 l1) := (HX_2.out.c 2).trans rfl
    have y1_3 : w12.cell? ⟨gx, 3, none⟩ = some (.bool v2) := (HX_2.out.c 3).trans rfl
    have y1_4 : w12.cell? ⟨gx, 4, none⟩ = some (.int .u64 h2) := (HX_2.out.c 4).trans rfl
    have y1_5 : w12.cell? ⟨gx, 5, none⟩ = some (.int .u64 l2) := (HX_2.out.c 5).trans rfl
    have yl1 := HX_2.out.lt
    go_wp2_with fail
    clear y0_0 y0_1 y0_2 yl0 y1_0 y1_1 y1_2 y1_3 y1_4 y1_5 yl1
    refine (HT1.out _).mono ?_
    rintro e w13 ⟨rfl, hb⟩
    have HA0_3 := Lib.hid (show AB w13 b va ha la from HA0_2.out.kept hb HA0_2.out.lt)
    have HX_3 := Lib.hid (show RB w13 gx v1 h1 l1 v2 h2 l2 from HX_2.out.kept hb HX_2.out.lt)
    have HBR_3 := Lib.hid (HBR_2.out.trans (hb.mono HBR_2.out.size))
    clear hb HA0_2 HX_2 HBR_2
    have y0_0 : w13.cell? ⟨b, 0, none⟩ = some (.bool va) := HA0_3.out.c0
    have y0_1 : w13.cell? ⟨b, 1, none⟩ = some (.int .u64 ha) := HA0_3.out.c1
    have y0_2 : w13.cell? ⟨b, 2, none⟩ = some (.int .u64 la) := HA0_3.out.c2
    have yl0 := HA0_3.out.lt
    have y1_0 : w13.cell? ⟨gx, 0, none⟩ = some (.bool v1) := (HX_3.out.c 0).trans rfl
    have y1_1 : w13.cell? ⟨gx, 1, none⟩ = some (.int .u64 h1) := (HX_3.out.c 1).trans rfl
    have y1_2 : w13.cell? ⟨gx, 2, none⟩ = some (.int .u64 l1) := (HX_3.out.c 2).trans rfl
    have y1_3 : w13.cell? ⟨gx, 3, none⟩ = some (.bool v2) := (HX_3.out.c 3).trans rfl
    have y1_4 : w13.cell? ⟨gx, 4, none⟩ = some (.int .u64 h2) := (HX_3.out.c 4).trans rfl
    have y1_5 : w13.cell? ⟨gx, 5, none⟩ = some (.int .u64 l2) := (HX_3.out.c 5).trans rfl
    have yl1 := HX_3.out.lt
    go_wp2_with fail
    go_ret
    exact ⟨rfl, HBR_3.out⟩
  cases b3
  all_goals
    have y0_0 : w.cell? ⟨b, 0, none⟩ = some (.bool va) := HA0.out.c0
    have y0_1 : w.cell? ⟨b, 1, none⟩ = some (.int .u64 ha) := HA0.out.c1
    have y0_2 : w.cell? ⟨b, 2, none⟩ = some (.int .u64 la) := HA0.out.c2
    have yl0 := HA0.out.lt
    go_enter Try.func46, Try.ntmps46
    go_wp2_with fail
    clear y0_0 y0_1 y0_2 yl0
    obtain ⟨W12, hW12⟩ : ∃ W, W = w.alloc (.cells #[.bool v1, .int .u64 h1, .int .u64 l1, .bool v2, .int .u64 h2, .int .u64 l2] 43) := ⟨_, rfl⟩
    obtain ⟨gx, hgx⟩ : ∃ g, g = w.heap.size := ⟨_, rfl⟩
    have HA0_1 := Lib.hid (show AB W12 b va ha la from by rw [hW12]; exact HA0.out.al _)
    have Lgx := Lib.hid (show b < gx ∧ w.heap.size ≤ gx from by rw [hgx]; exact ⟨HA0.out.lt, HBR.out.size⟩)
    have HX := Lib.hid (show RB W12 gx v1 h1 l1 v2 h2 l2 from by rw [hW12, hgx]; exact rb_new w v1 h1 l1 v2 h2 l2)
    have HSZgx := Lib.hid (show W12.heap.size = gx + 1 from by rw [hW12, hgx]; simp)
    have HUPgx := Lib.hid (show w.heap.size ≤ W12.heap.size from by rw [hW12]; simp)
    have HBR_1 := Lib.hid (show Below w.heap.size w W12 by rw [hW12]; exact HBR.out.alloc HBR.out.size _)
    clear HA0 HBR
    rw [← hW12, ← hgx]
    clear hW12 hgx
    have y0_0 : W12.cell? ⟨b, 0, none⟩ = some (.bool va) := HA0_1.out.c0
    have y0_1 : W12.cell? ⟨b, 1, none⟩ = some (.int .u64 ha) := HA0_1.out.c1
    have y0_2 : W12.cell? ⟨b, 2, none⟩ = some (.int .u64 la) := HA0_1.out.c2
    have yl0 := HA0_1.out.lt
    have y1_0 : W12.cell? ⟨gx, 0, none⟩ = some (.bool v1) := (HX.out.c 0).trans rfl
    have y1_1 : W12.cell? ⟨gx, 1, none⟩ = some (.int .u64 h1) := (HX.out.c 1).trans rfl
    have y1_2 : W12.cell? ⟨gx, 2, none⟩ = some (.int .u64 l1) := (HX.out.c 2).trans rfl
    have y1_3 : W12.cell? ⟨gx, 3, none⟩ = some (.bool v2) := (HX.out.c 3).trans rfl
    have y1_4 : W12.cell? ⟨gx, 4, none⟩ = some (.int .u64 h2) := (HX.out.c 4).trans rfl
    have y1_5 : W12.cell? ⟨gx, 5, none⟩ = some (.int .u64 l2) := (HX.out.c 5).trans rfl
    have yl1 := HX.out.lt
    clear y0_0 y0_1 y0_2 yl0 y1_0 y1_1 y1_2 y1_3 y1_4 y1_5 yl1
    refine (HH.out _).mono ?_
    rintro e w12 ⟨rfl, hb⟩
    have HA0_2 := Lib.hid (show AB w12 b va ha la from HA0_1.out.kept hb HA0_1.out.lt)
    have HX_2 := Lib.hid (show RB w12 gx v1 h1 l1 v2 h2 l2 from HX.out.kept hb HX.out.lt)
    have HBR_2 := Lib.hid (HBR_1.out.trans (hb.mono HBR_1.out.size))
    clear hb HA0_1 HX HBR_1
    have y0_0 : w12.cell? ⟨b, 0, none⟩ = some (.bool va) := HA0_2.out.c0
    have y0_1 : w12.cell? ⟨b, 1, none⟩ = some (.int .u64 ha) := HA0_2.out.c1
    have y0_2 : w12.cell? ⟨b, 2, none⟩ = some (.int .u64 la) := HA0_2.out.c2
    have yl0 := HA0_2.out.lt
    have y1_0 : w12.cell? ⟨gx, 0, none⟩ = some (.bool v1) := (HX_2.out.c 0).trans rfl
    have y1_1 : w12.cell? ⟨gx, 1, none⟩ = some (.int .u64 h1) := (HX_2.out.c 1).trans rfl
    have y1_2 : w12.cell? ⟨gx, 2, none⟩ = some (.int .u64 l1) := (HX_2.out.c 2).trans rfl
    have y1_3 : w12.cell? ⟨gx, 3, none⟩ = some (.bool v2) := (HX_2.out.c 3).trans rfl
    have y1_4 : w12.cell? ⟨gx, 4, none⟩ = some (.int .u64 h2) := (HX_2.out.c 4).trans rfl
    have y1_5 : w12.cell? ⟨gx, 5, none⟩ = some (.int .u64 l2) := (HX_2.out.c 5).trans rfl
    have yl1 := HX_2.out.lt
    go_wp2_with fail
    clear y0_0 y0_1 y0_2 yl0 y1_0 y1_1 y1_2 y1_3 y1_4 y1_5 yl1
    refine (HT1.out _).mono ?_
    rintro e w13 ⟨rfl, hb⟩
    have HA0_3 := Lib.hid (show AB w13 b va ha la from HA0_2.out.kept hb HA0_2.out.lt)
    have HX_3 := Lib.hid (show RB w13 gx v1 h1 l1 v2 h2 l2 from HX_2.out.kept hb HX_2.out.lt)
    have HBR_3 := Lib.hid (HBR_2.out.trans (hb.mono HBR_2.out.size))
    clear hb HA0_2 HX_2 HBR_2
    have y0_0 : w13.cell? ⟨b, 0, none⟩ = some (.bool va) := HA0_3.out.c0
    have y0_1 : w13.cell? ⟨b, 1, none⟩ = some (.int .u64 ha) := HA0_3.out.c1
    have y0_2 : w13.cell? ⟨b, 2, none⟩ = some (.int .u64 la) := HA0_3.out.c2
    have yl0 := HA0_3.out.lt
    have y1_0 : w13.cell? ⟨gx, 0, none⟩ = some (.bool v1) := (HX_3.out.c 0).trans rfl
    have y1_1 : w13.cell? ⟨gx, 1, none⟩ = some (.int .u64 h1) := (HX_3.out.c 1).trans rfl
    have y1_2 : w13.cell? ⟨gx, 2, none⟩ = some (.int .u64 l1) := (HX_3.out.c 2).trans rfl
    have y1_3 : w13.cell? ⟨gx, 3, none⟩ = some (.bool v2) := (HX_3.out.c 3).trans rfl
    have y1_4 : w13.cell? ⟨gx, 4, none⟩ = some (.int .u64 h2) := (HX_3.out.c 4).trans rfl
    have y1_5 : w13.cell? ⟨gx, 5, none⟩ = some (.int .u64 l2) := (HX_3.out.c 5).trans rfl
    have yl1 := HX_3.out.lt
    go_wp2_with fail
    clear y0_0 y0_1 y0_2 yl0 y1_0 y1_1 y1_2 y1_3 y1_4 y1_5 yl1
    refine (HT2.out _).mono ?_
    rintro e w14 ⟨rfl, hb⟩
    have HA0_4 := Lib.hid (show AB w14 b va ha la from HA0_3.out.kept hb HA0_3.out.lt)
    have HX_4 := Lib.hid (show RB w14 gx v1 h1 l1 v2 h2 l2 from HX_3.out.kept hb HX_3.out.lt)
    have HBR_4 := Lib.hid (HBR_3.out.trans (hb.mono HBR_3.out.size))
    clear hb HA0_3 HX_3 HBR_3
    have y0_0 : w14.cell? ⟨b, 0, none⟩ = some (.bool va) := HA0_4.out.c0
    have y0_1 : w14.cell? ⟨b, 1, none⟩ = some (.int .u64 ha) := HA0_4.out.c1
    have y0_2 : w14.cell? ⟨b, 2, none⟩ = some (.int .u64 la) := HA0_4.out.c2
    have yl0 := HA0_4.out.lt
    have y1_0 : w14.cell? ⟨gx, 0, none⟩ = some (.bool v1) := (HX_4.out.c 0).trans rfl
    have y1_1 : w14.cell? ⟨gx, 1, none⟩ = some (.int .u64 h1) := (HX_4.out.c 1).trans rfl
    have y1_2 : w14.cell? ⟨gx, 2, none⟩ = some (.int .u64 l1) := (HX_4.out.c 2).trans rfl
    have y1_3 : w14.cell? ⟨gx, 3, none⟩ = some (.bool v2) := (HX_4.out.c 3).trans rfl
    have y1_4 : w14.cell? ⟨gx, 4, none⟩ = some (.int .u64 h2) := (HX_4.out.c 4).trans rfl
    have y1_5 : w14.cell? ⟨gx, 5, none⟩ = some (.int .u64 l2) := (HX_4.out.c 5).trans rfl
    have yl1 := HX_4.out.lt
    go_wp2_with fail
    go_ret
    exact ⟨rfl, HBR_4.out⟩
set_option maxRecDepth 20000 in
theorem pindexR_nil (A : Option Addr) (cap : Nat) (fv : Value) (w : World) :
    Calls Try.prog 65 #[.slice A 0 cap, fv] w fun e w' => e = .returned (.int .i64 (-1)) ∧ w' = w := by
  go_enter Try.func65, Try.ntmps65
  go_wp2_with fail
  refine wp_loop_rounds 1 ?_
  rw [rounds_succ]
  go_wp2_with fail
  go_ret
  exact ⟨rfl, rfl⟩
theorem pcontfR_nil (A : Option Addr) (cap : Nat) (fv : Value) (w : World) :
    Calls Try.prog 45 #[.slice A 0 cap, fv] w fun e w' => e = .returned (.bool false) ∧ w' = w := by
  have H := Lib.hid (pindexR_nil A cap fv)
  go_enter Try.func45, Try.ntmps45
  go_wp2_with fail
  refine (H.out _).mono ?_
  rintro e w' ⟨rfl, rfl⟩
  go_wp2_with fail
  go_ret
  exact ⟨rfl, rfl⟩
theorem pcontfR_any (A : Option Addr) (cap : Nat) (l : List Rg) (va : Bool) (ha la : Nat) (b : Nat) (w : World) (h : RowL ER w A l) (hl : l.length ≤ 1000000) (hb : AB w b va ha la) :
    Calls Try.prog 45 #[.slice A l.length cap, .func (.func 46) #[] #[.pointer (some ⟨b, 0, none⟩)]] w fun e w' => e = .returned (.bool (l.any (predA ⟨va, ha, la⟩))) ∧ Below w.heap.size w w' := by
  cases l with
  | nil => exact (pcontfR_nil A cap _ w).mono fun e w' ⟨he, hw⟩ => ⟨he, hw ▸ Below.refl _ _⟩
  | cons x r =>
    obtain ⟨g, o, rfl, hg, hcell⟩ := h (by simp)
    generalize hL : x :: r = L at *
    have eg : ∀ args w, (callFunc 46 args).run Try.prog w = .ok (.enter 46 args) w := enters_of Try.func46 (by kernel_rfl) rfl
    have hp : PredBelow Try.prog 46 #[.pointer (some ⟨b, 0, none⟩)] (fun s : Rg => .agg (rgC s).toArray) (fun s => predA ⟨va, ha, la⟩ s) w := fun W s hB =>
      (pconR_any s.lo.v s.lo.h s.lo.l s.hi.v s.hi.h s.hi.l va ha la b W (hb.kept hB hb.lt)).mono fun e w' ⟨he, hw⟩ => ⟨he, hB.trans (hw.mono hB.size)⟩
    have hcon := AnyQ.slices_ContainsFunc layRc 6 Try.isAgg43 Try.sizeOf43 rgC (fun _ => rfl) (fun s => predA ⟨va, ha, la⟩ s) 46 #[.pointer (some ⟨b, 0, none⟩)] eg g o L.length cap L w hp (Nat.le_refl _) (by omega) hg (fun j hj i v hi => hcell j _ (bang7 hj) i v hi)
    rw [List.take_length] at hcon
    exact hcon
set_option maxHeartbeats 1000000 in
set_option maxRecDepth 20000 in
theorem pcontains_any (A : Option Addr) (cap : Nat) (l : List Rg) (va : Bool) (ha la : Nat) (w : World) (h : RowL ER w A l) (hf : ∀ r ∈ l, r.fits) (fa : (⟨va, ha, la⟩ : Ad).fits) (hl : l.length ≤ 100000) :
    Calls Try.prog 15 #[.slice A l.length cap, .agg #[.bool va, .int .u64 ha, .int .u64 la]] w fun e w' => e = .returned (.bool (vA ⟨va, ha, la⟩ && anyS (spnL l) (kA ⟨va, ha, la⟩))) ∧ Below w.heap.size w w' := by
  rw [← any_pred fa hf]
  have HC := Lib.hid (fun (b : Nat) (W : World) (hB : Below w.heap.size w W) (hb : AB W b va ha la) => pcontfR_any A cap l va ha la b W (h.kept hB) (by omega) hb)
  have HV := Lib.hid (fun W => qvalid_any va ha la W)
  rw [show vldA va ha la = vA ⟨va, ha, la⟩ from rfl] at HV
  obtain ⟨n, hn⟩ : ∃ n, n = l.length := ⟨_, rfl⟩
  rw [← hn] at HC ⊢
  generalize l.any (predA ⟨va, ha, la⟩) = C at *
  generalize vA ⟨va, ha, la⟩ = V at *
  have HX := Lib.hid (ab_new w va ha la)
  have HB := Lib.hid (below_alloc6 w (.cells #[.bool va, .int .u64 ha, .int .u64 la] 25))
  clear h hf fa hl hn
  cases V with
  | false =>
    go_enter Try.func15, Try.ntmps15
    go_wp2_with fail
    refine (HV.out _).mono ?_
    rintro e w2 ⟨rfl, hb⟩
    have HB2 := Lib.hid (HB.out.trans (hb.mono HB.out.size))
    clear hb
    go_wp2_with fail
    go_ret
    exact ⟨rfl, HB2.out⟩
  | true =>
    go_enter Try.func15, Try.ntmps15
    go_wp2_with fail
    refine (HV.out _).mono ?_
    rintro e w2 ⟨rfl, hb⟩
    have HX2 := Lib.hid (HX.out.kept hb HX.out.lt)
    have HB2 := Lib.hid (HB.out.trans (hb.mono HB.out.size))
    have HC2 := Lib.hid (HC.out w.heap.size w2 HB2.out HX2.out)
    clear hb HX HB HC
    go_wp2_with fail
    refine HC2.out.mono ?_
    rintro e w3 ⟨rfl, hb⟩
    have HB3 := Lib.hid (HB2.out.trans (hb.mono HB2.out.size))
    clear hb
    cases C
    all_goals
      go_wp2_with fail
      go_ret
      exact ⟨rfl, HB3.out⟩
end Go.Proofs.Ytmcelgnifpfjpaa
