/- Contract of the program of layer 5: Normal, the walk. -/
import Derived.Test.YtlmjfbgigfmdhaaIntPNorm
namespace Go.Proofs.Ytlmjfbgigfmdhaa
open Go.ChangeShapes Go.WideShapes Go.ChangeAt Go.RowKit
set_option linter.unusedVariables false

/-- The sort at whatever length: a sorted permutation. -/
theorem psort_all (A : Option Addr) (cap base : Nat) (D : List Spn) (w : World) (hown : w.ownsRow base 34 2 (.slice A D.length cap) D.length (spCells D)) (hl : D.length ≤ 1000000) :
    Calls Try.prog 32 #[.slice A D.length cap, .func (.func 33) #[] #[]] w fun e w' => e = .returned (.tuple #[]) ∧ ∃ D' : List Spn, D'.Perm D ∧ sortedS D' ∧ SpL w' A D' ∧ Below base w w' := by
  by_cases h0 : D.length = 0
  · obtain rfl : D = [] := List.eq_nil_of_length_eq_zero h0
    refine (psort_nil A cap _ w).mono ?_
    rintro e w' ⟨rfl, rfl⟩
    exact ⟨rfl, [], List.Perm.refl _, fun i j s t _ h => by simp at h, fun h => by simp at h, Below.refl _ _⟩
  · obtain ⟨g, c, hf, _, _⟩ := World.ownsRow.form hown (by omega)
    obtain ⟨rfl, rfl⟩ : A = some ⟨g, 0, none⟩ ∧ cap = c := by simpa using hf
    exact psort_any g cap base D w hown hl
theorem perm_any5 {a b : List Spn} (h : a.Perm b) (m : Int) : anyS a m = anyS b m := by
  unfold anyS
  rw [Bool.eq_iff_iff, List.any_eq_true, List.any_eq_true]
  exact ⟨fun ⟨x, hx, h2⟩ => ⟨x, h.mem_iff.1 hx, h2⟩, fun ⟨x, hx, h2⟩ => ⟨x, h.mem_iff.2 hx, h2⟩⟩

set_option maxHeartbeats 400000 in
set_option maxRecDepth 20000 in
theorem pnormal_any (A : Option Addr) (cap : Nat) (l : List Spn) (w : World) (h : SpL w A l) (hl : l.length ≤ 1000000) :
    Calls Try.prog 14 #[.slice A l.length cap] w (SetP w (memS 4294967296 l) l.length) := by
  have HSEL := Lib.hid (psel_any A cap l w h hl)
  have HFL := Lib.hid (show (l.filter (hasN 4294967296)).length ≤ l.length from List.length_filter_le _ _)
  have HCA := Lib.hid (clip_any 4294967296 l)
  have HCG := Lib.hid (clip_good 4294967296 (by decide) l)
  obtain ⟨n, hn⟩ : ∃ n, n = l.length := ⟨_, rfl⟩
  have hn6 : n ≤ 1000000 := by omega
  rw [← hn] at HSEL HFL ⊢
  generalize l.filter (hasN 4294967296) = P at *
  obtain ⟨np, hnp⟩ : ∃ n, n = P.length := ⟨_, rfl⟩
  have hnpn : np ≤ n := by have := HFL.out; omega
  rw [← hnp] at HSEL
  have HNP := Lib.hid hnp
  obtain ⟨i0, hinf, hz0, hz1, hz2⟩ := info_parts info_span
  clear h hl hn HFL hnp
  go_enter Try.func14, Try.ntmps14
  go_wp2_with fail
  refine HSEL.out.mono ?_
  rintro e w1 ⟨AP, cP, rfl, hown, hb⟩
  have HO := Lib.hid (show w1.ownsRow w.heap.size 34 2 (.slice AP np cP) np (spCells (mixL 4294967296 P 0)) by rw [mix_zero]; exact hown)
  have HB := Lib.hid hb
  clear hown hb HSEL
  go_wp2_with fail
  go_loopw [14] (fun v14 wr => ∃ k : Nat, k ≤ np ∧ v14 = .int .i64 k ∧ Hid (Below w.heap.size w wr) ∧ Hid (wr.ownsRow w.heap.size 34 2 (.slice AP np cP) np (spCells (mixL 4294967296 P k)))) (fun v14 _ => np - (intOf v14).toNat)
  case atStart => exact ⟨0, by omega, rfl, HB, HO⟩
  case round =>
    clear HB HO
    obtain ⟨k, hk, rfl, HB, HO⟩ := hrel
    by_cases hlt : k < np
    · obtain ⟨s, hget⟩ : ∃ s, P[k]? = some s := ⟨P[k]'(by have := HNP.out; omega), List.getElem?_eq_getElem _⟩
      obtain ⟨g, c, hf, hwg, hgl⟩ := World.ownsRow.form HO.out (by omega)
      obtain ⟨rfl, rfl⟩ : AP = some ⟨g, 0, none⟩ ∧ cP = c := by simpa using hf
      have hki : (k : Int) < (np : Int) := by omega
      have hki0 : (0 : Int) ≤ (k : Int) := by omega
      have hmg := spCells_get _ k s (mix_get (M := 4294967296) hget)
      have c0 : wr.cell? ⟨g, k * 2, none⟩ = some (.int .i64 s.lo) := (HO.out.cellAt (k * 2) (by omega)).trans hmg.1
      have c1 : wr.cell? ⟨g, k * 2 + 1, none⟩ = some (.int .i64 s.hi) := (HO.out.cellAt (k * 2 + 1) (by omega)).trans hmg.2
      have f0 := HO.out.frozenAt (k * 2)
      have f1 := HO.out.frozenAt (k * 2 + 1)
      have hgo := mix_go (M := 4294967296) hget
      have hsc := spCells_set (mixL 4294967296 P k) k (clipS 4294967296 s) (by rw [mix_len]; have := HNP.out; omega)
      rw [← hgo] at hsc
      obtain ⟨slo, shi⟩ := s
      simp only [clipS] at c0 c1 hsc
      have ho2 := ((HO.out.stored (k * 2) (.int .i64 (max slo 0))).1.stored (k * 2 + 1) (.int .i64 (min shi 4294967296))).1
      rw [hsc] at ho2
      have hB2 := (HB.out.setCell (p := ⟨g, k * 2, none⟩) hwg (.int .i64 (max slo 0))).setCell (p := ⟨g, k * 2 + 1, none⟩) hwg (.int .i64 (min shi 4294967296))
      have HO2 := Lib.hid (ho2.alloc (.cells #[.int .i64 slo, .int .i64 shi] 34))
      have HB2 := Lib.hid (hB2.alloc hB2.size (.cells #[.int .i64 slo, .int .i64 shi] 34))
      clear hget hf hmg hgo hsc ho2 hB2
      go_wp2_with fail
      go_roundw
      case rel => exact ⟨k + 1, by omega, by go_num, HB2, HO2⟩
      case measure => simp [intOf]; omega
    · have hkn : k = P.length := by have := HNP.out; omega
      obtain ⟨D, hD⟩ : ∃ D, D = P.map (clipS 4294967296) := ⟨_, rfl⟩
      have hDl : np = D.length := by rw [hD, List.length_map]; exact HNP.out
      have ho := HO.out
      rw [hkn, mix_all, ← hD, hDl] at ho
      have HSO := Lib.hid (psort_all AP cP w.heap.size D wr ho (by omega))
      rw [← hDl] at HSO
      rw [← hD] at HCA HCG
      have HDL := Lib.hid hDl
      have hd : decide ((k : Int) < (np : Int)) = false := by simp; omega
      clear hkn hD hDl ho HO HNP
      go_wp2_with fail
      refine HSO.out.mono ?_
      rintro e w6 ⟨rfl, D', hperm, hsort, hsp, hb6⟩
      have HS := Lib.hid hsp
      have HSRT := Lib.hid hsort
      have HG := Lib.hid (show good 4294967296 D' from fun s hs => HCG.out s (hperm.mem_iff.1 hs))
      have HA := Lib.hid (show ∀ m, anyS D' m = memS 4294967296 l m from fun m => (perm_any5 hperm m).trans (HCA.out m))
      have HN := Lib.hid (show np = D'.length by rw [HDL.out]; exact hperm.length_eq.symm)
      have HB6 := Lib.hid (HB.out.trans hb6)
      clear hperm hsort hsp hb6 HSO HB HCA HCG HDL
      go_wp2_with fail
      have HO := Lib.hid (World.ownsRow_nil w6 w6.heap.size 34 2)
      have HB := Lib.hid (Below.refl w6.heap.size w6)
      have HM := Lib.hid (mrg_start 4294967296 D')
      go_loopw [6, 34] (fun v6 v34 wr => ∃ k cap' : Nat, ∃ A' : Option Addr, ∃ out : List Spn, k ≤ np ∧ out.length ≤ k ∧ v34 = .int .i64 k ∧ v6 = .slice A' out.length cap' ∧ Hid (Mrg 4294967296 D' out k) ∧ Hid (Below w6.heap.size w6 wr) ∧ Hid (wr.ownsRow w6.heap.size 34 2 (.slice A' out.length cap') out.length (spCells out))) (fun _ v34 _ => np - (intOf v34).toNat)
      case atStart => exact ⟨0, 0, none, [], by omega, Nat.le_refl _, rfl, rfl, HM, HB, HO⟩
      case round =>
        clear HM HB HO hd hlt
        obtain ⟨k, cap', A', out, hk, hok, rfl, rfl, HM, HB, HO⟩ := hrel
        by_cases hlt : k < np
        · obtain ⟨s, hget⟩ : ∃ s, D'[k]? = some s := ⟨D'[k]'(by have := HN.out; omega), List.getElem?_eq_getElem _⟩
          obtain ⟨g, o, rfl, hg, hc⟩ := HS.out (by have := HN.out; omega)
          have hki : (k : Int) < (np : Int) := by omega
          have hki0 : (0 : Int) ≤ (k : Int) := by omega
          obtain ⟨c0, c1⟩ := HS.out.at_ hget HB.out
          have hgs := HG.out s (List.mem_of_getElem? hget)
          have HGET := Lib.hid hget
          have HSN := Lib.hid (spCells_snoc out s)
          obtain ⟨M, hM⟩ : ∃ M, M = out ++ [s] := ⟨_, rfl⟩
          rw [← hM] at HSN
          have hMl : out.length + 1 = M.length := by rw [hM]; simp
          have HAP := Lib.hid (show (∀ x, out.getLast? = some x → x.hi + 1 < s.lo) → Mrg 4294967296 D' M (k + 1) from fun h => by rw [hM]; exact mrg_append HM.out HSRT.out HG.out hget h)
          obtain ⟨p, r⟩ := s
          simp only at c0 c1 hgs HAP
          unfold spC at HSN
          simp only at HSN
          have hx5 := sb2_new wr p r
          have HB5 := Lib.hid (HB.out.alloc HB.out.size (.cells #[.int .i64 p, .int .i64 r] 34))
          have HO5 := Lib.hid (HO.out.alloc (.cells #[.int .i64 p, .int .i64 r] 34))
          have HX5 := Lib.hid hx5
          clear hget hM hc hx5
          obtain ⟨bn, hbn⟩ : ∃ bn, bn = wr.heap.size := ⟨_, rfl⟩
          have HBN := Lib.hid hbn
          obtain ⟨ol, hol⟩ : ∃ ol, ol = out.length := ⟨_, rfl⟩
          rw [← hol] at HO5 hMl hok ⊢
          have HOL := Lib.hid hol
          clear hbn hol
          rcases List.eq_nil_or_concat out with hout | ⟨I, x, hout⟩
          · have HM2 := Lib.hid (HAP.out (fun x h => by rw [hout] at h; simp at h))
            obtain rfl : ol = 0 := by rw [HOL.out, hout]; rfl
            have HML := Lib.hid hMl
            clear HAP HM HB HO hout hMl hok
            go_wp2_with fail
            rw [← HBN.out] at HX5 ⊢
            generalize wr.alloc (.cells #[.int .i64 p, .int .i64 r] 34) = W1 at *
            go_quiet (fail)
            have HX2 := Lib.hid (show SB2 (W1.drewN nq) bn p r from HX5.out)
            have HO2 := Lib.hid (show (W1.drewN nq).ownsRow w6.heap.size 34 2 (.slice A' 0 cap') 0 (spCells out) from HO5.out)
            have HB2 := Lib.hid (below_drewN5 HB5.out nq)
            clear HX5 HO5 HB5 c0 c1
            generalize W1.drewN nq = W2 at *
            have e0 := HX2.out.c0
            have e1 := HX2.out.c1
            have hsz := HB2.out.size
            go_wp2_with (at_builtin; refine wpList_append_lies _ rfl _ _ 22 rfl w6.heap.size 34 i0 (.agg #[.int .i64 0, .int .i64 0]) 2 16 Try.underlying22 hinf hz0 hz1 hz2 rfl (by omega) _ 0 (spCells out) rfl (HO2.out.alloc _) ⟨W2.heap.size, 0, none⟩ 1 1 [.int .i64 p, .int .i64 r] rfl rfl ?c1 ?c2 (by omega) ?c3 ?c4 ?c5 _ rfl ?_)
            case c1 => exact World.news_of_block (cs := #[.int .i64 p, .int .i64 r]) (t := 34) (fr := (0, 0)) (heap_alloc_new W2 _)
            case c2 => simp [Value.oneCell']
            case c3 => unfold maxLen; omega
            case c4 => omega
            case c5 => simp; omega
            intro g2 cap2 w7 hown7 hgrow hat hlt2
            have hB7 := (HB2.out.alloc hsz (.cells #[.int .i64 p, .int .i64 r] 34)).grown hgrow (by simp; omega) (fun j hj => (HO2.out.lt j hj).1)
            rw [← HSN.out] at hown7
            have hM1 := HML.out.symm
            have hown7 : w7.ownsRow w6.heap.size 34 2 (.slice (some ⟨g2, 0, none⟩) M.length cap2) M.length (spCells M) := by rw [hM1]; exact hown7
            clear hM1
            have HB7 := Lib.hid hB7
            have HO7 := Lib.hid hown7
            clear hB7 hown7 hgrow hat hlt2 HX2 HB2 HO2 e0 e1 hsz
            go_wp2_with fail
            go_roundw
            case rel => exact ⟨k + 1, cap2, some ⟨g2, 0, none⟩, M, by omega, by have := HML.out; omega, by go_num, congrArg (fun n => Value.slice (some ⟨g2, 0, none⟩) n cap2) HML.out, HM2, HB7, HO7⟩
            case measure => simp [intOf]; omega
          · rw [List.concat_eq_append] at hout
            obtain ⟨q, hq⟩ : ∃ q, q = I.length := ⟨_, rfl⟩
            have hqo : q + 1 = ol := by rw [HOL.out, hout, hq]; simp
            obtain ⟨gs, cg, hf, hwg, hgl⟩ := World.ownsRow.form HO.out (by have := HOL.out; omega)
            obtain ⟨rfl, rfl⟩ : A' = some ⟨gs, 0, none⟩ ∧ cap' = cg := by simpa [← HOL.out] using hf
            have hgetx : out[q]? = some x := by rw [hout, hq]; simp
            have hxc := spCells_get out q x hgetx
            have y1 : wr.cell? ⟨gs, q * 2 + 1, none⟩ = some (.int .i64 x.hi) := (HO.out.cellAt (q * 2 + 1) (by have := HOL.out; omega)).trans hxc.2
            have yf := HO.out.frozenAt (q * 2 + 1)
            have hmok := HM.out.ok
            rw [hout] at hmok
            have hxg := ((okL_snoc x I 0).1 hmok).2
            have HAP2 := Lib.hid (show x.hi + 1 < p → Mrg 4294967296 D' M (k + 1) from fun h => HAP.out (fun y hy => by rw [hout] at hy; simp at hy; subst hy; exact h))
            have HGR := Lib.hid (show p ≤ x.hi + 1 → Mrg 4294967296 D' (out.set q ⟨x.lo, max x.hi r⟩) (k + 1) from fun h => by
              have hm := HM.out
              rw [hout] at hm ⊢
              rw [hq, List.set_append_right _ _ (Nat.le_refl _), Nat.sub_self, List.set_cons_zero]
              exact mrg_grow hm HSRT.out HG.out HGET.out h)
            have hst := spCells_set1 out q ⟨x.lo, max x.hi r⟩ x hgetx rfl
            have hox := HO5.out.stored (q * 2 + 1) (.int .i64 (max x.hi r))
            simp only at hst
            rw [hst] at hox
            have HST := Lib.hid (fun (W : World) (h : W.ownsRow w6.heap.size 34 2 (.slice (some ⟨gs, 0, none⟩) ol cap') ol (spCells out)) => show (W.setCell ⟨gs, q * 2 + 1, none⟩ (.int .i64 (max x.hi r))).ownsRow w6.heap.size 34 2 (.slice (some ⟨gs, 0, none⟩) ol cap') ol (spCells (out.set q ⟨x.lo, max x.hi r⟩)) from by rw [← hst]; exact (h.stored (q * 2 + 1) (.int .i64 (max x.hi r))).1)
            have HSL := Lib.hid (show (out.set q ⟨x.lo, max x.hi r⟩).length = ol by rw [List.length_set, HOL.out])
            have HQO := Lib.hid hqo
            have hqi : (ol : Int) - 1 = (q : Int) := by omega
            have hq0 : (0 : Int) ≤ (q : Int) := by omega
            have dq : decide ((0 : Int) ≤ (q : Int)) = true := by simp
            have hqlt : (q : Int) < (ol : Int) := by omega
            have hxb : 0 ≤ x.hi ∧ x.hi ≤ 4294967296 := by
              have := nxt_pos (Int.le_refl 0) ((okL_snoc x I 0).1 hmok).1
              omega
            have hw1 : IntKind.i64.wrap (x.hi + 1) = x.hi + 1 := IntWalk.i64_in _ (by omega)
            have HWG := Lib.hid hwg
            clear hout hq hf hgetx hxc hmok hxg hst hox HAP HM hqo hwg
            generalize x.hi = xh at *
            generalize out.set q ⟨x.lo, max xh r⟩ = N at *
            clear x
            have hgl2 : gs < wr.heap.size := hgl
            by_cases h1 : p ≤ xh + 1
            · have d1 : decide (p ≤ xh + 1) = true := by simpa using h1
              have HM2 := Lib.hid (HGR.out h1)
              clear HGR HAP2 HO
              go_wp2_with fail
              rw [← HBN.out] at HX5 ⊢
              have y2 : (wr.alloc (.cells #[.int .i64 p, .int .i64 r] 34)).cell? ⟨gs, q * 2 + 1, none⟩ = some (.int .i64 xh) := ((below_alloc5 wr _).cell (p := ⟨gs, q * 2 + 1, none⟩) hgl2).trans y1
              have yf2 : (wr.alloc (.cells #[.int .i64 p, .int .i64 r] 34)).frozen? ⟨gs, q * 2 + 1, none⟩ = false := ((below_alloc5 wr _).frozen (p := ⟨gs, q * 2 + 1, none⟩) hgl2).trans yf
              have hbg : bn ≠ gs := by have := HBN.out; omega
              generalize wr.alloc (.cells #[.int .i64 p, .int .i64 r] 34) = W1 at *
              have e0 := HX5.out.c0
              have e1 := HX5.out.c1
              clear y1 yf c0 c1
              go_quiet (fail)
              have HX2 := Lib.hid (show SB2 (W1.drewN nq) bn p r from HX5.out)
              have HO2 := Lib.hid (show (W1.drewN nq).ownsRow w6.heap.size 34 2 (.slice (some ⟨gs, 0, none⟩) ol cap') ol (spCells out) from HO5.out)
              have HB2 := Lib.hid (below_drewN5 HB5.out nq)
              have y1 : (W1.drewN nq).cell? ⟨gs, q * 2 + 1, none⟩ = some (.int .i64 xh) := y2
              have yf : (W1.drewN nq).frozen? ⟨gs, q * 2 + 1, none⟩ = false := yf2
              clear HX5 HO5 HB5 e0 e1 y2 yf2
              generalize W1.drewN nq = W2 at *
              have e0 := HX2.out.c0
              have e1 := HX2.out.c1
              go_wp2_with fail
              go_region
              all_goals
                have HB3 := Lib.hid ((HB2.out.setCell (p := ⟨gs, q * 2 + 1, none⟩) HWG.out (.int .i64 (max xh r))).drew)
                have HO3 := Lib.hid (show ((W2.setCell ⟨gs, q * 2 + 1, none⟩ (.int .i64 (max xh r))).drew).ownsRow w6.heap.size 34 2 (.slice (some ⟨gs, 0, none⟩) N.length cap') N.length (spCells N) from by rw [HSL.out]; exact HST.out W2 HO2.out)
                clear HB2 HO2 HX2 e0 e1 y1 yf
                generalize (W2.setCell ⟨gs, q * 2 + 1, none⟩ (.int .i64 (max xh r))).drew = W3 at *
                go_wp2_with fail
                go_roundw
                case rel => exact ⟨k + 1, cap', some ⟨gs, 0, none⟩, N, by omega, by rw [HSL.out]; omega, by go_num, congrArg (fun n => Value.slice (some ⟨gs, 0, none⟩) n cap') HSL.out.symm, HM2, HB3, HO3⟩
                case measure => simp [intOf]; omega
            · have d1 : decide (p ≤ xh + 1) = false := by simpa using h1
              have HM2 := Lib.hid (HAP2.out (by omega))
              clear HGR HAP2 HO
              go_wp2_with fail
              rw [← HBN.out] at HX5 ⊢
              have y2 : (wr.alloc (.cells #[.int .i64 p, .int .i64 r] 34)).cell? ⟨gs, q * 2 + 1, none⟩ = some (.int .i64 xh) := ((below_alloc5 wr _).cell (p := ⟨gs, q * 2 + 1, none⟩) hgl2).trans y1
              have yf2 : (wr.alloc (.cells #[.int .i64 p, .int .i64 r] 34)).frozen? ⟨gs, q * 2 + 1, none⟩ = false := ((below_alloc5 wr _).frozen (p := ⟨gs, q * 2 + 1, none⟩) hgl2).trans yf
              have hbg : bn ≠ gs := by have := HBN.out; omega
              generalize wr.alloc (.cells #[.int .i64 p, .int .i64 r] 34) = W1 at *
              have e0 := HX5.out.c0
              have e1 := HX5.out.c1
              clear y1 yf c0 c1
              go_quiet (fail)
              have HX2 := Lib.hid (show SB2 (W1.drewN nq) bn p r from HX5.out)
              have HO2 := Lib.hid (show (W1.drewN nq).ownsRow w6.heap.size 34 2 (.slice (some ⟨gs, 0, none⟩) ol cap') ol (spCells out) from HO5.out)
              have HB2 := Lib.hid (below_drewN5 HB5.out nq)
              have y1 : (W1.drewN nq).cell? ⟨gs, q * 2 + 1, none⟩ = some (.int .i64 xh) := y2
              have yf : (W1.drewN nq).frozen? ⟨gs, q * 2 + 1, none⟩ = false := yf2
              clear HX5 HO5 HB5 e0 e1 y2 yf2
              generalize W1.drewN nq = W2 at *
              have e0 := HX2.out.c0
              have e1 := HX2.out.c1
              have hsz := HB2.out.size
              go_wp2_with (at_builtin; refine wpList_append_lies _ rfl _ _ 22 rfl w6.heap.size 34 i0 (.agg #[.int .i64 0, .int .i64 0]) 2 16 Try.underlying22 hinf hz0 hz1 hz2 rfl (by omega) _ ol (spCells out) rfl (HO2.out.alloc _) ⟨W2.heap.size, 0, none⟩ 1 1 [.int .i64 p, .int .i64 r] rfl rfl ?c1 ?c2 (by omega) ?c3 ?c4 ?c5 _ rfl ?_)
              case c1 => exact World.news_of_block (cs := #[.int .i64 p, .int .i64 r]) (t := 34) (fr := (0, 0)) (heap_alloc_new W2 _)
              case c2 => simp [Value.oneCell']
              case c3 => unfold maxLen; omega
              case c4 => omega
              case c5 => simp; omega
              intro g2 cap2 w7 hown7 hgrow hat hlt2
              have hB7 := (HB2.out.alloc hsz (.cells #[.int .i64 p, .int .i64 r] 34)).grown hgrow (by simp; omega) (fun j hj => (HO2.out.lt j hj).1)
              rw [← HSN.out] at hown7
              try rw [hMl] at hown7
              try rw [hMl]
              have HB7 := Lib.hid hB7
              have HO7 := Lib.hid hown7
              clear hB7 hown7 hgrow hat hlt2 HX2 HB2 HO2 e0 e1 hsz y1 yf
              go_wp2_with fail
              go_roundw
              case rel => exact ⟨k + 1, cap2, some ⟨g2, 0, none⟩, M, by omega, by omega, by go_num, rfl, HM2, HB7, HO7⟩
              case measure => simp [intOf]; omega
        · have hkn : k = D'.length := by have := HN.out; omega
          have hm := HM.out
          have HF := Lib.hid (show okL 4294967296 0 out ∧ (∀ m, anyS out m = memS 4294967296 l m) ∧ out.length ≤ n from ⟨hm.ok, fun m => by rw [hm.any, hkn, List.take_length, HA.out], by omega⟩)
          have HB9 := Lib.hid (HB6.out.trans (HB.out.mono HB6.out.size))
          have HO9 := Lib.hid (own_mono5 HO.out HB6.out.size)
          have hd : decide ((k : Int) < (np : Int)) = false := by simp; omega
          clear hkn hm HM HB HO
          go_wp2_with fail
          go_ret
          exact ⟨out, A', cap', HF.out.1, HF.out.2.1, HF.out.2.2, rfl, HO9.out, HB9.out⟩
end Go.Proofs.Ytlmjfbgigfmdhaa
