/- Contract of the reference of layer 5: Complement. -/
import Derived.Test.YtlmjfbgigfmdhaaIntCnt
namespace Go.Proofs.Ytlmjfbgigfmdhaa
open Go.ChangeShapes Go.WideShapes Go.ChangeAt Go.RowKit
set_option linter.unusedVariables false

theorem comp_len : ∀ (l : List Spn) (lo hi : Int), (comp l lo hi).length ≤ l.length + 1
  | [], lo, hi => by
    rw [comp]
    split <;> simp
  | s :: r, lo, hi => by
    rw [comp]
    split
    · have ih := comp_len r (max lo (s.hi + 1)) hi
      rw [List.length_append, List.length_cons]
      split
      · simp; omega
      · simp; omega
    · simp
theorem comp_go {l : List Spn} {k : Nat} {s : Spn} (hs : l[k]? = some s) {c H : Int} (h : c ≤ H) : comp (l.drop k) c H = (if c ≤ min H (s.lo - 1) then [⟨c, min H (s.lo - 1)⟩] else []) ++ comp (l.drop (k + 1)) (max c (s.hi + 1)) H := by
  obtain ⟨hk, e⟩ := List.getElem?_eq_some_iff.1 hs
  rw [List.drop_eq_getElem_cons hk, e, comp, if_pos h]

set_option maxHeartbeats 400000 in
set_option maxRecDepth 20000 in
theorem rcomp_any (A : Option Addr) (cap : Nat) (l : List Spn) (lo hi : Int) (w : World) (h : SpL w A l) (hl : l.length ≤ 900000) :
    Calls Try.prog 29 #[.slice A l.length cap, .int .i64 lo, .int .i64 hi] w (SetP w (fun m => decide (max lo 0 ≤ m) && decide (m ≤ min hi 4294967296) && !memS 4294967296 l m) (l.length + 1)) := by
  have HNM := Lib.hid (rnormal_any A cap l w h (by omega))
  obtain ⟨n, hn⟩ : ∃ n, n = l.length := ⟨_, rfl⟩
  have hn6 : n ≤ 900000 := by omega
  rw [← hn] at HNM ⊢
  obtain ⟨i0, hinf, hz0, hz1, hz2⟩ := info_parts info_span
  obtain ⟨C, hC⟩ : ∃ C, C = max lo 0 := ⟨_, rfl⟩
  obtain ⟨H, hH⟩ : ∃ H, H = min hi 4294967296 := ⟨_, rfl⟩
  have hC0 : 0 ≤ C := by omega
  have hHM : H ≤ 4294967296 := by omega
  rw [← hC, ← hH]
  clear h hn hl
  go_enter Try.func29, Try.ntmps29
  go_wp2_with fail
  rw [← hC, ← hH]
  clear hC hH
  refine HNM.out.mono ?_
  rintro e w1 ⟨L, A1, cp1, hok, hany, hle, rfl, hown, hb⟩
  obtain ⟨n1, hn1⟩ : ∃ n, n = L.length := ⟨_, rfl⟩
  have hn16 : n1 ≤ 900000 := by omega
  have HS := Lib.hid (spl_of_own hown)
  have HOK := Lib.hid hok
  have HANY := Lib.hid hany
  have HLE := Lib.hid hle
  have HB1 := Lib.hid hb
  rw [← hn1]
  have HN := Lib.hid hn1
  clear hok hany hle hown hb hn1 HNM
  go_wp2_with fail
  have HO := Lib.hid (own_empty5 w1 (Nat.le_refl _))
  have HB := Lib.hid (below_alloc5 w1 (.cells #[] 34))
  obtain ⟨a0, ha0⟩ : ∃ a, a = w1.heap.size := ⟨_, rfl⟩
  rw [show (Value.slice (some ⟨w1.heap.size, 0, none⟩) 0 0) = .slice (some ⟨a0, 0, none⟩) 0 0 by rw [ha0]] at HO ⊢
  generalize w1.alloc (.cells #[] 34) = w4 at *
  clear ha0
  have HR := Lib.hid (show comp L C H = [] ++ comp (L.drop 0) C H by rw [List.drop_zero, List.nil_append])
  obtain ⟨R, hR⟩ : ∃ R, R = comp L C H := ⟨_, rfl⟩
  rw [← hR] at HR
  have HRR := Lib.hid hR
  clear hR
  go_loopw [1, 8, 9] (fun v1 v8 v9 wr => ∃ k cap' : Nat, ∃ c : Int, ∃ A' : Option Addr, ∃ out : List Spn, k ≤ n1 ∧ out.length ≤ k ∧ v1 = .int .i64 c ∧ v8 = .slice A' out.length cap' ∧ v9 = .int .i64 k ∧ Hid (Below w1.heap.size w1 wr) ∧ Hid (R = out ++ comp (L.drop k) c H) ∧ Hid (wr.ownsRow w1.heap.size 34 2 (.slice A' out.length cap') out.length (spCells out))) (fun _ _ i _ => n1 - (intOf i).toNat)
  case atStart => exact ⟨0, 0, C, some ⟨a0, 0, none⟩, [], by omega, Nat.le_refl _, rfl, rfl, rfl, HB, HR, HO⟩
  case round =>
    clear HB HR HO
    obtain ⟨k, cap', c, A', out, hk, hok, rfl, rfl, rfl, HB, HR, HO⟩ := hrel
    by_cases hlt : k < n1
    · have hki : (k : Int) < (n1 : Int) := by omega
      have hki0 : (0 : Int) ≤ (k : Int) := by omega
      by_cases hcH : c ≤ H
      · have dcH : decide (c ≤ H) = true := by simpa using hcH
        obtain ⟨s, hget⟩ : ∃ s, L[k]? = some s := ⟨L[k]'(by have := HN.out; omega), List.getElem?_eq_getElem _⟩
        obtain ⟨g, o, rfl, hg, hc⟩ := HS.out (by have := HN.out; omega)
        have HC := Lib.hid (fun w' (hb : Below w1.heap.size w1 w') => HS.out.at_ hget hb)
        have hg1 := okL_get hget HOK.out
        have hgo := comp_go hget hcH
        have hr := HR.out
        rw [hgo] at hr
        have HSN := Lib.hid (spCells_snoc out ⟨c, min H (s.lo - 1)⟩)
        obtain ⟨slo, shi⟩ := s
        simp only at HC hg1 hr HSN
        obtain ⟨p, hp⟩ : ∃ p, p = slo - 1 := ⟨_, rfl⟩
        obtain ⟨q, hq⟩ : ∃ q, q = shi + 1 := ⟨_, rfl⟩
        rw [← hp] at hr HSN
        rw [← hq] at hr
        have hw1 : IntKind.i64.wrap (slo - 1) = p := by rw [← hp]; exact IntWalk.i64_in _ (by omega)
        have hw2 : IntKind.i64.wrap (shi + 1) = q := by rw [← hq]; exact IntWalk.i64_in _ (by omega)
        obtain ⟨c0, c1⟩ := HC.out wr HB.out
        have hgw : g < wr.heap.size := Nat.lt_of_lt_of_le hg HB.out.size
        by_cases hpq : c ≤ min H p
        · have dpq : decide (c ≤ min H p) = true := by simpa using hpq
          rw [if_pos hpq, ← List.append_assoc] at hr
          obtain ⟨M, hM⟩ : ∃ M, M = out ++ [(⟨c, min H p⟩ : Spn)] := ⟨_, rfl⟩
          rw [← hM] at HSN hr
          have hMl : out.length + 1 = M.length := by rw [hM]; simp
          unfold spC at HSN
          simp only at HSN
          have HR2 := Lib.hid hr
          have hsz := HB.out.size
          clear hr hgo hget hc hM HR hp hq
          go_wp2_with (at_builtin; refine wpList_append_lies _ rfl _ _ 22 rfl w1.heap.size 34 i0 (.agg #[.int .i64 0, .int .i64 0]) 2 16 Try.underlying22 hinf hz0 hz1 hz2 rfl (by omega) _ out.length (spCells out) rfl ((HO.out.alloc _).alloc _) ⟨wr.heap.size + 1, 0, none⟩ 1 1 [.int .i64 c, .int .i64 (min H p)] rfl rfl ?c1 ?c2 (by omega) ?c3 ?c4 ?c5 _ rfl ?_)
          case c1 => exact World.news_of_block (cs := #[.int .i64 c, .int .i64 (min H p)]) (t := 34) (fr := (0, 0)) (heap_alloc5_2 wr _ _)
          case c2 => simp [Value.oneCell']
          case c3 => unfold maxLen; omega
          case c4 => omega
          case c5 => simp; omega
          intro g2 cap2 w3 hown3 hgrow hat hlt2
          have hB3 := ((HB.out.alloc hsz (.cells #[.int .i64 c, .int .i64 (min H p)] 34)).alloc (by simp; omega) (.cells #[.int .i64 c, .int .i64 (min H p)] 34)).grown hgrow (by simp; omega) (fun j hj => (HO.out.lt j hj).1)
          rw [← HSN.out] at hown3
          try rw [hMl] at hown3
          try rw [hMl]
          have HB3 := Lib.hid hB3
          have HO3 := Lib.hid hown3
          clear hB3 hown3 hgrow hat hlt2 c0 c1 HB HO
          obtain ⟨c0, c1⟩ := HC.out w3 HB3.out
          go_wp2_with fail
          go_roundw
          case rel => exact ⟨k + 1, cap2, max c q, some ⟨g2, 0, none⟩, M, by omega, by omega, rfl, rfl, by go_num, HB3, HR2, HO3⟩
          case measure => simp [intOf]; omega
        · have dpq : decide (c ≤ min H p) = false := by simpa using hpq
          rw [if_neg hpq, List.nil_append] at hr
          have HR2 := Lib.hid hr
          have hsz := HB.out.size
          have HB3 := Lib.hid (HB.out.alloc hsz (.cells #[.int .i64 c, .int .i64 (min H p)] 34))
          have HO3 := Lib.hid (HO.out.alloc (.cells #[.int .i64 c, .int .i64 (min H p)] 34))
          clear hr hgo hget hc HR hp hq HSN hsz
          go_wp2_with fail
          go_roundw
          case rel => exact ⟨k + 1, cap', max c q, A', out, by omega, by omega, rfl, rfl, by go_num, HB3, HR2, HO3⟩
          case measure => simp [intOf]; omega
      · have dcH : decide (c ≤ H) = false := by simpa using hcH
        have hr := HR.out
        rw [comp_none _ (by omega), List.append_nil] at hr
        subst hr
        have hok2 : okL 4294967296 0 R := by rw [HRR.out]; exact okL_mono hC0 (comp_ok L 0 C H HOK.out hHM)
        have hany2 : ∀ m, anyS R m = (decide (C ≤ m) && decide (m ≤ H) && !memS 4294967296 l m) := fun m => by rw [HRR.out, comp_any L 0 C H m HOK.out, HANY.out]
        have hlen2 : R.length ≤ n + 1 := by
          have h1 := comp_len L C H
          have h2 := HLE.out
          rw [HRR.out]; omega
        have HF := Lib.hid (And.intro hok2 (And.intro hany2 hlen2))
        clear hok2 hany2 hlen2 HR HRR
        go_wp2_with fail
        go_ret
        exact ⟨R, A', cap', HF.out.1, HF.out.2.1, HF.out.2.2, rfl, own_mono5 HO.out HB1.out.size, HB1.out.trans (HB.out.mono HB1.out.size)⟩
    · have hkn : k = L.length := by have := HN.out; omega
      have hd : decide ((k : Int) < (n1 : Int)) = false := by simp; omega
      have hok2 : okL 4294967296 0 R := by rw [HRR.out]; exact okL_mono hC0 (comp_ok L 0 C H HOK.out hHM)
      have hany2 : ∀ m, anyS R m = (decide (C ≤ m) && decide (m ≤ H) && !memS 4294967296 l m) := fun m => by rw [HRR.out, comp_any L 0 C H m HOK.out, HANY.out]
      have hlen2 : R.length ≤ n + 1 := by
        have h1 := comp_len L C H
        have h2 := HLE.out
        rw [HRR.out]; omega
      have HF := Lib.hid (And.intro hok2 (And.intro hany2 hlen2))
      have hr := HR.out
      rw [hkn, List.drop_length, comp] at hr
      clear hok2 hany2 hlen2 HR HRR hkn
      by_cases hcH : c ≤ H
      · have dcH : decide (c ≤ H) = true := by simpa using hcH
        rw [if_pos hcH] at hr
        have HSN := Lib.hid (spCells_snoc out ⟨c, H⟩)
        rw [← hr] at HSN
        have hMl : out.length + 1 = R.length := by rw [hr]; simp
        unfold spC at HSN
        simp only at HSN
        have hsz := HB.out.size
        clear hr
        go_wp2_with (at_builtin; refine wpList_append_lies _ rfl _ _ 22 rfl w1.heap.size 34 i0 (.agg #[.int .i64 0, .int .i64 0]) 2 16 Try.underlying22 hinf hz0 hz1 hz2 rfl (by omega) _ out.length (spCells out) rfl (HO.out.alloc _) ⟨wr.heap.size, 0, none⟩ 1 1 [.int .i64 c, .int .i64 (H)] rfl rfl ?c1 ?c2 (by omega) ?c3 ?c4 ?c5 _ rfl ?_)
        case c1 => exact World.news_of_block (cs := #[.int .i64 c, .int .i64 H]) (t := 34) (fr := (0, 0)) (heap_alloc_new wr _)
        case c2 => simp [Value.oneCell']
        case c3 => unfold maxLen; omega
        case c4 => omega
        case c5 => simp; omega
        intro g2 cap2 w3 hown3 hgrow hat hlt2
        have hB3 := (HB.out.alloc hsz (.cells #[.int .i64 c, .int .i64 H] 34)).grown hgrow (by simp; omega) (fun j hj => (HO.out.lt j hj).1)
        rw [← HSN.out] at hown3
        try rw [hMl] at hown3
        try rw [hMl]
        have HB3 := Lib.hid hB3
        have HO3 := Lib.hid hown3
        clear hB3 hown3 hgrow hat hlt2 HB HO
        go_wp2_with fail
        go_ret
        exact ⟨R, some ⟨g2, 0, none⟩, cap2, HF.out.1, HF.out.2.1, HF.out.2.2, rfl, own_mono5 HO3.out HB1.out.size, HB1.out.trans (HB3.out.mono HB1.out.size)⟩
      · have dcH : decide (c ≤ H) = false := by simpa using hcH
        rw [if_neg hcH, List.append_nil] at hr
        subst hr
        go_wp2_with fail
        go_ret
        exact ⟨R, A', cap', HF.out.1, HF.out.2.1, HF.out.2.2, rfl, own_mono5 HO.out HB1.out.size, HB1.out.trans (HB.out.mono HB1.out.size)⟩
end Go.Proofs.Ytlmjfbgigfmdhaa
