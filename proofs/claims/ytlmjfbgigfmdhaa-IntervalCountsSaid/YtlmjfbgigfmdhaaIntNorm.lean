/- Contract of the reference of layer 5: Normal. -/
import Derived.Test.YtlmjfbgigfmdhaaIntLeast
namespace Go.Proofs.Ytlmjfbgigfmdhaa
open Go.ChangeShapes Go.WideShapes Go.ChangeAt Go.RowKit
set_option linter.unusedVariables false

theorem cutAll_go {l : List Spn} {k : Nat} {s : Spn} (hs : l[k]? = some s) (M : Int) : cutAll M (l.take (k + 1)) = cutAll M (l.take k) ++ if max s.lo 0 ≤ min s.hi M then [⟨max s.lo 0, min s.hi M⟩] else [] := by
  obtain ⟨hk, e⟩ := List.getElem?_eq_some_iff.1 hs
  rw [List.take_succ_eq_append_getElem hk, e]
  unfold cutAll
  rw [List.flatMap_append]
  congr 1
  rw [List.flatMap_cons, List.flatMap_nil, List.append_nil]
  rfl
theorem cutAll_good {M : Int} (l : List Spn) : good M (cutAll M l) := by
  intro s hs
  unfold cutAll at hs
  obtain ⟨t, _, ht⟩ := List.mem_flatMap.1 hs
  split at ht
  · rename_i h
    rw [List.mem_singleton] at ht
    subst ht
    simp only [cutS] at h ⊢
    omega
  · simp at ht
theorem heap_alloc5_2 (w : World) (a b : Obj) : ((w.alloc a).alloc b).heap[w.heap.size + 1]? = some b := by
  have := heap_alloc_new (w.alloc a) b
  rwa [show (w.alloc a).heap.size = w.heap.size + 1 by simp] at this
theorem least_mem {work : List Spn} {x : Spn} (h : Least work x) : ∃ s ∈ work, s.lo ≤ x.lo ∧ x.lo ≤ s.hi := by
  have := h.cov x.lo (Int.le_refl _) h.ne
  rwa [anyS_iff] at this
theorem least_short {work : List Spn} {x : Spn} (h : Least work x) : (work.filter fun s => decide (x.hi < s.lo)).length < work.length := by
  obtain ⟨s, hs, h1, _⟩ := least_mem h
  have h2 := h.ne
  rw [List.length_filter_lt_length_iff_exists]
  exact ⟨s, hs, by simp; omega⟩
theorem good_filter {M : Int} {l : List Spn} (h : good M l) (f : Spn → Bool) : good M (l.filter f) := fun s hs => h s (List.mem_filter.1 hs).1
/-- A set goes on with the least span. -/
theorem least_ok {M : Int} {work out : List Spn} {x : Spn} (h : Least work x) (hM : x.hi ≤ M) (ho : okL M 0 out) (hn : ∀ s ∈ work, nxt 0 out ≤ s.lo) : okL M 0 (out ++ [x]) := by
  obtain ⟨s, hs, h1, _⟩ := least_mem h
  have := hn s hs
  exact (okL_snoc x out 0).2 ⟨ho, by omega, h.ne, hM⟩
theorem least_next {M : Int} {work out : List Spn} {x : Spn} (h : Least work x) (hg : good M work) : ∀ s ∈ work.filter (fun s => decide (x.hi < s.lo)), nxt 0 (out ++ [x]) ≤ s.lo := by
  intro s hs
  rw [nxt_snoc]
  have h2 := least_rest h s hs
  have h3 := (List.mem_filter.1 hs)
  have h4 := hg s h3.1
  have h5 := h3.2
  simp only [decide_eq_true_eq] at h5
  omega
/-- A result that is the set of the numbers with f. -/
def SetP (w : World) (f : Int → Bool) (b : Nat) (e : Ending) (w' : World) : Prop :=
  ∃ L : List Spn, ∃ A cap, okL 4294967296 0 L ∧ (∀ m, anyS L m = f m) ∧ L.length ≤ b ∧ e = .returned (.slice A L.length cap) ∧ w'.ownsRow w.heap.size 34 2 (.slice A L.length cap) L.length (spCells L) ∧ Below w.heap.size w w'
def slLen : Value → Nat
  | .slice _ n _ => n
  | _ => 0
theorem slLen_slice (A : Option Addr) (n c : Nat) : slLen (.slice A n c) = n := rfl

set_option maxHeartbeats 400000 in
set_option maxRecDepth 20000 in
theorem rnormal_any (A : Option Addr) (cap : Nat) (l : List Spn) (w : World) (h : SpL w A l) (hl : l.length ≤ 1000000) :
    Calls Try.prog 15 #[.slice A l.length cap] w (SetP w (memS 4294967296 l) l.length) := by
  obtain ⟨n, hn⟩ : ∃ n, n = l.length := ⟨_, rfl⟩
  have hn6 : n ≤ 1000000 := by omega
  rw [← hn]
  obtain ⟨i0, hinf, hz0, hz1, hz2⟩ := info_parts info_span
  have H := Lib.hid h
  have HN := Lib.hid hn
  clear h hn hl
  go_enter Try.func15, Try.ntmps15
  go_wp2_with fail
  have HO := Lib.hid (own_empty5 w (Nat.le_refl _))
  have HB := Lib.hid (below_alloc5 w (.cells #[] 34))
  obtain ⟨a0, ha0⟩ : ∃ a, a = w.heap.size := ⟨_, rfl⟩
  rw [show (Value.slice (some ⟨w.heap.size, 0, none⟩) 0 0) = .slice (some ⟨a0, 0, none⟩) 0 0 by rw [ha0]] at HO ⊢
  generalize w.alloc (.cells #[] 34) = w1 at *
  clear ha0
  go_loopw [3, 4] (fun sl i wr => ∃ k cap' : Nat, ∃ A' : Option Addr, ∃ out : List Spn, k ≤ n ∧ out.length ≤ k ∧ i = .int .i64 k ∧ sl = .slice A' out.length cap' ∧ Hid (Below w.heap.size w wr) ∧ Hid (out = cutAll 4294967296 (l.take k)) ∧ Hid (wr.ownsRow w.heap.size 34 2 (.slice A' out.length cap') out.length (spCells out))) (fun _ i _ => n - (intOf i).toNat)
  case atStart => exact ⟨0, 0, some ⟨a0, 0, none⟩, [], by omega, Nat.le_refl _, rfl, rfl, HB, Lib.hid rfl, HO⟩
  case round =>
    clear HB HO
    obtain ⟨k, cap', A', out, hk, hok, rfl, rfl, HB, HOUT, HO⟩ := hrel
    by_cases hlt : k < n
    · obtain ⟨s, hget⟩ : ∃ s, l[k]? = some s := ⟨l[k]'(by have := HN.out; omega), List.getElem?_eq_getElem _⟩
      obtain ⟨g, o, rfl, hg, hc⟩ := H.out (by have := HN.out; omega)
      have hki : (k : Int) < (n : Int) := by omega
      have hki0 : (0 : Int) ≤ (k : Int) := by omega
      have hcg := cutAll_go hget 4294967296
      rw [← HOUT.out] at hcg
      obtain ⟨c0, c1⟩ := H.out.at_ hget HB.out
      have hct := fun W => rcut_any s.lo s.hi 0 4294967296 W
      obtain ⟨slo, shi⟩ := s
      simp only at hcg c0 c1 hct
      generalize max slo 0 = p at *
      generalize min shi 4294967296 = q at *
      have HSN := Lib.hid (spCells_snoc out ⟨p, q⟩)
      obtain ⟨M, hM⟩ : ∃ M, M = out ++ [(⟨p, q⟩ : Spn)] := ⟨_, rfl⟩
      rw [← hM] at HSN
      have hMl : out.length + 1 = M.length := by rw [hM]; simp
      unfold spC at HSN
      simp only at HSN
      have HMM := Lib.hid hM
      clear hget hM hc HOUT
      by_cases hpq : p ≤ q
      · rw [if_pos hpq, ← HMM.out] at hcg
        rw [show decide (p ≤ q) = true by simpa using hpq] at hct
        have HCG := Lib.hid hcg
        have HCT := Lib.hid hct
        clear hcg hct
        go_wp2_with fail
        refine (HCT.out _).mono ?_
        rintro e w2 ⟨rfl, hb⟩
        have hB2 := HB.out.trans (hb.mono HB.out.size)
        have hown2 := own_of_blocks5 HO.out (fun b _ hl => hb.block b hl)
        have hsz := hB2.size
        clear hb HB HO c0 c1
        go_wp2_with (at_builtin; refine wpList_append_lies _ rfl _ _ 22 rfl w.heap.size 34 i0 (.agg #[.int .i64 0, .int .i64 0]) 2 16 Try.underlying22 hinf hz0 hz1 hz2 rfl (by omega) _ out.length (spCells out) rfl ((hown2.alloc _).alloc _) ⟨w2.heap.size + 1, 0, none⟩ 1 1 [.int .i64 p, .int .i64 q] rfl rfl ?c1 ?c2 (by omega) ?c3 ?c4 ?c5 _ rfl ?_)
        case c1 => exact World.news_of_block (cs := #[.int .i64 p, .int .i64 q]) (t := 34) (fr := (0, 0)) (heap_alloc5_2 w2 _ _)
        case c2 => simp [Value.oneCell']
        case c3 => unfold maxLen; omega
        case c4 => omega
        case c5 => simp; omega
        intro g2 cap2 w3 hown3 hgrow hat hlt2
        have hB3 := ((hB2.alloc hsz (.cells #[.int .i64 p, .int .i64 q] 34)).alloc (by simp; omega) (.cells #[.int .i64 p, .int .i64 q] 34)).grown hgrow (by simp; omega) (fun j hj => (hown2.lt j hj).1)
        rw [← HSN.out] at hown3
        try rw [hMl] at hown3
        try rw [hMl]
        have HB3 := Lib.hid hB3
        have HO3 := Lib.hid hown3
        clear hB3 hB2 hown2 hown3 hgrow hat hlt2
        go_wp2_with fail
        go_roundw
        case rel => exact ⟨k + 1, cap2, some ⟨g2, 0, none⟩, M, by omega, by omega, by go_num, rfl, HB3, Lib.hid HCG.out.symm, HO3⟩
        case measure => simp [intOf]; omega
      · rw [if_neg hpq, List.append_nil] at hcg
        rw [show decide (p ≤ q) = false by simpa using hpq] at hct
        have HCG := Lib.hid hcg
        have HCT := Lib.hid hct
        clear hcg hct
        go_wp2_with fail
        refine (HCT.out _).mono ?_
        rintro e w2 ⟨rfl, hb⟩
        have HB2 := Lib.hid ((HB.out.trans (hb.mono HB.out.size)).alloc ((HB.out.trans (hb.mono HB.out.size)).size) (.cells #[.int .i64 p, .int .i64 q] 34))
        have HO2 := Lib.hid ((own_of_blocks5 HO.out (fun b _ hl => hb.block b hl)).alloc (.cells #[.int .i64 p, .int .i64 q] 34))
        clear hb HB HO c0 c1
        go_wp2_with fail
        go_roundw
        case rel => exact ⟨k + 1, cap', A', out, by omega, by omega, by go_num, rfl, HB2, Lib.hid HCG.out.symm, HO2⟩
        case measure => simp [intOf]; omega
    · have hkn : k = l.length := by have := HN.out; omega
      have hout : out = cutAll 4294967296 l := by
        have := HOUT.out
        rwa [hkn, List.take_length] at this
      have hG : good 4294967296 out := by rw [hout]; exact cutAll_good l
      have hA : ∀ m, (anyS [] m || anyS out m) = memS 4294967296 l m := fun m => by rw [hout, cutAll_any]; rfl
      have hN : ∀ s ∈ out, nxt 0 [] ≤ s.lo := fun s hs => (hG s hs).1
      have HG := Lib.hid hG
      have HA := Lib.hid hA
      have HX := Lib.hid hN
      have hd : decide ((k : Int) < (n : Int)) = false := by simp; omega
      clear hkn hout hG hA hN HOUT
      go_wp2_with fail
      have hsz := HB.out.size
      have HO7 := Lib.hid (own_empty5 wr hsz)
      have HB7 := Lib.hid (HB.out.alloc hsz (.cells #[] 34))
      have HO3 := Lib.hid (HO.out.alloc (.cells #[] 34))
      obtain ⟨a1, ha1⟩ : ∃ a, a = wr.heap.size := ⟨_, rfl⟩
      rw [← ha1] at HO7 ⊢
      generalize wr.alloc (.cells #[] 34) = w4 at *
      clear HB HO ha1 hsz hd hlt
      go_loopw [3, 7] (fun v3 v7 w5 => ∃ work res : List Spn, ∃ A1 A2 : Option Addr, ∃ c1 c2 : Nat, work.length + res.length ≤ n ∧ v3 = .slice A1 work.length c1 ∧ v7 = .slice A2 res.length c2 ∧ Hid (Below w.heap.size w w5) ∧ Hid (w5.ownsRow w.heap.size 34 2 (.slice A1 work.length c1) work.length (spCells work)) ∧ Hid (w5.ownsRow w.heap.size 34 2 (.slice A2 res.length c2) res.length (spCells res)) ∧ Hid (good 4294967296 work) ∧ Hid (okL 4294967296 0 res) ∧ Hid (∀ s ∈ work, nxt 0 res ≤ s.lo) ∧ Hid (∀ m, (anyS res m || anyS work m) = memS 4294967296 l m)) (fun v3 _ _ => slLen v3)
      case atStart => exact ⟨out, [], A', some ⟨a1, 0, none⟩, cap', 0, by simp; omega, rfl, rfl, HB7, HO3, HO7, HG, Lib.hid trivial, HX, HA⟩
      case round =>
        clear HB7 HO3 HO7 HG HA HX hk hok
        obtain ⟨work, res, A1, A2, cp1, cp2, hlen, rfl, rfl, HB, HW, HO, HG, HK, HX, HA⟩ := hrel
        by_cases hw : 0 < work.length
        · have hd : decide ((0 : Int) < (work.length : Int)) = true := by simp; omega
          have HL := Lib.hid (rleast_any A1 cp1 work wr (spl_of_own HW.out) (by omega) hw HG.out)
          clear HW
          go_wp2_with fail
          refine HL.out.mono ?_
          rintro e w2 ⟨x, A3, cp3, hx, hxM, rfl, hown3, hb⟩
          have HK2 := Lib.hid (least_ok hx hxM HK.out HX.out)
          have HX2 := Lib.hid (least_next (out := res) hx HG.out)
          have HG2 := Lib.hid (good_filter HG.out fun s => decide (x.hi < s.lo))
          have hsh := least_short hx
          have HA2 := Lib.hid (show ∀ m, (anyS (res ++ [x]) m || anyS (work.filter fun s => decide (x.hi < s.lo)) m) = memS 4294967296 l m from fun m => by
            rw [← HA.out m, least_any hx m, anyS_append, show anyS [x] m = inS x m by simp [anyS], Bool.or_assoc])
          have HSN := Lib.hid (spCells_snoc res x)
          obtain ⟨M, hM⟩ : ∃ M, M = res ++ [x] := ⟨_, rfl⟩
          rw [← hM] at HSN HK2 HX2 HA2
          have hMl : res.length + 1 = M.length := by rw [hM]; simp
          unfold spC at HSN
          generalize (work.filter fun s => decide (x.hi < s.lo)) = rest at *
          generalize x.lo = p at *
          generalize x.hi = q at *
          have hB2 := HB.out.trans (hb.mono HB.out.size)
          have hown2 := own_of_blocks5 HO.out (fun b _ hl => hb.block b hl)
          have hsz := hB2.size
          have HLT := Lib.hid HO.out.lt
          have HSZ := Lib.hid HB.out.size
          clear hM hb HB HO HL HG HK HX HA
          go_wp2_with (at_builtin; refine wpList_append_lies _ rfl _ _ 22 rfl w.heap.size 34 i0 (.agg #[.int .i64 0, .int .i64 0]) 2 16 Try.underlying22 hinf hz0 hz1 hz2 rfl (by omega) _ res.length (spCells res) rfl ((hown2.alloc _).alloc _) ⟨w2.heap.size + 1, 0, none⟩ 1 1 [.int .i64 p, .int .i64 q] rfl rfl ?c1 ?c2 (by omega) ?c3 ?c4 ?c5 _ rfl ?_)
          case c1 => exact World.news_of_block (cs := #[.int .i64 p, .int .i64 q]) (t := 34) (fr := (0, 0)) (heap_alloc5_2 w2 _ _)
          case c2 => simp [Value.oneCell']
          case c3 => unfold maxLen; omega
          case c4 => omega
          case c5 => simp; omega
          intro g2 cap2 w3 hown4 hgrow hat hlt2
          have hB3 := ((hB2.alloc hsz (.cells #[.int .i64 p, .int .i64 q] 34)).alloc (by simp; omega) (.cells #[.int .i64 p, .int .i64 q] 34)).grown hgrow (by simp; omega) (fun j hj => (hown2.lt j hj).1)
          have hrest := own_of_blocks5 ((hown3.alloc (.cells #[.int .i64 p, .int .i64 q] 34)).alloc (.cells #[.int .i64 p, .int .i64 q] 34)) (fun b hb1 hb2 => hgrow.block b hb2 (fun e => by
            have := (HLT.out b e.symm).2
            omega))
          rw [← HSN.out] at hown4
          try rw [hMl] at hown4
          try rw [hMl]
          have HB3 := Lib.hid hB3
          have HO4 := Lib.hid hown4
          have HW4 := Lib.hid (own_mono5 hrest HSZ.out)
          clear hB3 hB2 hown2 hown3 hrest hown4 hgrow hat hlt2 HLT
          go_wp2_with fail
          go_roundw
          case rel => exact ⟨rest, M, A3, some ⟨g2, 0, none⟩, cp3, cap2, by omega, rfl, rfl, HB3, HW4, HO4, HG2, HK2, HX2, HA2⟩
          case measure => exact hsh
        · have hw0 : work = [] := List.length_eq_zero_iff.1 (by omega)
          subst hw0
          have HLN := Lib.hid (show res.length ≤ n by simpa using hlen)
          clear HW HG HX hw hlen
          rw [List.length_nil]
          go_wp2_with fail
          go_ret
          exact ⟨res, A2, cp2, HK.out, fun m => by rw [← HA.out m]; simp [anyS], HLN.out, rfl, HO.out, HB.out⟩
end Go.Proofs.Ytlmjfbgigfmdhaa
