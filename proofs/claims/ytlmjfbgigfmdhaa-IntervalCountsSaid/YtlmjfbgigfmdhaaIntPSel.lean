/- Contract of the program of layer 5: selected, with hasNumbers. -/
import Derived.Test.YtlmjfbgigfmdhaaIntPVal
import Derived.Test.YtlmjfbgigfmdhaaIntRComb
namespace Go.Proofs.Ytlmjfbgigfmdhaa
open Go.ChangeShapes Go.WideShapes Go.ChangeAt Go.RowKit
set_option linter.unusedVariables false

set_option maxHeartbeats 400000 in
set_option maxRecDepth 20000 in
theorem psel_any (A : Option Addr) (cap : Nat) (l : List Spn) (w : World) (h : SpL w A l) (hl : l.length ≤ 1000000) :
    Calls Try.prog 30 #[.slice A l.length cap, .func (.func 31) #[] #[]] w fun e w' => ∃ A' c', e = .returned (.slice A' (l.filter (hasN 4294967296)).length c') ∧ w'.ownsRow w.heap.size 34 2 (.slice A' (l.filter (hasN 4294967296)).length c') (l.filter (hasN 4294967296)).length (spCells (l.filter (hasN 4294967296))) ∧ Below w.heap.size w w' := by
  obtain ⟨n, hn⟩ : ∃ n, n = l.length := ⟨_, rfl⟩
  have hn6 : n ≤ 1000000 := by omega
  rw [← hn]
  obtain ⟨i0, hinf, hz0, hz1, hz2⟩ := info_parts info_span
  have eg : ∀ args w, (callFunc 31 args).run Try.prog w = .ok (.enter 31 args) w := enters_of Try.func31 (by kernel_rfl) rfl
  have H := Lib.hid h
  have HN := Lib.hid hn
  obtain ⟨F, hF⟩ : ∃ F, F = l.filter (hasN 4294967296) := ⟨_, rfl⟩
  rw [← hF]
  have HF := Lib.hid hF
  have HO := Lib.hid (World.ownsRow_nil w w.heap.size 34 2)
  have HB := Lib.hid (Below.refl w.heap.size w)
  clear h hn hl hF
  go_enter Try.func30, Try.ntmps30
  go_wp2_with fail
  go_loopw [5, 10] (fun sl i wr => ∃ k cap' : Nat, ∃ A' : Option Addr, ∃ out : List Spn, k ≤ n ∧ out.length ≤ k ∧ i = .int .i64 k ∧ sl = .slice A' out.length cap' ∧ Hid (Below w.heap.size w wr) ∧ Hid (out = (l.take k).filter (hasN 4294967296)) ∧ Hid (wr.ownsRow w.heap.size 34 2 (.slice A' out.length cap') out.length (spCells out))) (fun _ i _ => n - (intOf i).toNat)
  case atStart => exact ⟨0, 0, none, [], by omega, Nat.le_refl _, rfl, rfl, HB, Lib.hid rfl, HO⟩
  case round =>
    clear HB HO
    obtain ⟨k, cap', A', out, hk, hok, rfl, rfl, HB, HOUT, HO⟩ := hrel
    by_cases hlt : k < n
    · obtain ⟨s, hget⟩ : ∃ s, l[k]? = some s := ⟨l[k]'(by have := HN.out; omega), List.getElem?_eq_getElem _⟩
      obtain ⟨g, o, rfl, hg, hc⟩ := H.out (by have := HN.out; omega)
      have hki : (k : Int) < (n : Int) := by omega
      have hki0 : (0 : Int) ≤ (k : Int) := by omega
      have hfg := filt_go hget (hasN 4294967296)
      rw [← HOUT.out] at hfg
      obtain ⟨c0, c1⟩ := H.out.at_ hget HB.out
      have HSN := Lib.hid (spCells_snoc out s)
      obtain ⟨p, r⟩ := s
      have hct := fun W => phas_any p r W
      simp only at hfg c0 c1
      obtain ⟨M, hM⟩ : ∃ M, M = out ++ [(⟨p, r⟩ : Spn)] := ⟨_, rfl⟩
      rw [← hM] at HSN
      have hMl : out.length + 1 = M.length := by rw [hM]; simp
      unfold spC at HSN
      simp only at HSN
      have hx5 := sb2_new wr p r
      have hb5 := HB.out.alloc HB.out.size (.cells #[.int .i64 p, .int .i64 r] 34)
      have HO5 := Lib.hid (HO.out.alloc (.cells #[.int .i64 p, .int .i64 r] 34))
      have HX5 := Lib.hid hx5
      have HB5 := Lib.hid hb5
      cases hP : hasN 4294967296 ⟨p, r⟩ with
      | true =>
        rw [hP] at hct hfg
        rw [if_pos rfl, ← hM] at hfg
        have HCG := Lib.hid hfg
        have HCT := Lib.hid hct
        clear hget hM hc hfg hct hP HOUT hx5 hb5
        go_wp2_with fail
        refine (HCT.out _).mono ?_
        rintro e w6 ⟨rfl, hb⟩
        have HX6 := Lib.hid (HX5.out.kept hb (alloc_lt5 wr _))
        have HB6 := Lib.hid (HB5.out.trans (hb.mono HB5.out.size))
        have HO6 := Lib.hid (own_of_blocks5 HO5.out (fun b _ hl => hb.block b hl))
        obtain ⟨bn, hbn⟩ : ∃ bn, bn = wr.heap.size := ⟨_, rfl⟩
        rw [← hbn] at HX6 ⊢
        have e0 := HX6.out.c0
        have e1 := HX6.out.c1
        have hsz := HB6.out.size
        clear hb HX5 HB5 HO5 HB HO c0 c1 hbn
        go_wp2_with (at_builtin; refine wpList_append_lies _ rfl _ _ 22 rfl w.heap.size 34 i0 (.agg #[.int .i64 0, .int .i64 0]) 2 16 Try.underlying22 hinf hz0 hz1 hz2 rfl (by omega) _ out.length (spCells out) rfl (HO6.out.alloc _) ⟨w6.heap.size, 0, none⟩ 1 1 [.int .i64 p, .int .i64 r] rfl rfl ?c1 ?c2 (by omega) ?c3 ?c4 ?c5 _ rfl ?_)
        case c1 => exact World.news_of_block (cs := #[.int .i64 p, .int .i64 r]) (t := 34) (fr := (0, 0)) (heap_alloc_new w6 _)
        case c2 => simp [Value.oneCell']
        case c3 => unfold maxLen; omega
        case c4 => omega
        case c5 => simp; omega
        intro g2 cap2 w7 hown7 hgrow hat hlt2
        have hB7 := (HB6.out.alloc hsz (.cells #[.int .i64 p, .int .i64 r] 34)).grown hgrow (by simp; omega) (fun j hj => (HO6.out.lt j hj).1)
        rw [← HSN.out] at hown7
        try rw [hMl] at hown7
        try rw [hMl]
        have HB7 := Lib.hid hB7
        have HO7 := Lib.hid hown7
        clear hB7 hown7 hgrow hat hlt2 HX6 HB6 HO6 e0 e1 hsz
        go_wp2_with fail
        go_roundw
        case rel => exact ⟨k + 1, cap2, some ⟨g2, 0, none⟩, M, by omega, by omega, by go_num, rfl, HB7, Lib.hid HCG.out.symm, HO7⟩
        case measure => simp [intOf]; omega
      | false =>
        rw [hP] at hct hfg
        rw [if_neg (by decide), List.append_nil] at hfg
        have HCG := Lib.hid hfg
        have HCT := Lib.hid hct
        clear hget hM hc hfg hct hP HOUT hx5 hb5 hMl HSN
        go_wp2_with fail
        refine (HCT.out _).mono ?_
        rintro e w6 ⟨rfl, hb⟩
        have HB6 := Lib.hid (HB5.out.trans (hb.mono HB5.out.size))
        have HO6 := Lib.hid (own_of_blocks5 HO5.out (fun b _ hl => hb.block b hl))
        clear hb HX5 HB5 HO5 HB HO c0 c1
        go_wp2_with fail
        go_roundw
        case rel => exact ⟨k + 1, cap', A', out, by omega, by omega, by go_num, rfl, HB6, Lib.hid HCG.out.symm, HO6⟩
        case measure => simp [intOf]; omega
    · have hkn : k = l.length := by have := HN.out; omega
      have hout : out = F := by
        have := HOUT.out
        rw [hkn, List.take_length] at this
        rw [this, HF.out]
      have hd : decide ((k : Int) < (n : Int)) = false := by simp; omega
      clear hkn HOUT HF
      subst hout
      go_wp2_with fail
      go_ret
      exact ⟨A', cap', rfl, HO.out, HB.out⟩
end Go.Proofs.Ytlmjfbgigfmdhaa
