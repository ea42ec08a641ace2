/- Contracts of the functions, part 3: IntPSort, IntPSel, IntPNorm, IntPNorm2, IntComb, IntPCnt, IntComb2, Awk08, AdrMath, PrtMath. -/
import Derived.Shelf.SlSortCmp.WholeK
import Derived.Shelf.SlicesG.Cmp
import Derived.Laws.OwnMore
import Derived.BigQuiet
import Derived.Deep.SlicePairs
import Derived.Laws.StructEq
import Derived.Below
import Derived.Test.YtepbmnpjpkmmfaaGreatDoorPA1
import Derived.Test.YtepbmnpjpkmmfaaGreatDoorPA2
/- The program's sort of spans by their beginnings (slices.SortFunc by the library's contract). -/
namespace Go.Proofs.YtepbmnpjpkmmfaaGreatDoor
open Go.ChangeShapes Go.WideShapes Go.ChangeAt Go.RowKit Go.Sort Go.Lib
set_option linter.unusedVariables false

theorem ltLo5 (x y : Spn) : ltOf (fun x y : Spn => Lib.compareInt x.lo y.lo) x y = decide (x.lo < y.lo) := by
  unfold ltOf Lib.compareInt
  by_cases h1 : x.lo < y.lo
  · simp [h1]
  · by_cases h2 : y.lo < x.lo <;> simp [h1, h2]
theorem swoLo5 : SWO (ltOf fun x y : Spn => Lib.compareInt x.lo y.lo) where
  irrefl x := by rw [ltLo5]; simp
  trans x y z h1 h2 := by rw [ltLo5] at *; simp at *; omega
  ntrans x y z h1 h2 := by rw [ltLo5] at *; simp at *; omega
theorem pcmp_any (x y : Spn) (W : World) : Calls Tryz.prog 68 #[.agg #[.int .i64 x.lo, .int .i64 x.hi], .agg #[.int .i64 y.lo, .int .i64 y.hi]] W fun e w' => e = .returned (.int .i64 (Lib.compareInt x.lo y.lo)) ∧ ∃ q os', w' = grow (W.drewN q) os' := by
  have hcon := fun W' => AnyG.cmp_Compare_int layCc x.lo y.lo W'
  change ∀ W', Calls Tryz.prog 69 _ _ _ at hcon
  generalize Lib.compareInt x.lo y.lo = r at hcon ⊢
  go_enter Tryz.func68, Tryz.ntmps68
  go_wp2_with (go_at_call 69; refine (hcon _).mono ?_; rintro e w' ⟨rfl, rfl⟩)
  go_ret
  exact ⟨rfl, 0, _, by rw [alloc_eq_grow, alloc_eq_grow, grow_grow]; rfl⟩
theorem cmpLays5 (blk off size : Nat) (w : World) : CmpLays Tryz.prog 68 #[] spC 2 (fun x y : Spn => Lib.compareInt x.lo y.lo) blk off size w :=
  fun _ _ _ _ x y => pcmp_any x y _
/-- A list of spans in the order of their beginnings. -/
def sortedS (l : List Spn) : Prop := ∀ (i j : Nat) (s t : Spn), i ≤ j → l[i]? = some s → l[j]? = some t → s.lo ≤ t.lo
theorem spCells_two (l : List Spn) (j : Nat) (h : j < l.length * 2) : (spCells l)[j]? = some ((spC l[j / 2]!)[j % 2]!) := by
  have hi : j / 2 < l.length := by omega
  have hg := spCells_get l (j / 2) l[j / 2]! (getb hi)
  rcases Nat.mod_two_eq_zero_or_one j with h2 | h2
  · rw [h2]
    have := hg.1
    rw [show j / 2 * 2 = j by omega] at this
    exact this
  · rw [h2]
    have := hg.2
    rw [show j / 2 * 2 + 1 = j by omega] at this
    exact this
theorem holds5 {w : World} {base g cap : Nat} {D : List Spn} (h : w.ownsRow base 34 2 (.slice (some ⟨g, 0, none⟩) D.length cap) D.length (spCells D)) : HoldsK spC 2 w g 0 D.toArray := fun j hj => by
  rw [size_flatK, List.size_toArray] at hj
  rw [Nat.zero_add]
  refine ⟨?_, h.frozenAt j⟩
  rw [h.cellAt j hj, get_flatK _ _ _ _ (by simpa using hj), spCells_two D j hj]
  simp
theorem below_sort5 {base g n : Nat} {w : World} {d : Array Spn} {os : Array Obj} (hg : base ≤ g) (hg2 : g < w.heap.size) : RowKit.Below base w (sortWorldK spC 2 w g 0 n d os) := by
  refine ⟨rfl, rfl, rfl, ?_, fun k hk => ?_⟩
  · simp [sortWorldK, putRowK, putRow, mapBlock, Sort.ahead]
  · unfold sortWorldK
    have hs : (putRowK spC 2 (Sort.ahead w n) g 0 d).heap.size = w.heap.size := by simp [putRowK, putRow, mapBlock, Sort.ahead]
    have ho : (putRowK spC 2 (Sort.ahead w n) g 0 d).heap[k]? = w.heap[k]? := by
      simp [putRowK, putRow, mapBlock, Sort.ahead, Array.getElem?_modify, show g ≠ k by omega]
    rw [heap_grow_old _ _ (by rw [hs]; omega), ho]

theorem psort_any (g cap base : Nat) (D : List Spn) (w : World) (hown : w.ownsRow base 34 2 (.slice (some ⟨g, 0, none⟩) D.length cap) D.length (spCells D)) (hl : D.length ≤ 1000000) :
    Calls Tryz.prog 67 #[.slice (some ⟨g, 0, none⟩) D.length cap, .func (.func 68) #[] #[]] w fun e w' => e = .returned (.tuple #[]) ∧ ∃ D' : List Spn, D'.Perm D ∧ sortedS D' ∧ SpL w' (some ⟨g, 0, none⟩) D' ∧ RowKit.Below base w w' := by
  have eg : ∀ args w, (callFunc 68 args).run Tryz.prog w = .ok (.enter 68 args) w := enters_of Tryz.func68 (by kernel_rfl) rfl
  have hlt := hown.lt g rfl
  have hH := holds5 hown
  have hcon := AnyQ.slices_SortFunc laySf 2 Tryz.isAgg34 Tryz.sizeOf34 spC (fun _ => rfl) (fun x v hv => by simp [spC] at hv; rcases hv with rfl | rfl <;> rfl) (fun x y => Lib.compareInt x.lo y.lo) swoLo5 68 #[] g 0 cap D.toArray w eg (cmpLays5 g 0 _ w) hH hlt.2 (by rw [List.size_toArray]; omega)
  rw [List.size_toArray] at hcon
  refine hcon.mono ?_
  rintro e w' ⟨rfl, d', n, os, hp, hs, rfl⟩
  have hsz : d'.size = D.length := by rw [hp.1, List.size_toArray]
  refine ⟨rfl, d'.toList, ?_, ?_, ?_, below_sort5 hlt.1 hlt.2⟩
  · have h3 := hp.2.2
    have e1 : d'.extract 0 D.length = d' := by rw [← hsz]; simp
    have e2 : D.toArray.extract 0 D.length = D.toArray := by simp
    rw [e1, e2] at h3
    exact h3
  · intro i j s t hij hi hj
    have hi1 := (Array.getElem?_eq_some_iff.1 (by simpa using hi))
    have hj1 := (Array.getElem?_eq_some_iff.1 (by simpa using hj))
    obtain ⟨hil, hie⟩ := hi1
    obtain ⟨hjl, hje⟩ := hj1
    by_cases e : i = j
    · subst e
      rw [hie] at hje
      subst hje
      exact Int.le_refl _
    · have h4 := hs i j (Nat.zero_le _) (by omega) (by omega)
      rw [ltLo5, getElem!_pos d' i hil, getElem!_pos d' j hjl, hie, hje] at h4
      simpa using h4
  · intro _
    have hK := holdsK_sortWorldK_c spC 2 w g 0 D.toArray d' n os hH hlt.2 hp.1
    refine ⟨g, 0, rfl, ?_, fun i s hi => ?_⟩
    · simp [sortWorldK, putRowK, putRow, mapBlock, Sort.ahead]
      have := hlt.2
      omega
    · obtain ⟨hil, hie⟩ := Array.getElem?_eq_some_iff.1 (show d'[i]? = some s by simpa using hi)
      have h1 := (hK.cell (i := i) (c := 0) hil (by omega)).1
      have h2 := (hK.cell (i := i) (c := 1) hil (by omega)).1
      rw [getElem!_pos d' i hil, hie] at h1 h2
      exact ⟨h1, h2⟩
set_option maxRecDepth 20000 in
theorem pins_nil (A : Option Addr) (cap : Nat) (fv : Value) (w : World) :
    Calls Tryz.prog 93 #[.slice A 0 cap, .int .i64 0, .int .i64 0, fv] w fun e w' => e = .returned (.tuple #[]) ∧ w' = w := by
  go_enter Tryz.func93, Tryz.ntmps93
  go_wp2_with fail
  refine wp_loop_rounds 1 ?_
  rw [rounds_succ]
  go_wp2_with fail
  go_end0
  exact ⟨rfl, rfl⟩
set_option maxRecDepth 20000 in
theorem ppdq_nil (A : Option Addr) (cap : Nat) (lim : Int) (fv : Value) (w : World) :
    Calls Tryz.prog 82 #[.slice A 0 cap, .int .i64 0, .int .i64 0, .int .i64 lim, fv] w fun e w' => e = .returned (.tuple #[]) ∧ w' = w := by
  have H := Lib.hid (pins_nil A cap fv)
  go_enter Tryz.func82, Tryz.ntmps82
  go_wp2_with fail
  refine wp_loop_rounds 1 ?_
  rw [rounds_succ]
  go_wp2_with (go_at_call 93; refine (H.out _).mono ?_; rintro e w' ⟨rfl, rfl⟩)
  (try simp only [Exit.inBlock, Exit.then]); refine bodyPost_ret (results_none rfl _ _ _) rfl ?_
  exact ⟨rfl, rfl⟩
set_option maxRecDepth 20000 in
theorem psort_nil (A : Option Addr) (cap : Nat) (fv : Value) (w : World) :
    Calls Tryz.prog 67 #[.slice A 0 cap, fv] w fun e w' => e = .returned (.tuple #[]) ∧ w' = w := by
  have H := Lib.hid (fun lim W => ppdq_nil A cap lim fv W)
  have hl : ∀ W, Calls Tryz.prog 83 #[.int .u64 0] W fun e w' => e = .returned (.int .i64 (Lib.bitLen 0 : Nat)) ∧ w' = W := fun W => by
    have h := Any.bits_Len (SlLaysF0.n15.bits (P := Tryz.prog) (ρ := laySf_ren) { laySf with }) 0 W (by omega) (by omega)
    exact h
  have HL := Lib.hid hl
  clear hl
  generalize (Lib.bitLen 0) = bl at *
  go_enter Tryz.func67, Tryz.ntmps67
  go_wp2_with (first | (go_at_call 83; refine (HL.out _).mono ?_; rintro e w' ⟨rfl, rfl⟩) | (go_at_call 82; refine (H.out _ _).mono ?_; rintro e w' ⟨rfl, rfl⟩))
  go_end0
  exact ⟨rfl, rfl⟩
end Go.Proofs.YtepbmnpjpkmmfaaGreatDoor

/- Contract of the program of layer 5: selected, with hasNumbers. -/
namespace Go.Proofs.YtepbmnpjpkmmfaaGreatDoor
open Go.ChangeShapes Go.WideShapes Go.ChangeAt Go.RowKit
set_option linter.unusedVariables false

set_option maxHeartbeats 400000 in
set_option maxRecDepth 20000 in
theorem psel_any (A : Option Addr) (cap : Nat) (l : List Spn) (w : World) (h : SpL w A l) (hl : l.length ≤ 1000000) :
    Calls Tryz.prog 65 #[.slice A l.length cap, .func (.func 66) #[] #[]] w fun e w' => ∃ A' c', e = .returned (.slice A' (l.filter (hasN 4294967296)).length c') ∧ w'.ownsRow w.heap.size 34 2 (.slice A' (l.filter (hasN 4294967296)).length c') (l.filter (hasN 4294967296)).length (spCells (l.filter (hasN 4294967296))) ∧ Below w.heap.size w w' := by
  obtain ⟨n, hn⟩ : ∃ n, n = l.length := ⟨_, rfl⟩
  have hn6 : n ≤ 1000000 := by omega
  rw [← hn]
  obtain ⟨i0, hinf, hz0, hz1, hz2⟩ := info_parts info_span
  have eg : ∀ args w, (callFunc 66 args).run Tryz.prog w = .ok (.enter 66 args) w := enters_of Tryz.func66 (by kernel_rfl) rfl
  have H := Lib.hid h
  have HN := Lib.hid hn
  obtain ⟨F, hF⟩ : ∃ F, F = l.filter (hasN 4294967296) := ⟨_, rfl⟩
  rw [← hF]
  have HF := Lib.hid hF
  have HO := Lib.hid (World.ownsRow_nil w w.heap.size 34 2)
  have HB := Lib.hid (Below.refl w.heap.size w)
  clear h hn hl hF
  go_enter Tryz.func65, Tryz.ntmps65
  go_wp2_with fail
  go_loopw [5, 10] (fun sl i wr => ∃ k cap' : Nat, ∃ A' : Option Addr, ∃ out : List Spn, k ≤ n ∧ out.length ≤ k ∧ i = .int .i64 k ∧ sl = .slice A' out.length cap' ∧ Hid (Below w.heap.size w wr) ∧ Hid (out = (l.take k).filter (hasN 4294967296)) ∧ Hid (wr.ownsRow w.heap.size 34 2 (.slice A' out.length cap') out.length (spCells out))) (fun _ i _ => n - (intOf i).toNat)
  case atStart => exact ⟨0, 0, none, [], by omega, Nat.le_refl _, rfl, rfl, HB, Lib.hid rfl, HO⟩
  case round =>
    clear HB HO
    obtain ⟨k, cap', A', out, hk, hok, rfl, rfl, HB, HOUT, HO⟩ := hrel
    by_cases hlt : k < n
    · obtain ⟨s, hget⟩ : ∃ s, l[k]? = some s := ⟨l[k]'(by have := HN.out; omega), List.getElem?_eq_getElem _⟩
      obtain ⟨g, o, rfl, hg, hc⟩ := H.out (by have := HN.out; omega)
      have hki : (k : Int) < (n : Int) := by omega
      have hki0 : (0 : Int) ≤ (k : Int) := by omega
      have hfg := filt_go hget (hasN 4294967296)
      rw [← HOUT.out] at hfg
      obtain ⟨c0, c1⟩ := H.out.at_ hget HB.out
      have HSN := Lib.hid (spCells_snoc out s)
      obtain ⟨p, r⟩ := s
      have hct := fun W => phas_any p r W
      simp only at hfg c0 c1
      obtain ⟨M, hM⟩ : ∃ M, M = out ++ [(⟨p, r⟩ : Spn)] := ⟨_, rfl⟩
      rw [← hM] at HSN
      have hMl : out.length + 1 = M.length := by rw [hM]; simp
      unfold spC at HSN
      simp only at HSN
      have hx5 := sb2_new wr p r
      have hb5 := HB.out.alloc HB.out.size (.cells #[.int .i64 p, .int .i64 r] 34)
      have HO5 := Lib.hid (HO.out.alloc (.cells #[.int .i64 p, .int .i64 r] 34))
      have HX5 := Lib.hid hx5
      have HB5 := Lib.hid hb5
      cases hP : hasN 4294967296 ⟨p, r⟩ with
      | true =>
        rw [hP] at hct hfg
        rw [if_pos rfl, ← hM] at hfg
        have HCG := Lib.hid hfg
        have HCT := Lib.hid hct
        clear hget hM hc hfg hct hP HOUT hx5 hb5
        go_wp2_with fail
        refine (HCT.out _).mono ?_
        rintro e w6 ⟨rfl, hb⟩
        have HX6 := Lib.hid (HX5.out.kept hb (alloc_lt5 wr _))
        have HB6 := Lib.hid (HB5.out.trans (hb.mono HB5.out.size))
        have HO6 := Lib.hid (own_of_blocks5 HO5.out (fun b _ hl => hb.block b hl))
        obtain ⟨bn, hbn⟩ : ∃ bn, bn = wr.heap.size := ⟨_, rfl⟩
        rw [← hbn] at HX6 ⊢
        have e0 := HX6.out.c0
        have e1 := HX6.out.c1
        have hsz := HB6.out.size
        clear hb HX5 HB5 HO5 HB HO c0 c1 hbn
        go_wp2_with (at_builtin; refine wpList_append_lies _ rfl _ _ 23 rfl w.heap.size 34 i0 (.agg #[.int .i64 0, .int .i64 0]) 2 16 Tryz.underlying23 hinf hz0 hz1 hz2 rfl (by omega) _ out.length (spCells out) rfl (HO6.out.alloc _) ⟨w6.heap.size, 0, none⟩ 1 1 [.int .i64 p, .int .i64 r] rfl rfl ?c1 ?c2 (by omega) ?c3 ?c4 ?c5 _ rfl ?_)
        case c1 => exact World.news_of_block (cs := #[.int .i64 p, .int .i64 r]) (t := 34) (fr := (0, 0)) (heap_alloc_new w6 _)
        case c2 => simp [Value.oneCell']
        case c3 => unfold maxLen; omega
        case c4 => omega
        case c5 => simp; omega
        intro g2 cap2 w7 hown7 hgrow hat hlt2
        have hB7 := (HB6.out.alloc hsz (.cells #[.int .i64 p, .int .i64 r] 34)).grown hgrow (by simp; omega) (fun j hj => (HO6.out.lt j hj).1)
        rw [← HSN.out] at hown7
        try rw [hMl] at hown7
        try rw [hMl]
        have HB7 := Lib.hid hB7
        have HO7 := Lib.hid hown7
        clear hB7 hown7 hgrow hat hlt2 HX6 HB6 HO6 e0 e1 hsz
        go_wp2_with fail
        go_roundw
        case rel => exact ⟨k + 1, cap2, some ⟨g2, 0, none⟩, M, by omega, by omega, by go_num, rfl, HB7, Lib.hid HCG.out.symm, HO7⟩
        case measure => simp [intOf]; omega
      | false =>
        rw [hP] at hct hfg
        rw [if_neg (by decide), List.append_nil] at hfg
        have HCG := Lib.hid hfg
        have HCT := Lib.hid hct
        clear hget hM hc hfg hct hP HOUT hx5 hb5 hMl HSN
        go_wp2_with fail
        refine (HCT.out _).mono ?_
        rintro e w6 ⟨rfl, hb⟩
        have HB6 := Lib.hid (HB5.out.trans (hb.mono HB5.out.size))
        have HO6 := Lib.hid (own_of_blocks5 HO5.out (fun b _ hl => hb.block b hl))
        clear hb HX5 HB5 HO5 HB HO c0 c1
        go_wp2_with fail
        go_roundw
        case rel => exact ⟨k + 1, cap', A', out, by omega, by omega, by go_num, rfl, HB6, Lib.hid HCG.out.symm, HO6⟩
        case measure => simp [intOf]; omega
    · have hkn : k = l.length := by have := HN.out; omega
      have hout : out = F := by
        have := HOUT.out
        rw [hkn, List.take_length] at this
        rw [this, HF.out]
      have hd : decide ((k : Int) < (n : Int)) = false := by simp; omega
      clear hkn HOUT HF
      subst hout
      go_wp2_with fail
      go_ret
      exact ⟨A', cap', rfl, HO.out, HB.out⟩
end Go.Proofs.YtepbmnpjpkmmfaaGreatDoor

/- Contract of the program of layer 5: Normal. -/
namespace Go.Proofs.YtepbmnpjpkmmfaaGreatDoor
open Go.ChangeShapes Go.WideShapes Go.ChangeAt Go.RowKit
set_option linter.unusedVariables false

/-- A span cut to the numbers from 0 to M. -/
def clipS (M : Int) (s : Spn) : Spn := ⟨max s.lo 0, min s.hi M⟩
theorem clip_any (M : Int) (l : List Spn) (m : Int) : anyS ((l.filter (hasN M)).map (clipS M)) m = memS M l m := by
  unfold memS
  rw [Bool.eq_iff_iff, anyS_iff, Bool.and_eq_true, Bool.and_eq_true, decide_eq_true_eq, decide_eq_true_eq, anyS_iff]
  constructor
  · rintro ⟨t, ht, h1, h2⟩
    obtain ⟨s, hs, rfl⟩ := List.mem_map.1 ht
    obtain ⟨hs, _⟩ := List.mem_filter.1 hs
    simp only [clipS] at h1 h2
    exact ⟨⟨by omega, by omega⟩, s, hs, by omega, by omega⟩
  · rintro ⟨⟨h0, hM⟩, s, hs, h1, h2⟩
    refine ⟨clipS M s, List.mem_map.2 ⟨s, List.mem_filter.2 ⟨hs, ?_⟩, rfl⟩, ?_, ?_⟩
    · unfold hasN
      simp only [Bool.and_eq_true, decide_eq_true_eq]
      omega
    · simp only [clipS]; omega
    · simp only [clipS]; omega
theorem clip_good (M : Int) (hM : 0 ≤ M) (l : List Spn) : good M ((l.filter (hasN M)).map (clipS M)) := fun t ht => by
  obtain ⟨s, hs, rfl⟩ := List.mem_map.1 ht
  have h := (List.mem_filter.1 hs).2
  unfold hasN at h
  simp only [Bool.and_eq_true, decide_eq_true_eq] at h
  simp only [clipS]
  omega
/-- The first k spans cut, the others as they were. -/
def mixL (M : Int) (P : List Spn) (k : Nat) : List Spn := (P.take k).map (clipS M) ++ P.drop k
theorem mix_len (M : Int) (P : List Spn) (k : Nat) : (mixL M P k).length = P.length := by
  unfold mixL
  rw [List.length_append, List.length_map, List.length_take, List.length_drop]
  omega
theorem mix_zero (M : Int) (P : List Spn) : mixL M P 0 = P := by simp [mixL]
theorem mix_all (M : Int) (P : List Spn) : mixL M P P.length = P.map (clipS M) := by simp [mixL]
theorem mix_get {M : Int} {P : List Spn} {k : Nat} {s : Spn} (hs : P[k]? = some s) : (mixL M P k)[k]? = some s := by
  obtain ⟨hk, e⟩ := List.getElem?_eq_some_iff.1 hs
  unfold mixL
  rw [List.getElem?_append_right (by simp; omega)]
  simp only [List.length_map, List.length_take]
  rw [show k - min k P.length = 0 by omega, List.getElem?_drop, Nat.add_zero]
  exact hs
theorem mix_go {M : Int} {P : List Spn} {k : Nat} {s : Spn} (hs : P[k]? = some s) : mixL M P (k + 1) = (mixL M P k).set k (clipS M s) := by
  obtain ⟨hk, e⟩ := List.getElem?_eq_some_iff.1 hs
  unfold mixL
  rw [List.take_succ_eq_append_getElem hk, List.map_append, List.set_append_right _ _ (by simp; omega)]
  simp only [List.length_map, List.length_take]
  rw [show k - min k P.length = 0 by omega, List.drop_eq_getElem_cons hk, List.set_cons_zero, e]
  simp
theorem spCells_set : ∀ (l : List Spn) (k : Nat) (s : Spn), k < l.length → ((spCells l).set (k * 2) (.int .i64 s.lo)).set (k * 2 + 1) (.int .i64 s.hi) = spCells (l.set k s)
  | [], k, s, h => by simp at h
  | x :: r, 0, s, h => rfl
  | x :: r, k + 1, s, h => by
    have ih := spCells_set r k s (by simpa using h)
    have e : spCells (x :: r) = .int .i64 x.lo :: .int .i64 x.hi :: spCells r := rfl
    have e2 : spCells ((x :: r).set (k + 1) s) = .int .i64 x.lo :: .int .i64 x.hi :: spCells (r.set k s) := rfl
    rw [e, e2, show (k + 1) * 2 + 1 = (k * 2 + 1) + 2 by omega, show (k + 1) * 2 = k * 2 + 2 by omega]
    simp only [List.set_cons_succ]
    rw [ih]
theorem spCells_set1 : ∀ (l : List Spn) (k : Nat) (s t : Spn), l[k]? = some t → t.lo = s.lo → (spCells l).set (k * 2 + 1) (.int .i64 s.hi) = spCells (l.set k s)
  | [], k, s, t, h, _ => by simp at h
  | x :: r, 0, s, t, h, h2 => by
    simp at h
    subst h
    show Value.int .i64 x.lo :: Value.int .i64 s.hi :: spCells r = Value.int .i64 s.lo :: Value.int .i64 s.hi :: spCells r
    rw [h2]
  | x :: r, k + 1, s, t, h, h2 => by
    have ih := spCells_set1 r k s t (by simpa using h) h2
    have e : spCells (x :: r) = .int .i64 x.lo :: .int .i64 x.hi :: spCells r := rfl
    have e2 : spCells ((x :: r).set (k + 1) s) = .int .i64 x.lo :: .int .i64 x.hi :: spCells (r.set k s) := rfl
    rw [e, e2, show (k + 1) * 2 + 1 = (k * 2 + 1) + 2 by omega]
    simp only [List.set_cons_succ]
    rw [ih]

/-- The merging of sorted spans under way: out from the first k of D. -/
structure Mrg (M : Int) (D out : List Spn) (k : Nat) : Prop where
  ok : okL M 0 out
  any : ∀ m, anyS out m = anyS (D.take k) m
  low : ∀ x, out.getLast? = some x → ∀ s ∈ D.drop k, x.lo ≤ s.lo
  len : out.length ≤ k
theorem mrg_start (M : Int) (D : List Spn) : Mrg M D [] 0 := ⟨trivial, fun m => by simp [anyS], fun x h => by simp at h, Nat.le_refl _⟩
theorem drop_mem {D : List Spn} {k : Nat} {s : Spn} (hs : D[k]? = some s) : s ∈ D.drop k ∧ ∀ t ∈ D.drop (k + 1), t ∈ D.drop k := by
  obtain ⟨hk, e⟩ := List.getElem?_eq_some_iff.1 hs
  rw [List.drop_eq_getElem_cons hk, e]
  exact ⟨by simp, fun t ht => by simp [ht]⟩
theorem take_any {D : List Spn} {k : Nat} {s : Spn} (hs : D[k]? = some s) (m : Int) : anyS (D.take (k + 1)) m = (anyS (D.take k) m || inS s m) := by
  obtain ⟨hk, e⟩ := List.getElem?_eq_some_iff.1 hs
  rw [List.take_succ_eq_append_getElem hk, anyS_append, e]
  simp [anyS]
theorem sorted_drop {D : List Spn} {k : Nat} {s : Spn} (h : sortedS D) (hs : D[k]? = some s) : ∀ t ∈ D.drop (k + 1), s.lo ≤ t.lo := fun t ht => by
  obtain ⟨j, hj, e⟩ := List.getElem_of_mem ht
  have h2 : D[k + 1 + j]? = some t := by rw [← List.getElem?_drop, List.getElem?_eq_getElem hj, e]
  exact h k (k + 1 + j) s t (by omega) hs h2
theorem mrg_append {M : Int} {D out : List Spn} {k : Nat} {s : Spn} (h : Mrg M D out k) (hD : sortedS D) (hG : good M D) (hs : D[k]? = some s) (hl : ∀ x, out.getLast? = some x → x.hi + 1 < s.lo) : Mrg M D (out ++ [s]) (k + 1) := by
  have hg := hG s (List.mem_of_getElem? hs)
  refine ⟨?_, fun m => ?_, fun x hx => ?_, ?_⟩
  · rw [okL_snoc]
    refine ⟨h.ok, ?_, hg.2.1, hg.2.2⟩
    rcases List.eq_nil_or_concat out with rfl | ⟨i, x, rfl⟩
    · exact hg.1
    · rw [List.concat_eq_append, nxt_snoc]
      have := hl x (by simp)
      omega
  · rw [anyS_append, h.any, take_any hs]
    simp [anyS]
  · simp at hx
    subst hx
    exact sorted_drop hD hs
  · have := h.len; simp; omega
theorem mrg_grow {M : Int} {D i : List Spn} {x : Spn} {k : Nat} {s : Spn} (h : Mrg M D (i ++ [x]) k) (hD : sortedS D) (hG : good M D) (hs : D[k]? = some s) (hl : s.lo ≤ x.hi + 1) : Mrg M D (i ++ [⟨x.lo, max x.hi s.hi⟩]) (k + 1) := by
  have hg := hG s (List.mem_of_getElem? hs)
  have hx := (okL_snoc x i 0).1 h.ok
  have hlo := h.low x (by simp) s (drop_mem hs).1
  refine ⟨?_, fun m => ?_, fun y hy => ?_, ?_⟩
  · rw [okL_snoc]
    exact ⟨hx.1, hx.2.1, by simp only; omega, by simp only; omega⟩
  · have ha := h.any m
    rw [take_any hs, ← ha, anyS_append, anyS_append, Bool.or_assoc]
    congr 1
    simp only [anyS, List.any_cons, List.any_nil, Bool.or_false]
    rw [Bool.eq_iff_iff, Bool.or_eq_true, inS_iff, inS_iff, inS_iff]
    simp only
    omega
  · simp at hy
    subst hy
    exact fun t ht => h.low x (by simp) t ((drop_mem hs).2 t ht)
  · have := h.len; simp at this ⊢; omega
end Go.Proofs.YtepbmnpjpkmmfaaGreatDoor

/- Contract of the program of layer 5: Normal, the walk. -/
namespace Go.Proofs.YtepbmnpjpkmmfaaGreatDoor
open Go.ChangeShapes Go.WideShapes Go.ChangeAt Go.RowKit
set_option linter.unusedVariables false

/-- The sort at whatever length: a sorted permutation. -/
theorem psort_all (A : Option Addr) (cap base : Nat) (D : List Spn) (w : World) (hown : w.ownsRow base 34 2 (.slice A D.length cap) D.length (spCells D)) (hl : D.length ≤ 1000000) :
    Calls Tryz.prog 67 #[.slice A D.length cap, .func (.func 68) #[] #[]] w fun e w' => e = .returned (.tuple #[]) ∧ ∃ D' : List Spn, D'.Perm D ∧ sortedS D' ∧ SpL w' A D' ∧ Below base w w' := by
  by_cases h0 : D.length = 0
  · obtain rfl : D = [] := List.eq_nil_of_length_eq_zero h0
    refine (psort_nil A cap _ w).mono ?_
    rintro e w' ⟨rfl, rfl⟩
    exact ⟨rfl, [], List.Perm.refl _, fun i j s t _ h => by simp at h, fun h => by simp at h, Below.refl _ _⟩
  · obtain ⟨g, c, hf, _, _⟩ := World.ownsRow.form hown (by omega)
    obtain ⟨rfl, rfl⟩ : A = some ⟨g, 0, none⟩ ∧ cap = c := by simpa using hf
    exact psort_any g cap base D w hown hl
theorem perm_any5 {a b : List Spn} (h : a.Perm b) (m : Int) : anyS a m = anyS b m := by
  unfold anyS
  rw [Bool.eq_iff_iff, List.any_eq_true, List.any_eq_true]
  exact ⟨fun ⟨x, hx, h2⟩ => ⟨x, h.mem_iff.1 hx, h2⟩, fun ⟨x, hx, h2⟩ => ⟨x, h.mem_iff.2 hx, h2⟩⟩

set_option maxHeartbeats 400000 in
set_option maxRecDepth 20000 in
theorem pnormal_any (A : Option Addr) (cap : Nat) (l : List Spn) (w : World) (h : SpL w A l) (hl : l.length ≤ 1000000) :
    Calls Tryz.prog 51 #[.slice A l.length cap] w (SetP w (memS 4294967296 l) l.length) := by
  have HSEL := Lib.hid (psel_any A cap l w h hl)
  have HFL := Lib.hid (show (l.filter (hasN 4294967296)).length ≤ l.length from List.length_filter_le _ _)
  have HCA := Lib.hid (clip_any 4294967296 l)
  have HCG := Lib.hid (clip_good 4294967296 (by decide) l)
  obtain ⟨n, hn⟩ : ∃ n, n = l.length := ⟨_, rfl⟩
  have hn6 : n ≤ 1000000 := by omega
  rw [← hn] at HSEL HFL ⊢
  generalize l.filter (hasN 4294967296) = P at *
  obtain ⟨np, hnp⟩ : ∃ n, n = P.length := ⟨_, rfl⟩
  have hnpn : np ≤ n := by have := HFL.out; omega
  rw [← hnp] at HSEL
  have HNP := Lib.hid hnp
  obtain ⟨i0, hinf, hz0, hz1, hz2⟩ := info_parts info_span
  clear h hl hn HFL hnp
  go_enter Tryz.func51, Tryz.ntmps51
  go_wp2_with fail
  refine HSEL.out.mono ?_
  rintro e w1 ⟨AP, cP, rfl, hown, hb⟩
  have HO := Lib.hid (show w1.ownsRow w.heap.size 34 2 (.slice AP np cP) np (spCells (mixL 4294967296 P 0)) by rw [mix_zero]; exact hown)
  have HB := Lib.hid hb
  clear hown hb HSEL
  go_wp2_with fail
  go_loopw [14] (fun v14 wr => ∃ k : Nat, k ≤ np ∧ v14 = .int .i64 k ∧ Hid (Below w.heap.size w wr) ∧ Hid (wr.ownsRow w.heap.size 34 2 (.slice AP np cP) np (spCells (mixL 4294967296 P k)))) (fun v14 _ => np - (intOf v14).toNat)
  case atStart => exact ⟨0, by omega, rfl, HB, HO⟩
  case round =>
    clear HB HO
    obtain ⟨k, hk, rfl, HB, HO⟩ := hrel
    by_cases hlt : k < np
    · obtain ⟨s, hget⟩ : ∃ s, P[k]? = some s := ⟨P[k]'(by have := HNP.out; omega), List.getElem?_eq_getElem _⟩
      obtain ⟨g, c, hf, hwg, hgl⟩ := World.ownsRow.form HO.out (by omega)
      obtain ⟨rfl, rfl⟩ : AP = some ⟨g, 0, none⟩ ∧ cP = c := by simpa using hf
      have hki : (k : Int) < (np : Int) := by omega
      have hki0 : (0 : Int) ≤ (k : Int) := by omega
      have hmg := spCells_get _ k s (mix_get (M := 4294967296) hget)
      have c0 : wr.cell? ⟨g, k * 2, none⟩ = some (.int .i64 s.lo) := (HO.out.cellAt (k * 2) (by omega)).trans hmg.1
      have c1 : wr.cell? ⟨g, k * 2 + 1, none⟩ = some (.int .i64 s.hi) := (HO.out.cellAt (k * 2 + 1) (by omega)).trans hmg.2
      have f0 := HO.out.frozenAt (k * 2)
      have f1 := HO.out.frozenAt (k * 2 + 1)
      have hgo := mix_go (M := 4294967296) hget
      have hsc := spCells_set (mixL 4294967296 P k) k (clipS 4294967296 s) (by rw [mix_len]; have := HNP.out; omega)
      rw [← hgo] at hsc
      obtain ⟨slo, shi⟩ := s
      simp only [clipS] at c0 c1 hsc
      have ho2 := ((HO.out.stored (k * 2) (.int .i64 (max slo 0))).1.stored (k * 2 + 1) (.int .i64 (min shi 4294967296))).1
      rw [hsc] at ho2
      have hB2 := (HB.out.setCell (p := ⟨g, k * 2, none⟩) hwg (.int .i64 (max slo 0))).setCell (p := ⟨g, k * 2 + 1, none⟩) hwg (.int .i64 (min shi 4294967296))
      have HO2 := Lib.hid (ho2.alloc (.cells #[.int .i64 slo, .int .i64 shi] 34))
      have HB2 := Lib.hid (hB2.alloc hB2.size (.cells #[.int .i64 slo, .int .i64 shi] 34))
      clear hget hf hmg hgo hsc ho2 hB2
      go_wp2_with fail
      go_roundw
      case rel => exact ⟨k + 1, by omega, by go_num, HB2, HO2⟩
      case measure => simp [intOf]; omega
    · have hkn : k = P.length := by have := HNP.out; omega
      obtain ⟨D, hD⟩ : ∃ D, D = P.map (clipS 4294967296) := ⟨_, rfl⟩
      have hDl : np = D.length := by rw [hD, List.length_map]; exact HNP.out
      have ho := HO.out
      rw [hkn, mix_all, ← hD, hDl] at ho
      have HSO := Lib.hid (psort_all AP cP w.heap.size D wr ho (by omega))
      rw [← hDl] at HSO
      rw [← hD] at HCA HCG
      have HDL := Lib.hid hDl
      have hd : decide ((k : Int) < (np : Int)) = false := by simp; omega
      clear hkn hD hDl ho HO HNP
      go_wp2_with fail
      refine HSO.out.mono ?_
      rintro e w6 ⟨rfl, D', hperm, hsort, hsp, hb6⟩
      have HS := Lib.hid hsp
      have HSRT := Lib.hid hsort
      have HG := Lib.hid (show good 4294967296 D' from fun s hs => HCG.out s (hperm.mem_iff.1 hs))
      have HA := Lib.hid (show ∀ m, anyS D' m = memS 4294967296 l m from fun m => (perm_any5 hperm m).trans (HCA.out m))
      have HN := Lib.hid (show np = D'.length by rw [HDL.out]; exact hperm.length_eq.symm)
      have HB6 := Lib.hid (HB.out.trans hb6)
      clear hperm hsort hsp hb6 HSO HB HCA HCG HDL
      go_wp2_with fail
      have HO := Lib.hid (World.ownsRow_nil w6 w6.heap.size 34 2)
      have HB := Lib.hid (Below.refl w6.heap.size w6)
      have HM := Lib.hid (mrg_start 4294967296 D')
      go_loopw [6, 34] (fun v6 v34 wr => ∃ k cap' : Nat, ∃ A' : Option Addr, ∃ out : List Spn, k ≤ np ∧ out.length ≤ k ∧ v34 = .int .i64 k ∧ v6 = .slice A' out.length cap' ∧ Hid (Mrg 4294967296 D' out k) ∧ Hid (Below w6.heap.size w6 wr) ∧ Hid (wr.ownsRow w6.heap.size 34 2 (.slice A' out.length cap') out.length (spCells out))) (fun _ v34 _ => np - (intOf v34).toNat)
      case atStart => exact ⟨0, 0, none, [], by omega, Nat.le_refl _, rfl, rfl, HM, HB, HO⟩
      case round =>
        clear HM HB HO hd hlt
        obtain ⟨k, cap', A', out, hk, hok, rfl, rfl, HM, HB, HO⟩ := hrel
        by_cases hlt : k < np
        · obtain ⟨s, hget⟩ : ∃ s, D'[k]? = some s := ⟨D'[k]'(by have := HN.out; omega), List.getElem?_eq_getElem _⟩
          obtain ⟨g, o, rfl, hg, hc⟩ := HS.out (by have := HN.out; omega)
          have hki : (k : Int) < (np : Int) := by omega
          have hki0 : (0 : Int) ≤ (k : Int) := by omega
          obtain ⟨c0, c1⟩ := HS.out.at_ hget HB.out
          have hgs := HG.out s (List.mem_of_getElem? hget)
          have HGET := Lib.hid hget
          have HSN := Lib.hid (spCells_snoc out s)
          obtain ⟨M, hM⟩ : ∃ M, M = out ++ [s] := ⟨_, rfl⟩
          rw [← hM] at HSN
          have hMl : out.length + 1 = M.length := by rw [hM]; simp
          have HAP := Lib.hid (show (∀ x, out.getLast? = some x → x.hi + 1 < s.lo) → Mrg 4294967296 D' M (k + 1) from fun h => by rw [hM]; exact mrg_append HM.out HSRT.out HG.out hget h)
          obtain ⟨p, r⟩ := s
          simp only at c0 c1 hgs HAP
          unfold spC at HSN
          simp only at HSN
          have hx5 := sb2_new wr p r
          have HB5 := Lib.hid (HB.out.alloc HB.out.size (.cells #[.int .i64 p, .int .i64 r] 34))
          have HO5 := Lib.hid (HO.out.alloc (.cells #[.int .i64 p, .int .i64 r] 34))
          have HX5 := Lib.hid hx5
          clear hget hM hc hx5
          obtain ⟨bn, hbn⟩ : ∃ bn, bn = wr.heap.size := ⟨_, rfl⟩
          have HBN := Lib.hid hbn
          obtain ⟨ol, hol⟩ : ∃ ol, ol = out.length := ⟨_, rfl⟩
          rw [← hol] at HO5 hMl hok ⊢
          have HOL := Lib.hid hol
          clear hbn hol
          rcases List.eq_nil_or_concat out with hout | ⟨I, x, hout⟩
          · have HM2 := Lib.hid (HAP.out (fun x h => by rw [hout] at h; simp at h))
            obtain rfl : ol = 0 := by rw [HOL.out, hout]; rfl
            have HML := Lib.hid hMl
            clear HAP HM HB HO hout hMl hok
            go_wp2_with fail
            rw [← HBN.out] at HX5 ⊢
            generalize wr.alloc (.cells #[.int .i64 p, .int .i64 r] 34) = W1 at *
            go_quiet (fail)
            have HX2 := Lib.hid (show SB2 (W1.drewN nq) bn p r from HX5.out)
            have HO2 := Lib.hid (show (W1.drewN nq).ownsRow w6.heap.size 34 2 (.slice A' 0 cap') 0 (spCells out) from HO5.out)
            have HB2 := Lib.hid (below_drewN5 HB5.out nq)
            clear HX5 HO5 HB5 c0 c1
            generalize W1.drewN nq = W2 at *
            have e0 := HX2.out.c0
            have e1 := HX2.out.c1
            have hsz := HB2.out.size
            go_wp2_with (at_builtin; refine wpList_append_lies _ rfl _ _ 23 rfl w6.heap.size 34 i0 (.agg #[.int .i64 0, .int .i64 0]) 2 16 Tryz.underlying23 hinf hz0 hz1 hz2 rfl (by omega) _ 0 (spCells out) rfl (HO2.out.alloc _) ⟨W2.heap.size, 0, none⟩ 1 1 [.int .i64 p, .int .i64 r] rfl rfl ?c1 ?c2 (by omega) ?c3 ?c4 ?c5 _ rfl ?_)
            case c1 => exact World.news_of_block (cs := #[.int .i64 p, .int .i64 r]) (t := 34) (fr := (0, 0)) (heap_alloc_new W2 _)
            case c2 => simp [Value.oneCell']
            case c3 => unfold maxLen; omega
            case c4 => omega
            case c5 => simp; omega
            intro g2 cap2 w7 hown7 hgrow hat hlt2
            have hB7 := (HB2.out.alloc hsz (.cells #[.int .i64 p, .int .i64 r] 34)).grown hgrow (by simp; omega) (fun j hj => (HO2.out.lt j hj).1)
            rw [← HSN.out] at hown7
            have hM1 := HML.out.symm
            have hown7 : w7.ownsRow w6.heap.size 34 2 (.slice (some ⟨g2, 0, none⟩) M.length cap2) M.length (spCells M) := by rw [hM1]; exact hown7
            clear hM1
            have HB7 := Lib.hid hB7
            have HO7 := Lib.hid hown7
            clear hB7 hown7 hgrow hat hlt2 HX2 HB2 HO2 e0 e1 hsz
            go_wp2_with fail
            go_roundw
            case rel => exact ⟨k + 1, cap2, some ⟨g2, 0, none⟩, M, by omega, by have := HML.out; omega, by go_num, congrArg (fun n => Value.slice (some ⟨g2, 0, none⟩) n cap2) HML.out, HM2, HB7, HO7⟩
            case measure => simp [intOf]; omega
          · rw [List.concat_eq_append] at hout
            obtain ⟨q, hq⟩ : ∃ q, q = I.length := ⟨_, rfl⟩
            have hqo : q + 1 = ol := by rw [HOL.out, hout, hq]; simp
            obtain ⟨gs, cg, hf, hwg, hgl⟩ := World.ownsRow.form HO.out (by have := HOL.out; omega)
            obtain ⟨rfl, rfl⟩ : A' = some ⟨gs, 0, none⟩ ∧ cap' = cg := by simpa [← HOL.out] using hf
            have hgetx : out[q]? = some x := by rw [hout, hq]; simp
            have hxc := spCells_get out q x hgetx
            have y1 : wr.cell? ⟨gs, q * 2 + 1, none⟩ = some (.int .i64 x.hi) := (HO.out.cellAt (q * 2 + 1) (by have := HOL.out; omega)).trans hxc.2
            have yf := HO.out.frozenAt (q * 2 + 1)
            have hmok := HM.out.ok
            rw [hout] at hmok
            have hxg := ((okL_snoc x I 0).1 hmok).2
            have HAP2 := Lib.hid (show x.hi + 1 < p → Mrg 4294967296 D' M (k + 1) from fun h => HAP.out (fun y hy => by rw [hout] at hy; simp at hy; subst hy; exact h))
            have HGR := Lib.hid (show p ≤ x.hi + 1 → Mrg 4294967296 D' (out.set q ⟨x.lo, max x.hi r⟩) (k + 1) from fun h => by
              have hm := HM.out
              rw [hout] at hm ⊢
              rw [hq, List.set_append_right _ _ (Nat.le_refl _), Nat.sub_self, List.set_cons_zero]
              exact mrg_grow hm HSRT.out HG.out HGET.out h)
            have hst := spCells_set1 out q ⟨x.lo, max x.hi r⟩ x hgetx rfl
            have hox := HO5.out.stored (q * 2 + 1) (.int .i64 (max x.hi r))
            simp only at hst
            rw [hst] at hox
            have HST := Lib.hid (fun (W : World) (h : W.ownsRow w6.heap.size 34 2 (.slice (some ⟨gs, 0, none⟩) ol cap') ol (spCells out)) => show (W.setCell ⟨gs, q * 2 + 1, none⟩ (.int .i64 (max x.hi r))).ownsRow w6.heap.size 34 2 (.slice (some ⟨gs, 0, none⟩) ol cap') ol (spCells (out.set q ⟨x.lo, max x.hi r⟩)) from by rw [← hst]; exact (h.stored (q * 2 + 1) (.int .i64 (max x.hi r))).1)
            have HSL := Lib.hid (show (out.set q ⟨x.lo, max x.hi r⟩).length = ol by rw [List.length_set, HOL.out])
            have HQO := Lib.hid hqo
            have hqi : (ol : Int) - 1 = (q : Int) := by omega
            have hq0 : (0 : Int) ≤ (q : Int) := by omega
            have dq : decide ((0 : Int) ≤ (q : Int)) = true := by simp
            have hqlt : (q : Int) < (ol : Int) := by omega
            have hxb : 0 ≤ x.hi ∧ x.hi ≤ 4294967296 := by
              have := nxt_pos (Int.le_refl 0) ((okL_snoc x I 0).1 hmok).1
              omega
            have hw1 : IntKind.i64.wrap (x.hi + 1) = x.hi + 1 := IntWalk.i64_in _ (by omega)
            have HWG := Lib.hid hwg
            clear hout hq hf hgetx hxc hmok hxg hst hox HAP HM hqo hwg
            generalize x.hi = xh at *
            generalize out.set q ⟨x.lo, max xh r⟩ = N at *
            clear x
            have hgl2 : gs < wr.heap.size := hgl
            by_cases h1 : p ≤ xh + 1
            · have d1 : decide (p ≤ xh + 1) = true := by simpa using h1
              have HM2 := Lib.hid (HGR.out h1)
              clear HGR HAP2 HO
              go_wp2_with fail
              rw [← HBN.out] at HX5 ⊢
              have y2 : (wr.alloc (.cells #[.int .i64 p, .int .i64 r] 34)).cell? ⟨gs, q * 2 + 1, none⟩ = some (.int .i64 xh) := ((below_alloc5 wr _).cell (p := ⟨gs, q * 2 + 1, none⟩) hgl2).trans y1
              have yf2 : (wr.alloc (.cells #[.int .i64 p, .int .i64 r] 34)).frozen? ⟨gs, q * 2 + 1, none⟩ = false := ((below_alloc5 wr _).frozen (p := ⟨gs, q * 2 + 1, none⟩) hgl2).trans yf
              have hbg : bn ≠ gs := by have := HBN.out; omega
              generalize wr.alloc (.cells #[.int .i64 p, .int .i64 r] 34) = W1 at *
              have e0 := HX5.out.c0
              have e1 := HX5.out.c1
              clear y1 yf c0 c1
              go_quiet (fail)
              have HX2 := Lib.hid (show SB2 (W1.drewN nq) bn p r from HX5.out)
              have HO2 := Lib.hid (show (W1.drewN nq).ownsRow w6.heap.size 34 2 (.slice (some ⟨gs, 0, none⟩) ol cap') ol (spCells out) from HO5.out)
              have HB2 := Lib.hid (below_drewN5 HB5.out nq)
              have y1 : (W1.drewN nq).cell? ⟨gs, q * 2 + 1, none⟩ = some (.int .i64 xh) := y2
              have yf : (W1.drewN nq).frozen? ⟨gs, q * 2 + 1, none⟩ = false := yf2
              clear HX5 HO5 HB5 e0 e1 y2 yf2
              generalize W1.drewN nq = W2 at *
              have e0 := HX2.out.c0
              have e1 := HX2.out.c1
              go_wp2_with fail
              go_region
              all_goals
                have HB3 := Lib.hid ((HB2.out.setCell (p := ⟨gs, q * 2 + 1, none⟩) HWG.out (.int .i64 (max xh r))).drew)
                have HO3 := Lib.hid (show ((W2.setCell ⟨gs, q * 2 + 1, none⟩ (.int .i64 (max xh r))).drew).ownsRow w6.heap.size 34 2 (.slice (some ⟨gs, 0, none⟩) N.length cap') N.length (spCells N) from by rw [HSL.out]; exact HST.out W2 HO2.out)
                clear HB2 HO2 HX2 e0 e1 y1 yf
                generalize (W2.setCell ⟨gs, q * 2 + 1, none⟩ (.int .i64 (max xh r))).drew = W3 at *
                go_wp2_with fail
                go_roundw
                case rel => exact ⟨k + 1, cap', some ⟨gs, 0, none⟩, N, by omega, by rw [HSL.out]; omega, by go_num, congrArg (fun n => Value.slice (some ⟨gs, 0, none⟩) n cap') HSL.out.symm, HM2, HB3, HO3⟩
                case measure => simp [intOf]; omega
            · have d1 : decide (p ≤ xh + 1) = false := by simpa using h1
              have HM2 := Lib.hid (HAP2.out (by omega))
              clear HGR HAP2 HO
              go_wp2_with fail
              rw [← HBN.out] at HX5 ⊢
              have y2 : (wr.alloc (.cells #[.int .i64 p, .int .i64 r] 34)).cell? ⟨gs, q * 2 + 1, none⟩ = some (.int .i64 xh) := ((below_alloc5 wr _).cell (p := ⟨gs, q * 2 + 1, none⟩) hgl2).trans y1
              have yf2 : (wr.alloc (.cells #[.int .i64 p, .int .i64 r] 34)).frozen? ⟨gs, q * 2 + 1, none⟩ = false := ((below_alloc5 wr _).frozen (p := ⟨gs, q * 2 + 1, none⟩) hgl2).trans yf
              have hbg : bn ≠ gs := by have := HBN.out; omega
              generalize wr.alloc (.cells #[.int .i64 p, .int .i64 r] 34) = W1 at *
              have e0 := HX5.out.c0
              have e1 := HX5.out.c1
              clear y1 yf c0 c1
              go_quiet (fail)
              have HX2 := Lib.hid (show SB2 (W1.drewN nq) bn p r from HX5.out)
              have HO2 := Lib.hid (show (W1.drewN nq).ownsRow w6.heap.size 34 2 (.slice (some ⟨gs, 0, none⟩) ol cap') ol (spCells out) from HO5.out)
              have HB2 := Lib.hid (below_drewN5 HB5.out nq)
              have y1 : (W1.drewN nq).cell? ⟨gs, q * 2 + 1, none⟩ = some (.int .i64 xh) := y2
              have yf : (W1.drewN nq).frozen? ⟨gs, q * 2 + 1, none⟩ = false := yf2
              clear HX5 HO5 HB5 e0 e1 y2 yf2
              generalize W1.drewN nq = W2 at *
              have e0 := HX2.out.c0
              have e1 := HX2.out.c1
              have hsz := HB2.out.size
              go_wp2_with (at_builtin; refine wpList_append_lies _ rfl _ _ 23 rfl w6.heap.size 34 i0 (.agg #[.int .i64 0, .int .i64 0]) 2 16 Tryz.underlying23 hinf hz0 hz1 hz2 rfl (by omega) _ ol (spCells out) rfl (HO2.out.alloc _) ⟨W2.heap.size, 0, none⟩ 1 1 [.int .i64 p, .int .i64 r] rfl rfl ?c1 ?c2 (by omega) ?c3 ?c4 ?c5 _ rfl ?_)
              case c1 => exact World.news_of_block (cs := #[.int .i64 p, .int .i64 r]) (t := 34) (fr := (0, 0)) (heap_alloc_new W2 _)
              case c2 => simp [Value.oneCell']
              case c3 => unfold maxLen; omega
              case c4 => omega
              case c5 => simp; omega
              intro g2 cap2 w7 hown7 hgrow hat hlt2
              have hB7 := (HB2.out.alloc hsz (.cells #[.int .i64 p, .int .i64 r] 34)).grown hgrow (by simp; omega) (fun j hj => (HO2.out.lt j hj).1)
              rw [← HSN.out] at hown7
              try rw [hMl] at hown7
              try rw [hMl]
              have HB7 := Lib.hid hB7
              have HO7 := Lib.hid hown7
              clear hB7 hown7 hgrow hat hlt2 HX2 HB2 HO2 e0 e1 hsz y1 yf
              go_wp2_with fail
              go_roundw
              case rel => exact ⟨k + 1, cap2, some ⟨g2, 0, none⟩, M, by omega, by omega, by go_num, rfl, HM2, HB7, HO7⟩
              case measure => simp [intOf]; omega
        · have hkn : k = D'.length := by have := HN.out; omega
          have hm := HM.out
          have HF := Lib.hid (show okL 4294967296 0 out ∧ (∀ m, anyS out m = memS 4294967296 l m) ∧ out.length ≤ n from ⟨hm.ok, fun m => by rw [hm.any, hkn, List.take_length, HA.out], by omega⟩)
          have HB9 := Lib.hid (HB6.out.trans (HB.out.mono HB6.out.size))
          have HO9 := Lib.hid (own_mono5 HO.out HB6.out.size)
          have hd : decide ((k : Int) < (np : Int)) = false := by simp; omega
          clear hkn hm HM HB HO
          go_wp2_with fail
          go_ret
          exact ⟨out, A', cap', HF.out.1, HF.out.2.1, HF.out.2.2, rfl, HO9.out, HB9.out⟩
end Go.Proofs.YtepbmnpjpkmmfaaGreatDoor

/- Contract of the program of layer 5: combine, Union, Intersect, Minus, Complement, Subset. -/
namespace Go.Proofs.YtepbmnpjpkmmfaaGreatDoor
open Go.ChangeShapes Go.WideShapes Go.ChangeAt Go.RowKit
set_option linter.unusedVariables false

/-- A follower of the set l under way, asked for numbers from q on. -/
def Fol (w0 wr : World) (b : Nat) (l : List Spn) (q : Int) : Prop :=
  ∃ A cap, ∃ R : List Spn, FB wr b A R.length cap ∧ SpL w0 A R ∧ R.length ≤ cap ∧ cap ≤ maxLen ∧ okL 4294967296 0 R ∧ R.length ≤ 1000000 ∧ ∀ m, q ≤ m → anyS R m = anyS l m
theorem Fol.only {w0 w w' : World} {b : Nat} {l : List Spn} {q : Int} {row : Option Nat} (h : Fol w0 w b l q) (hg : w.grownBy w' row) (hne : some b ≠ row) : Fol w0 w' b l q := by
  obtain ⟨A, cap, R, h1, h2⟩ := h
  exact ⟨A, cap, R, h1.only hg hne, h2⟩
theorem Fol.lt {w0 w : World} {b : Nat} {l : List Spn} {q : Int} (h : Fol w0 w b l q) : b < w.heap.size := by
  obtain ⟨A, cap, R, h1, h2⟩ := h
  exact h1.lt
theorem dropB_len (n : Int) : ∀ l : List Spn, (dropB l n).length ≤ l.length
  | [] => Nat.le_refl _
  | s :: r => by
    rw [dropB]
    split
    · have := dropB_len n r; simp; omega
    · exact Nat.le_refl _
theorem pfol_go {w0 w : World} {b : Nat} {l : List Spn} {q n : Int} (h : Fol w0 w b l q) (hq : q ≤ n) (hB0 : Below w0.heap.size w0 w) (hb0 : w0.heap.size ≤ b) :
    Calls Tryz.prog 75 #[.int .i64 n, .pointer (some ⟨b, 0, none⟩)] w fun e w' => e = .returned (.bool (anyS l n)) ∧ Fol w0 w' b l n ∧ w.grownBy w' (some b) ∧ Below w0.heap.size w0 w' := by
  obtain ⟨A, cap, R, h1, h2, h3, h4, h5, h6, h7⟩ := h
  refine (pfol_any A cap b R 0 n w0 w h1 h2 hB0 hb0 h5 h6 h3 h4).mono ?_
  rintro e w' ⟨A', cap', g1, g2, g3, g4, rfl, g5, g6⟩
  exact ⟨by rw [h7 n hq], ⟨A', cap', dropB R n, g1, g2, g3, g4, dropB_ok n R 0 h5, Nat.le_trans (dropB_len n R) h6, fun m hm => (dropB_any n R m hm).trans (h7 m (by omega))⟩, g5, g6⟩
theorem InL.only {base : Nat} {w w' : World} {A : Option Addr} {l : List Int} {row : Option Nat} (h : InL base w A l) (hg : w.grownBy w' row) (hne : ∀ r, row = some r → ∀ g, A = some ⟨g, 0, none⟩ → g ≠ r) : InL base w' A l := fun hp => by
  obtain ⟨g, e, h0, h1, hc⟩ := h hp
  have hB := hg.block g h1 (fun e2 => hne g e2.symm g e rfl)
  refine ⟨g, e, h0, Nat.lt_of_lt_of_le h1 hg.size, fun i x hi => ?_⟩
  rw [World.cell?_of_block (w := w) (w' := w') (a := ⟨g, i, none⟩) hB]
  exact hc i x hi
theorem own_cap5 {w : World} {base n cap : Nat} {A : Option Addr} {xs : List Value} (h : w.ownsRow base 34 2 (.slice A n cap) n xs) : n ≤ cap ∧ cap ≤ maxLen := by
  rcases h.2 with ⟨h1, h2⟩ | ⟨g, c, cur, h1, _, _, h2, h3, _⟩
  · cases h1; exact ⟨Nat.le_refl _, Nat.zero_le _⟩
  · cases h1; exact ⟨h2, h3⟩

theorem grownBy_alloc (w : World) (o : Obj) (row : Option Nat) : w.grownBy (w.alloc o) row := ⟨rfl, rfl, rfl, by simp, fun b hb _ => heap_alloc_lt w o hb⟩
theorem below_grown5 {B : Nat} {w0 w w' : World} {row : Option Nat} (h : Below B w0 w) (hB : B ≤ w.heap.size) (hg : w.grownBy w' row) (hne : ∀ r, row = some r → B ≤ r) : Below B w0 w' :=
  h.grown hg hB (fun j hj => hne j hj)
/-- All that combine knows of the two sets and of their edges. -/
structure Two5 (bel : Bool → Bool → Bool) (X Y : List Spn) (ES : List Int) (f : Int → Bool) : Prop where
  srt : ES.Pairwise (fun x y => x ≤ y)
  rng : ∀ e ∈ ES, 0 ≤ e ∧ e ≤ 4294967297
  con : ∀ q m, q ≤ m → (∀ e ∈ ES, e ≤ q ∨ m < e) → f m = f q
  fin : ∀ q m, q ≤ m → (∀ e ∈ ES, e ≤ q) → f m = false
  low : ∀ m, m < 0 → f m = false
  val : ∀ m, f m = bel (anyS X m) (anyS Y m)
theorem two5 {bel : Bool → Bool → Bool} (hbel : bel false false = false) {X Y : List Spn} (hX : okL 4294967296 0 X) (hY : okL 4294967296 0 Y) : Two5 bel X Y (edgesS X Y) (fun m => bel (anyS X m) (anyS Y m)) where
  srt := edges_sorted X Y
  rng e he := by
    rcases edges_mem.1 he with h | h
    · exact edg_range (okL_good hX) e h
    · exact edg_range (okL_good hY) e h
  con q m hq h := by
    show bel _ _ = bel _ _
    rw [edg_const hq (fun e he => h e (edges_mem.2 (.inl he))), edg_const (l := Y) hq (fun e he => h e (edges_mem.2 (.inr he)))]
  fin q m hq h := by
    show bel _ _ = _
    rw [edg_last hq (fun e he => h e (edges_mem.2 (.inl he))), edg_last (l := Y) hq (fun e he => h e (edges_mem.2 (.inr he))), hbel]
  low m hm := by
    have h1 : anyS X m = false := by
      cases ha : anyS X m with
      | false => rfl
      | true => have := okL_ge hX ha; omega
    have h2 : anyS Y m = false := by
      cases ha : anyS Y m with
      | false => rfl
      | true => have := okL_ge hY ha; omega
    show bel _ _ = _
    rw [h1, h2, hbel]
  val m := rfl

set_option maxHeartbeats 1000000 in
set_option maxRecDepth 20000 in
theorem pcombine_any (F : FuncId) (bel : Bool → Bool → Bool) (eg : ∀ args w, (callFunc F args).run Tryz.prog w = .ok (.enter F args) w) (hF : ∀ (x y : Bool) (W : World), Calls Tryz.prog F #[.bool x, .bool y] W fun e w' => e = .returned (.bool (bel x y)) ∧ w' = W) (hbel : bel false false = false)
    (A1 A2 : Option Addr) (c1 c2 : Nat) (a b : List Spn) (w : World) (h1 : SpL w A1 a) (h2 : SpL w A2 b) (hl1 : a.length ≤ 90000) (hl2 : b.length ≤ 90000) :
    Calls Tryz.prog 38 #[.slice A1 a.length c1, .slice A2 b.length c2, .func (.func F) #[] #[]] w (SetP w (fun m => bel (memS 4294967296 a m) (memS 4294967296 b m)) (2 * (a.length + b.length))) := by
  have HN1 := Lib.hid (pnormal_any A1 c1 a w h1 (by omega))
  have HN2 := Lib.hid (fun w1 (hb : Below w.heap.size w w1) => pnormal_any A2 c2 b w1 (h2.kept hb) (by omega))
  have HF := Lib.hid hF
  obtain ⟨la, hla⟩ : ∃ n, n = a.length := ⟨_, rfl⟩
  obtain ⟨lb, hlb⟩ : ∃ n, n = b.length := ⟨_, rfl⟩
  rw [← hla] at HN1 ⊢
  rw [← hlb] at HN2 ⊢
  have hs1 : la ≤ 90000 := by omega
  have hs2 : lb ≤ 90000 := by omega
  obtain ⟨i0, hinf, hz0, hz1, hz2⟩ := info_parts info_span
  clear h1 h2 hl1 hl2 hla hlb hF
  go_enter Tryz.func38, Tryz.ntmps38
  go_wp2_with fail
  refine HN1.out.mono ?_
  rintro e w1 ⟨X, Ax, cx, okx, anyx, lex, rfl, ownx, hb1⟩
  have HC2 := Lib.hid (HN2.out w1 hb1)
  have HX1 := Lib.hid (And.intro (spl_of_own ownx) (And.intro okx (And.intro anyx (own_cap5 ownx))))
  have HB1 := Lib.hid hb1
  obtain ⟨nx, hnx⟩ : ∃ n, n = X.length := ⟨_, rfl⟩
  have hnx9 : nx ≤ la := by omega
  rw [← hnx] at HX1 ⊢
  have HNX := Lib.hid hnx
  clear hnx lex okx anyx ownx hb1 HN1 HN2
  go_wp2_with fail
  refine HC2.out.mono ?_
  rintro e w2 ⟨Y, Ay, cy, oky, anyy, ley, rfl, owny, hb2⟩
  have HY := Lib.hid (And.intro (spl_of_own owny) (And.intro oky (And.intro anyy (own_cap5 owny))))
  have HX := Lib.hid (And.intro (HX1.out.1.kept hb2) HX1.out.2)
  have HB2 := Lib.hid (HB1.out.trans (hb2.mono HB1.out.size))
  obtain ⟨ny, hny⟩ : ∃ n, n = Y.length := ⟨_, rfl⟩
  have hny9 : ny ≤ lb := by omega
  rw [← hny] at HY ⊢
  have HNY := Lib.hid hny
  clear hny ley oky anyy owny hb2 HB1 HC2 HX1
  go_wp2_with fail
  refine (pfollower_any Ax nx cx w2).mono ?_
  rintro e w3 ⟨rfl, hw3⟩
  have HF3 := Lib.hid (show FB w3 w2.heap.size Ax nx cx by rw [hw3]; exact cells_new w2 _ _)
  have HB3 := Lib.hid (show Below w2.heap.size w2 w3 by rw [hw3]; exact below_alloc5 w2 _)
  obtain ⟨b1, hb1⟩ : ∃ b, b = w2.heap.size := ⟨_, rfl⟩
  have HB1E := Lib.hid hb1
  have hs3 : w3.heap.size = b1 + 1 := by rw [hw3, hb1]; simp
  have HS3 := Lib.hid hs3
  rw [← hb1] at HF3 ⊢
  clear hw3 hb1 hs3
  go_wp2_with fail
  refine (pfollower_any Ay ny cy w3).mono ?_
  rintro e w4 ⟨rfl, hw4⟩
  have HF4 := Lib.hid (show FB w4 w3.heap.size Ay ny cy by rw [hw4]; exact cells_new w3 _ _)
  have HF34 := Lib.hid (show FB w4 b1 Ax nx cx by rw [hw4]; exact (below_alloc5 w3 _).block b1 HF3.out.lt |>.trans HF3.out)
  have HB4 := Lib.hid (show Below w2.heap.size w2 w4 by rw [hw4]; exact HB3.out.alloc HB3.out.size _)
  obtain ⟨b2, hb2⟩ : ∃ b, b = w3.heap.size := ⟨_, rfl⟩
  have HB2E := Lib.hid (show b2 = b1 + 1 by rw [hb2]; exact HS3.out)
  have HS4 := Lib.hid (show w4.heap.size = b2 + 1 by rw [hw4, hb2]; simp)
  rw [← hb2] at HF4 ⊢
  clear hw4 hb2 HF3 HB3 HS3
  have HE := Lib.hid (pedges_any Ax Ay cx cy X Y w4 (by exact HX.out.1.kept HB4.out) (by exact HY.out.1.kept HB4.out) (okL_good HX.out.2.1) (okL_good HY.out.2.1) (by rw [← HNX.out]; omega) (by rw [← HNY.out]; omega))
  rw [← HNX.out, ← HNY.out] at HE
  go_wp2_with fail
  refine HE.out.mono ?_
  rintro e w5 ⟨AE, cE, rfl, hin, hb5⟩
  have HT := Lib.hid (two5 hbel HX.out.2.1 HY.out.2.1)
  have hesl : (edgesS X Y).length = 2 * (nx + ny) := by
    unfold edgesS
    rw [List.length_mergeSort, List.length_append, edgL_length, edgL_length, ← HNX.out, ← HNY.out]; omega
  obtain ⟨f, hf⟩ : ∃ f, f = (fun m => bel (anyS X m) (anyS Y m)) := ⟨_, rfl⟩
  rw [← hf] at HT
  have HFV := Lib.hid (show ∀ m, f m = bel (memS 4294967296 a m) (memS 4294967296 b m) from fun m => by rw [hf]; show bel _ _ = _; rw [HX.out.2.2.1, HY.out.2.2.1])
  generalize edgesS X Y = ES at *
  obtain ⟨ne, hne⟩ : ∃ n, n = ES.length := ⟨_, rfl⟩
  rw [← hne] at hesl ⊢
  have HNE := Lib.hid hne
  have HIN := Lib.hid hin
  have HB5 := Lib.hid (HB4.out.trans (hb5.mono HB4.out.size))
  have hs5 : b2 + 1 ≤ w5.heap.size := by have := hb5.size; rw [HS4.out] at this; exact this
  have hine : ∀ g, AE = some ⟨g, 0, none⟩ → 0 < ne → b2 < g ∧ g < w5.heap.size := fun g hg hp => by
    obtain ⟨g', e1, h1, h2, _⟩ := hin (by omega)
    rw [hg] at e1
    have : g = g' := by simpa using e1
    rw [HS4.out] at h1
    omega
  have HINE := Lib.hid hine
  have HFa := Lib.hid (show Fol w2 w5 b1 X (-1) from ⟨Ax, cx, X, by rw [← HNX.out]; exact (hb5.block b1 HF34.out.lt).trans HF34.out, HX.out.1, by rw [← HNX.out]; exact HX.out.2.2.2.1, HX.out.2.2.2.2, HX.out.2.1, by rw [← HNX.out]; omega, fun m _ => rfl⟩)
  have HFb := Lib.hid (show Fol w2 w5 b2 Y (-1) from ⟨Ay, cy, Y, by rw [← HNY.out]; exact (hb5.block b2 HF4.out.lt).trans HF4.out, HY.out.1, by rw [← HNY.out]; exact HY.out.2.2.2.1, HY.out.2.2.2.2, HY.out.2.1, by rw [← HNY.out]; omega, fun m _ => rfl⟩)
  clear hf hne hin hb5 HE HF4 HF34 HB4 hine
  go_wp2_with fail
  have HO := Lib.hid (World.ownsRow_nil w5 w5.heap.size 34 2)
  have HCM := Lib.hid (cmb_start 4294967296 HT.out.low)
  have HPR := Lib.hid (show Pre ES 0 (-1) from ⟨fun e he => by simp at he, fun e he => by have := HT.out.rng e (by simpa using he); omega⟩)
  have HSZ := Lib.hid (Nat.le_refl w5.heap.size)
  go_loopw [9, 10, 26] (fun v9 v10 v26 wr => ∃ k c' : Nat, ∃ A' : Option Addr, ∃ C : List Spn, ∃ o : Option Int, ∃ q : Int, k ≤ ne ∧ (memL C o).length ≤ k ∧ v26 = .int .i64 k ∧ v10 = .bool o.isSome ∧ v9 = .slice A' (memL C o).length c' ∧ Hid (Cmb 4294967296 f C o q) ∧ Hid (Pre ES k q) ∧ Hid (Fol w2 wr b1 X q) ∧ Hid (Fol w2 wr b2 Y q) ∧ Hid (Below w2.heap.size w2 wr) ∧ Hid (InL w4.heap.size wr AE ES) ∧ Hid (w5.heap.size ≤ wr.heap.size) ∧ Hid (wr.ownsRow w5.heap.size 34 2 (.slice A' (memL C o).length c') (memL C o).length (spCells (memL C o)))) (fun _ _ v26 _ => ne - (intOf v26).toNat)
  case atStart => exact ⟨0, 0, none, [], none, -1, by omega, Nat.le_refl _, rfl, rfl, rfl, HCM, HPR, HFa, HFb, HB5, HIN, HSZ, HO⟩
  case round =>
    clear HCM HPR HFa HFb HB5 HIN HO HSZ
    obtain ⟨k, c', A', C, o, q, hk, hok, rfl, rfl, rfl, HCM, HPR, HFa, HFb, HB, HIN, HSZ, HO⟩ := hrel
    by_cases hlt : k < ne
    · obtain ⟨n, hget⟩ : ∃ n, ES[k]? = some n := ⟨ES[k]'(by have := HNE.out; omega), List.getElem?_eq_getElem _⟩
      obtain ⟨ge, hae, hge1, hge2, hge3⟩ := HIN.out (by have := HNE.out; omega)
      have hgb := HINE.out ge hae (by omega)
      subst hae
      have x0 := hge3 k n hget
      have hki : (k : Int) < (ne : Int) := by omega
      have hki0 : (0 : Int) ≤ (k : Int) := by omega
      obtain ⟨hqn, hpre, hbet⟩ := pre_go HPR.out HT.out.srt hget
      have hrn := HT.out.rng n (List.mem_of_getElem? hget)
      have HCON := Lib.hid (show ∀ m, q ≤ m → m < n → f m = f q from fun m h1 h2 => HT.out.con q m h1 (hbet m h1 h2))
      have HPR2 := Lib.hid hpre
      have HCa := Lib.hid (pfol_go HFa.out hqn HB.out (by rw [HB1E.out]; omega))
      have HCb := Lib.hid (fun (w' : World) (hg : wr.grownBy w' (some b1)) (hb : Below w2.heap.size w2 w') => pfol_go (HFb.out.only hg (by have := HB2E.out; simp; omega)) hqn hb (by rw [HB2E.out, HB1E.out]; omega))
      have HVN := Lib.hid (HT.out.val n)
      clear hpre hbet hge3 hget HPR HFa HFb
      go_wp2_with fail
      refine HCa.out.mono ?_
      rintro e w6 ⟨rfl, hfa, hg6, hb6⟩
      have HCb2 := Lib.hid (HCb.out w6 hg6 hb6)
      have HFa6 := Lib.hid hfa
      have HG6 := Lib.hid hg6
      clear hfa hg6 hb6 HCa HCb x0
      go_wp2_with fail
      refine HCb2.out.mono ?_
      rintro e w7 ⟨rfl, hfb, hg7, hb7⟩
      have HFb7 := Lib.hid hfb
      have HFa7 := Lib.hid (HFa6.out.only hg7 (by have := HB2E.out; simp; omega))
      have HB7 := Lib.hid hb7
      have HIN7 := Lib.hid ((HIN.out.only HG6.out (fun r hr g hg => by simp at hr hg; have := HB2E.out; omega)).only hg7 (fun r hr g hg => by simp at hr hg; have := HB2E.out; omega))
      have HO7 := Lib.hid ((HO.out.kept HG6.out (by
        right
        intro e
        have := (HO.out.lt b1 e).1
        have := HB2E.out
        omega)).kept hg7 (by
        right
        intro e
        have := (HO.out.lt b2 e).1
        omega))
      have HSZ7 := Lib.hid (show w5.heap.size ≤ w7.heap.size from Nat.le_trans HSZ.out (Nat.le_trans HG6.out.size hg7.size))
      clear hfb hg7 hb7 HCb2 HFa6 HG6 HB HIN HO HSZ
      go_wp2_with fail
      refine (HF.out (anyS X n) (anyS Y n) w7).mono ?_
      rintro e w8 ⟨rfl, rfl⟩
      rw [← HVN.out]
      obtain ⟨v, hv⟩ : ∃ v, v = f n := ⟨_, rfl⟩
      rw [← hv]
      cases v with
      | true =>
        cases o with
        | none =>
          have HCM2 := Lib.hid (cmb_open HCM.out hqn HCON.out hv.symm)
          have hMl : C.length + 1 = (memL C (some n)).length := by simp [memL]
          have HSN := Lib.hid (spCells_snoc C ⟨n, 0⟩)
          have HML := Lib.hid hMl
          have hok2 : C.length ≤ k := hok
          clear HCM HCON hMl hok
          unfold spC at HSN
          simp only at HSN
          obtain ⟨A3, c3, hA3⟩ : ∃ A3 c3, (Value.slice A' (memL C none).length c') = .slice A3 C.length c3 := ⟨A', c', rfl⟩
          have HO7' := Lib.hid (show w8.ownsRow w5.heap.size 34 2 (.slice A' C.length c') C.length (spCells C) from HO7.out)
          rw [show (memL C none).length = C.length from rfl]
          obtain ⟨M, hM⟩ : ∃ M, M = memL C (some n) := ⟨_, rfl⟩
          rw [show C ++ [(⟨n, 0⟩ : Spn)] = memL C (some n) from rfl] at HSN
          rw [← hM] at HSN HML
          have HM := Lib.hid hM
          clear hA3 HO7 hM A3 c3 hv
          go_wp2_with (at_builtin; refine wpList_append_lies _ rfl _ _ 23 rfl w5.heap.size 34 i0 (.agg #[.int .i64 0, .int .i64 0]) 2 16 Tryz.underlying23 hinf hz0 hz1 hz2 rfl (by omega) _ C.length (spCells C) rfl (HO7'.out.alloc _) ⟨w8.heap.size, 0, none⟩ 1 1 [.int .i64 n, .int .i64 0] rfl rfl ?c1 ?c2 (by omega) ?c3 ?c4 ?c5 _ rfl ?_)
          case c1 => exact World.news_of_block (cs := #[.int .i64 n, .int .i64 0]) (t := 34) (fr := (0, 0)) (heap_alloc_new w8 _)
          case c2 => simp [Value.oneCell']
          case c3 => unfold maxLen; omega
          case c4 => omega
          case c5 => have := HSZ7.out; simp; omega
          intro g2 cap2 w9 hown9 hgrow hat hlt2
          have hrow : ∀ r, (Value.slice A' C.length c').ownBlock = some r → w5.heap.size ≤ r := fun r hr => (HO7'.out.lt r hr).1
          have hga := grownBy_alloc w8 (.cells #[.int .i64 n, .int .i64 0] 34) (Value.slice A' C.length c').ownBlock
          have hgg := grownBy_trans hga hgrow
          have HFa9 := Lib.hid (HFa7.out.only hgg (fun e => by have := hrow b1 e.symm; have := HB2E.out; omega))
          have HFb9 := Lib.hid (HFb7.out.only hgg (fun e => by have := hrow b2 e.symm; omega))
          have HIN9 := Lib.hid (HIN7.out.only hgg (fun r hr g hg => by have := hrow r hr; simp at hg; omega))
          have HB9 := Lib.hid (below_grown5 HB7.out HB7.out.size hgg (fun r hr => by have := hrow r hr; have := HB1E.out; have := HB2E.out; omega))
          have HSZ9 := Lib.hid (Nat.le_trans HSZ7.out hgg.size)
          rw [← HSN.out] at hown9
          have HO9 := Lib.hid (show w9.ownsRow w5.heap.size 34 2 (.slice (some ⟨g2, 0, none⟩) (memL C (some n)).length cap2) (memL C (some n)).length (spCells (memL C (some n))) from by rw [← HM.out, ← HML.out]; exact hown9)
          have HLM := Lib.hid (show C.length + 1 = (memL C (some n)).length by rw [← HM.out]; exact HML.out)
          clear hown9 hgrow hat hlt2 hga hgg hrow HFa7 HFb7 HIN7 HB7 HSZ7 HO7' HSN HML HM
          go_wp2_with fail
          go_roundw
          case rel => exact ⟨k + 1, cap2, some ⟨g2, 0, none⟩, C, some n, n, by omega, by rw [← HLM.out]; omega, by go_num, rfl, congrArg (fun x => Value.slice (some ⟨g2, 0, none⟩) x cap2) HLM.out, HCM2, HPR2, HFa9, HFb9, HB9, HIN9, HSZ9, HO9⟩
          case measure => simp [intOf]; omega
        | some p =>
          have HCM2 := Lib.hid (cmb_stay HCM.out hqn HCON.out (hv.symm.trans HCM.out.fo.symm))
          clear HCM HCON hv
          go_wp2_with fail
          go_roundw
          case rel => exact ⟨k + 1, c', A', C, some p, n, by omega, by omega, by go_num, rfl, rfl, HCM2, HPR2, HFa7, HFb7, HB7, HIN7, HSZ7, HO7⟩
          case measure => simp [intOf]; omega
      | false =>
        cases o with
        | none =>
          have HCM2 := Lib.hid (cmb_stay HCM.out hqn HCON.out (hv.symm.trans HCM.out.fo.symm))
          clear HCM HCON hv
          go_wp2_with fail
          go_roundw
          case rel => exact ⟨k + 1, c', A', C, none, n, by omega, by omega, by go_num, rfl, rfl, HCM2, HPR2, HFa7, HFb7, HB7, HIN7, HSZ7, HO7⟩
          case measure => simp [intOf]; omega
        | some p =>
          have HCM2 := Lib.hid (cmb_close HCM.out hqn hrn.2 HCON.out hv.symm)
          obtain ⟨L, hL⟩ : ∃ L, L = memL C (some p) := ⟨_, rfl⟩
          obtain ⟨r, hr⟩ : ∃ r, r = C.length := ⟨_, rfl⟩
          have hLl : r + 1 = L.length := by rw [hL, hr]; simp [memL]
          have hLg : L[r]? = some ⟨p, 0⟩ := by rw [hL, hr]; simp [memL]
          have hst := spCells_set1 L r ⟨p, n - 1⟩ ⟨p, 0⟩ hLg rfl
          have hLs : L.set r ⟨p, n - 1⟩ = memL (C ++ [⟨p, n - 1⟩]) none := by
            rw [hL, hr]
            show (C ++ [(⟨p, 0⟩ : Spn)]).set C.length ⟨p, n - 1⟩ = C ++ [⟨p, n - 1⟩]
            rw [List.set_append_right _ _ (Nat.le_refl _), Nat.sub_self, List.set_cons_zero]
          rw [hLs] at hst
          rw [← hL] at HO7 hok ⊢
          obtain ⟨ll, hll⟩ : ∃ ll, ll = L.length := ⟨_, rfl⟩
          rw [← hll] at HO7 hok hLl ⊢
          obtain ⟨gs, cs, hf, hgs1, hgs2⟩ := World.ownsRow.form HO7.out (by omega)
          obtain ⟨rfl, rfl⟩ : A' = some ⟨gs, 0, none⟩ ∧ c' = cs := by simpa using hf
          have y1 : w8.cell? ⟨gs, r * 2 + 1, none⟩ = some (.int .i64 0) := (HO7.out.cellAt (r * 2 + 1) (by omega)).trans (spCells_get L r _ hLg).2
          have yf := HO7.out.frozenAt (r * 2 + 1)
          have ho9 := HO7.out.stored (r * 2 + 1) (.int .i64 (n - 1))
          simp only at hst
          rw [hst] at ho9
          have hgg := ho9.2
          have hlm : ll = (memL (C ++ [⟨p, n - 1⟩]) none).length := by rw [← hLs, List.length_set, hll]
          have HFa9 := Lib.hid (HFa7.out.only hgg (fun e => by have := HB2E.out; simp at e; omega))
          have HFb9 := Lib.hid (HFb7.out.only hgg (fun e => by simp at e; omega))
          have HIN9 := Lib.hid (HIN7.out.only hgg (fun r hr g hg => by simp at hr hg; omega))
          have HB9 := Lib.hid (below_grown5 HB7.out HB7.out.size hgg (fun r hr => by simp at hr; have := HB1E.out; have := HB2E.out; omega))
          have HSZ9 := Lib.hid (Nat.le_trans HSZ7.out hgg.size)
          have HO9 := Lib.hid (show (w8.setCell ⟨gs, r * 2 + 1, none⟩ (.int .i64 (n - 1))).ownsRow w5.heap.size 34 2 (.slice (some ⟨gs, 0, none⟩) (memL (C ++ [⟨p, n - 1⟩]) none).length c') (memL (C ++ [⟨p, n - 1⟩]) none).length (spCells (memL (C ++ [⟨p, n - 1⟩]) none)) from by rw [← hlm]; exact ho9.1)
          have HLM := Lib.hid hlm
          have hri : (ll : Int) - 1 = (r : Int) := by omega
          have hri0 : (0 : Int) ≤ (r : Int) := by omega
          have hril : (r : Int) < (ll : Int) := by omega
          clear HCM HCON hv hL hr hLl hLg hst hLs hll hf ho9 hgg hlm HFa7 HFb7 HIN7 HB7 HSZ7 HO7
          go_wp2_with fail
          go_roundw
          case rel => exact ⟨k + 1, c', some ⟨gs, 0, none⟩, C ++ [⟨p, n - 1⟩], none, n, by omega, by rw [← HLM.out]; omega, by go_num, rfl, congrArg (fun x => Value.slice (some ⟨gs, 0, none⟩) x c') HLM.out, HCM2, HPR2, HFa9, HFb9, HB9, HIN9, HSZ9, HO9⟩
          case measure => simp [intOf]; omega
    · have hkn : k = ES.length := by have := HNE.out; omega
      have hall : ∀ e ∈ ES, e ≤ q := by
        have := HPR.out.le
        rwa [hkn, List.take_length] at this
      obtain ⟨ho, hany⟩ := cmb_end HCM.out (fun m hm => HT.out.fin q m hm hall)
      subst ho
      have HL := Lib.hid (show okL 4294967296 0 C ∧ (∀ m, anyS C m = bel (memS 4294967296 a m) (memS 4294967296 b m)) ∧ C.length ≤ 2 * (la + lb) from ⟨HCM.out.ok, fun m => (hany m).trans (HFV.out m), by
        have : C.length ≤ k := hok
        omega⟩)
      have HB9 := Lib.hid (HB2.out.trans (HB.out.mono HB2.out.size))
      have HO9 := Lib.hid (show wr.ownsRow w.heap.size 34 2 (.slice A' C.length c') C.length (spCells C) from own_mono5 HO.out (by have := HB2.out.size; have := HB1E.out; have := HB2E.out; omega))
      rw [show (memL C none).length = C.length from rfl] at hok ⊢
      have hd : decide ((k : Int) < (ne : Int)) = false := by simp; omega
      clear hkn hall hany HCM HPR HFa HFb HB HIN HSZ HO
      go_wp2_with fail
      go_ret
      exact ⟨C, A', c', HL.out.1, HL.out.2.1, HL.out.2.2, rfl, HO9.out, HB9.out⟩

end Go.Proofs.YtepbmnpjpkmmfaaGreatDoor

/- Contract of the program of layer 5: Count. -/
namespace Go.Proofs.YtepbmnpjpkmmfaaGreatDoor
open Go.ChangeShapes Go.WideShapes Go.ChangeAt Go.RowKit
set_option linter.unusedVariables false

end Go.Proofs.YtepbmnpjpkmmfaaGreatDoor

/- Contracts of the program of layer 5: Union, Intersect, Minus, Complement, Subset. -/
namespace Go.Proofs.YtepbmnpjpkmmfaaGreatDoor
open Go.ChangeShapes Go.WideShapes Go.ChangeAt Go.RowKit
set_option linter.unusedVariables false

theorem pand_any (x y : Bool) (W : World) : Calls Tryz.prog 39 #[.bool x, .bool y] W fun e w' => e = .returned (.bool (x && y)) ∧ w' = W := by
  cases x <;> cases y <;> (go_enter Tryz.func39, Tryz.ntmps39; go_wp2_with fail; go_ret; exact ⟨rfl, rfl⟩)
theorem pbut_any (x y : Bool) (W : World) : Calls Tryz.prog 40 #[.bool x, .bool y] W fun e w' => e = .returned (.bool (x && !y)) ∧ w' = W := by
  cases x <;> cases y <;> (go_enter Tryz.func40, Tryz.ntmps40; go_wp2_with fail; go_ret; exact ⟨rfl, rfl⟩)
set_option maxRecDepth 20000 in
theorem pinter_any (A1 A2 : Option Addr) (c1 c2 : Nat) (a b : List Spn) (w : World) (h1 : SpL w A1 a) (h2 : SpL w A2 b) (hl1 : a.length ≤ 90000) (hl2 : b.length ≤ 90000) :
    Calls Tryz.prog 18 #[.slice A1 a.length c1, .slice A2 b.length c2] w (SetP w (fun m => memS 4294967296 a m && memS 4294967296 b m) (2 * (a.length + b.length))) := by
  have HC := Lib.hid (pcombine_any 39 (fun x y => x && y) (enters_of Tryz.func39 (by kernel_rfl) rfl) pand_any rfl A1 A2 c1 c2 a b w h1 h2 hl1 hl2)
  generalize a.length = la at *
  generalize b.length = lb at *
  clear h1 h2 hl1 hl2
  go_enter Tryz.func18, Tryz.ntmps18
  go_wp2_with fail
  refine HC.out.mono ?_
  rintro e w5 ⟨L, A, c, g1, g2, g3, rfl, g5, g6⟩
  go_wp2_with fail
  go_ret
  exact ⟨L, A, c, g1, g2, g3, rfl, g5, g6⟩
set_option maxRecDepth 20000 in
theorem pminus_any (A1 A2 : Option Addr) (c1 c2 : Nat) (a b : List Spn) (w : World) (h1 : SpL w A1 a) (h2 : SpL w A2 b) (hl1 : a.length ≤ 90000) (hl2 : b.length ≤ 90000) :
    Calls Tryz.prog 21 #[.slice A1 a.length c1, .slice A2 b.length c2] w (SetP w (fun m => memS 4294967296 a m && !memS 4294967296 b m) (2 * (a.length + b.length))) := by
  have HC := Lib.hid (pcombine_any 40 (fun x y => x && !y) (enters_of Tryz.func40 (by kernel_rfl) rfl) pbut_any rfl A1 A2 c1 c2 a b w h1 h2 hl1 hl2)
  generalize a.length = la at *
  generalize b.length = lb at *
  clear h1 h2 hl1 hl2
  go_enter Tryz.func21, Tryz.ntmps21
  go_wp2_with fail
  refine HC.out.mono ?_
  rintro e w5 ⟨L, A, c, g1, g2, g3, rfl, g5, g6⟩
  go_wp2_with fail
  go_ret
  exact ⟨L, A, c, g1, g2, g3, rfl, g5, g6⟩
theorem spl_one (w : World) (lo hi : Int) : SpL (w.alloc (.cells #[.int .i64 lo, .int .i64 hi] 34)) (some ⟨w.heap.size, 0, none⟩) [⟨lo, hi⟩] := fun _ =>
  ⟨w.heap.size, 0, rfl, alloc_lt5 w _, fun i s hs => by
    match i, hs with
    | 0, hs =>
      simp at hs
      subst hs
      exact ⟨(sb2_new w lo hi).c0, (sb2_new w lo hi).c1⟩⟩
theorem memS_one (lo hi m : Int) : memS 4294967296 [⟨lo, hi⟩] m = (decide (max lo 0 ≤ m) && decide (m ≤ min hi 4294967296)) := by
  unfold memS
  rw [Bool.eq_iff_iff]
  simp only [anyS, List.any_cons, List.any_nil, Bool.or_false, inS, Bool.and_eq_true, decide_eq_true_eq]
  omega
set_option maxRecDepth 20000 in
theorem psubset_any (A1 A2 : Option Addr) (c1 c2 : Nat) (a b : List Spn) (w : World) (h1 : SpL w A1 a) (h2 : SpL w A2 b) (hl1 : a.length ≤ 90000) (hl2 : b.length ≤ 90000) :
    Calls Tryz.prog 22 #[.slice A1 a.length c1, .slice A2 b.length c2] w (SubP w (fun m => memS 4294967296 a m && !memS 4294967296 b m)) := by
  have HC := Lib.hid (pminus_any A1 A2 c1 c2 a b w h1 h2 hl1 hl2)
  generalize a.length = la at *
  generalize b.length = lb at *
  clear h1 h2 hl1 hl2
  go_enter Tryz.func22, Tryz.ntmps22
  go_wp2_with fail
  refine HC.out.mono ?_
  rintro e w1 ⟨L, A, c, ok, any, le, rfl, own, hb⟩
  have HF := Lib.hid (And.intro ok (And.intro any hb))
  obtain ⟨R, hR⟩ : ∃ R, R = decide (L.length = 0) := ⟨_, rfl⟩
  have HR := Lib.hid hR
  obtain ⟨nl, hnl⟩ : ∃ n, n = L.length := ⟨_, rfl⟩
  rw [← hnl] at hR ⊢
  clear ok any own hb HC hnl
  by_cases h0 : nl = 0
  · obtain rfl : R = true := by rw [hR]; simpa using h0
    have d0 : ((nl : Int) == 0) = true := by simp; omega
    subst h0
    clear hR le
    go_wp2_with fail
    go_ret
    exact ⟨L, HF.out.1, HF.out.2.1, congrArg (fun x => Ending.returned (.bool x)) HR.out, HF.out.2.2⟩
  · obtain rfl : R = false := by rw [hR]; simpa using h0
    have d0 : ((nl : Int) == 0) = false := by simp; omega
    clear hR le
    go_wp2_with fail
    go_ret
    exact ⟨L, HF.out.1, HF.out.2.1, congrArg (fun x => Ending.returned (.bool x)) HR.out, HF.out.2.2⟩
end Go.Proofs.YtepbmnpjpkmmfaaGreatDoor

/- The laws' own functions of layer 8: same (at equal lists), large, awake; lists of spans that come in. -/
namespace Go.Proofs.YtepbmnpjpkmmfaaGreatDoor
open Go.ChangeShapes Go.WideShapes Go.ChangeAt Go.RowKit
set_option linter.unusedVariables false

theorem span_guard : Tryz.prog.eqGuardType Tryz.prog.depth 34 = false := by kernel_rfl
theorem span_neq (k k' a a' : Int) (W : World) :
    (binOp .neq 34 (.agg #[.int .i64 k, .int .i64 a]) (.agg #[.int .i64 k', .int .i64 a'])).run Tryz.prog W = .ok (.bool (!(k == k' && a == a'))) W := by
  have u3 := Tryz.underlying3
  have a3 := Tryz.isAgg3
  have z3 := Tryz.sizeOf3
  have hS : Tryz.prog.underlying 34 = some (.struct (Tryz.prog.fieldsOf 34)) := by kernel_rfl
  have hp : Tryz.prog.stoodInHeld 34 = false := by kernel_rfl
  rw [run_neq_struct, show (10000 : Nat) = 9999 + 1 from rfl, run_equalIn_agg W 9999 34 _ _ hS hp]
  simp only [Program.fieldsOf, Tryz.underlying34]
  go_simp
  cases h1 : (k == k') <;> cases h3 : (a == a') <;> simp_all
set_option maxRecDepth 20000 in
theorem same_any (A1 A2 : Option Addr) (c1 c2 : Nat) (l : List Spn) (w : World) (h1 : SpL w A1 l) (h2 : SpL w A2 l) (hl : l.length ≤ 1000000) :
    Calls Tryz.prog 12 #[.slice A1 l.length c1, .slice A2 l.length c2] w fun e w' => e = .returned (.bool true) ∧ Below w.heap.size w w' := by
  have hm := span_guard
  obtain ⟨n, hn⟩ : ∃ n, n = l.length := ⟨_, rfl⟩
  rw [← hn]
  have HN := Lib.hid hn
  have H1 := Lib.hid h1
  have H2 := Lib.hid h2
  have hn6 : n ≤ 1000000 := by omega
  clear h1 h2 hl hn
  go_enter Tryz.func12, Tryz.ntmps12
  go_wp2_with fail
  go_loopw [13] (fun i wr => ∃ k : Nat, k ≤ n ∧ i = .int .i64 k ∧ Hid (SpL wr A1 l) ∧ Hid (SpL wr A2 l) ∧ Below w.heap.size w wr) (fun i _ => n - (intOf i).toNat)
  case atStart => exact ⟨0, Nat.zero_le _, rfl, H1, H2, Below.refl _ _⟩
  case round =>
    clear H1 H2
    obtain ⟨k, hk, rfl, T1, T2, hB⟩ := hrel
    by_cases hlt : k < n
    · have hkl : k < l.length := by rw [← HN.out]; exact hlt
      obtain ⟨s, hget⟩ : ∃ s, l[k]? = some s := ⟨l[k], List.getElem?_eq_getElem hkl⟩
      obtain ⟨g1, o1, rfl, hg1, hc1⟩ := T1.out (by omega)
      obtain ⟨g2, o2, rfl, hg2, hc2⟩ := T2.out (by omega)
      obtain ⟨a0, a1⟩ := hc1 k s hget
      obtain ⟨b0, b1⟩ := hc2 k s hget
      obtain ⟨p, r⟩ := s
      simp only at a0 a1 b0 b1
      have q1 := fun W => span_neq p p r r W
      have hki : (k : Int) < (n : Int) := by omega
      have hki0 : (0 : Int) ≤ (k : Int) := by omega
      clear hget hkl hc1 hc2
      go_wp2_with fail
      go_quiet (fail)
      have hB2 := Lib.hid (below_drewN5 hB nq)
      have T12 := Lib.hid (T1.out.drewN nq)
      have T22 := Lib.hid (T2.out.drewN nq)
      clear hB T1 T2 a0 a1 b0 b1 q1
      generalize wr.drewN nq = w2 at *
      go_wp2_with fail
      go_roundw
      case rel => exact ⟨k + 1, by omega, by go_num, T12, T22, hB2.out⟩
      case measure => simp [intOf]; omega
    · obtain rfl : k = n := by omega
      have hd : decide ((k : Int) < (k : Int)) = false := by simp
      go_wp2_with fail
      go_ret
      exact ⟨rfl, hB⟩
theorem large_any (A : Option Addr) (n cap : Nat) (w : World) :
    Calls Tryz.prog 13 #[.slice A n cap] w fun e w' => e = .returned (.bool (decide ((60 : Int) < (n : Int)))) ∧ w' = w := by
  go_enter Tryz.func13, Tryz.ntmps13
  go_wp2_with fail
  go_ret
  exact ⟨by simp, rfl⟩
/-- A set that is known: it is the result. -/
theorem SetP.known {w : World} {f : Int → Bool} {b : Nat} {e : Ending} {w' : World} (h : SetP w f b e w') {K : List Spn} (hK : okL 4294967296 0 K) (hf : ∀ m, anyS K m = f m) : ∃ A cap, e = .returned (.slice A K.length cap) ∧ SpL w' A K ∧ Below w.heap.size w w' := by
  obtain ⟨L, A, cap, h1, h2, h3, h4, h5, h6⟩ := h
  obtain rfl : L = K := okL_uniq L K 0 0 h1 hK (fun m => (h2 m).trans (hf m).symm)
  exact ⟨A, cap, h4, spl_of_own h5, h6⟩
theorem CntP.known {w : World} {f : Int → Bool} {b : Nat} {e : Ending} {w' : World} (h : CntP w f b e w') {K : List Spn} (hK : okL 4294967296 0 K) (hf : ∀ m, anyS K m = f m) : e = .returned (.int .i64 (cntL K)) ∧ Below w.heap.size w w' := by
  obtain ⟨L, h1, h2, h3, h4, h5⟩ := h
  obtain rfl : L = K := okL_uniq L K 0 0 h1 hK (fun m => (h2 m).trans (hf m).symm)
  exact ⟨h4, h5⟩
theorem SubP.known {w : World} {f : Int → Bool} {e : Ending} {w' : World} (h : SubP w f e w') {K : List Spn} (hK : okL 4294967296 0 K) (hf : ∀ m, anyS K m = f m) : e = .returned (.bool (decide (K.length = 0))) ∧ Below w.heap.size w w' := by
  obtain ⟨L, h1, h2, h4, h5⟩ := h
  obtain rfl : L = K := okL_uniq L K 0 0 h1 hK (fun m => (h2 m).trans (hf m).symm)
  exact ⟨h4, h5⟩
theorem spl_lit (w : World) (l : List Spn) (cs : Array Value) (h : cs.toList = spCells l) : SpL (w.alloc (.cells cs 34)) (some ⟨w.heap.size, 0, none⟩) l := fun _ =>
  ⟨w.heap.size, 0, rfl, alloc_lt5 w _, fun i s hs => by
    have hc := cells_new w 34 cs
    have hg := spCells_get l i s hs
    rw [← h] at hg
    rw [Nat.zero_add]
    exact ⟨(Cells.cell hc (i * 2)).trans (by simpa using hg.1), (Cells.cell hc (i * 2 + 1)).trans (by simpa using hg.2)⟩⟩
theorem cellsSpan : Tryz.prog.cellsOf 34 = 2 := by kernel_rfl
theorem cellsInt5 : Tryz.prog.cellsOf 3 = 1 := by kernel_rfl
theorem add_flat5 (b off i : Nat) : (⟨b, off, none⟩ : Addr).add i = ⟨b, off + i, none⟩ := addr_add b off i
theorem in_spans {H : Type} {enc : TypeId × Value → H} {W : World} {base : Nat} {sp : Nat → Bool} {held : Bool} {A : Option Addr} {len cap : Nat} {d : DataW H} {p : List MemPlace}
    (h : DataW.Trod enc Tryz.prog W base sp held 23 (.slice A len cap) d p) : ∃ l : List Spn, SpL W A l ∧ l.length = len ∧ (A = none → cap = 0) ∧ len ≤ maxLen := by
  obtain ⟨fuel, hf⟩ := h
  rcases Go.Deep.open_slice_pairs Tryz.underlying23 Tryz.underlying34 cellsSpan rfl rfl cellsInt5 cellsInt5 hf with ⟨hcs, _⟩ | ⟨a, l, c, m, n, V0, V1, D0, D1, P0, P1, hcs, _, hl, hm, hmm, _, hcell⟩
  · simp [Value.cells] at hcs
    obtain ⟨rfl, rfl, rfl⟩ := hcs
    exact ⟨[], fun h => absurd h (by simp), rfl, fun _ => rfl, by simp [maxLen]⟩
  · simp [Value.cells] at hcs
    obtain ⟨rfl, rfl, rfl⟩ := hcs
    have hlm : len ≤ m := by rw [hmm]; split <;> omega
    refine ⟨(List.range len).map fun i => ⟨intOf (V0 i), intOf (V1 i)⟩, fun hp => ?_, by simp, fun e => by simp at e, by omega⟩
    simp only [List.length_map, List.length_range] at hp
    obtain ⟨b, off, spot⟩ := a
    have h0 := (hcell 0 (by omega)).1
    have hspot : spot = none := by simpa [Addr.add] using World.cell?_spot h0
    subst hspot
    have hlt := World.block_lt_of_cell? W _ h0
    refine ⟨b, off, rfl, by simpa [Addr.add] using hlt, fun i s hs => ?_⟩
    rw [List.getElem?_map] at hs
    by_cases hi : i < len
    · rw [List.getElem?_range hi] at hs
      simp only [Option.map_some, Option.some.injEq] at hs
      subst hs
      obtain ⟨h1, h2, h3, h4⟩ := hcell i (by omega)
      obtain ⟨a0, e0, _, _⟩ := DataW.trod_int Tryz.underlying3 h3
      obtain ⟨a1, e1, _, _⟩ := DataW.trod_int Tryz.underlying3 h4
      simp at e0 e1
      rw [add_flat5] at h1 h2
      exact ⟨by rw [h1]; simp [e0, intOf], by rw [Nat.add_assoc, h2]; simp [e1, intOf]⟩
    · rw [List.getElem?_eq_none (by simpa using hi)] at hs
      simp at hs
end Go.Proofs.YtepbmnpjpkmmfaaGreatDoor

/- Plain mathematics of the texts of addresses of layer 6: no Go in sight. -/
namespace Go.Proofs.YtepbmnpjpkmmfaaGreatDoor
set_option linter.unusedVariables false

abbrev By := List UInt8
/-- A digit's byte, in decimal and in hexadecimal. -/
def dig (n : Nat) : UInt8 := UInt8.ofNat (48 + n)
def hexd (n : Nat) : UInt8 := if n < 10 then UInt8.ofNat (48 + n) else UInt8.ofNat (87 + n)
/-- A number in decimal. -/
def numL (n : Nat) : By := if n ≤ 9 then [dig n] else numL (n / 10) ++ [dig (n % 10)]
termination_by n
decreasing_by omega
/-- A group in hexadecimal. -/
def hexL (n : Nat) : By := if n ≤ 15 then [hexd n] else hexL (n / 16) ++ [hexd (n % 16)]
termination_by n
decreasing_by omega
/-- The number that digits denote, no more than most + 1. -/
def decGo (most : Nat) : Nat → By → Option Nat
  | n, [] => some n
  | n, c :: r => if 48 ≤ c.toNat ∧ c.toNat ≤ 57 then decGo most (min (10 * n + (c.toNat - 48)) (most + 1)) r else none
/-- .. as the reference answers: -1: malformed, -2: too great. -/
def decS (most : Nat) (s : By) : Int :=
  if s.length = 0 ∨ (1 < s.length ∧ s.head? = some 48) then -1
  else match decGo most 0 s with
    | none => -1
    | some n => if most < n then -2 else n
/-- A text divided at a byte; cur: the piece under way. -/
def splitGo (c : UInt8) : By → By → List By
  | cur, [] => [cur]
  | cur, x :: r => if x = c then cur :: splitGo c [] r else splitGo c (cur ++ [x]) r
def splitL (c : UInt8) (s : By) : List By := splitGo c [] s
/-- A hexadecimal digit's value. -/
def hexV (c : UInt8) : Option Nat :=
  if 48 ≤ c.toNat ∧ c.toNat ≤ 57 then some (c.toNat - 48)
  else if 97 ≤ c.toNat ∧ c.toNat ≤ 102 then some (c.toNat - 87)
  else if 65 ≤ c.toNat ∧ c.toNat ≤ 70 then some (c.toNat - 55) else none
def hexGo : Nat → By → Option Nat
  | n, [] => some n
  | n, c :: r => match hexV c with
    | some d => hexGo (16 * n + d) r
    | none => none
def grpS (s : By) : Option Nat := if s.length < 1 ∨ 4 < s.length then none else hexGo 0 s
def grpAll : List By → Option (List Nat)
  | [] => some []
  | s :: r => match grpS s with
    | none => none
    | some n => (grpAll r).map (n :: ·)
def groupsS (s : By) : Option (List Nat) := if s = [] then some [] else grpAll (splitL 58 s)
/-- A text divided at its first two colons. -/
def cutGap : By → Option (By × By)
  | [] => none
  | [_] => none
  | x :: y :: r => if x = 58 ∧ y = 58 then some ([], r) else (cutGap (y :: r)).map fun p => (x :: p.1, p.2)
/-- The eight groups of a text. -/
def parse6 (s : By) : Option (List Nat) :=
  match cutGap s with
  | none => match groupsS s with
    | some x => if x.length = 8 then some x else none
    | none => none
  | some (a, b) => match groupsS a, groupsS b with
    | some x, some y => if x.length + y.length ≤ 7 then some (x ++ List.replicate (8 - (x.length + y.length)) 0 ++ y) else none
    | _, _ => none
/-- The four bytes of a text. -/
def decAll : List By → Option (List Nat)
  | [] => some []
  | s :: r => match decS 255 s with
    | .ofNat n => (decAll r).map (n :: ·)
    | _ => none
def parse4 (s : By) : Option (List Nat) := if (splitL 46 s).length = 4 then decAll (splitL 46 s) else none
/-- A number out of its digits to a base. -/
def ofDigits (b : Nat) (l : List Nat) : Nat := l.foldl (fun n d => n * b + d) 0
/-- An address: its family, and its number of 32 or 128 bits. -/
structure Adr where
  v6 : Bool
  n : Nat
def width (v6 : Bool) : Nat := if v6 then 128 else 32
def Adr.ok (a : Adr) : Prop := a.n < 2 ^ width a.v6
def parseS (s : By) : Option Adr :=
  match parse4 s with
  | some l => some ⟨false, ofDigits 256 l⟩
  | none => match parse6 s with
    | some l => some ⟨true, ofDigits 65536 l⟩
    | none => none
/-- The digits of a number to a base, k of them. -/
def digitsOf (b n : Nat) : Nat → List Nat
  | 0 => []
  | k + 1 => digitsOf b (n / b) k ++ [n % b]
/-- Pieces with a byte between them. -/
def joinC (c : UInt8) : List By → By
  | [] => []
  | [p] => p
  | p :: q :: r => p ++ c :: joinC c (q :: r)
/-- How many zeros a list begins with. -/
def zeros : List Nat → Nat
  | 0 :: r => zeros r + 1
  | _ => 0
/-- The first longest run of zeros, of two or more: where it begins, how long it is. i: the index of the list's head; at, most: the best so far. -/
def bestGo : List Nat → Nat → Option Nat → Nat → Option Nat × Nat
  | [], _, at_, most => (at_, most)
  | x :: r, i, at_, most => if most < zeros (x :: r) then bestGo r (i + 1) (some i) (zeros (x :: r)) else bestGo r (i + 1) at_ most
def best (l : List Nat) : Option Nat × Nat := bestGo l 0 none 1
def fmt6 (l : List Nat) : By :=
  match best l with
  | (none, _) => joinC 58 (l.map hexL)
  | (some k, m) => joinC 58 ((l.take k).map hexL) ++ [58, 58] ++ joinC 58 ((l.drop (k + m)).map hexL)
def fmt4 (l : List Nat) : By := joinC 46 (l.map numL)
def fmtS (a : Adr) : By := if a.v6 then fmt6 (digitsOf 65536 a.n 8) else fmt4 (digitsOf 256 a.n 4)

/-! ### Decimal -/
theorem dig_toNat {n : Nat} (h : n ≤ 9) : (dig n).toNat = 48 + n := by
  unfold dig
  rw [UInt8.toNat_ofNat']
  omega
theorem decGo_append (most : Nat) : ∀ (a : By) (n : Nat) (b : By), decGo most n (a ++ b) = (decGo most n a).bind fun m => decGo most m b
  | [], n, b => rfl
  | c :: r, n, b => by
    rw [List.cons_append, decGo, decGo]
    split
    · exact decGo_append most r _ b
    · rfl
theorem decGo_num {most : Nat} : ∀ (n : Nat), n ≤ most → decGo most 0 (numL n) = some n := by
  intro n
  induction n using Nat.strongRecOn with
  | _ n ih =>
    intro h
    rw [numL]
    split
    · rename_i h9
      rw [decGo, dig_toNat h9, if_pos (by omega), decGo]
      congr 1
      omega
    · rw [decGo_append, ih (n / 10) (by omega) (by omega), Option.bind_some, decGo, dig_toNat (by omega), if_pos (by omega), decGo]
      congr 1
      omega
theorem num_ne (n : Nat) : 0 < (numL n).length := by
  rw [numL]
  split <;> simp
theorem num_head : ∀ (n : Nat), (numL n).head? = some 48 → n = 0 := by
  intro n
  induction n using Nat.strongRecOn with
  | _ n ih =>
    intro h
    rw [numL] at h
    split at h
    · rename_i h9
      simp only [List.head?_cons, Option.some.injEq] at h
      have h2 := congrArg UInt8.toNat h
      rw [dig_toNat h9] at h2
      simp at h2
      omega
    · have h2 : (numL (n / 10)).head? = some 48 := by
        have hp := num_ne (n / 10)
        cases hq : numL (n / 10) with
        | nil => rw [hq] at hp; simp at hp
        | cons y r => rw [hq] at h; simpa using h
      have := ih (n / 10) (by omega) h2
      omega
theorem num_zero : numL 0 = [48] := by rw [numL]; rfl
theorem decS_num {most n : Nat} (h : n ≤ most) : decS most (numL n) = n := by
  unfold decS
  rw [if_neg, decGo_num n h]
  · show (if most < n then (-2 : Int) else n) = n
    rw [if_neg (by omega)]
  · rintro (h1 | ⟨h1, h2⟩)
    · have := num_ne n; omega
    · have := num_head n h2
      subst this
      rw [num_zero] at h1
      simp at h1
theorem num_digits : ∀ (n : Nat), ∀ c ∈ numL n, 48 ≤ c.toNat ∧ c.toNat ≤ 57 := by
  intro n
  induction n using Nat.strongRecOn with
  | _ n ih =>
    intro c hc
    rw [numL] at hc
    split at hc
    · rename_i h9
      simp only [List.mem_singleton] at hc
      subst hc
      rw [dig_toNat h9]; omega
    · rw [List.mem_append] at hc
      rcases hc with hc | hc
      · exact ih (n / 10) (by omega) c hc
      · simp only [List.mem_singleton] at hc
        subst hc
        rw [dig_toNat (by omega)]; omega
theorem num_len {n : Nat} (h : n < 1000) : (numL n).length ≤ 3 := by
  rw [numL]
  split
  · simp
  · rw [numL]
    split
    · simp
    · rw [numL, if_pos (by omega)]; simp

theorem num_len_pow : ∀ (k n : Nat), n < 10 ^ (k + 1) → (numL n).length ≤ k + 1
  | 0, n, h => by rw [numL, if_pos (by omega)]; simp
  | k + 1, n, h => by
    rw [numL]
    split
    · simp
    · have := num_len_pow k (n / 10) (by rw [Nat.pow_succ] at h; omega)
      rw [List.length_append]; simp; omega

/-! ### Hexadecimal -/
theorem hexd_toNat {n : Nat} (h : n ≤ 15) : (hexd n).toNat = if n < 10 then 48 + n else 87 + n := by
  unfold hexd
  split <;> (rw [UInt8.toNat_ofNat']; omega)
theorem hexV_hexd {n : Nat} (h : n ≤ 15) : hexV (hexd n) = some n := by
  unfold hexV
  rw [hexd_toNat h]
  by_cases h9 : n < 10
  · rw [if_pos h9, if_pos (by omega)]
    congr 1; omega
  · rw [if_neg h9, if_neg (by omega), if_pos (by omega)]
    congr 1; omega
theorem hexGo_append : ∀ (a : By) (n : Nat) (b : By), hexGo n (a ++ b) = (hexGo n a).bind fun m => hexGo m b
  | [], n, b => rfl
  | c :: r, n, b => by
    rw [List.cons_append, hexGo, hexGo]
    cases hexV c with
    | none => rfl
    | some d => exact hexGo_append r _ b
theorem hexGo_hex : ∀ (n : Nat), hexGo 0 (hexL n) = some n := by
  intro n
  induction n using Nat.strongRecOn with
  | _ n ih =>
    rw [hexL]
    split
    · rename_i h
      rw [hexGo, hexV_hexd h]
      show hexGo _ [] = _
      rw [hexGo]; congr 1; omega
    · rw [hexGo_append, ih (n / 16) (by omega), Option.bind_some, hexGo, hexV_hexd (by omega)]
      show hexGo _ [] = _
      rw [hexGo]; congr 1; omega
theorem hex_ne (n : Nat) : 0 < (hexL n).length := by
  rw [hexL]
  split <;> simp
theorem hex_len {n : Nat} (h : n < 65536) : (hexL n).length ≤ 4 := by
  rw [hexL]
  split
  · simp
  · rw [hexL]
    split
    · simp
    · rw [hexL]
      split
      · simp
      · rw [hexL, if_pos (by omega)]; simp
theorem grpS_hex {n : Nat} (h : n < 65536) : grpS (hexL n) = some n := by
  unfold grpS
  rw [if_neg (by have := hex_ne n; have := hex_len h; omega), hexGo_hex]
/-- A hexadecimal digit is neither a point, nor a stroke, nor a colon. -/
theorem hex_digits : ∀ (n : Nat), ∀ c ∈ hexL n, (48 ≤ c.toNat ∧ c.toNat ≤ 57) ∨ (97 ≤ c.toNat ∧ c.toNat ≤ 102) := by
  intro n
  induction n using Nat.strongRecOn with
  | _ n ih =>
    intro c hc
    have key : ∀ d, d ≤ 15 → (48 ≤ (hexd d).toNat ∧ (hexd d).toNat ≤ 57) ∨ (97 ≤ (hexd d).toNat ∧ (hexd d).toNat ≤ 102) := fun d hd => by
      rw [hexd_toNat hd]
      split <;> omega
    rw [hexL] at hc
    split at hc
    · rename_i h9
      simp only [List.mem_singleton] at hc
      subst hc
      exact key _ h9
    · rw [List.mem_append] at hc
      rcases hc with hc | hc
      · exact ih (n / 16) (by omega) c hc
      · simp only [List.mem_singleton] at hc
        subst hc
        exact key _ (by omega)

theorem hex_len_pow : ∀ (k n : Nat), n < 16 ^ (k + 1) → (hexL n).length ≤ k + 1
  | 0, n, h => by rw [hexL, if_pos (by omega)]; simp
  | k + 1, n, h => by
    rw [hexL]
    split
    · simp
    · have := hex_len_pow k (n / 16) (by rw [Nat.pow_succ] at h; omega)
      rw [List.length_append]; simp; omega

/-! ### Dividing and joining -/
theorem splitGo_none {c : UInt8} : ∀ (p cur : By), (∀ x ∈ p, x ≠ c) → splitGo c cur p = [cur ++ p]
  | [], cur, _ => by simp [splitGo]
  | x :: r, cur, h => by
    rw [splitGo, if_neg (h x (by simp)), splitGo_none r _ (fun y hy => h y (by simp [hy]))]
    simp
theorem splitGo_at {c : UInt8} : ∀ (p cur r : By), (∀ x ∈ p, x ≠ c) → splitGo c cur (p ++ c :: r) = (cur ++ p) :: splitGo c [] r
  | [], cur, r, _ => by simp [splitGo]
  | x :: q, cur, r, h => by
    rw [List.cons_append, splitGo, if_neg (h x (by simp)), splitGo_at q _ r (fun y hy => h y (by simp [hy]))]
    simp
theorem split_join {c : UInt8} : ∀ (l : List By), l ≠ [] → (∀ p ∈ l, ∀ x ∈ p, x ≠ c) → splitL c (joinC c l) = l
  | [], h, _ => absurd rfl h
  | [p], _, h => by
    show splitGo c [] p = [p]
    rw [splitGo_none p [] (h p (by simp))]; rfl
  | p :: q :: r, _, h => by
    have ih := split_join (q :: r) (by simp) (fun y hy => h y (by simp only [List.mem_cons] at hy ⊢; exact .inr hy))
    show splitGo c [] (p ++ c :: joinC c (q :: r)) = _
    rw [splitGo_at p [] _ (h p (by simp))]
    unfold splitL at ih
    rw [ih]; rfl
theorem join_mem {c : UInt8} : ∀ (l : List By) (x : UInt8), x ∈ joinC c l → x = c ∨ ∃ p ∈ l, x ∈ p
  | [], x, h => by simp [joinC] at h
  | [p], x, h => .inr ⟨p, by simp, h⟩
  | p :: q :: r, x, h => by
    rw [joinC, List.mem_append, List.mem_cons] at h
    rcases h with h | h | h
    · exact .inr ⟨p, by simp, h⟩
    · exact .inl h
    · rcases join_mem (q :: r) x h with h | ⟨y, hy, h⟩
      · exact .inl h
      · exact .inr ⟨y, by simp only [List.mem_cons] at hy ⊢; exact .inr hy, h⟩

/-! ### The text of an IPv4 address -/
theorem decAll_num : ∀ (l : List Nat), (∀ n ∈ l, n ≤ 255) → decAll (l.map numL) = some l
  | [], _ => rfl
  | n :: r, h => by
    rw [List.map_cons, decAll, decS_num (h n (by simp))]
    show (decAll (r.map numL)).map (n :: ·) = _
    rw [decAll_num r (fun m hm => h m (by simp [hm]))]
    rfl
theorem num_no {c : UInt8} (hc : c.toNat < 48) {n : Nat} : ∀ x ∈ numL n, x ≠ c := fun x hx e => by
  have := num_digits n x hx
  rw [e] at this
  omega
theorem parse4_fmt4 {l : List Nat} (hl : l.length = 4) (h : ∀ n ∈ l, n ≤ 255) : parse4 (fmt4 l) = some l := by
  unfold parse4 fmt4
  have hs : splitL 46 (joinC 46 (l.map numL)) = l.map numL := split_join _ (by intro e; have := congrArg List.length e; simp [hl] at this) (fun p hp => by
    obtain ⟨n, _, rfl⟩ := List.mem_map.1 hp
    exact num_no (by decide))
  rw [hs, if_pos (by simp [hl]), decAll_num l h]
theorem digitsOf_len (b : Nat) : ∀ (k n : Nat), (digitsOf b n k).length = k
  | 0, n => rfl
  | k + 1, n => by rw [digitsOf, List.length_append, digitsOf_len b k]; rfl
theorem digitsOf_lt {b : Nat} (hb : 0 < b) : ∀ (k n : Nat), ∀ d ∈ digitsOf b n k, d < b
  | 0, n, d, h => by simp [digitsOf] at h
  | k + 1, n, d, h => by
    rw [digitsOf, List.mem_append] at h
    rcases h with h | h
    · exact digitsOf_lt hb k _ d h
    · simp only [List.mem_singleton] at h
      subst h
      exact Nat.mod_lt _ hb
theorem ofDigits_snoc (b : Nat) (l : List Nat) (d : Nat) : ofDigits b (l ++ [d]) = ofDigits b l * b + d := by
  unfold ofDigits
  rw [List.foldl_append]; rfl
theorem ofDigits_of {b : Nat} (hb : 0 < b) : ∀ (k n : Nat), n < b ^ k → ofDigits b (digitsOf b n k) = n
  | 0, n, h => by
    have : n = 0 := by simpa using h
    subst this
    rfl
  | k + 1, n, h => by
    rw [digitsOf, ofDigits_snoc, ofDigits_of hb k (n / b) (by rw [Nat.div_lt_iff_lt_mul hb]; rwa [Nat.pow_succ] at h)]
    exact Nat.div_add_mod' n b

/-! ### The text of an IPv6 address -/
theorem grpAll_hex : ∀ (l : List Nat), (∀ n ∈ l, n < 65536) → grpAll (l.map hexL) = some l
  | [], _ => rfl
  | n :: r, h => by
    rw [List.map_cons, grpAll, grpS_hex (h n (by simp))]
    show (grpAll (r.map hexL)).map (n :: ·) = _
    rw [grpAll_hex r (fun m hm => h m (by simp [hm]))]
    rfl
theorem hex_no {c : UInt8} (hc : c.toNat < 48 ∨ c.toNat = 58) {n : Nat} : ∀ x ∈ hexL n, x ≠ c := fun x hx e => by
  have := hex_digits n x hx
  rw [e] at this
  omega
theorem groups_join {l : List Nat} (h : ∀ n ∈ l, n < 65536) : groupsS (joinC 58 (l.map hexL)) = some l := by
  unfold groupsS
  cases l with
  | nil => rfl
  | cons n r =>
    have hne : joinC 58 ((n :: r).map hexL) ≠ [] := by
      intro e
      have hp := hex_ne n
      cases r with
      | nil =>
        have : hexL n = [] := e
        rw [this] at hp; simp at hp
      | cons m q =>
        have : hexL n ++ 58 :: joinC 58 ((m :: q).map hexL) = [] := e
        simp at this
    rw [if_neg hne, split_join _ (by simp) (fun p hp => by
      obtain ⟨m, _, rfl⟩ := List.mem_map.1 hp
      exact hex_no (.inr rfl)), grpAll_hex _ h]
/-- No text that ends with a digit, and has no two colons, is cut before its end. -/
def noGap : By → Prop
  | [] => True
  | [x] => x ≠ 58
  | x :: y :: r => ¬ (x = 58 ∧ y = 58) ∧ noGap (y :: r)
theorem cut_none : ∀ (s : By), noGap s → cutGap s = none
  | [], _ => rfl
  | [x], _ => rfl
  | x :: y :: r, h => by
    rw [cutGap, if_neg h.1, cut_none (y :: r) h.2]; rfl
theorem cut_some : ∀ (s r : By), noGap s → cutGap (s ++ 58 :: 58 :: r) = some (s, r)
  | [], r, _ => by simp [cutGap]
  | [x], r, h => by
    show cutGap (x :: 58 :: 58 :: r) = _
    rw [cutGap, if_neg (fun e => h e.1)]
    simp [cutGap]
  | x :: y :: q, r, h => by
    have ih := cut_some (y :: q) r h.2
    show cutGap (x :: y :: (q ++ 58 :: 58 :: r)) = _
    rw [cutGap, if_neg h.1]
    have ih' : cutGap (y :: (q ++ 58 :: 58 :: r)) = some (y :: q, r) := ih
    rw [ih']; rfl
theorem noGap_hex : ∀ (p q : By), 0 < p.length → (∀ x ∈ p, x ≠ 58) → (q = [] ∨ ∃ y r, q = 58 :: y :: r ∧ y ≠ 58 ∧ noGap (y :: r)) → noGap (p ++ q)
  | [], _, h, _, _ => by simp at h
  | [x], q, _, h, hq => by
    have hx := h x (by simp)
    rcases hq with rfl | ⟨y, r, rfl, hy, hn⟩
    · exact hx
    · exact ⟨fun e => hx e.1, fun e => hy e.2, hn⟩
  | x :: y :: r, q, _, h, hq => by
    have ih := noGap_hex (y :: r) q (by simp) (fun z hz => h z (by simp only [List.mem_cons] at hz ⊢; exact .inr hz)) hq
    exact ⟨fun e => h x (by simp) e.1, ih⟩
theorem noGap_join : ∀ (l : List Nat), noGap (joinC 58 (l.map hexL))
  | [] => trivial
  | [n] => by
    have := noGap_hex (hexL n) [] (hex_ne n) (hex_no (.inr rfl)) (.inl rfl)
    simpa [joinC] using this
  | n :: m :: r => by
    have ih := noGap_join (m :: r)
    show noGap (hexL n ++ 58 :: joinC 58 ((m :: r).map hexL))
    refine noGap_hex (hexL n) _ (hex_ne n) (hex_no (.inr rfl)) (.inr ?_)
    have hp := hex_ne m
    cases hq : hexL m with
    | nil => rw [hq] at hp; simp at hp
    | cons y z =>
      have hy : y ≠ 58 := hex_no (.inr rfl) (n := m) y (by rw [hq]; simp)
      cases r with
      | nil =>
        have e : joinC 58 ([m].map hexL) = y :: z := by show hexL m = _; exact hq
        rw [e] at ih ⊢
        exact ⟨y, z, rfl, hy, ih⟩
      | cons k w =>
        have e : joinC 58 ((m :: k :: w).map hexL) = y :: (z ++ 58 :: joinC 58 ((k :: w).map hexL)) := by show hexL m ++ _ = _; rw [hq]; rfl
        rw [e] at ih ⊢
        exact ⟨y, _, rfl, hy, ih⟩
theorem zeros_le : ∀ l : List Nat, zeros l ≤ l.length
  | [] => Nat.le_refl _
  | 0 :: r => by rw [zeros]; have := zeros_le r; simp; omega
  | (n + 1) :: r => by simp [zeros]
theorem zeros_spec : ∀ l : List Nat, l = List.replicate (zeros l) 0 ++ l.drop (zeros l)
  | [] => rfl
  | 0 :: r => by
    rw [zeros, List.replicate_succ, List.cons_append, List.drop_succ_cons, ← zeros_spec r]
  | (n + 1) :: r => by simp [zeros]
theorem bestGo_spec : ∀ (l : List Nat) (i : Nat) (at_ : Option Nat) (most : Nat), bestGo l i at_ most = (at_, most) ∨ ∃ j, j < l.length ∧ (bestGo l i at_ most).1 = some (i + j) ∧ (bestGo l i at_ most).2 = zeros (l.drop j) ∧ most < (bestGo l i at_ most).2
  | [], i, at_, most => .inl rfl
  | x :: r, i, at_, most => by
    rw [bestGo]
    split
    · rename_i h
      rcases bestGo_spec r (i + 1) (some i) (zeros (x :: r)) with h1 | ⟨j, h1, h2, h3, h4⟩
      · rw [h1]
        exact .inr ⟨0, by simp, by simp, rfl, h⟩
      · exact .inr ⟨j + 1, by simp; omega, by rw [h2]; congr 1; omega, by rw [h3]; rfl, by omega⟩
    · rcases bestGo_spec r (i + 1) at_ most with h1 | ⟨j, h1, h2, h3, h4⟩
      · exact .inl h1
      · exact .inr ⟨j + 1, by simp; omega, by rw [h2]; congr 1; omega, by rw [h3]; rfl, h4⟩
/-- What is left out: two or more zeros that stand there. -/
theorem best_spec (l : List Nat) : best l = (none, 1) ∨ ∃ k m, best l = (some k, m) ∧ 2 ≤ m ∧ k + m ≤ l.length ∧ l = l.take k ++ List.replicate m 0 ++ l.drop (k + m) := by
  rcases bestGo_spec l 0 none 1 with h | ⟨j, h1, h2, h3, h4⟩
  · exact .inl h
  · right
    have hz := zeros_spec (l.drop j)
    have hl := zeros_le (l.drop j)
    rw [List.length_drop] at hl
    refine ⟨j, zeros (l.drop j), ?_, by rw [h3] at h4; omega, by omega, ?_⟩
    · rw [Nat.zero_add] at h2
      show bestGo l 0 none 1 = _
      rw [← h3, ← h2]
    · rw [List.drop_drop] at hz
      rw [List.append_assoc, ← hz, List.take_append_drop]
theorem parse6_fmt6 {l : List Nat} (hl : l.length = 8) (h : ∀ n ∈ l, n < 65536) : parse6 (fmt6 l) = some l := by
  unfold fmt6
  rcases best_spec l with hb | ⟨k, m, hb, hm, hkm, hsp⟩
  · rw [hb]
    show parse6 (joinC 58 (l.map hexL)) = _
    unfold parse6
    rw [cut_none _ (noGap_join l), groups_join h]
    show (if l.length = 8 then some l else none) = _
    rw [if_pos hl]
  · rw [hb]
    show parse6 (joinC 58 ((l.take k).map hexL) ++ [58, 58] ++ joinC 58 ((l.drop (k + m)).map hexL)) = _
    unfold parse6
    rw [List.append_assoc]
    show (match cutGap (joinC 58 ((l.take k).map hexL) ++ 58 :: 58 :: joinC 58 ((l.drop (k + m)).map hexL)) with
      | none => _
      | some (a, b) => _) = _
    rw [cut_some _ _ (noGap_join _)]
    show (match groupsS (joinC 58 ((l.take k).map hexL)), groupsS (joinC 58 ((l.drop (k + m)).map hexL)) with
      | some x, some y => if x.length + y.length ≤ 7 then some (x ++ List.replicate (8 - (x.length + y.length)) 0 ++ y) else none
      | _, _ => none) = _
    rw [groups_join (fun n hn => h n (List.mem_of_mem_take hn)), groups_join (fun n hn => h n (List.mem_of_mem_drop hn))]
    show (if (l.take k).length + (l.drop (k + m)).length ≤ 7 then some (l.take k ++ List.replicate (8 - ((l.take k).length + (l.drop (k + m)).length)) 0 ++ l.drop (k + m)) else none) = _
    have e1 : (l.take k).length + (l.drop (k + m)).length = 8 - m := by
      rw [List.length_take, List.length_drop]; omega
    rw [e1, if_pos (by omega), show 8 - (8 - m) = m by omega, ← hsp]
theorem fmt6_mem (l : List Nat) (c : UInt8) (hc : c ∈ fmt6 l) : c = 58 ∨ (48 ≤ c.toNat ∧ c.toNat ≤ 57) ∨ (97 ≤ c.toNat ∧ c.toNat ≤ 102) := by
  have key : ∀ q : List Nat, c ∈ joinC 58 (q.map hexL) → c = 58 ∨ (48 ≤ c.toNat ∧ c.toNat ≤ 57) ∨ (97 ≤ c.toNat ∧ c.toNat ≤ 102) := fun q hq => by
    rcases join_mem _ _ hq with h | ⟨p, hp, h⟩
    · exact .inl h
    · obtain ⟨n, _, rfl⟩ := List.mem_map.1 hp
      exact .inr (hex_digits n c h)
  unfold fmt6 at hc
  split at hc
  · exact key _ hc
  · rw [List.mem_append, List.mem_append] at hc
    rcases hc with (hc | hc) | hc
    · exact key _ hc
    · simp at hc
      exact .inl hc
    · exact key _ hc
theorem fmt4_mem (l : List Nat) (c : UInt8) (hc : c ∈ fmt4 l) : c = 46 ∨ (48 ≤ c.toNat ∧ c.toNat ≤ 57) := by
  unfold fmt4 at hc
  rcases join_mem _ _ hc with h | ⟨p, hp, h⟩
  · exact .inl h
  · obtain ⟨n, _, rfl⟩ := List.mem_map.1 hp
    exact .inr (num_digits n c h)
theorem parse4_no (s : By) (h : ∀ x ∈ s, x ≠ 46) : parse4 s = none := by
  unfold parse4 splitL
  rw [splitGo_none s [] h]
  simp
/-- PARSING A PRINTED ADDRESS RETURNS IT. -/
theorem parse_fmt {a : Adr} (h : a.ok) : parseS (fmtS a) = some a := by
  obtain ⟨v6, n⟩ := a
  cases v6 with
  | false =>
    have hn : n < 256 ^ 4 := by
      have : n < 2 ^ width false := h
      simpa [width] using this
    show parseS (fmt4 (digitsOf 256 n 4)) = _
    unfold parseS
    rw [parse4_fmt4 (digitsOf_len _ _ _) (fun d hd => by have := digitsOf_lt (by omega) 4 n d hd; omega)]
    show some (Adr.mk false (ofDigits 256 (digitsOf 256 n 4))) = _
    rw [ofDigits_of (by omega) 4 n hn]
  | true =>
    have hn : n < 65536 ^ 8 := by
      have : n < 2 ^ width true := h
      simpa [width] using this
    show parseS (fmt6 (digitsOf 65536 n 8)) = _
    unfold parseS
    rw [parse4_no _ (fun x hx e => by
      subst e
      rcases fmt6_mem _ _ hx with h | h | h
      · exact absurd h (by decide)
      · exact absurd h.1 (by decide)
      · exact absurd h.1 (by decide)), parse6_fmt6 (digitsOf_len _ _ _) (digitsOf_lt (by omega) 8 n)]
    show some (Adr.mk true (ofDigits 65536 (digitsOf 65536 n 8))) = _
    rw [ofDigits_of (by omega) 8 n hn]
theorem join_len (c : UInt8) (k : Nat) : ∀ l : List By, (∀ p ∈ l, p.length ≤ k) → (joinC c l).length ≤ l.length * (k + 1)
  | [], _ => by simp [joinC]
  | [p], h => by have := h p (by simp); simp [joinC]; omega
  | p :: q :: r, h => by
    have ih := join_len c k (q :: r) (fun y hy => h y (by simp only [List.mem_cons] at hy ⊢; exact .inr hy))
    have := h p (by simp)
    rw [joinC, List.length_append, List.length_cons]
    simp only [List.length_cons] at ih ⊢
    rw [Nat.add_mul (r.length + 1) 1]
    omega
/-- No text of an address is longer than 42 bytes. -/
theorem fmt_len {a : Adr} (h : a.ok) : (fmtS a).length ≤ 42 := by
  obtain ⟨v6, n⟩ := a
  cases v6 with
  | false =>
    show (fmt4 (digitsOf 256 n 4)).length ≤ 42
    unfold fmt4
    have := join_len 46 3 ((digitsOf 256 n 4).map numL) (fun p hp => by
      obtain ⟨d, hd, rfl⟩ := List.mem_map.1 hp
      exact num_len (by have := digitsOf_lt (by omega) 4 n d hd; omega))
    rw [List.length_map, digitsOf_len] at this
    omega
  | true =>
    show (fmt6 (digitsOf 65536 n 8)).length ≤ 42
    have hl := digitsOf_len 65536 8 n
    have hd := digitsOf_lt (b := 65536) (by omega) 8 n
    generalize digitsOf 65536 n 8 = l at *
    have key : ∀ q : List Nat, (∀ d ∈ q, d < 65536) → (joinC 58 (q.map hexL)).length ≤ q.length * 5 := fun q hq => by
      have := join_len 58 4 (q.map hexL) (fun p hp => by
        obtain ⟨d, hd, rfl⟩ := List.mem_map.1 hp
        exact hex_len (hq d hd))
      rwa [List.length_map] at this
    unfold fmt6
    split
    · have := key l hd
      omega
    · rename_i k m _
      have h1 := key (l.take k) (fun d hd' => hd d (List.mem_of_mem_take hd'))
      have h2 := key (l.drop (k + m)) (fun d hd' => hd d (List.mem_of_mem_drop hd'))
      rw [List.length_take] at h1
      rw [List.length_drop] at h2
      rw [List.length_append, List.length_append]
      simp only [List.length_cons, List.length_nil]
      omega

/-! ### Prefixes -/
structure Pfx where
  a : Adr
  bits : Nat
/-- The first bits of a number of w bits, the others 0; the others 1. -/
def cutN (w bits n : Nat) : Nat := n / 2 ^ (w - bits) * 2 ^ (w - bits)
def fillN (w bits n : Nat) : Nat := cutN w bits n + (2 ^ (w - bits) - 1)
def Pfx.ok (p : Pfx) : Prop := p.a.ok ∧ p.bits ≤ width p.a.v6 ∧ cutN (width p.a.v6) p.bits p.a.n = p.a.n
def fmtP (p : Pfx) : By := fmtS p.a ++ 47 :: numL p.bits
/-- What a text of a prefix denotes: the address ahead of the first stroke, and the number behind it (-1, -2 as decS has it). -/
def cutAt (c : UInt8) : By → By × Option By
  | [] => ([], none)
  | x :: r => if x = c then ([], some r) else ((x :: (cutAt c r).1), (cutAt c r).2)
theorem cutAt_at {c : UInt8} : ∀ (p r : By), (∀ x ∈ p, x ≠ c) → cutAt c (p ++ c :: r) = (p, some r)
  | [], r, _ => by simp [cutAt]
  | x :: q, r, h => by
    rw [List.cons_append, cutAt, if_neg (h x (by simp)), cutAt_at q r (fun y hy => h y (by simp [hy]))]
theorem fmt_no47 (a : Adr) : ∀ x ∈ fmtS a, x ≠ 47 := fun x hx e => by
  subst e
  unfold fmtS at hx
  split at hx
  · rcases fmt6_mem _ _ hx with h | h | h
    · exact absurd h (by decide)
    · exact absurd h.1 (by decide)
    · exact absurd h.1 (by decide)
  · rcases fmt4_mem _ _ hx with h | h
    · exact absurd h (by decide)
    · exact absurd h.1 (by decide)
theorem cut_fmtP (p : Pfx) : cutAt 47 (fmtP p) = (fmtS p.a, some (numL p.bits)) := cutAt_at _ _ (fmt_no47 p.a)
theorem fmtP_len {p : Pfx} (h : p.ok) : (fmtP p).length ≤ 64 := by
  have h1 := fmt_len h.1
  have h2 : (numL p.bits).length ≤ 3 := num_len (by
    have := h.2.1
    unfold width at this
    split at this <;> omega)
  unfold fmtP
  rw [List.length_append, List.length_cons]
  omega
theorem cutN_le (w bits n : Nat) : cutN w bits n ≤ n := Nat.div_mul_le_self _ _
theorem cutN_cutN (w bits n : Nat) : cutN w bits (cutN w bits n) = cutN w bits n := by
  unfold cutN
  rw [Nat.mul_div_cancel _ (Nat.two_pow_pos _)]
theorem fillN_lt {w bits n : Nat} (hb : bits ≤ w) (h : n < 2 ^ w) : fillN w bits n < 2 ^ w := by
  unfold fillN cutN
  have h2 : 2 ^ w = 2 ^ bits * 2 ^ (w - bits) := by rw [← Nat.pow_add]; congr 1; omega
  have h3 := Nat.two_pow_pos (w - bits)
  have h4 : n / 2 ^ (w - bits) < 2 ^ bits := by rw [Nat.div_lt_iff_lt_mul h3, ← h2]; exact h
  have h5 := Nat.mul_le_mul_right (2 ^ (w - bits)) (show n / 2 ^ (w - bits) + 1 ≤ 2 ^ bits from h4)
  rw [Nat.add_mul, Nat.one_mul] at h5
  omega
/-- A PREFIX CONTAINS EXACTLY WHAT LIES BETWEEN ITS BOUNDS. -/
theorem cutN_between {w bits n m : Nat} : cutN w bits m = cutN w bits n ↔ cutN w bits n ≤ m ∧ m ≤ fillN w bits n := by
  unfold fillN cutN
  have h3 := Nat.two_pow_pos (w - bits)
  generalize 2 ^ (w - bits) = b at *
  constructor
  · intro h
    have h1 := Nat.div_mul_le_self m b
    have h2 := Nat.lt_div_mul_add h3 (a := m)
    omega
  · rintro ⟨h1, h2⟩
    have e : m / b = n / b := by
      apply Nat.div_eq_of_lt_le
      · exact h1
      · rw [Nat.add_mul, Nat.one_mul]; omega
    rw [e]
end Go.Proofs.YtepbmnpjpkmmfaaGreatDoor

/- Plain mathematics of sets of ports as texts: no Go in sight. -/
namespace Go.Proofs.YtepbmnpjpkmmfaaGreatDoor
set_option linter.unusedVariables false

/-- A number's value, 65536 if it is greater. -/
def numP (s : By) : Option Nat := if s.length = 0 ∨ (1 < s.length ∧ s.head? = some 48) then none else decGo 65535 0 s
/-- What an item says: an error's code (0: none), and its span. -/
structure Itm where
  e : Nat
  lo : Nat
  hi : Nat
def rngP (lo hi : Nat) : Itm := if 65535 < lo ∨ 65535 < hi ∨ hi < lo then ⟨4, 0, 0⟩ else ⟨0, lo, hi⟩
def synP : Itm := ⟨14, 0, 0⟩
def loP (a : By) : Option Nat := if a = [] then some 0 else numP a
def hiP (a : By) : Option Nat := if a = [] then some 65535 else numP a
def oneP (a : By) : Itm := match numP a with
  | some n => rngP n n
  | none => synP
def twoP (a b : By) : Itm := if a = [] ∧ b = [] then synP else match loP a, hiP b with
  | some x, some y => rngP x y
  | _, _ => synP
def itemP (s : By) : Itm :=
  match splitL 58 s with
  | [a] => oneP a
  | [a, b] => twoP a b
  | _ => synP
/-- Is a part of a text excluded; its item. -/
def exc (t : By) : Bool := decide (t.head? = some 33)
def bare (t : By) : By := if exc t = true then t.tail else t
def spP (t : By) : Spn := ⟨(itemP (bare t)).lo, (itemP (bare t)).hi⟩
/-- The first error of the parts. -/
def errL : List By → Nat
  | [] => 0
  | t :: r => if (itemP (bare t)).e = 0 then errL r else (itemP (bare t)).e
def incL (l : List By) : List Spn := (l.filter fun t => !exc t).map spP
def excL (l : List By) : List Spn := (l.filter exc).map spP
def inPort (m : Int) : Bool := decide (0 ≤ m) && decide (m ≤ 65535)
/-- Which ports two lists of spans denote. -/
def portF (w o : List Spn) (m : Int) : Bool := inPort m && ((w.isEmpty || anyS w m) && !anyS o m)
def anyT : By := [97, 110, 121]
/-- A text's error, and the ports that it denotes. -/
def errP (s : By) : Nat := if 1024 < s.length then 3 else if s = anyT then 0 else if 64 < (splitL 44 s).length then 3 else errL (splitL 44 s)
def setP (s : By) (m : Int) : Bool := if s = anyT then inPort m else portF (incL (splitL 44 s)) (excL (splitL 44 s)) m
/-- A set's text. -/
def fmtSp (s : Spn) : By := numL s.lo.toNat ++ if s.lo = s.hi then [] else 58 :: numL s.hi.toNat
def noneT : By := [33, 48, 58, 54, 53, 53, 51, 53]
def isAll : List Spn → Bool
  | [] => false
  | s :: _ => decide (s.lo = 0) && decide (s.hi = 65535)
def fmtL (L : List Spn) : By := if L = [] then noneT else if isAll L = true then anyT else joinC 44 (L.map fmtSp)

theorem errL_append : ∀ (a b : List By), errL (a ++ b) = if errL a = 0 then errL b else errL a
  | [], b => by simp [errL]
  | t :: r, b => by
    rw [List.cons_append, errL, errL, errL_append r b]
    by_cases h : (itemP (bare t)).e = 0
    · rw [if_pos h, if_pos h]
    · rw [if_neg h, if_neg h, if_neg h]
theorem incL_append (a b : List By) : incL (a ++ b) = incL a ++ incL b := by simp [incL]
theorem excL_append (a b : List By) : excL (a ++ b) = excL a ++ excL b := by simp [excL]
theorem incL_one (t : By) : incL [t] = if exc t = true then [] else [spP t] := by
  cases h : exc t <;> simp [incL, h]
theorem excL_one (t : By) : excL [t] = if exc t = true then [spP t] else [] := by
  cases h : exc t <;> simp [excL, h]
theorem splitGo_append (c : UInt8) : ∀ (s cur r : By), splitGo c cur (s ++ c :: r) = splitGo c cur s ++ splitL c r
  | [], cur, r => by simp [splitGo, splitL]
  | x :: s, cur, r => by
    rw [List.cons_append, splitGo, splitGo, splitGo_append c s [] r, splitGo_append c s (cur ++ [x]) r]
    split <;> simp
theorem splitL_append (c : UInt8) (s r : By) : splitL c (s ++ c :: r) = splitL c s ++ splitL c r := splitGo_append c s [] r
theorem numP_num {n : Nat} (h : n ≤ 65535) : numP (numL n) = some n := by
  unfold numP
  rw [if_neg, decGo_num n h]
  rintro (h1 | ⟨h1, h2⟩)
  · have := num_ne n; omega
  · rw [num_head n h2, num_zero] at h1
    simp at h1
theorem num_ne_nil (n : Nat) : numL n ≠ [] := fun e => by
  have := num_ne n
  rw [e] at this
  simp at this
theorem num_not {c : UInt8} (hc : c.toNat < 48 ∨ 57 < c.toNat) {n : Nat} : ∀ x ∈ numL n, x ≠ c := fun x hx e => by
  have := num_digits n x hx
  rw [e] at this
  omega
theorem item_one {n : Nat} (h : n ≤ 65535) : itemP (numL n) = ⟨0, n, n⟩ := by
  have hs : splitL 58 (numL n) = [numL n] := by
    show splitGo 58 [] (numL n) = _
    rw [splitGo_none _ _ (num_not (by decide))]
    rfl
  unfold itemP
  rw [hs]
  show oneP (numL n) = _
  unfold oneP
  rw [numP_num h]
  show rngP n n = _
  unfold rngP
  rw [if_neg (by omega)]
theorem item_two {a b : Nat} (hab : a ≤ b) (hb : b ≤ 65535) : itemP (numL a ++ 58 :: numL b) = ⟨0, a, b⟩ := by
  have hs : splitL 58 (numL a ++ 58 :: numL b) = [numL a, numL b] := by
    show splitGo 58 [] _ = _
    rw [splitGo_at _ _ _ (num_not (by decide)), splitGo_none _ _ (num_not (by decide))]
    rfl
  unfold itemP
  rw [hs]
  show twoP (numL a) (numL b) = _
  unfold twoP
  rw [if_neg (fun h => num_ne_nil a h.1)]
  unfold loP hiP
  rw [if_neg (num_ne_nil a), if_neg (num_ne_nil b), numP_num (by omega), numP_num hb]
  show rngP a b = _
  unfold rngP
  rw [if_neg (by omega)]
theorem fmtSp_item {s : Spn} (h0 : 0 ≤ s.lo) (h1 : s.lo ≤ s.hi) (h2 : s.hi ≤ 65535) : itemP (fmtSp s) = ⟨0, s.lo.toNat, s.hi.toNat⟩ := by
  unfold fmtSp
  by_cases e : s.lo = s.hi
  · rw [if_pos e, List.append_nil, item_one (by omega), e]
  · rw [if_neg e, item_two (by omega) (by omega)]
theorem fmtSp_head (s : Spn) : ∃ c r, fmtSp s = c :: r ∧ 48 ≤ c.toNat ∧ c.toNat ≤ 57 := by
  unfold fmtSp
  cases h : numL s.lo.toNat with
  | nil => exact absurd h (num_ne_nil _)
  | cons c r =>
    refine ⟨c, _, rfl, ?_⟩
    exact num_digits s.lo.toNat c (by rw [h]; simp)
theorem fmtSp_exc (s : Spn) : exc (fmtSp s) = false ∧ bare (fmtSp s) = fmtSp s := by
  obtain ⟨c, r, h, h1, h2⟩ := fmtSp_head s
  have : exc (fmtSp s) = false := by
    unfold exc
    rw [h, decide_eq_false_iff_not]
    intro e
    simp only [List.head?_cons, Option.some.injEq] at e
    rw [e] at h1
    revert h1
    decide
  refine ⟨this, ?_⟩
  unfold bare
  rw [if_neg (by rw [this]; decide)]
theorem fmtSp_no44 (s : Spn) : ∀ x ∈ fmtSp s, x ≠ 44 := fun x hx e => by
  subst e
  unfold fmtSp at hx
  rcases List.mem_append.1 hx with h | h
  · exact num_not (by decide) _ h rfl
  · split at h
    · cases h
    · rcases List.mem_cons.1 h with h | h
      · revert h; decide
      · exact num_not (by decide) _ h rfl
theorem okL_each {M : Int} : ∀ {l : List Spn} {c : Int}, 0 ≤ c → okL M c l → ∀ s ∈ l, 0 ≤ s.lo ∧ s.lo ≤ s.hi ∧ s.hi ≤ M
  | [], c, _, _, s, hs => by cases hs
  | x :: r, c, hc, h, s, hs => by
    obtain ⟨h1, h2, h3, h4⟩ := h
    rcases List.mem_cons.1 hs with rfl | hs
    · exact ⟨by omega, h2, h3⟩
    · exact okL_each (l := r) (c := x.hi + 2) (by omega) h4 s hs
theorem split_fmt {L : List Spn} (hne : L ≠ []) : splitL 44 (joinC 44 (L.map fmtSp)) = L.map fmtSp :=
  split_join _ (by simpa using hne) (fun p hp => by obtain ⟨s, _, rfl⟩ := List.mem_map.1 hp; exact fmtSp_no44 s)
theorem errL_fmt : ∀ {L : List Spn}, (∀ s ∈ L, 0 ≤ s.lo ∧ s.lo ≤ s.hi ∧ s.hi ≤ 65535) → errL (L.map fmtSp) = 0
  | [], _ => rfl
  | s :: r, h => by
    have h1 := h s (by simp)
    rw [List.map_cons, errL, (fmtSp_exc s).2, fmtSp_item h1.1 h1.2.1 h1.2.2, if_pos rfl]
    exact errL_fmt (fun t ht => h t (by simp [ht]))
theorem inc_fmt : ∀ {L : List Spn}, (∀ s ∈ L, 0 ≤ s.lo ∧ s.lo ≤ s.hi ∧ s.hi ≤ 65535) → incL (L.map fmtSp) = L ∧ excL (L.map fmtSp) = []
  | [], _ => ⟨rfl, rfl⟩
  | s :: r, h => by
    have h1 := h s (by simp)
    have ih := inc_fmt (L := r) (fun t ht => h t (by simp [ht]))
    have e : (s :: r).map fmtSp = [fmtSp s] ++ r.map fmtSp := rfl
    have hsp : spP (fmtSp s) = s := by
      unfold spP
      rw [(fmtSp_exc s).2, fmtSp_item h1.1 h1.2.1 h1.2.2]
      obtain ⟨a, b⟩ := s
      simp only [Spn.mk.injEq] at h1 ⊢
      omega
    rw [e, incL_append, excL_append, ih.1, ih.2, incL_one, excL_one, (fmtSp_exc s).1, hsp]
    simp
theorem join_head {L : List Spn} (hne : L ≠ []) : ∃ c r, joinC 44 (L.map fmtSp) = c :: r ∧ 48 ≤ c.toNat ∧ c.toNat ≤ 57 := by
  cases L with
  | nil => exact absurd rfl hne
  | cons s r =>
    obtain ⟨c, t, h, h1⟩ := fmtSp_head s
    cases r with
    | nil => exact ⟨c, t, h, h1⟩
    | cons y q =>
      refine ⟨c, t ++ 44 :: joinC 44 ((y :: q).map fmtSp), ?_, h1⟩
      show fmtSp s ++ 44 :: joinC 44 ((y :: q).map fmtSp) = _
      rw [h]
      rfl
theorem inPort_iff (m : Int) : inPort m = true ↔ 0 ≤ m ∧ m ≤ 65535 := by simp [inPort]
theorem okL_port {L : List Spn} (h : okL 65535 0 L) (m : Int) : (inPort m && anyS L m) = anyS L m := by
  cases e : anyS L m with
  | false => simp
  | true =>
    rw [Bool.and_true, inPort_iff]
    exact ⟨okL_ge h e, okL_le h e⟩
/-- PARSING WHAT WAS PRINTED GIVES THE SET. -/
theorem parse_fmtL {L : List Spn} (h : okL 65535 0 L) (hl : L.length ≤ 64) (hs : (fmtL L).length ≤ 1024) : errP (fmtL L) = 0 ∧ ∀ m, setP (fmtL L) m = anyS L m := by
  have hL := okL_each (Int.le_refl 0) h
  by_cases e1 : L = []
  · subst e1
    refine ⟨by decide +kernel, fun m => ?_⟩
    have e : fmtL [] = noneT := rfl
    rw [e]
    unfold setP
    rw [if_neg (by decide), show splitL 44 noneT = [noneT] by decide, show incL [noneT] = [] by decide]
    have : excL [noneT] = [⟨0, 65535⟩] := by kernel_rfl
    rw [this]
    unfold portF inPort anyS inS
    simp
  · cases e2 : isAll L with
    | true =>
      have e3 : fmtL L = anyT := by unfold fmtL; rw [if_neg e1, if_pos e2]
      rw [e3]
      refine ⟨by decide +kernel, fun m => ?_⟩
      cases L with
      | nil => exact absurd rfl e1
      | cons s r =>
        unfold isAll at e2
        rw [Bool.and_eq_true, decide_eq_true_eq, decide_eq_true_eq] at e2
        unfold setP
        rw [if_pos rfl]
        cases r with
        | nil =>
          unfold inPort anyS inS
          simp [e2.1, e2.2]
        | cons y q =>
          exfalso
          obtain ⟨-, -, -, h1, h2, h3, -⟩ := h
          omega
    | false =>
        have e : fmtL L = joinC 44 (L.map fmtSp) := by unfold fmtL; rw [if_neg e1, if_neg (by rw [e2]; decide)]
        rw [e] at hs ⊢
        obtain ⟨c, r, hc, h1, h2⟩ := join_head e1
        have hna : joinC 44 (L.map fmtSp) ≠ anyT := fun e => by
          rw [hc] at e
          unfold anyT at e
          simp only [List.cons.injEq] at e
          rw [e.1] at h2
          revert h2
          decide
        have hi := inc_fmt hL
        refine ⟨?_, fun m => ?_⟩
        · unfold errP
          rw [if_neg (by omega), if_neg hna, split_fmt e1, if_neg (by rw [List.length_map]; omega), errL_fmt hL]
        · unfold setP
          rw [if_neg hna, split_fmt e1, hi.1, hi.2]
          unfold portF
          rw [show L.isEmpty = false by simpa using e1]
          simp only [Bool.false_or, anyS, List.any_nil, Bool.not_false, Bool.and_true]
          exact okL_port h m
/-- Without one port more. -/
def tailT : By := [44, 33, 48]
theorem err_tail {s : By} (h : errP s = 0) (hf : errP (s ++ tailT) ≠ 0) : errP (s ++ tailT) = 3 ∨ errP (s ++ tailT) = 14 ∧ s = anyT := by
  by_cases ea : s = anyT
  · subst ea
    exact .inr ⟨by decide +kernel, rfl⟩
  · left
    have hna : s ++ tailT ≠ anyT := fun e => by
      have := congrArg List.reverse e
      unfold tailT anyT at this
      simp at this
    unfold errP at h hf ⊢
    by_cases h1 : 1024 < (s ++ tailT).length
    · rw [if_pos h1]
    · rw [if_neg h1, if_neg hna] at hf ⊢
      have hsp : splitL 44 (s ++ tailT) = splitL 44 s ++ [[33, 48]] := by
        show splitL 44 (s ++ 44 :: [33, 48]) = _
        rw [splitL_append]
        rfl
      rw [hsp] at hf ⊢
      by_cases h2 : 64 < (splitL 44 s ++ [[33, 48]]).length
      · rw [if_pos h2]
      · exfalso
        rw [if_neg h2] at hf
        rw [List.length_append] at h1 h2
        rw [if_neg (by omega), if_neg ea, if_neg (by omega)] at h
        rw [errL_append, if_pos h] at hf
        exact hf (by decide +kernel)
theorem set_tail {s : By} (h : errP s = 0) (hf : errP (s ++ tailT) = 0) (m : Int) : setP (s ++ tailT) m = (setP s m && !anyS [⟨0, 0⟩] m) := by
  by_cases ea : s = anyT
  · subst ea
    exact absurd hf (by decide +kernel)
  · have hna : s ++ tailT ≠ anyT := fun e => by
      have := congrArg List.reverse e
      unfold tailT anyT at this
      simp at this
    have hsp : splitL 44 (s ++ tailT) = splitL 44 s ++ [[33, 48]] := by
      show splitL 44 (s ++ 44 :: [33, 48]) = _
      rw [splitL_append]
      rfl
    unfold setP
    rw [if_neg hna, if_neg ea, hsp, incL_append, excL_append]
    have h1 : incL [[33, 48]] = [] := by decide +kernel
    have h2 : excL [[33, 48]] = [⟨0, 0⟩] := by kernel_rfl
    rw [h1, h2, List.append_nil]
    unfold portF
    rw [anyS_append]
    cases inPort m <;> cases ((incL (splitL 44 s)).isEmpty || anyS (incL (splitL 44 s)) m) <;> cases anyS (excL (splitL 44 s)) m <;> cases anyS [⟨0, 0⟩] m <;> rfl
end Go.Proofs.YtepbmnpjpkmmfaaGreatDoor
