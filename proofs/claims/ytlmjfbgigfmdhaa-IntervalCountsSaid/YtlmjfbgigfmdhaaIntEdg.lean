/- Contract of the program of layer 5: edges (the sort of integers by the library's contract). -/
import Derived.Test.YtlmjfbgigfmdhaaIntPVal
import Derived.Test.YtlmjfbgigfmdhaaIntRComb
import Derived.Shelf.SortM.Plain
import Derived.Shelf.SortM.SortNone
import Derived.Laws.OwnMore
namespace Go.Proofs.Ytlmjfbgigfmdhaa
open Go.ChangeShapes Go.WideShapes Go.ChangeAt Go.RowKit Go.Sort
set_option linter.unusedVariables false

/-- The edges of a set: where its spans begin, and what follows their ends. -/
def edgL (l : List Spn) : List Int := l.flatMap fun s => [s.lo, s.hi + 1]
theorem edgL_length (l : List Spn) : (edgL l).length = l.length * 2 := by
  unfold edgL
  induction l with
  | nil => rfl
  | cons t r ih => rw [List.flatMap_cons, List.length_append, ih]; simp; omega
theorem edgL_take {l : List Spn} {k : Nat} {s : Spn} (hs : l[k]? = some s) : edgL (l.take (k + 1)) = edgL (l.take k) ++ [s.lo, s.hi + 1] := by
  obtain ⟨hk, e⟩ := List.getElem?_eq_some_iff.1 hs
  rw [List.take_succ_eq_append_getElem hk, e]
  simp [edgL]
def intC (l : List Int) : List Value := l.map (Value.int .i64)
theorem intC_append (a b : List Int) : intC (a ++ b) = intC a ++ intC b := by simp [intC]
theorem info_int5 : (Try.prog.info? 3).map (fun i => (i.zero, i.size, i.bytes)) = some (some (.int .i64 0), 1, 8) := by kernel_rfl
/-- A slice of integers in memory. -/
def InL (base : Nat) (w : World) (A : Option Addr) (l : List Int) : Prop :=
  0 < l.length → ∃ g, A = some ⟨g, 0, none⟩ ∧ base ≤ g ∧ g < w.heap.size ∧ ∀ (i : Nat) (x : Int), l[i]? = some x → w.cell? ⟨g, i, none⟩ = some (.int .i64 x)
/-- The edges of two sets in order. -/
def edgesS (a b : List Spn) : List Int := (edgL a ++ edgL b).mergeSort fun x y => decide (x ≤ y)

theorem pints_any (g cap base : Nat) (zs : List Int) (w : World) (hown : w.ownsRow base 3 1 (.slice (some ⟨g, 0, none⟩) zs.length cap) zs.length (intC zs)) (hl : zs.length ≤ 1000000) :
    Calls Try.prog 60 #[.slice (some ⟨g, 0, none⟩) zs.length cap] w fun e w' => e = .returned (.tuple #[]) ∧ InL base w' (some ⟨g, 0, none⟩) (zs.mergeSort fun x y => decide (x ≤ y)) ∧ RowKit.Below base w w' := by
  have hlt := hown.lt g rfl
  have hH : Holds (Value.int .i64) w g 0 zs.toArray := fun j hj => by
    rw [List.size_toArray] at hj
    rw [Nat.zero_add]
    refine ⟨?_, hown.frozenAt j⟩
    rw [hown.cellAt j (by omega)]
    unfold intC
    rw [List.getElem?_map, List.getElem?_eq_getElem hj]
    simp [getElem!_pos, hj]
  have hcon := AnyM.slices_Sort_int laySi g 0 cap zs w hH hlt.2 (by omega)
  refine hcon.mono ?_
  rintro e w' ⟨rfl, n, os, rfl⟩
  obtain ⟨S, hS⟩ : ∃ S, S = zs.mergeSort fun x y => decide (x ≤ y) := ⟨_, rfl⟩
  have hSl : S.length = zs.length := by rw [hS]; exact List.length_mergeSort _
  rw [← hS]
  have hsz : (putRow (Value.int .i64) (Sort.ahead w n) g 0 S.toArray).heap.size = w.heap.size := by simp [putRow, mapBlock, Sort.ahead]
  have hK : Holds (Value.int .i64) (grow (putRow (Value.int .i64) (Sort.ahead w n) g 0 S.toArray) os) g 0 S.toArray :=
    holds_grow _ _ _ _ _ _ (by rw [hsz]; exact hlt.2) (holds_putRow _ _ _ _ zs.toArray _ hH (by simp [hSl]))
  refine ⟨rfl, fun _ => ⟨g, rfl, hlt.1, ?_, fun i x hi => ?_⟩, ?_⟩
  · rw [size_grow, hsz]; omega
  · obtain ⟨hil, hie⟩ := List.getElem?_eq_some_iff.1 hi
    have := (hK i (by simpa using hil)).1
    rw [Nat.zero_add] at this
    rw [this]
    simp [getElem!_pos, hil, hie]
  · refine ⟨rfl, rfl, rfl, ?_, fun k hk => ?_⟩
    · rw [size_grow, hsz]; omega
    · rw [heap_grow_old _ _ (by rw [hsz]; omega)]
      simp [putRow, mapBlock, Sort.ahead, Array.getElem?_modify, show g ≠ k by omega]
theorem pints_nil (A : Option Addr) (cap : Nat) (w : World) :
    Calls Try.prog 60 #[.slice A 0 cap] w fun e w' => e = .returned (.tuple #[]) ∧ w' = w := AnyM.slices_Sort_int_none laySi A cap w

theorem heap_alloc_lt (w : World) (o : Obj) {b : Nat} (h : b < w.heap.size) : (w.alloc o).heap[b]? = w.heap[b]? := (below_alloc5 w o).block b h
def good5 (M : Int) (l : List Spn) : Prop := ∀ s ∈ l, 0 ≤ s.lo ∧ s.lo ≤ s.hi ∧ s.hi ≤ M
theorem okL_good {M : Int} {l : List Spn} (h : okL M 0 l) : good5 M l := fun s hs => by
  obtain ⟨k, hk, e⟩ := List.getElem_of_mem hs
  exact okL_get (k := k) (by rw [List.getElem?_eq_getElem hk, e]) h
/-- The edges of the first i of two sets. -/
def preE (a b : List Spn) : Nat → List Int
  | 0 => []
  | 1 => edgL a
  | _ => edgL a ++ edgL b
set_option maxHeartbeats 400000 in
set_option maxRecDepth 20000 in
theorem pedges_any (A1 A2 : Option Addr) (c1 c2 : Nat) (a b : List Spn) (w : World) (h1 : SpL w A1 a) (h2 : SpL w A2 b) (g1 : good5 4294967296 a) (g2 : good5 4294967296 b) (hl1 : a.length ≤ 100000) (hl2 : b.length ≤ 100000) :
    Calls Try.prog 48 #[.slice A1 a.length c1, .slice A2 b.length c2] w fun e w' => ∃ A' c', e = .returned (.slice A' (edgesS a b).length c') ∧ InL w.heap.size w' A' (edgesS a b) ∧ RowKit.Below w.heap.size w w' := by
  obtain ⟨la, hla⟩ : ∃ n, n = a.length := ⟨_, rfl⟩
  obtain ⟨lb, hlb⟩ : ∃ n, n = b.length := ⟨_, rfl⟩
  rw [← hla, ← hlb]
  obtain ⟨i0, hinf, hz0, hz1, hz2⟩ := info_parts info_int5
  have HT := Lib.hid (show ∀ i, i < 2 → ∃ A0 n0 cc0, ∃ l0 : List Spn, (#[.slice A1 la c1, .slice A2 lb c2] : Array Value)[i]? = some (.slice A0 n0 cc0) ∧ SpL w A0 l0 ∧ n0 = l0.length ∧ n0 ≤ 100000 ∧ good5 4294967296 l0 ∧ preE a b (i + 1) = preE a b i ++ edgL l0 from fun i hi => by
    match i, hi with
    | 0, _ => exact ⟨A1, la, c1, a, rfl, h1, hla, by omega, g1, rfl⟩
    | 1, _ => exact ⟨A2, lb, c2, b, rfl, h2, hlb, by omega, g2, rfl⟩)
  have HP := Lib.hid (show (preE a b 2).length = 2 * la + 2 * lb from by
    show (edgL a ++ edgL b).length = _
    rw [List.length_append, edgL_length, edgL_length]; omega)
  have HPL := Lib.hid (show ∀ i, (preE a b i).length ≤ 2 * la + 2 * lb from fun i => by
    match i with
    | 0 => simp [preE]
    | 1 => show (edgL a).length ≤ _; rw [edgL_length]; omega
    | i + 2 => show (edgL a ++ edgL b).length ≤ _; rw [List.length_append, edgL_length, edgL_length]; omega)
  have HE := Lib.hid (show edgesS a b = (preE a b 2).mergeSort fun x y => decide (x ≤ y) from rfl)
  have HP0 := Lib.hid (show preE a b 0 = [] from rfl)
  generalize preE a b = pre at *
  obtain ⟨ES, hES⟩ : ∃ ES, ES = edgesS a b := ⟨_, rfl⟩
  rw [← hES] at HE ⊢
  have hs1 : la ≤ 100000 := by omega
  have hs2 : lb ≤ 100000 := by omega
  clear h1 h2 g1 g2 hla hlb hl1 hl2 hES
  obtain ⟨tb, htb⟩ : ∃ tb, tb = w.heap.size := ⟨_, rfl⟩
  go_enter Try.func48, Try.ntmps48
  go_wp2_with fail
  have hcell0 := cells_new w 22 #[.slice A1 la c1, .slice A2 lb c2]
  have HC := Lib.hid (show Cells (w.alloc (.cells #[.slice A1 la c1, .slice A2 lb c2] 22)) tb 22 #[.slice A1 la c1, .slice A2 lb c2] by rw [htb]; exact hcell0)
  have HB := Lib.hid (below_alloc5 w (.cells #[.slice A1 la c1, .slice A2 lb c2] 22))
  have HO := Lib.hid (World.ownsRow_nil (w.alloc (.cells #[.slice A1 la c1, .slice A2 lb c2] 22)) (w.heap.size + 1) 3 1)
  rw [← htb]
  generalize w.alloc (.cells #[.slice A1 la c1, .slice A2 lb c2] 22) = w1 at *
  have HTB := Lib.hid htb
  clear hcell0 htb
  go_loopw [5, 14] (fun v5 v14 wr => ∃ i cap' : Nat, ∃ A' : Option Addr, ∃ out : List Int, i ≤ 2 ∧ v14 = .int .i64 i ∧ v5 = .slice A' out.length cap' ∧ Hid (out = pre i) ∧ Hid (RowKit.Below w.heap.size w wr) ∧ Hid (Cells wr tb 22 #[.slice A1 la c1, .slice A2 lb c2]) ∧ Hid (wr.ownsRow (w.heap.size + 1) 3 1 (.slice A' out.length cap') out.length (intC out))) (fun _ v14 _ => 2 - (intOf v14).toNat)
  case atStart => exact ⟨0, 0, none, [], by omega, rfl, rfl, Lib.hid HP0.out.symm, HB, HC, HO⟩
  case round =>
    clear HC HB HO HP0
    obtain ⟨i, cap', A', out, hi2, rfl, rfl, HOUT, HB, HC, HO⟩ := hrel
    by_cases hlt : i < 2
    · have hii : (i : Int) < 2 := by omega
      have hii0 : (0 : Int) ≤ (i : Int) := by omega
      obtain ⟨A0, n0, cc0, l0, hc0, hs0, hn0, hn6, hg0, hpre⟩ := HT.out i hlt
      have x0 : wr.cell? ⟨tb, i, none⟩ = some (.slice A0 n0 cc0) := (Cells.cell HC.out i).trans hc0
      have HS0 := Lib.hid hs0
      have HN0 := Lib.hid hn0
      have HG0 := Lib.hid hg0
      have HPRE := Lib.hid hpre
      have HOUT0 := Lib.hid (show out = pre i ++ edgL (l0.take 0) by rw [HOUT.out]; simp [edgL])
      have hnew : (1 : Int) = 1 := rfl
      clear hc0 hs0 hn0 hg0 hpre HOUT hnew
      go_wp2_with fail
      go_loopw [5, 20] (fun v5 v20 wr => ∃ k cap' : Nat, ∃ A' : Option Addr, ∃ out : List Int, k ≤ n0 ∧ v20 = .int .i64 k ∧ v5 = .slice A' out.length cap' ∧ Hid (out = pre i ++ edgL (l0.take k)) ∧ Hid (RowKit.Below w.heap.size w wr) ∧ Hid (Cells wr tb 22 #[.slice A1 la c1, .slice A2 lb c2]) ∧ Hid (wr.ownsRow (w.heap.size + 1) 3 1 (.slice A' out.length cap') out.length (intC out))) (fun _ v20 _ => n0 - (intOf v20).toNat)
      case atStart => exact ⟨0, cap', A', out, by omega, rfl, rfl, HOUT0, HB, HC, HO⟩
      case round =>
        clear HB HC HO HOUT0 x0
        obtain ⟨k, cap', A', out, hk, rfl, rfl, HOUT, HB, HC, HO⟩ := hrel
        by_cases hkt : k < n0
        · obtain ⟨s, hget⟩ : ∃ s, l0[k]? = some s := ⟨l0[k]'(by have := HN0.out; omega), List.getElem?_eq_getElem _⟩
          obtain ⟨g, o, rfl, hg, hc⟩ := HS0.out (by have := HN0.out; omega)
          have hki : (k : Int) < (n0 : Int) := by omega
          have hki0 : (0 : Int) ≤ (k : Int) := by omega
          have het := edgL_take hget
          obtain ⟨s0, s1⟩ := HS0.out.at_ hget HB.out
          obtain ⟨hg1, hg2, hg3⟩ := HG0.out _ (List.mem_of_getElem? hget)
          obtain ⟨p, r⟩ := s
          simp only at het s0 s1 hg1 hg2 hg3
          obtain ⟨M, hM⟩ : ∃ M, M = out ++ [p, r + 1] := ⟨_, rfl⟩
          have HCG := Lib.hid (show M = pre i ++ edgL (l0.take (k + 1)) by rw [hM, HOUT.out, het, List.append_assoc])
          have HSN := Lib.hid (show intC M = intC out ++ [.int .i64 p, .int .i64 (r + 1)] by rw [hM, intC_append]; rfl)
          have hMl : out.length + 2 = M.length := by rw [hM]; simp
          have hol : out.length ≤ 600000 := by
            have h3 := HPL.out i
            have h4 := HOUT.out
            have h5 : out.length = (pre i).length + (l0.take k).length * 2 := by rw [h4, List.length_append, edgL_length]
            have h6 : (l0.take k).length ≤ k := by rw [List.length_take]; omega
            omega
          have hB6 := HB.out.alloc (by have := HB.out.size; omega) (.cells #[.int .i64 p, .int .i64 r] 34)
          have hC6 := HC.out.only (w' := wr.alloc (.cells #[.int .i64 p, .int .i64 r] 34)) (row := none) ⟨rfl, rfl, rfl, by simp, fun b hb _ => heap_alloc_lt wr _ hb⟩ (by simp)
          have HO6 := Lib.hid (HO.out.alloc (.cells #[.int .i64 p, .int .i64 r] 34))
          have HX6 := Lib.hid (sb2_new wr p r)
          have HC6 := Lib.hid hC6
          have HB6 := Lib.hid hB6
          have hw1 : r + 1 ≤ 4294967297 := by omega
          clear hB6 hC6 het hget hM hc HOUT HB HC HO
          go_wp2_with (at_builtin; refine wpList_append_lies _ rfl _ _ 53 rfl (w.heap.size + 1) 3 i0 (.int .i64 0) 1 8 Try.underlying53 hinf hz0 hz1 hz2 rfl (by omega) _ out.length (intC out) rfl (HO6.out.alloc _) ⟨wr.heap.size + 1, 0, none⟩ 2 2 [.int .i64 p, .int .i64 (r + 1)] rfl rfl ?c1 ?c2 (by omega) ?c3 ?c4 ?c5 _ rfl ?_)
          case c1 => exact World.news_of_block (cs := #[.int .i64 p, .int .i64 (r + 1)]) (t := 3) (fr := (0, 0)) (heap_alloc5_2 wr _ _)
          case c2 => simp [Value.oneCell']
          case c3 => unfold maxLen; omega
          case c4 => omega
          case c5 => have := HB6.out.size; simp at this; simp; omega
          intro g2 cap2 w7 hown7 hgrow hat hlt2
          have hB7 := (HB6.out.alloc HB6.out.size (.cells #[.int .i64 p, .int .i64 (r + 1)] 3)).grown hgrow (by have := HB6.out.size; simp at this ⊢; omega) (fun j hj => by have := (HO6.out.lt j hj).1; omega)
          have hrow : (Value.slice A' out.length cap').ownBlock ≠ some tb := fun e => by
            have := (HO6.out.lt tb e).1
            have := HTB.out
            omega
          have hC7 := (HC6.out.only (w' := (wr.alloc (.cells #[.int .i64 p, .int .i64 r] 34)).alloc (.cells #[.int .i64 p, .int .i64 (r + 1)] 3)) (row := none) ⟨rfl, rfl, rfl, by simp, fun b hb _ => heap_alloc_lt _ _ hb⟩ (by simp)).only hgrow (fun e => hrow e.symm)
          rw [← HSN.out] at hown7
          try rw [hMl] at hown7
          try rw [hMl]
          have HB7 := Lib.hid hB7
          have HO7 := Lib.hid hown7
          have HC7 := Lib.hid hC7
          clear hB7 hown7 hgrow hat hlt2 HX6 HB6 HO6 HC6 hC7 hrow
          go_wp2_with fail
          go_roundw
          case rel => exact ⟨k + 1, cap2, some ⟨g2, 0, none⟩, M, by omega, by go_num, rfl, HCG, HB7, HC7, HO7⟩
          case measure => simp [intOf]; omega
        · have hkn : k = l0.length := by have := HN0.out; omega
          have HE2 := Lib.hid (show out = pre (i + 1) by rw [HPRE.out, HOUT.out, hkn, List.take_length])
          have hd : decide ((k : Int) < (n0 : Int)) = false := by simp; omega
          clear hkn HOUT
          go_wp2_with fail
          go_roundw
          case rel => exact ⟨i + 1, cap', A', out, by omega, by go_num, rfl, HE2, HB, HC, HO⟩
          case measure => simp [intOf]; omega
    · obtain rfl : i = 2 := by omega
      have hol : out.length ≤ 600000 := by have h3 := HPL.out 2; rw [← HOUT.out] at h3; omega
      have hE2 : ES = out.mergeSort fun x y => decide (x ≤ y) := by rw [HE.out, HOUT.out]
      have hel : ES.length = out.length := by rw [hE2]; exact List.length_mergeSort _
      have HEL := Lib.hid hel
      have HE2 := Lib.hid hE2
      have HO2 := Lib.hid (own_mono5 HO.out (Nat.le_succ _))
      clear HOUT HC HT HP HPL HO hE2
      by_cases h0 : out.length = 0
      · have HES := Lib.hid (show ES = [] from List.eq_nil_of_length_eq_zero (hel.trans h0))
        rw [h0] at HEL ⊢
        have HSN := Lib.hid (pints_nil A' cap')
        clear hel hol h0
        go_wp2_with fail
        refine (HSN.out _).mono ?_
        rintro e w' ⟨rfl, rfl⟩
        go_wp2_with fail
        go_ret
        exact ⟨A', cap', congrArg (fun n => Ending.returned (.slice A' n cap')) (by rw [HES.out]; rfl), by rw [HES.out]; intro h; simp at h, HB.out⟩
      · obtain ⟨gA, cA, hform, _, _⟩ := World.ownsRow.form HO2.out (by omega)
        obtain ⟨rfl, _, rfl⟩ : A' = some ⟨gA, 0, none⟩ ∧ out.length = out.length ∧ cap' = cA := by simpa using hform
        have HSN := Lib.hid (pints_any gA cap' w.heap.size out wr HO2.out (by omega))
        rw [← HE2.out] at HSN
        generalize out.length = ol at *
        clear hel hol h0 hform HE2 HO2
        go_wp2_with fail
        refine HSN.out.mono ?_
        rintro e w' ⟨rfl, hin, hb⟩
        have HIN := Lib.hid hin
        have HB2 := Lib.hid (HB.out.trans hb)
        clear hin hb
        go_wp2_with fail
        go_ret
        exact ⟨some ⟨gA, 0, none⟩, cap', congrArg (fun n => Ending.returned (.slice (some ⟨gA, 0, none⟩) n cap')) HEL.out.symm, HIN.out, HB2.out⟩
end Go.Proofs.Ytlmjfbgigfmdhaa
