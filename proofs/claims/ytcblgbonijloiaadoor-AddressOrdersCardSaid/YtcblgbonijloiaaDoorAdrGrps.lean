/- Contract of the reference of layer 6: groups. -/
import Derived.Test.YtcblgbonijloiaaDoorAdrSplit
import Derived.Test.YtcblgbonijloiaaDoorAdrGrp
namespace Go.Proofs.YtcblgbonijloiaaDoor
open Go.ChangeShapes Go.WideShapes Go.ChangeAt Go.RowKit
set_option linter.unusedVariables false

/-- A list of strings in memory. -/
def StL (w : World) (A : Option Addr) (L : List By) : Prop :=
  0 < L.length → ∃ g, A = some ⟨g, 0, none⟩ ∧ g < w.heap.size ∧ ∀ (i : Nat) (p : By), L[i]? = some p → w.cell? ⟨g, i, none⟩ = some (.string (str p))
theorem StL.kept {w w' : World} {A : Option Addr} {L : List By} (h : StL w A L) (hb : Below w.heap.size w w') : StL w' A L := fun hp => by
  obtain ⟨g, e, hg, hc⟩ := h hp
  have hB := hb.block g hg
  refine ⟨g, e, Nat.lt_of_lt_of_le hg hb.size, fun i p hi => ?_⟩
  rw [World.cell?_of_block (w := w) (w' := w') (a := ⟨g, i, none⟩) hB]
  exact hc i p hi
theorem own_stl {w : World} {base : Nat} {A : Option Addr} {cap : Nat} {L : List By} (h : w.ownsRow base 9 1 (.slice A L.length cap) L.length (strC L)) : StL w A L := fun hp => by
  obtain ⟨g, c, hform, _, _⟩ := World.ownsRow.form h hp
  cases hform
  refine ⟨g, rfl, (h.lt g rfl).2, fun i p hi => ?_⟩
  obtain ⟨hil, hie⟩ := List.getElem?_eq_some_iff.1 hi
  rw [h.cellAt i (by rw [Nat.mul_one]; exact hil)]
  unfold strC
  rw [List.getElem?_map, hi]; rfl
theorem splitGo_len (c : UInt8) : ∀ (s cur : By), ∀ p ∈ splitGo c cur s, p.length ≤ cur.length + s.length
  | [], cur, p, h => by rw [splitGo, List.mem_singleton] at h; subst h; simp
  | x :: r, cur, p, h => by
    rw [splitGo] at h
    split at h
    · rcases List.mem_cons.1 h with rfl | h
      · omega
      · have := splitGo_len c r [] p h; simp at this ⊢; omega
    · have := splitGo_len c r _ p h; simp at this ⊢; omega
theorem split_len {c : UInt8} {s p : By} (h : p ∈ splitL c s) : p.length ≤ s.length := by
  have := splitGo_len c s [] p h; simpa using this
theorem splitGo_count (c : UInt8) : ∀ (s cur : By), 0 < (splitGo c cur s).length ∧ (splitGo c cur s).length ≤ s.length + 1
  | [], cur => by rw [splitGo]; simp
  | x :: r, cur => by
    rw [splitGo]
    split
    · have := splitGo_count c r []; simp; omega
    · have := splitGo_count c r (cur ++ [x]); simp; omega
theorem split_count (c : UInt8) (s : By) : 0 < (splitL c s).length ∧ (splitL c s).length ≤ s.length + 1 := splitGo_count c s []
theorem own_mono6 {w : World} {base base' : Nat} {e : TypeId} {size : Nat} {v : Value} {n : Nat} {xs : List Value} (h : w.ownsRow base e size v n xs) (hb : base' ≤ base) : w.ownsRow base' e size v n xs := by
  refine ⟨h.1, ?_⟩
  rcases h.2 with hn | ⟨g, cap, cur, hv, hg, rest⟩
  · exact .inl hn
  · exact .inr ⟨g, cap, cur, hv, Nat.le_trans hb hg, rest⟩
def natC (l : List Nat) : List Value := l.map fun n : Nat => Value.int .i64 (n : Int)
theorem natC_snoc (l : List Nat) (n : Nat) : natC (l ++ [n]) = natC l ++ [.int .i64 n] := by simp [natC]
theorem info_int6 : (Tryd.prog.info? 3).map (fun i => (i.zero, i.size, i.bytes)) = some (some (.int .i64 0), 1, 8) := by kernel_rfl
/-- What the reference's groups leaves. -/
def GrpsP (w : World) (R : Option (List Nat)) (e : Ending) (w' : World) : Prop := match R with
  | none => e = .returned (.tuple #[.slice none 0 0, .bool false])
  | some l => ∃ A cap, e = .returned (.tuple #[.slice A l.length cap, .bool true]) ∧ w'.ownsRow w.heap.size 3 1 (.slice A l.length cap) l.length (natC l)
theorem grpAll_step {p : By} {r : List By} {n : Nat} (h : grpI p = (n : Int)) (out : List Nat) : (grpAll (p :: r)).map (out ++ ·) = (grpAll r).map ((out ++ [n]) ++ ·) := by
  unfold grpI at h
  rw [grpAll]
  cases hg : grpS p with
  | none =>
    rw [hg] at h
    have : (-1 : Int) = (n : Int) := h
    omega
  | some m =>
    rw [hg] at h
    have h' : (m : Int) = (n : Int) := h
    have hm : m = n := by omega
    subst hm
    cases grpAll r <;> simp
theorem grpAll_stop {p : By} {r : List By} (h : grpI p < 0) : grpAll (p :: r) = none := by
  unfold grpI at h
  rw [grpAll]
  cases hg : grpS p with
  | none => rfl
  | some m =>
    rw [hg] at h
    have h' : (m : Int) < 0 := h
    omega
theorem str_isEmpty6 (l : List UInt8) : (str l).toList.isEmpty = l.isEmpty := by
  rw [(ByteArray.toList_eq _).trans (str_toList l)]
theorem isEmpty6 (s : ByteArray) : s.toList.isEmpty = s.data.toList.isEmpty := by
  have := str_isEmpty6 s.data.toList
  rwa [str_of] at this
set_option maxHeartbeats 800000 in
set_option maxRecDepth 20000 in
theorem rgroups6_any (s : ByteArray) (w : World) (hs : s.size ≤ 1000) :
    Calls Tryd.prog 68 #[.string s] w fun e w' => GrpsP w (groupsS s.data.toList) e w' ∧ Below w.heap.size w w' := by
  have hlen := toList_length6 s
  by_cases h0 : s.data.toList = []
  · have em : s.toList.isEmpty = true := by rw [isEmpty6, h0]; rfl
    have HR := Lib.hid (show groupsS s.data.toList = some [] by rw [groupsS, if_pos h0])
    have HO := Lib.hid (World.ownsRow_nil w w.heap.size 3 1)
    have HB := Lib.hid (Below.refl w.heap.size w)
    generalize groupsS s.data.toList = R at *
    clear hlen
    go_enter Tryd.func68, Tryd.ntmps68
    go_wp2_with fail
    go_ret2
    rw [HR.out]
    exact ⟨⟨none, 0, rfl, HO.out⟩, HB.out⟩
  have em : s.toList.isEmpty = false := by
    rw [isEmpty6]
    cases hc : s.data.toList with
    | nil => exact absurd hc h0
    | cons => rfl
  obtain ⟨R, hR⟩ : ∃ R, R = groupsS s.data.toList := ⟨_, rfl⟩
  rw [← hR]
  rw [groupsS, if_neg h0] at hR
  have HSP := Lib.hid (fun W => rsplit6_any s 58 W hs)
  have HPL := Lib.hid (fun (p : By) (h : p ∈ splitL 58 s.data.toList) => (split_len h : p.length ≤ s.data.toList.length))
  have hcn := split_count 58 s.data.toList
  rw [hlen] at HPL hcn
  obtain ⟨L, hL⟩ : ∃ L, L = splitL 58 s.data.toList := ⟨_, rfl⟩
  rw [← hL] at HSP HPL hcn hR
  have HRR := Lib.hid (show (grpAll (L.drop 0)).map ([] ++ ·) = R by rw [hR, List.drop_zero]; cases grpAll L <;> simp)
  obtain ⟨i0, hinf, hz0, hz1, hz2⟩ := info_parts info_int6
  clear hR hL hlen h0
  go_enter Tryd.func68, Tryd.ntmps68
  go_wp2_with fail
  refine (HSP.out _).mono ?_
  rintro e w1 ⟨A, cap, rfl, hown, hb⟩
  obtain ⟨g, hA, hgl, hcell⟩ := own_stl hown hcn.1
  subst hA
  have HC := Lib.hid hcell
  have HB1 := Lib.hid hb
  have HBr := Lib.hid (Below.refl w1.heap.size w1)
  have HO0 := Lib.hid (World.ownsRow_nil w1 w1.heap.size 3 1)
  obtain ⟨n, hn⟩ : ∃ n, n = L.length := ⟨_, rfl⟩
  rw [← hn] at hcn ⊢
  have HN := Lib.hid hn
  have hn0 := hcn.1
  have hn1 := hcn.2
  clear hb hown hcell hcn hn HSP
  go_wp2_with fail
  go_loopw [4, 6, 7] (fun v4 v6 _ wr => ∃ k cap' : Nat, ∃ A' : Option Addr, ∃ out : List Nat, v4 = .slice A' out.length cap' ∧ v6 = .int .i64 k ∧ k ≤ n ∧ out.length ≤ k ∧ Hid ((grpAll (L.drop k)).map (out ++ ·) = R) ∧ Hid (Below w1.heap.size w1 wr) ∧ Hid (wr.ownsRow w1.heap.size 3 1 (.slice A' out.length cap') out.length (natC out))) (fun _ v6 _ _ => n - (intOf v6).toNat)
  case atStart => exact ⟨0, 0, none, [], rfl, rfl, Nat.zero_le _, Nat.le_refl _, HRR, HBr, HO0⟩
  case round =>
    clear HRR HBr HO0
    obtain ⟨k, cap', A', out, rfl, rfl, hk, hol, HQ, HB, HO⟩ := hrel
    obtain ⟨k1, hk1⟩ : ∃ k1, k1 = k + 1 := ⟨_, rfl⟩
    have k1i : (k : Int) + 1 = (k1 : Int) := by omega
    have hsz := HB.out.size
    by_cases hlt : k < n
    · have dlt : decide ((k : Int) < (n : Int)) = true := by simp; omega
      have hlti : (k : Int) < (n : Int) := by omega
      have hkl : k < L.length := by have := HN.out; omega
      have k1n : k1 ≤ n := by omega
      obtain ⟨p, hp⟩ : ∃ p, p = L[k] := ⟨_, rfl⟩
      have hdrop : L.drop k = p :: L.drop k1 := by rw [List.drop_eq_getElem_cons hkl, hp, hk1]
      have hpl : (str p).size ≤ 1000 := by
        rw [str_size]
        have := HPL.out p (by rw [hp]; exact List.getElem_mem hkl)
        omega
      have hcell : wr.cell? ⟨g, k, none⟩ = some (.string (str p)) := by
        rw [World.cell?_of_block (w := w1) (w' := wr) (a := ⟨g, k, none⟩) (HB.out.block g hgl)]
        exact HC.out k p (by rw [List.getElem?_eq_getElem hkl, hp])
      have HG := Lib.hid (fun W => rgroup6_any (str p) W hpl)
      rw [str_toList] at HG
      have hq := HQ.out
      rw [hdrop] at hq
      by_cases hv : grpI p < 0
      · have dv : decide (grpI p < 0) = true := by simpa using hv
        rw [grpAll_stop hv] at hq
        have e : R = none := hq.symm
        have HE := Lib.hid e
        have HBB := Lib.hid (HB1.out.trans (HB.out.mono HB1.out.size))
        clear hq hp hdrop hpl e hk1 HQ
        generalize str p = S at *
        generalize grpI p = V at *
        go_wp2_with fail
        refine (HG.out _).mono ?_
        rintro e w2 ⟨rfl, rfl⟩
        go_wp2_with fail
        go_ret2
        rw [HE.out]
        exact ⟨rfl, HBB.out⟩
      · obtain ⟨m, hm⟩ : ∃ m : Nat, grpI p = (m : Int) := ⟨(grpI p).toNat, by omega⟩
        rw [grpAll_step hm] at hq
        have HQ2 := Lib.hid hq
        rw [hm] at HG
        obtain ⟨M, hM⟩ : ∃ M, M = out ++ [m] := ⟨_, rfl⟩
        rw [← hM] at HQ2
        have HSN := Lib.hid (show natC out ++ [.int .i64 m] = natC M by rw [hM, natC_snoc])
        have hMl : out.length + 1 = M.length := by rw [hM]; simp
        have hMk : M.length ≤ k1 := by omega
        have HB2 := Lib.hid (HB.out.alloc hsz (.cells #[.int .i64 m] 3))
        have dm : decide ((m : Int) < 0) = false := by simp
        have HK1 := Lib.hid hk1
        clear hq hp hdrop hpl hk1 HQ hv hm hM
        generalize str p = S at *
        go_wp2_with fail
        refine (HG.out _).mono ?_
        rintro e w2 ⟨rfl, rfl⟩
        go_wp2_with (at_builtin; refine wpList_append_lies _ rfl _ _ 67 rfl w1.heap.size 3 i0 (.int .i64 0) 1 8 Tryd.underlying67 hinf hz0 hz1 hz2 rfl (by omega) _ out.length (natC out) rfl (HO.out.alloc _) ⟨wr.heap.size, 0, none⟩ 1 1 [.int .i64 m] rfl rfl ?c1 ?c2 (by omega) ?c3 ?c4 ?c5 _ rfl ?_)
        case c1 => exact World.news_of_block (cs := #[.int .i64 m]) (t := 3) (fr := (0, 0)) (heap_alloc_new wr _)
        case c2 => simp [Value.oneCell']
        case c3 => unfold maxLen; omega
        case c4 => omega
        case c5 => simp; omega
        intro g2 cap2 w3 hown3 hgrow hat hlt2
        have hB3 := HB2.out.grown hgrow (by simp; omega) (fun j hj => (HO.out.lt j hj).1)
        rw [HSN.out] at hown3
        try rw [hMl] at hown3
        try rw [hMl]
        have HB3 := Lib.hid hB3
        have HO3 := Lib.hid hown3
        clear hB3 hown3 hgrow hat hlt2 HB HO HB2 hMl
        go_wp2_with fail
        go_roundw
        case rel => exact ⟨k1, cap2, some ⟨g2, 0, none⟩, M, rfl, by go_num, k1n, hMk, HQ2, HB3, HO3⟩
        case measure => have := HK1.out; simp [intOf]; omega
    · have dlt : decide ((k : Int) < (n : Int)) = false := by simp; omega
      have nlt : ¬ (k : Int) < (n : Int) := by omega
      have hq := HQ.out
      rw [List.drop_of_length_le (by have := HN.out; omega), grpAll] at hq
      have e : R = some out := by rw [← hq]; simp
      have HE := Lib.hid e
      clear hq e HQ hk1
      go_wp2_with fail
      go_ret2
      rw [HE.out]
      exact ⟨⟨A', cap', rfl, own_mono6 HO.out HB1.out.size⟩, HB1.out.trans (HB.out.mono HB1.out.size)⟩
end Go.Proofs.YtcblgbonijloiaaDoor
