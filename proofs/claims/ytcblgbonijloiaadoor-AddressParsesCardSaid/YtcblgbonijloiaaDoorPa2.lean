/- Contracts of the functions, part 2: AdrGrp, AdrGrps, AdrRun, Ref2, Reader, AdrObj, AdrNext, AdrBit, AdrWith, AdrP4. -/
import Derived.Laws.StructEq
import Derived.Deep.QuietTactic
import Derived.BigQuiet
import Derived.OwnWalk
import Derived.Test.YtcblgbonijloiaaDoorPa1
/- Contracts of the reference of layer 6: group. -/
namespace Go.Proofs.YtcblgbonijloiaaDoor
open Go.ChangeShapes Go.WideShapes Go.ChangeAt Go.RowKit
set_option linter.unusedVariables false

/-- What the reference's group answers. -/
def grpI (s : By) : Int := match grpS s with
  | none => -1
  | some n => n
theorem pow16_le {k : Nat} (h : k < 4) : 16 ^ k ≤ 4096 := by
  calc 16 ^ k ≤ 16 ^ 3 := Nat.pow_le_pow_right (by omega) (by omega)
    _ = 4096 := rfl
set_option maxHeartbeats 800000 in
set_option maxRecDepth 20000 in
theorem rgroup6_any (s : ByteArray) (w : World) (hs0 : s.size ≤ 1000) :
    Calls Tryd.prog 83 #[.string s] w fun e w' => e = .returned (.int .i64 (grpI s.data.toList)) ∧ w = w' := by
  obtain ⟨R, hR⟩ : ∃ R, R = grpI s.data.toList := ⟨_, rfl⟩
  rw [← hR]
  have hlen : s.data.toList.length = s.size := by show s.data.toList.length = s.data.size; simp only [Array.length_toList]
  by_cases c0 : s.size < 1
  · have e : R = -1 := by rw [hR, grpI, grpS, if_pos (Or.inl (by rw [hlen]; exact c0))]
    have d0 : decide ((s.size : Int) < 1) = true := by simp; omega
    clear hR hlen
    go_enter Tryd.func83, Tryd.ntmps83
    go_wp2_with fail
    go_ret
    exact ⟨by first | rfl | (rw [e]; rfl), rfl⟩
  have d0 : decide ((s.size : Int) < 1) = false := by simp; omega
  by_cases c1 : 4 < s.size
  · have e : R = -1 := by rw [hR, grpI, grpS, if_pos (Or.inr (by rw [hlen]; exact c1))]
    have d1 : decide ((4 : Int) < (s.size : Int)) = true := by simp; omega
    clear hR hlen
    go_enter Tryd.func83, Tryd.ntmps83
    go_wp2_with fail
    go_ret
    exact ⟨by first | rfl | (rw [e]; rfl), rfl⟩
  have d1 : decide ((4 : Int) < (s.size : Int)) = false := by simp; omega
  have h4 : s.size ≤ 4 := by omega
  rw [grpI, grpS, if_neg (by rw [hlen]; omega)] at hR
  obtain ⟨D, hD⟩ : ∃ D, D = hexGo 0 (s.data.toList.drop 0) := ⟨_, rfl⟩
  rw [List.drop_zero] at hD
  rw [← hD] at hR
  have HR := Lib.hid hR
  have HD := Lib.hid (show hexGo 0 (s.data.toList.drop 0) = D by rw [hD, List.drop_zero])
  have HM0 := Lib.hid (show 0 < 16 ^ 0 by decide)
  clear hR hD hlen
  go_enter Tryd.func83, Tryd.ntmps83
  go_wp2_with fail
  go_loopw [3, 4, 5] (fun v3 v4 _ wr => ∃ m k : Nat, v3 = .int .i64 m ∧ v4 = .int .i64 k ∧ k ≤ s.size ∧ Hid (m < 16 ^ k) ∧ Hid (hexGo m (s.data.toList.drop k) = D) ∧ w = wr) (fun _ v4 _ _ => s.size - (intOf v4).toNat)
  case atStart => exact ⟨0, 0, rfl, rfl, Nat.zero_le _, HM0, HD, rfl⟩
  case round =>
    obtain ⟨m, k, rfl, rfl, hk, HM, HQ, rfl⟩ := hrel
    by_cases hlt : k < s.size
    · have hki : (k : Int) < (s.size : Int) := by omega
      have hki0 : (0 : Int) ≤ (k : Int) := by omega
      have hx8 := u8_lt s[k]
      have hm4 : m < 4096 := Nat.lt_of_lt_of_le HM.out (pow16_le (by omega))
      have hq := HQ.out
      rw [drop_at6 s k hlt, hexGo, hexV] at hq
      obtain ⟨k1, hk1⟩ : ∃ k1, k1 = k + 1 := ⟨_, rfl⟩
      have k1i : (k : Int) + 1 = (k1 : Int) := by omega
      have k1s : k1 ≤ s.size := by omega
      have hstep : ∀ d, d < 16 → 16 * m + d < 16 ^ k1 := by
        intro d hd
        have := HM.out
        rw [hk1, Nat.pow_succ]; omega
      rw [← hk1] at hq
      have HST := Lib.hid hstep
      have HK1 := Lib.hid hk1
      clear hk1 hstep
      by_cases a1 : 48 ≤ s[k].toNat ∧ s[k].toNat ≤ 57
      · rw [if_pos a1] at hq
        obtain ⟨y, hy⟩ : ∃ y, y = s[k].toNat - 48 := ⟨_, rfl⟩
        have ey : (s[k].toNat : Int) - 48 = (y : Int) := by omega
        have ly : y < 16 := by omega
        have ny : ¬ (y : Int) < 0 := by omega
        have dy : decide ((y : Int) < 0) = false := by simp
        have t1 : decide ((48 : Int) ≤ (s[k].toNat : Int)) = true := by simp; omega
        have t2 : decide ((s[k].toNat : Int) ≤ 57) = true := by simp; omega
        rw [← hy] at hq
        have HQ2 := Lib.hid (show hexGo (16 * m + y) (s.data.toList.drop k1) = D from hq)
        clear hq hy
        go_wp2_with fail
        go_roundw
        case rel => exact ⟨16 * m + y, k1, by go_num, by go_num, k1s, Lib.hid (HST.out y ly), HQ2, by first | trivial | rfl⟩
        case measure => have := HK1.out; simp [intOf]; omega
      · rw [if_neg a1] at hq
        have T1 : (decide ((48 : Int) ≤ (s[k].toNat : Int)) = false) ∨ (decide ((48 : Int) ≤ (s[k].toNat : Int)) = true ∧ decide ((s[k].toNat : Int) ≤ 57) = false) := by
          by_cases h : 48 ≤ s[k].toNat
          · exact Or.inr ⟨by simp; omega, by simp; omega⟩
          · exact Or.inl (by simp; omega)
        by_cases a2 : 97 ≤ s[k].toNat ∧ s[k].toNat ≤ 102
        · rw [if_pos a2] at hq
          obtain ⟨y, hy⟩ : ∃ y, y = s[k].toNat - 87 := ⟨_, rfl⟩
          have ey : (s[k].toNat : Int) - 87 = (y : Int) := by omega
          have ly : y < 16 := by omega
          have ny : ¬ (y : Int) < 0 := by omega
          have dy : decide ((y : Int) < 0) = false := by simp
          have p1 : decide ((97 : Int) ≤ (s[k].toNat : Int)) = true := by simp; omega
          have p2 : decide ((s[k].toNat : Int) ≤ 102) = true := by simp; omega
          rw [← hy] at hq
          have HQ2 := Lib.hid (show hexGo (16 * m + y) (s.data.toList.drop k1) = D from hq)
          clear hq hy
          rcases T1 with t1 | ⟨t1, t2⟩
          all_goals
          go_wp2_with fail
          go_roundw
          case rel => exact ⟨16 * m + y, k1, by go_num, by go_num, k1s, Lib.hid (HST.out y ly), HQ2, by first | trivial | rfl⟩
          case measure => have := HK1.out; simp [intOf]; omega
        · rw [if_neg a2] at hq
          have T2 : (decide ((97 : Int) ≤ (s[k].toNat : Int)) = false) ∨ (decide ((97 : Int) ≤ (s[k].toNat : Int)) = true ∧ decide ((s[k].toNat : Int) ≤ 102) = false) := by
            by_cases h : 97 ≤ s[k].toNat
            · exact Or.inr ⟨by simp; omega, by simp; omega⟩
            · exact Or.inl (by simp; omega)
          by_cases a3 : 65 ≤ s[k].toNat ∧ s[k].toNat ≤ 70
          · rw [if_pos a3] at hq
            obtain ⟨y, hy⟩ : ∃ y, y = s[k].toNat - 55 := ⟨_, rfl⟩
            have ey : (s[k].toNat : Int) - 55 = (y : Int) := by omega
            have ly : y < 16 := by omega
            have ny : ¬ (y : Int) < 0 := by omega
            have dy : decide ((y : Int) < 0) = false := by simp
            have p1 : decide ((65 : Int) ≤ (s[k].toNat : Int)) = true := by simp; omega
            have p2 : decide ((s[k].toNat : Int) ≤ 70) = true := by simp; omega
            rw [← hy] at hq
            have HQ2 := Lib.hid (show hexGo (16 * m + y) (s.data.toList.drop k1) = D from hq)
            clear hq hy
            rcases T1 with t1 | ⟨t1, t2⟩
            all_goals
            rcases T2 with u1 | ⟨u1, u2⟩
            all_goals
            go_wp2_with fail
            go_roundw
            case rel => exact ⟨16 * m + y, k1, by go_num, by go_num, k1s, Lib.hid (HST.out y ly), HQ2, by first | trivial | rfl⟩
            case measure => have := HK1.out; simp [intOf]; omega
          · rw [if_neg a3] at hq
            have T3 : (decide ((65 : Int) ≤ (s[k].toNat : Int)) = false) ∨ (decide ((65 : Int) ≤ (s[k].toNat : Int)) = true ∧ decide ((s[k].toNat : Int) ≤ 70) = false) := by
              by_cases h : 65 ≤ s[k].toNat
              · exact Or.inr ⟨by simp; omega, by simp; omega⟩
              · exact Or.inl (by simp; omega)
            have e : R = -1 := by rw [HR.out, ← hq]
            clear hq
            rcases T1 with t1 | ⟨t1, t2⟩
            all_goals
            rcases T2 with u1 | ⟨u1, u2⟩
            all_goals
            rcases T3 with z1 | ⟨z1, z2⟩
            all_goals
            go_wp2_with fail
            go_ret
            exact ⟨by first | rfl | (rw [e]; rfl), rfl⟩
    · have ek : k = s.size := by omega
      have hq := HQ.out
      rw [List.drop_of_length_le (by rw [ek]; show s.data.toList.length ≤ s.data.size; simp), hexGo] at hq
      have e : R = (m : Int) := by rw [HR.out, ← hq]
      have nlt : ¬ (k : Int) < (s.size : Int) := by omega
      have dlt : decide ((k : Int) < (s.size : Int)) = false := by simp; omega
      clear hq ek
      go_wp2_with fail
      go_ret
      exact ⟨by first | rfl | (rw [e]; rfl), rfl⟩
end Go.Proofs.YtcblgbonijloiaaDoor

/- Contract of the reference of layer 6: groups. -/
namespace Go.Proofs.YtcblgbonijloiaaDoor
open Go.ChangeShapes Go.WideShapes Go.ChangeAt Go.RowKit
set_option linter.unusedVariables false

/-- A list of strings in memory. -/
def StL (w : World) (A : Option Addr) (L : List By) : Prop :=
  0 < L.length → ∃ g, A = some ⟨g, 0, none⟩ ∧ g < w.heap.size ∧ ∀ (i : Nat) (p : By), L[i]? = some p → w.cell? ⟨g, i, none⟩ = some (.string (str p))
theorem StL.kept {w w' : World} {A : Option Addr} {L : List By} (h : StL w A L) (hb : Below w.heap.size w w') : StL w' A L := fun hp => by
  obtain ⟨g, e, hg, hc⟩ := h hp
  have hB := hb.block g hg
  refine ⟨g, e, Nat.lt_of_lt_of_le hg hb.size, fun i p hi => ?_⟩
  rw [World.cell?_of_block (w := w) (w' := w') (a := ⟨g, i, none⟩) hB]
  exact hc i p hi
theorem own_stl {w : World} {base : Nat} {A : Option Addr} {cap : Nat} {L : List By} (h : w.ownsRow base 9 1 (.slice A L.length cap) L.length (strC L)) : StL w A L := fun hp => by
  obtain ⟨g, c, hform, _, _⟩ := World.ownsRow.form h hp
  cases hform
  refine ⟨g, rfl, (h.lt g rfl).2, fun i p hi => ?_⟩
  obtain ⟨hil, hie⟩ := List.getElem?_eq_some_iff.1 hi
  rw [h.cellAt i (by rw [Nat.mul_one]; exact hil)]
  unfold strC
  rw [List.getElem?_map, hi]; rfl
theorem splitGo_len (c : UInt8) : ∀ (s cur : By), ∀ p ∈ splitGo c cur s, p.length ≤ cur.length + s.length
  | [], cur, p, h => by rw [splitGo, List.mem_singleton] at h; subst h; simp
  | x :: r, cur, p, h => by
    rw [splitGo] at h
    split at h
    · rcases List.mem_cons.1 h with rfl | h
      · omega
      · have := splitGo_len c r [] p h; simp at this ⊢; omega
    · have := splitGo_len c r _ p h; simp at this ⊢; omega
theorem split_len {c : UInt8} {s p : By} (h : p ∈ splitL c s) : p.length ≤ s.length := by
  have := splitGo_len c s [] p h; simpa using this
theorem splitGo_count (c : UInt8) : ∀ (s cur : By), 0 < (splitGo c cur s).length ∧ (splitGo c cur s).length ≤ s.length + 1
  | [], cur => by rw [splitGo]; simp
  | x :: r, cur => by
    rw [splitGo]
    split
    · have := splitGo_count c r []; simp; omega
    · have := splitGo_count c r (cur ++ [x]); simp; omega
theorem split_count (c : UInt8) (s : By) : 0 < (splitL c s).length ∧ (splitL c s).length ≤ s.length + 1 := splitGo_count c s []
theorem own_mono6 {w : World} {base base' : Nat} {e : TypeId} {size : Nat} {v : Value} {n : Nat} {xs : List Value} (h : w.ownsRow base e size v n xs) (hb : base' ≤ base) : w.ownsRow base' e size v n xs := by
  refine ⟨h.1, ?_⟩
  rcases h.2 with hn | ⟨g, cap, cur, hv, hg, rest⟩
  · exact .inl hn
  · exact .inr ⟨g, cap, cur, hv, Nat.le_trans hb hg, rest⟩
def natC (l : List Nat) : List Value := l.map fun n : Nat => Value.int .i64 (n : Int)
theorem natC_snoc (l : List Nat) (n : Nat) : natC (l ++ [n]) = natC l ++ [.int .i64 n] := by simp [natC]
theorem info_int6 : (Tryd.prog.info? 3).map (fun i => (i.zero, i.size, i.bytes)) = some (some (.int .i64 0), 1, 8) := by kernel_rfl
/-- What the reference's groups leaves. -/
def GrpsP (w : World) (R : Option (List Nat)) (e : Ending) (w' : World) : Prop := match R with
  | none => e = .returned (.tuple #[.slice none 0 0, .bool false])
  | some l => ∃ A cap, e = .returned (.tuple #[.slice A l.length cap, .bool true]) ∧ w'.ownsRow w.heap.size 3 1 (.slice A l.length cap) l.length (natC l)
theorem grpAll_step {p : By} {r : List By} {n : Nat} (h : grpI p = (n : Int)) (out : List Nat) : (grpAll (p :: r)).map (out ++ ·) = (grpAll r).map ((out ++ [n]) ++ ·) := by
  unfold grpI at h
  rw [grpAll]
  cases hg : grpS p with
  | none =>
    rw [hg] at h
    have : (-1 : Int) = (n : Int) := h
    omega
  | some m =>
    rw [hg] at h
    have h' : (m : Int) = (n : Int) := h
    have hm : m = n := by omega
    subst hm
    cases grpAll r <;> simp
theorem grpAll_stop {p : By} {r : List By} (h : grpI p < 0) : grpAll (p :: r) = none := by
  unfold grpI at h
  rw [grpAll]
  cases hg : grpS p with
  | none => rfl
  | some m =>
    rw [hg] at h
    have h' : (m : Int) < 0 := h
    omega
theorem str_isEmpty6 (l : List UInt8) : (str l).toList.isEmpty = l.isEmpty := by
  rw [(ByteArray.toList_eq _).trans (str_toList l)]
theorem isEmpty6 (s : ByteArray) : s.toList.isEmpty = s.data.toList.isEmpty := by
  have := str_isEmpty6 s.data.toList
  rwa [str_of] at this
set_option maxHeartbeats 800000 in
set_option maxRecDepth 20000 in
theorem rgroups6_any (s : ByteArray) (w : World) (hs : s.size ≤ 1000) :
    Calls Tryd.prog 68 #[.string s] w fun e w' => GrpsP w (groupsS s.data.toList) e w' ∧ Below w.heap.size w w' := by
  have hlen := toList_length6 s
  by_cases h0 : s.data.toList = []
  · have em : s.toList.isEmpty = true := by rw [isEmpty6, h0]; rfl
    have HR := Lib.hid (show groupsS s.data.toList = some [] by rw [groupsS, if_pos h0])
    have HO := Lib.hid (World.ownsRow_nil w w.heap.size 3 1)
    have HB := Lib.hid (Below.refl w.heap.size w)
    generalize groupsS s.data.toList = R at *
    clear hlen
    go_enter Tryd.func68, Tryd.ntmps68
    go_wp2_with fail
    go_ret2
    rw [HR.out]
    exact ⟨⟨none, 0, rfl, HO.out⟩, HB.out⟩
  have em : s.toList.isEmpty = false := by
    rw [isEmpty6]
    cases hc : s.data.toList with
    | nil => exact absurd hc h0
    | cons => rfl
  obtain ⟨R, hR⟩ : ∃ R, R = groupsS s.data.toList := ⟨_, rfl⟩
  rw [← hR]
  rw [groupsS, if_neg h0] at hR
  have HSP := Lib.hid (fun W => rsplit6_any s 58 W hs)
  have HPL := Lib.hid (fun (p : By) (h : p ∈ splitL 58 s.data.toList) => (split_len h : p.length ≤ s.data.toList.length))
  have hcn := split_count 58 s.data.toList
  rw [hlen] at HPL hcn
  obtain ⟨L, hL⟩ : ∃ L, L = splitL 58 s.data.toList := ⟨_, rfl⟩
  rw [← hL] at HSP HPL hcn hR
  have HRR := Lib.hid (show (grpAll (L.drop 0)).map ([] ++ ·) = R by rw [hR, List.drop_zero]; cases grpAll L <;> simp)
  obtain ⟨i0, hinf, hz0, hz1, hz2⟩ := info_parts info_int6
  clear hR hL hlen h0
  go_enter Tryd.func68, Tryd.ntmps68
  go_wp2_with fail
  refine (HSP.out _).mono ?_
  rintro e w1 ⟨A, cap, rfl, hown, hb⟩
  obtain ⟨g, hA, hgl, hcell⟩ := own_stl hown hcn.1
  subst hA
  have HC := Lib.hid hcell
  have HB1 := Lib.hid hb
  have HBr := Lib.hid (Below.refl w1.heap.size w1)
  have HO0 := Lib.hid (World.ownsRow_nil w1 w1.heap.size 3 1)
  obtain ⟨n, hn⟩ : ∃ n, n = L.length := ⟨_, rfl⟩
  rw [← hn] at hcn ⊢
  have HN := Lib.hid hn
  have hn0 := hcn.1
  have hn1 := hcn.2
  clear hb hown hcell hcn hn HSP
  go_wp2_with fail
  go_loopw [4, 6, 7] (fun v4 v6 _ wr => ∃ k cap' : Nat, ∃ A' : Option Addr, ∃ out : List Nat, v4 = .slice A' out.length cap' ∧ v6 = .int .i64 k ∧ k ≤ n ∧ out.length ≤ k ∧ Hid ((grpAll (L.drop k)).map (out ++ ·) = R) ∧ Hid (Below w1.heap.size w1 wr) ∧ Hid (wr.ownsRow w1.heap.size 3 1 (.slice A' out.length cap') out.length (natC out))) (fun _ v6 _ _ => n - (intOf v6).toNat)
  case atStart => exact ⟨0, 0, none, [], rfl, rfl, Nat.zero_le _, Nat.le_refl _, HRR, HBr, HO0⟩
  case round =>
    clear HRR HBr HO0
    obtain ⟨k, cap', A', out, rfl, rfl, hk, hol, HQ, HB, HO⟩ := hrel
    obtain ⟨k1, hk1⟩ : ∃ k1, k1 = k + 1 := ⟨_, rfl⟩
    have k1i : (k : Int) + 1 = (k1 : Int) := by omega
    have hsz := HB.out.size
    by_cases hlt : k < n
    · have dlt : decide ((k : Int) < (n : Int)) = true := by simp; omega
      have hlti : (k : Int) < (n : Int) := by omega
      have hkl : k < L.length := by have := HN.out; omega
      have k1n : k1 ≤ n := by omega
      obtain ⟨p, hp⟩ : ∃ p, p = L[k] := ⟨_, rfl⟩
      have hdrop : L.drop k = p :: L.drop k1 := by rw [List.drop_eq_getElem_cons hkl, hp, hk1]
      have hpl : (str p).size ≤ 1000 := by
        rw [str_size]
        have := HPL.out p (by rw [hp]; exact List.getElem_mem hkl)
        omega
      have hcell : wr.cell? ⟨g, k, none⟩ = some (.string (str p)) := by
        rw [World.cell?_of_block (w := w1) (w' := wr) (a := ⟨g, k, none⟩) (HB.out.block g hgl)]
        exact HC.out k p (by rw [List.getElem?_eq_getElem hkl, hp])
      have HG := Lib.hid (fun W => rgroup6_any (str p) W hpl)
      rw [str_toList] at HG
      have hq := HQ.out
      rw [hdrop] at hq
      by_cases hv : grpI p < 0
      · have dv : decide (grpI p < 0) = true := by simpa using hv
        rw [grpAll_stop hv] at hq
        have e : R = none := hq.symm
        have HE := Lib.hid e
        have HBB := Lib.hid (HB1.out.trans (HB.out.mono HB1.out.size))
        clear hq hp hdrop hpl e hk1 HQ
        generalize str p = S at *
        generalize grpI p = V at *
        go_wp2_with fail
        refine (HG.out _).mono ?_
        rintro e w2 ⟨rfl, rfl⟩
        go_wp2_with fail
        go_ret2
        rw [HE.out]
        exact ⟨rfl, HBB.out⟩
      · obtain ⟨m, hm⟩ : ∃ m : Nat, grpI p = (m : Int) := ⟨(grpI p).toNat, by omega⟩
        rw [grpAll_step hm] at hq
        have HQ2 := Lib.hid hq
        rw [hm] at HG
        obtain ⟨M, hM⟩ : ∃ M, M = out ++ [m] := ⟨_, rfl⟩
        rw [← hM] at HQ2
        have HSN := Lib.hid (show natC out ++ [.int .i64 m] = natC M by rw [hM, natC_snoc])
        have hMl : out.length + 1 = M.length := by rw [hM]; simp
        have hMk : M.length ≤ k1 := by omega
        have HB2 := Lib.hid (HB.out.alloc hsz (.cells #[.int .i64 m] 3))
        have dm : decide ((m : Int) < 0) = false := by simp
        have HK1 := Lib.hid hk1
        clear hq hp hdrop hpl hk1 HQ hv hm hM
        generalize str p = S at *
        go_wp2_with fail
        refine (HG.out _).mono ?_
        rintro e w2 ⟨rfl, rfl⟩
        go_wp2_with (at_builtin; refine wpList_append_lies _ rfl _ _ 67 rfl w1.heap.size 3 i0 (.int .i64 0) 1 8 Tryd.underlying67 hinf hz0 hz1 hz2 rfl (by omega) _ out.length (natC out) rfl (HO.out.alloc _) ⟨wr.heap.size, 0, none⟩ 1 1 [.int .i64 m] rfl rfl ?c1 ?c2 (by omega) ?c3 ?c4 ?c5 _ rfl ?_)
        case c1 => exact World.news_of_block (cs := #[.int .i64 m]) (t := 3) (fr := (0, 0)) (heap_alloc_new wr _)
        case c2 => simp [Value.oneCell']
        case c3 => unfold maxLen; omega
        case c4 => omega
        case c5 => simp; omega
        intro g2 cap2 w3 hown3 hgrow hat hlt2
        have hB3 := HB2.out.grown hgrow (by simp; omega) (fun j hj => (HO.out.lt j hj).1)
        rw [HSN.out] at hown3
        try rw [hMl] at hown3
        try rw [hMl]
        have HB3 := Lib.hid hB3
        have HO3 := Lib.hid hown3
        clear hB3 hown3 hgrow hat hlt2 HB HO HB2 hMl
        go_wp2_with fail
        go_roundw
        case rel => exact ⟨k1, cap2, some ⟨g2, 0, none⟩, M, rfl, by go_num, k1n, hMk, HQ2, HB3, HO3⟩
        case measure => have := HK1.out; simp [intOf]; omega
    · have dlt : decide ((k : Int) < (n : Int)) = false := by simp; omega
      have nlt : ¬ (k : Int) < (n : Int) := by omega
      have hq := HQ.out
      rw [List.drop_of_length_le (by have := HN.out; omega), grpAll] at hq
      have e : R = some out := by rw [← hq]; simp
      have HE := Lib.hid e
      clear hq e HQ hk1
      go_wp2_with fail
      go_ret2
      rw [HE.out]
      exact ⟨⟨A', cap', rfl, own_mono6 HO.out HB1.out.size⟩, HB1.out.trans (HB.out.mono HB1.out.size)⟩
end Go.Proofs.YtcblgbonijloiaaDoor

/- Lists of numbers in memory; contract of the reference of layer 6: run. -/
namespace Go.Proofs.YtcblgbonijloiaaDoor
open Go.ChangeShapes Go.WideShapes Go.ChangeAt Go.RowKit
set_option linter.unusedVariables false

/-- A list of numbers in memory. -/
def NaL (w : World) (A : Option Addr) (L : List Nat) : Prop :=
  0 < L.length → ∃ g, A = some ⟨g, 0, none⟩ ∧ g < w.heap.size ∧ ∀ (i x : Nat), L[i]? = some x → w.cell? ⟨g, i, none⟩ = some (.int .i64 x)
theorem NaL.kept {w w' : World} {A : Option Addr} {L : List Nat} (h : NaL w A L) (hb : Below w.heap.size w w') : NaL w' A L := fun hp => by
  obtain ⟨g, e, hg, hc⟩ := h hp
  have hB := hb.block g hg
  refine ⟨g, e, Nat.lt_of_lt_of_le hg hb.size, fun i p hi => ?_⟩
  rw [World.cell?_of_block (w := w) (w' := w') (a := ⟨g, i, none⟩) hB]
  exact hc i p hi
theorem own_nal {w : World} {base : Nat} {A : Option Addr} {cap : Nat} {L : List Nat} (h : w.ownsRow base 3 1 (.slice A L.length cap) L.length (natC L)) : NaL w A L := fun hp => by
  obtain ⟨g, c, hform, _, _⟩ := World.ownsRow.form h hp
  cases hform
  refine ⟨g, rfl, (h.lt g rfl).2, fun i p hi => ?_⟩
  obtain ⟨hil, hie⟩ := List.getElem?_eq_some_iff.1 hi
  rw [h.cellAt i (by rw [Nat.mul_one]; exact hil)]
  unfold natC
  rw [List.getElem?_map, hi]; rfl
theorem zeros_snoc : ∀ (l : List Nat) (k : Nat), k ≤ zeros l → zeros l = k + zeros (l.drop k)
  | l, 0, _ => by simp
  | [], k + 1, h => by rw [zeros] at h; omega; simp
  | 0 :: r, k + 1, h => by
    rw [zeros] at h ⊢
    rw [List.drop_succ_cons, zeros_snoc r k (by omega)]; omega
  | (x + 1) :: r, k + 1, h => by rw [zeros] at h; omega; simp
set_option maxHeartbeats 400000 in
set_option maxRecDepth 20000 in
theorem rrun6_any (A : Option Addr) (cap i : Nat) (L : List Nat) (w : World) (h : NaL w A L) (hl : L.length ≤ 1000) (hi : i ≤ L.length) :
    Calls Tryd.prog 57 #[.slice A L.length cap, .int .i64 i] w fun e w' => e = .returned (.int .i64 (zeros (L.drop i) : Nat)) ∧ w = w' := by
  obtain ⟨R, hR⟩ : ∃ R, R = zeros (L.drop i) := ⟨_, rfl⟩
  rw [← hR]
  have HR := Lib.hid hR
  have HM := Lib.hid h
  obtain ⟨n, hn⟩ : ∃ n, n = L.length := ⟨_, rfl⟩
  rw [← hn] at hl hi ⊢
  have HN := Lib.hid hn
  have H0 := Lib.hid (show 0 ≤ R from Nat.zero_le _)
  clear hR h hn
  go_enter Tryd.func57, Tryd.ntmps57
  go_wp2_with fail
  go_loopw [5] (fun v5 wr => ∃ k : Nat, v5 = .int .i64 k ∧ i + k ≤ n ∧ Hid (k ≤ R) ∧ w = wr) (fun v5 _ => n - (intOf v5).toNat)
  case atStart => exact ⟨0, rfl, by omega, H0, rfl⟩
  case round =>
    clear H0
    obtain ⟨k, rfl, hk, HK, rfl⟩ := hrel
    obtain ⟨q, hq⟩ : ∃ q, q = i + k := ⟨_, rfl⟩
    obtain ⟨k1, hk1⟩ : ∃ k1, k1 = k + 1 := ⟨_, rfl⟩
    have qi : (i : Int) + (k : Int) = (q : Int) := by omega
    have k1i : (k : Int) + 1 = (k1 : Int) := by omega
    have hz := zeros_snoc (L.drop i) k (by rw [← HR.out]; exact HK.out)
    rw [← HR.out, List.drop_drop, ← hq] at hz
    by_cases hlt : q < n
    · have dlt : decide ((q : Int) < (n : Int)) = true := by simp; omega
      have hlti : (q : Int) < (n : Int) := by omega
      have hql : q < L.length := by have := HN.out; omega
      obtain ⟨g, hA, hgl, hcell⟩ := HM.out (by omega)
      obtain ⟨x, hx⟩ : ∃ x, x = L[q] := ⟨_, rfl⟩
      have hc := hcell q x (by rw [List.getElem?_eq_getElem hql, hx])
      rw [List.drop_eq_getElem_cons hql, ← hx] at hz
      have HA := Lib.hid hA
      subst hA
      by_cases h0 : x = 0
      · subst h0
        rw [zeros] at hz
        have HK2 := Lib.hid (show k1 ≤ R by omega)
        have hk1n : i + k1 ≤ n := by omega
        have hc0 : w.cell? ⟨g, q, none⟩ = some (.int .i64 0) := hc
        have HK1 := Lib.hid hk1
        clear hz hx hcell hc hk1 hq HK
        go_wp2_with fail
        go_roundw
        case rel => exact ⟨k1, by go_num, hk1n, HK2, by first | trivial | rfl⟩
        case measure => have := HK1.out; simp [intOf]; omega
      · have dx : ((x : Int) == 0) = false := by rw [beq_eq_false_iff_ne]; omega
        have hz0 : zeros (x :: L.drop (q + 1)) = 0 := by
          cases x with
          | zero => exact absurd rfl h0
          | succ x => rfl
        rw [hz0] at hz
        have HE := Lib.hid (show R = k by omega)
        clear hz hx hcell hz0 hk1 hq HK
        go_wp2_with fail
        go_ret
        exact ⟨by rw [HE.out]; rfl, rfl⟩
    · have dlt : decide ((q : Int) < (n : Int)) = false := by simp; omega
      have nlt : ¬ (q : Int) < (n : Int) := by omega
      rw [List.drop_of_length_le (by have := HN.out; omega)] at hz
      have HE := Lib.hid (show R = k by rw [hz]; rfl)
      clear hz hk1 hq HK
      go_wp2_with fail
      go_ret
      exact ⟨by rw [HE.out]; rfl, rfl⟩
end Go.Proofs.YtcblgbonijloiaaDoor

/- Contracts of the reference: Reverse, PutLittle, Get, GetLittle. -/
namespace Go.Proofs.YtcblgbonijloiaaDoor
open Go.ChangeShapes Go.WideShapes Go.ChangeAt Go.RowKit
set_option linter.unusedVariables false

/-- Bytes as cells. -/
def cellsOf (l : List UInt8) : List Value := l.map fun b => .int .u8 (b.toNat : Int)

theorem bs_of_own {w : World} {base : Nat} {A : Option Addr} {cap : Nat} {l : List UInt8} (h : w.ownsRow base 5 1 (.slice A l.length cap) l.length (cellsOf l)) : BS w base (.slice A l.length cap) l := by
  refine ⟨A, cap, rfl, ?_, fun hpos => ?_⟩
  · rcases h.2 with ⟨hv, hn⟩ | ⟨g, c, cur, hv, _, _, hn, _⟩
    · omega
    · cases hv; exact hn
  · rcases h.2 with ⟨hv, hn⟩ | ⟨g, c, cur, hv, hg, hh, hn, _⟩
    · omega
    · cases hv
      have hlt : g < w.heap.size := (h.lt g rfl).2
      refine ⟨g, 0, rfl, hg, hlt, fun j hj => ?_⟩
      rw [Nat.zero_add]
      refine ⟨?_, h.frozenAt j⟩
      rw [h.cellAt j (by omega)]
      simp [cellsOf, hj]

theorem cellsOf_snoc (l : List UInt8) (b : UInt8) : cellsOf l ++ [.int .u8 (b.toNat : Int)] = cellsOf (l ++ [b]) := by simp [cellsOf]
theorem cellsOf_length (l : List UInt8) : (cellsOf l).length = l.length := by simp [cellsOf]

theorem back_take (l : List UInt8) (q : Nat) (h : q < l.length) : (l.drop (q + 1)).reverse ++ [l[q]] = (l.drop q).reverse := by
  rw [List.drop_eq_getElem_cons h, List.reverse_cons]

theorem ext_size (s : ByteArray) (a k : Nat) : (s.extract a (a + k)).size ≤ k := by
  rw [ByteArray.size_extract]; omega

end Go.Proofs.YtcblgbonijloiaaDoor

/- Contracts of the program's reader: next, Int, Take, Rest, Left, Err, NewReader. -/
namespace Go.Proofs.YtcblgbonijloiaaDoor
open Go.ChangeShapes Go.WideShapes Go.ChangeAt Go.RowKit
set_option linter.unusedVariables false

/-- Block g is just these cells. -/
def Cells (w : World) (g : Nat) (t : TypeId) (cs : Array Value) : Prop := w.heap[g]? = some (.cells cs t (0, 0))
theorem Cells.lt {w : World} {g : Nat} {t : TypeId} {cs : Array Value} (h : Cells w g t cs) : g < w.heap.size := (Array.getElem?_eq_some_iff.1 h).1
theorem Cells.cell {w : World} {g : Nat} {t : TypeId} {cs : Array Value} (h : Cells w g t cs) (i : Nat) : w.cell? ⟨g, i, none⟩ = cs[i]? := by
  have h' : w.heap[g]? = some (.cells cs t (0, 0)) := h
  simp [World.cell?, h']
theorem Cells.frozen {w : World} {g : Nat} {t : TypeId} {cs : Array Value} (h : Cells w g t cs) (i : Nat) : w.frozen? ⟨g, i, none⟩ = false := by
  have h' : w.heap[g]? = some (.cells cs t (0, 0)) := h
  simp [World.frozen?, h']
theorem Cells.set {w : World} {g : Nat} {t : TypeId} {cs : Array Value} (h : Cells w g t cs) (i : Nat) (u : Value) : Cells (w.setCell ⟨g, i, none⟩ u) g t (cs.setIfInBounds i u) := by
  have h' : w.heap[g]? = some (.cells cs t (0, 0)) := h
  show (w.setCell ⟨g, i, none⟩ u).heap[g]? = _
  simp [World.setCell, Array.getElem?_modify, h']
theorem Cells.only {w w' : World} {g : Nat} {t : TypeId} {cs : Array Value} {row : Option Nat} (h : Cells w g t cs) (hg : w.grownBy w' row) (hne : some g ≠ row) : Cells w' g t cs :=
  (hg.block g h.lt hne).trans h
theorem only_set (w : World) (g i : Nat) (u : Value) : w.grownBy (w.setCell ⟨g, i, none⟩ u) (some g) :=
  ⟨rfl, rfl, rfl, by simp [World.setCell], fun k _ hne => Below.heap_setCell w ⟨g, i, none⟩ u k (by intro e; exact hne (by rw [e]))⟩
theorem only_trans {a b c : World} {row : Option Nat} (h : a.grownBy b row) (k : b.grownBy c row) : a.grownBy c row :=
  ⟨k.os.trans h.os, k.tape.trans h.tape, k.output.trans h.output, Nat.le_trans h.size k.size, fun i hi hne => (k.block i (Nat.lt_of_lt_of_le hi h.size) hne).trans (h.block i hi hne)⟩
theorem only_refl (w : World) (row : Option Nat) : w.grownBy w row := ⟨rfl, rfl, rfl, Nat.le_refl _, fun _ _ _ => rfl⟩
theorem only_below {w w' : World} (h : Below w.heap.size w w') (row : Option Nat) : w.grownBy w' row := ⟨h.os, h.tape, h.output, h.size, fun k hk _ => h.block k hk⟩

/-- The bytes that a reader has left lie outside its own block. -/
def Left (w : World) (p : Nat) (A : Option Addr) (l : List UInt8) (cap : Nat) : Prop :=
  l.length ≤ cap ∧ (0 < l.length → ∃ g o, A = some ⟨g, o, none⟩ ∧ g ≠ p ∧ g < w.heap.size ∧
    ∀ j (hj : j < l.length), w.cell? ⟨g, o + j, none⟩ = some (.int .u8 (l[j].toNat : Int)) ∧ w.frozen? ⟨g, o + j, none⟩ = false)

theorem Left.only {w w' : World} {p : Nat} {A : Option Addr} {l : List UInt8} {cap : Nat} (h : Left w p A l cap) (hg : w.grownBy w' (some p)) : Left w' p A l cap := by
  refine ⟨h.1, fun hp => ?_⟩
  obtain ⟨g, o, e, hne, hlt, hc⟩ := h.2 hp
  have hb : w'.heap[g]? = w.heap[g]? := hg.block g hlt (by intro e; injection e with e; exact hne e)
  refine ⟨g, o, e, hne, Nat.lt_of_lt_of_le hlt hg.size, fun j hj => ?_⟩
  rw [World.cell?_of_block (w := w) (w' := w') (a := ⟨g, o + j, none⟩) hb, World.frozen?_of_block (w := w) (w' := w') (a := ⟨g, o + j, none⟩) hb]
  exact hc j hj
theorem Left.bs {w : World} {p : Nat} {A : Option Addr} {l : List UInt8} {cap : Nat} (h : Left w p A l cap) : BS w 0 (.slice A l.length cap) l :=
  ⟨A, cap, rfl, h.1, fun hp => by
    obtain ⟨g, o, e, _, hlt, hc⟩ := h.2 hp
    exact ⟨g, o, e, Nat.zero_le _, hlt, hc⟩⟩

theorem add_flat (g o n : Nat) : (⟨g, o, none⟩ : Addr).add n = ⟨g, o + n, none⟩ := by
  unfold Addr.add
  split
  · subst_vars; rfl
  · rfl
theorem Left.drop {w : World} {p : Nat} {A : Option Addr} {l : List UInt8} {cap : Nat} (h : Left w p A l cap) (n : Nat) (hn : n ≤ l.length) : Left w p (A.map (fun x => x.add n)) (l.drop n) (cap - n) := by
  refine ⟨by rw [List.length_drop]; have := h.1; omega, fun hp => ?_⟩
  rw [List.length_drop] at hp
  obtain ⟨g, o, rfl, hne, hlt, hc⟩ := h.2 (by omega)
  refine ⟨g, o + n, by rw [Option.map_some, add_flat], hne, hlt, fun j hj => ?_⟩
  rw [List.length_drop] at hj
  have := hc (n + j) (by omega)
  rw [List.getElem_drop, Nat.add_assoc]
  exact this
theorem Left.take {w : World} {p : Nat} {A : Option Addr} {l : List UInt8} {cap : Nat} (h : Left w p A l cap) (n : Nat) (hn : n ≤ l.length) : BS w 0 (.slice A n n) (l.take n) := by
  have hlen : (l.take n).length = n := by rw [List.length_take]; omega
  refine ⟨A, n, by rw [hlen], by rw [hlen]; exact Nat.le_refl _, fun hp => ?_⟩
  rw [hlen] at hp
  obtain ⟨g, o, rfl, _, hlt, hc⟩ := h.2 (by omega)
  refine ⟨g, o, rfl, Nat.zero_le _, hlt, fun j hj => ?_⟩
  rw [hlen] at hj
  have := hc j (by omega)
  rw [List.getElem_take]
  exact this

/-- How a reader answers a call of Int. -/
def intOk (l : List UInt8) (n : Int) : Prop := 1 ≤ n ∧ n ≤ 7 ∧ n ≤ l.length

/-- A step that writes block p alone keeps what lies below a number up to p. -/
theorem below_only {B : Nat} {a w w' : World} {p : Nat} (h : Below B a w) (hg : w.grownBy w' (some p)) (hp : B ≤ p) (hB : B ≤ w.heap.size) : Below B a w' :=
  h.grown hg hB (fun k hk => by injection hk with hk; omega)

theorem cells_new (w : World) (t : TypeId) (cs : Array Value) : Cells (w.alloc (.cells cs t)) w.heap.size t cs := heap_alloc_new w _

end Go.Proofs.YtcblgbonijloiaaDoor

/- Addresses in memory; contracts of the reference of layer 6: Valid, Width, Compare, Next, Previous. -/
namespace Go.Proofs.YtcblgbonijloiaaDoor
open Go.ChangeShapes Go.WideShapes Go.ChangeAt Go.RowKit
set_option linter.unusedVariables false

theorem below_alloc6 (w : World) (o : Obj) : Below w.heap.size w (w.alloc o) := (Below.refl _ w).alloc (Nat.le_refl _) _
theorem alloc_lt6 (w : World) (o : Obj) : w.heap.size < (w.alloc o).heap.size := (Array.getElem?_eq_some_iff.1 (heap_alloc_new w o)).1
theorem below_drewN6 {w w' : World} {B : Nat} (h : Below B w w') (q : Nat) : Below B w (w'.drewN q) := ⟨h.os, h.tape, h.output, h.size, h.block⟩
/-- An address in a box. -/
def AB (w : World) (g : Nat) (v6 : Bool) (hi lo : Nat) : Prop := Cells w g 25 #[.bool v6, .int .u64 hi, .int .u64 lo]
theorem ab_new (w : World) (v6 : Bool) (hi lo : Nat) : AB (w.alloc (.cells #[.bool v6, .int .u64 hi, .int .u64 lo] 25)) w.heap.size v6 hi lo := heap_alloc_new w _
theorem AB.kept {w w' : World} {g B : Nat} {v6 : Bool} {hi lo : Nat} (h : AB w g v6 hi lo) (hb : Below B w w') (hg : g < B) : AB w' g v6 hi lo := (hb.block _ hg).trans h
theorem AB.lt {w : World} {g : Nat} {v6 : Bool} {hi lo : Nat} (h : AB w g v6 hi lo) : g < w.heap.size := Cells.lt h
theorem AB.c0 {w : World} {g : Nat} {v6 : Bool} {hi lo : Nat} (h : AB w g v6 hi lo) : w.cell? ⟨g, 0, none⟩ = some (.bool v6) := (Cells.cell h 0).trans rfl
theorem AB.c1 {w : World} {g : Nat} {v6 : Bool} {hi lo : Nat} (h : AB w g v6 hi lo) : w.cell? ⟨g, 1, none⟩ = some (.int .u64 hi) := (Cells.cell h 1).trans rfl
theorem AB.c2 {w : World} {g : Nat} {v6 : Bool} {hi lo : Nat} (h : AB w g v6 hi lo) : w.cell? ⟨g, 2, none⟩ = some (.int .u64 lo) := (Cells.cell h 2).trans rfl
theorem AB.f {w : World} {g : Nat} {v6 : Bool} {hi lo : Nat} (h : AB w g v6 hi lo) (i : Nat) : w.frozen? ⟨g, i, none⟩ = false := Cells.frozen h i
theorem addr_size : (Tryd.prog.info? 25).map (·.size) = some 3 := by kernel_rfl
theorem res_addr2 {fn : Func} {p u : Tmp} (h : fn.results = #[.cell p 25, .tmp u]) (tmps : Array Value) (w : World) {g : Nat} {v6 : Bool} {hi lo : Nat} (hp : tmps.getD p undef = .pointer (some ⟨g, 0, none⟩)) (ht : AB w g v6 hi lo) :
    (results fn tmps).run Tryd.prog w = .ok (.tuple #[.agg #[.bool v6, .int .u64 hi, .int .u64 lo], tmps.getD u undef]) w := by
  have hp' : tmps[p]?.getD undef = .pointer (some ⟨g, 0, none⟩) := by simpa using hp
  simp [results, h, hp', asAddr, run_loadVar_row w g 25 25 _ (0, 0) _ ht Tryd.underlying25 rfl addr_size]
theorem res_addr1 {fn : Func} {p : Tmp} (h : fn.results = #[.cell p 25]) (tmps : Array Value) (w : World) {g : Nat} {v6 : Bool} {hi lo : Nat} (hp : tmps.getD p undef = .pointer (some ⟨g, 0, none⟩)) (ht : AB w g v6 hi lo) :
    (results fn tmps).run Tryd.prog w = .ok (.agg #[.bool v6, .int .u64 hi, .int .u64 lo]) w := by
  have hp' : tmps[p]?.getD undef = .pointer (some ⟨g, 0, none⟩) := by simpa using hp
  simp [results, h, hp', asAddr, run_loadVar_row w g 25 25 _ (0, 0) _ ht Tryd.underlying25 rfl addr_size]
/-- '==' of two addresses. -/
theorem addr_guard : Tryd.prog.eqGuardType Tryd.prog.depth 25 = false := by kernel_rfl
theorem addr_eql (b b' : Bool) (h h' l l' : Int) (W : World) :
    (binOp .eql 25 (.agg #[.bool b, .int .u64 h, .int .u64 l]) (.agg #[.bool b', .int .u64 h', .int .u64 l'])).run Tryd.prog W = .ok (.bool (b == b' && (h == h' && l == l'))) W := by
  have u3 := Tryd.underlying23
  have a3 := Tryd.isAgg23
  have z3 := Tryd.sizeOf23
  have u9 := Tryd.underlying4
  have a9 := Tryd.isAgg4
  have z9 := Tryd.sizeOf4
  have hS : Tryd.prog.underlying 25 = some (.struct (Tryd.prog.fieldsOf 25)) := by kernel_rfl
  have hp : Tryd.prog.stoodInHeld 25 = false := by kernel_rfl
  rw [run_eql_struct, show (10000 : Nat) = 9999 + 1 from rfl, run_equalIn_agg W 9999 25 _ _ hS hp]
  simp only [Program.fieldsOf, Tryd.underlying25]
  go_simp
  cases h1 : (b == b') <;> cases h2 : (h == h') <;> cases h3 : (l == l') <;> simp_all
theorem addr_neq (b b' : Bool) (h h' l l' : Int) (W : World) :
    (binOp .neq 25 (.agg #[.bool b, .int .u64 h, .int .u64 l]) (.agg #[.bool b', .int .u64 h', .int .u64 l'])).run Tryd.prog W = .ok (.bool (!(b == b' && (h == h' && l == l')))) W := by
  have u3 := Tryd.underlying23
  have a3 := Tryd.isAgg23
  have z3 := Tryd.sizeOf23
  have u9 := Tryd.underlying4
  have a9 := Tryd.isAgg4
  have z9 := Tryd.sizeOf4
  have hS : Tryd.prog.underlying 25 = some (.struct (Tryd.prog.fieldsOf 25)) := by kernel_rfl
  have hp : Tryd.prog.stoodInHeld 25 = false := by kernel_rfl
  rw [run_neq_struct, show (10000 : Nat) = 9999 + 1 from rfl, run_equalIn_agg W 9999 25 _ _ hS hp]
  simp only [Program.fieldsOf, Tryd.underlying25]
  go_simp
  cases h1 : (b == b') <;> cases h2 : (h == h') <;> cases h3 : (l == l') <;> simp_all
/-- Is a struct an address? -/
def vldA (v6 : Bool) (hi lo : Nat) : Bool := v6 || (hi == 0 && decide (lo < 4294967296))
set_option maxRecDepth 20000 in
theorem rvalid6_any (v6 : Bool) (hi lo : Nat) (w : World) :
    Calls Tryd.prog 16 #[.agg #[.bool v6, .int .u64 hi, .int .u64 lo]] w fun e w' => e = .returned (.bool (vldA v6 hi lo)) ∧ Below w.heap.size w w' := by
  have HB := Lib.hid (below_alloc6 w (.cells #[.bool v6, .int .u64 hi, .int .u64 lo] 25))
  obtain ⟨R, hR⟩ : ∃ R, R = vldA v6 hi lo := ⟨_, rfl⟩
  rw [← hR]
  unfold vldA at hR
  cases v6 with
  | true =>
    obtain rfl : R = true := by rw [hR]; rfl
    clear hR
    go_enter Tryd.func16, Tryd.ntmps16
    go_wp2_with fail
    go_ret
    exact ⟨rfl, HB.out⟩
  | false =>
    by_cases h0 : hi = 0
    · have d0 : ((hi : Int) == 0) = true := by simp; omega
      by_cases h1 : lo < 4294967296
      · obtain rfl : R = true := by rw [hR, h0]; simpa using h1
        have d1 : decide ((lo : Int) < 4294967296) = true := by simp; omega
        clear hR h0
        go_enter Tryd.func16, Tryd.ntmps16
        go_wp2_with fail
        go_ret
        exact ⟨rfl, HB.out⟩
      · obtain rfl : R = false := by rw [hR, h0]; simpa using h1
        have d1 : decide ((lo : Int) < 4294967296) = false := by simp; omega
        clear hR h0
        go_enter Tryd.func16, Tryd.ntmps16
        go_wp2_with fail
        go_ret
        exact ⟨rfl, HB.out⟩
    · obtain rfl : R = false := by rw [hR]; simp [h0]
      have d0 : ((hi : Int) == 0) = false := by simp; omega
      clear hR
      go_enter Tryd.func16, Tryd.ntmps16
      go_wp2_with fail
      go_ret
      exact ⟨rfl, HB.out⟩
theorem rwidth_any (v6 : Bool) (hi lo : Nat) (w : World) :
    Calls Tryd.prog 48 #[.agg #[.bool v6, .int .u64 hi, .int .u64 lo]] w fun e w' => e = .returned (.int .i64 (width v6 : Nat)) ∧ Below w.heap.size w w' := by
  have HB := Lib.hid (below_alloc6 w (.cells #[.bool v6, .int .u64 hi, .int .u64 lo] 25))
  cases v6 with
  | true =>
    go_enter Tryd.func48, Tryd.ntmps48
    go_wp2_with fail
    go_ret
    exact ⟨rfl, HB.out⟩
  | false =>
    go_enter Tryd.func48, Tryd.ntmps48
    go_wp2_with fail
    go_ret
    exact ⟨rfl, HB.out⟩
/-- The order of addresses, by the tests of the reference: p, q: the upper halves ascend, are equal; r, s: the lower ones. -/
def cmpB (b1 b2 p q r s : Bool) : Int :=
  if (b1 == b2 && (q && s)) = true then 0
  else if (!b1 && b2 || (b1 == b2 && (p || (q && r)))) = true then -1 else 1
def cmpA (b1 : Bool) (h1 l1 : Nat) (b2 : Bool) (h2 l2 : Nat) : Int := cmpB b1 b2 (decide ((h1 : Int) < (h2 : Int))) ((h1 : Int) == (h2 : Int)) (decide ((l1 : Int) < (l2 : Int))) ((l1 : Int) == (l2 : Int))
set_option maxHeartbeats 4000000 in
set_option maxRecDepth 20000 in
theorem rcmp6_any (b1 : Bool) (h1 l1 : Nat) (b2 : Bool) (h2 l2 : Nat) (w : World) :
    Calls Tryd.prog 34 #[.agg #[.bool b1, .int .u64 h1, .int .u64 l1], .agg #[.bool b2, .int .u64 h2, .int .u64 l2]] w fun e w' => e = .returned (.int .i64 (cmpA b1 h1 l1 b2 h2 l2)) ∧ Below w.heap.size w w' := by
  have hm := addr_guard
  have HB := Lib.hid ((below_alloc6 w (.cells #[.bool b1, .int .u64 h1, .int .u64 l1] 25)).trans ((below_alloc6 (w.alloc (.cells #[.bool b1, .int .u64 h1, .int .u64 l1] 25)) (.cells #[.bool b2, .int .u64 h2, .int .u64 l2] 25)).mono (by simp)))
  have qe := fun W => addr_eql b1 b2 h1 h2 l1 l2 W
  unfold cmpA
  obtain ⟨p, dp⟩ : ∃ p, decide ((h1 : Int) < (h2 : Int)) = p := ⟨_, rfl⟩
  obtain ⟨q, dq⟩ : ∃ p, ((h1 : Int) == (h2 : Int)) = p := ⟨_, rfl⟩
  obtain ⟨r, dr⟩ : ∃ p, decide ((l1 : Int) < (l2 : Int)) = p := ⟨_, rfl⟩
  obtain ⟨s, ds⟩ : ∃ p, ((l1 : Int) == (l2 : Int)) = p := ⟨_, rfl⟩
  rw [dq, ds] at qe
  rw [dp, dq, dr, ds]
  have dp2 : decide (h1 < h2) = p := by rw [← dp]; simp
  have dr2 : decide (l1 < l2) = r := by rw [← dr]; simp
  cases b1 <;> cases b2
  case false.true =>
    clear dp dq dr ds dp2 dr2
    go_enter Tryd.func34, Tryd.ntmps34
    go_wp2_with fail
    go_ret
    exact ⟨rfl, HB.out⟩
  case true.false =>
    clear dp dq dr ds dp2 dr2
    go_enter Tryd.func34, Tryd.ntmps34
    go_wp2_with fail
    go_ret
    exact ⟨rfl, HB.out⟩
  all_goals
    cases p <;> cases q
    case true.true => exfalso; simp at dp dq; omega
    all_goals
      cases r <;> cases s
      case true.true => exfalso; simp at dr ds; omega
      all_goals
        go_enter Tryd.func34, Tryd.ntmps34
        go_wp2_with fail
        go_ret
        exact ⟨rfl, HB.out⟩
end Go.Proofs.YtcblgbonijloiaaDoor

/- Contracts of the reference of layer 6: Next, Previous. -/
namespace Go.Proofs.YtcblgbonijloiaaDoor
open Go.ChangeShapes Go.WideShapes Go.ChangeAt Go.RowKit
set_option linter.unusedVariables false

/-- An address, or none, as a result with its flag. -/
def aRes : Option (Bool × Nat × Nat) → Value
  | some (v6, hi, lo) => .tuple #[.agg #[.bool v6, .int .u64 hi, .int .u64 lo], .bool true]
  | none => .tuple #[.agg #[.bool false, .int .u64 0, .int .u64 0], .bool false]
def nxtA (v6 : Bool) (hi lo : Nat) : Option (Bool × Nat × Nat) :=
  if lo + 1 < 18446744073709551616 then (if v6 = false ∧ lo + 1 = 4294967296 then none else some (v6, hi, lo + 1))
  else if v6 then (if hi + 1 < 18446744073709551616 then some (v6, hi + 1, 0) else none) else some (v6, hi, 0)
def prvA (v6 : Bool) (hi lo : Nat) : Option (Bool × Nat × Nat) :=
  if lo = 0 then (if hi = 0 then none else some (v6, hi - 1, 18446744073709551615)) else some (v6, hi, lo - 1)
theorem zero_addr (w : World) : AB (w.alloc (.cells #[.bool false, .int .u64 0, .int .u64 0] 25)) w.heap.size false 0 0 := ab_new w false 0 0
theorem ab2 (w : World) (o : Obj) (v6 : Bool) (hi lo : Nat) : AB ((w.alloc o).alloc (.cells #[.bool v6, .int .u64 hi, .int .u64 lo] 25)) (w.heap.size + 1) v6 hi lo := by
  have := ab_new (w.alloc o) v6 hi lo
  rwa [show (w.alloc o).heap.size = w.heap.size + 1 by simp] at this
theorem below2 (w : World) (a b : Obj) : Below w.heap.size w ((w.alloc a).alloc b) := (below_alloc6 w a).trans ((below_alloc6 _ b).mono (by simp))
theorem wrap_u64_up {n : Nat} (h : n + 1 = 18446744073709551616) : IntKind.u64.wrap ((n : Int) + 1) = 0 := by
  simp [IntKind.wrap, IntKind.bits, IntKind.signed]; omega
theorem wrap_u64_in {n : Int} (h0 : 0 ≤ n) (h : n < 18446744073709551616) : IntKind.u64.wrap n = n := by
  simp [IntKind.wrap, IntKind.bits, IntKind.signed]; omega
set_option maxRecDepth 20000 in
theorem rnext6_any (v6 : Bool) (hi lo : Nat) (w : World) (h1 : hi < 18446744073709551616) (h2 : lo < 18446744073709551616) :
    Calls Tryd.prog 32 #[.agg #[.bool v6, .int .u64 hi, .int .u64 lo]] w fun e w' => e = .returned (aRes (nxtA v6 hi lo)) ∧ Below w.heap.size w w' := by
  unfold nxtA
  by_cases a : lo + 1 < 18446744073709551616
  · rw [if_pos a]
    have e0 : ((lo : Int) + 1 == 0) = false := by simp; omega
    cases v6 with
    | true =>
      rw [if_neg (by simp)]
      go_enter Tryd.func32, Tryd.ntmps32
      go_wp2_with fail
      exact bodyPost_ret (res_addr2 rfl _ _ rfl (ab2 w _ true (hi) (lo + 1))) rfl ⟨rfl, below2 w _ _⟩
    | false =>
      by_cases c : lo + 1 = 4294967296
      · rw [if_pos ⟨rfl, c⟩]
        have e1 : ((lo : Int) + 1 == 4294967296) = true := by simp; omega
        clear c
        go_enter Tryd.func32, Tryd.ntmps32
        go_wp2_with fail
        exact bodyPost_ret (res_addr2 rfl _ _ rfl (ab2 w _ false 0 0)) rfl ⟨rfl, below2 w _ _⟩
      · rw [if_neg (fun h => c h.2)]
        have e1 : ((lo : Int) + 1 == 4294967296) = false := by simp; omega
        clear c
        go_enter Tryd.func32, Tryd.ntmps32
        go_wp2_with fail
        exact bodyPost_ret (res_addr2 rfl _ _ rfl (ab2 w _ false (hi) (lo + 1))) rfl ⟨rfl, below2 w _ _⟩
  · rw [if_neg a]
    have hw := wrap_u64_up (n := lo) (by omega)
    have hm : ((lo : Int) + 1) % 18446744073709551616 = 0 := by omega
    clear a h2
    cases v6 with
    | true =>
      rw [if_pos rfl]
      by_cases c : hi + 1 < 18446744073709551616
      · rw [if_pos c]
        have e1 : ((hi : Int) + 1 == 0) = false := by simp; omega
        go_enter Tryd.func32, Tryd.ntmps32
        go_wp2_with fail
        exact bodyPost_ret (res_addr2 rfl _ _ rfl (ab2 w _ true (hi + 1) (0))) rfl ⟨rfl, below2 w _ _⟩
      · rw [if_neg c]
        have hw2 := wrap_u64_up (n := hi) (by omega)
        have hm2 : ((hi : Int) + 1) % 18446744073709551616 = 0 := by omega
        clear c h1
        go_enter Tryd.func32, Tryd.ntmps32
        go_wp2_with fail
        exact bodyPost_ret (res_addr2 rfl _ _ rfl (ab2 w _ false 0 0)) rfl ⟨rfl, below2 w _ _⟩
    | false =>
      rw [if_neg (by simp)]
      go_enter Tryd.func32, Tryd.ntmps32
      go_wp2_with fail
      exact bodyPost_ret (res_addr2 rfl _ _ rfl (ab2 w _ false (hi) (0))) rfl ⟨rfl, below2 w _ _⟩

set_option maxRecDepth 20000 in
theorem rprev6_any (v6 : Bool) (hi lo : Nat) (w : World) (h1 : hi < 18446744073709551616) (h2 : lo < 18446744073709551616) :
    Calls Tryd.prog 36 #[.agg #[.bool v6, .int .u64 hi, .int .u64 lo]] w fun e w' => e = .returned (aRes (prvA v6 hi lo)) ∧ Below w.heap.size w w' := by
  unfold prvA
  by_cases a : lo = 0
  · subst a
    rw [if_pos rfl]
    by_cases c : hi = 0
    · subst c
      rw [if_pos rfl]
      go_enter Tryd.func36, Tryd.ntmps36
      go_wp2_with fail
      exact bodyPost_ret (res_addr2 rfl _ _ rfl (ab2 w _ false 0 0)) rfl ⟨rfl, below2 w _ _⟩
    · rw [if_neg c]
      have e1 : ((hi : Int) == 0) = false := by simp; omega
      obtain ⟨k, rfl⟩ : ∃ k, hi = k + 1 := ⟨hi - 1, by omega⟩
      obtain ⟨q, hq⟩ : ∃ q, q = k + 1 := ⟨_, rfl⟩
      rw [← hq] at e1 ⊢
      have hk : (q : Int) - 1 = (k : Int) := by omega
      have hk2 : q - 1 = k := by omega
      have hkl : k < 18446744073709551616 := by omega
      rw [hk2]
      clear hq c h1 hk2
      go_enter Tryd.func36, Tryd.ntmps36
      go_wp2_with fail
      exact bodyPost_ret (res_addr2 rfl _ _ rfl (ab2 w _ v6 (k) (18446744073709551615))) rfl ⟨rfl, below2 w _ _⟩
  · rw [if_neg a]
    have e1 : ((lo : Int) == 0) = false := by simp; omega
    obtain ⟨k, hk⟩ : ∃ k, k = lo - 1 := ⟨_, rfl⟩
    have hk2 : (lo : Int) - 1 = (k : Int) := by omega
    have hkl : k < 18446744073709551616 := by omega
    rw [← hk]
    clear hk a h2
    go_enter Tryd.func36, Tryd.ntmps36
    go_wp2_with fail
    exact bodyPost_ret (res_addr2 rfl _ _ rfl (ab2 w _ v6 (hi) (k))) rfl ⟨rfl, below2 w _ _⟩
end Go.Proofs.YtcblgbonijloiaaDoor

/- Contracts of the reference of layer 6: Bit, with. -/
namespace Go.Proofs.YtcblgbonijloiaaDoor
open Go.ChangeShapes Go.WideShapes Go.ChangeAt Go.RowKit
set_option linter.unusedVariables false

theorem and1_u64 (n k : Nat) (h : n < 18446744073709551616) : (bits .and .u64 ((n : Int) / 2 ^ k) 1 == 1) = decide (n / 2 ^ k % 2 = 1) := by
  have e : ((n : Int) / 2 ^ k) = ((n / 2 ^ k : Nat) : Int) := by rw [Int.natCast_ediv]; simp
  have hl : n / 2 ^ k < 18446744073709551616 := Nat.lt_of_le_of_lt (Nat.div_le_self _ _) h
  rw [e, show (1 : Int) = ((1 : Nat) : Int) from rfl, u64_and_nat _ 1 hl (by decide), Nat.and_one_is_mod, Bool.eq_iff_iff]
  simp
  omega
/-- A bit of an address. -/
def bitA (v6 : Bool) (hi lo i : Nat) : Bool :=
  if v6 then (if i < 64 then decide (hi / 2 ^ (63 - i) % 2 = 1) else decide (lo / 2 ^ (127 - i) % 2 = 1)) else decide (lo / 2 ^ (31 - i) % 2 = 1)
set_option maxRecDepth 20000 in
theorem rbit6_any (v6 : Bool) (hi lo i : Nat) (w : World) (h1 : hi < 18446744073709551616) (h2 : lo < 18446744073709551616) (hi' : i < width v6) :
    Calls Tryd.prog 71 #[.agg #[.bool v6, .int .u64 hi, .int .u64 lo], .int .i64 i] w fun e w' => e = .returned (.bool (bitA v6 hi lo i)) ∧ Below w.heap.size w w' := by
  have HB := Lib.hid (below_alloc6 w (.cells #[.bool v6, .int .u64 hi, .int .u64 lo] 25))
  cases v6 with
  | false =>
    have h3 : i < 32 := hi'
    have HA := Lib.hid (and1_u64 lo (31 - i) h2)
    go_enter Tryd.func71, Tryd.ntmps71
    go_wp2_with fail
    go_ret
    exact ⟨congrArg (fun b => Ending.returned (.bool b)) HA.out, HB.out⟩
  | true =>
    have h3 : i < 128 := hi'
    by_cases h4 : i < 64
    · have d4 : decide ((i : Int) < 64) = true := by simp; omega
      have HA := Lib.hid (show (bits .and .u64 ((hi : Int) / 2 ^ (63 - i)) 1 == 1) = bitA true hi lo i by rw [and1_u64 hi (63 - i) h1]; unfold bitA; rw [if_pos rfl, if_pos h4])
      go_enter Tryd.func71, Tryd.ntmps71
      go_wp2_with fail
      go_ret
      exact ⟨congrArg (fun b => Ending.returned (.bool b)) HA.out, HB.out⟩
    · have d4 : decide ((i : Int) < 64) = false := by simp; omega
      have HA := Lib.hid (show (bits .and .u64 ((lo : Int) / 2 ^ (127 - i)) 1 == 1) = bitA true hi lo i by rw [and1_u64 lo (127 - i) h2]; unfold bitA; rw [if_pos rfl, if_neg h4])
      go_enter Tryd.func71, Tryd.ntmps71
      go_wp2_with fail
      go_ret
      exact ⟨congrArg (fun b => Ending.returned (.bool b)) HA.out, HB.out⟩
end Go.Proofs.YtcblgbonijloiaaDoor

/- Contract of the reference of layer 6: with. -/
namespace Go.Proofs.YtcblgbonijloiaaDoor
open Go.ChangeShapes Go.WideShapes Go.ChangeAt Go.RowKit
set_option linter.unusedVariables false

/-- The bits under way: those behind the first 'from' of w, as far as i, are one. -/
def stepB (N w from_ i : Nat) (one : Bool) (t : Nat) : Bool := if w - from_ ≤ t then N.testBit t else if w - i ≤ t then one else N.testBit t
def numA (hi lo : Nat) : Nat := 2 ^ 64 * hi + lo
theorem numA_low {hi lo t : Nat} (h : lo < 2 ^ 64) (ht : t < 64) : (numA hi lo).testBit t = lo.testBit t := by
  unfold numA
  rw [Nat.testBit_two_pow_mul_add _ h, if_pos ht]
theorem numA_high {hi lo t : Nat} (h : lo < 2 ^ 64) : (numA hi lo).testBit (t + 64) = hi.testBit t := by
  unfold numA
  rw [Nat.testBit_two_pow_mul_add _ h, if_neg (by omega)]
  congr 1
/-- The state of the loop. -/
structure Wst (N w from_ i : Nat) (one : Bool) (hi lo : Nat) : Prop where
  h1 : hi < 18446744073709551616
  h2 : lo < 18446744073709551616
  lowb : ∀ t, t < 64 → lo.testBit t = stepB N w from_ i one t
  high : ∀ t, t < 64 → hi.testBit t = stepB N w from_ i one (t + 64)
theorem wst_start {hi lo w from_ : Nat} (one : Bool) (h1 : hi < 18446744073709551616) (h2 : lo < 18446744073709551616) : Wst (numA hi lo) w from_ from_ one hi lo := by
  have hs : ∀ t, stepB (numA hi lo) w from_ from_ one t = (numA hi lo).testBit t := fun t => by
    unfold stepB
    split
    · rfl
    · rfl
  exact ⟨h1, h2, fun t ht => by rw [hs, numA_low (by omega) ht], fun t ht => by rw [hs, numA_high (by omega)]⟩
theorem step_other {N w from_ i t : Nat} {one : Bool} (hi : i < w) (ht : t ≠ w - 1 - i) : stepB N w from_ (i + 1) one t = stepB N w from_ i one t := by
  unfold stepB
  split
  · rfl
  · by_cases h : w - i ≤ t
    · rw [if_pos h, if_pos (by omega)]
    · rw [if_neg h, if_neg (by omega)]
theorem step_here {N w from_ i : Nat} {one : Bool} (hi : i < w) (hf : from_ ≤ i) : stepB N w from_ (i + 1) one (w - 1 - i) = one ∧ stepB N w from_ i one (w - 1 - i) = N.testBit (w - 1 - i) := by
  unfold stepB
  rw [if_neg (by omega), if_pos (by omega), if_neg (by omega), if_neg (by omega)]
  exact ⟨rfl, rfl⟩
theorem tb_dec (n k : Nat) : decide (n / 2 ^ k % 2 = 1) = n.testBit k := by
  rw [Nat.testBit_eq_decide_div_mod_eq]
/-- The bit that the reference looks at. -/
theorem bit_of {N from_ i hi lo : Nat} {v6 one : Bool} (h : Wst N (width v6) from_ i one hi lo) (hi' : i < width v6) (hf : from_ ≤ i) : bitA v6 hi lo i = N.testBit (width v6 - 1 - i) := by
  have hs := (step_here (N := N) (one := one) hi' hf).2
  rw [← hs]
  unfold bitA
  cases v6 with
  | false =>
    rw [if_neg (by decide), tb_dec]
    exact h.lowb (31 - i) (by have : i < 32 := hi'; omega)
  | true =>
    have h3 : i < 128 := hi'
    rw [if_pos rfl]
    split
    · rw [tb_dec, h.high (63 - i) (by omega)]
      congr 1
      show 63 - i + 64 = 128 - 1 - i
      omega
    · rw [tb_dec, h.lowb (127 - i) (by omega)]
      rfl
theorem wst_stay {N w from_ i hi lo : Nat} {one : Bool} (h : Wst N w from_ i one hi lo) (hi' : i < w) (hf : from_ ≤ i) (hb : N.testBit (w - 1 - i) = one) : Wst N w from_ (i + 1) one hi lo := by
  have key : ∀ t, stepB N w from_ (i + 1) one t = stepB N w from_ i one t := fun t => by
    by_cases e : t = w - 1 - i
    · subst e
      rw [(step_here hi' hf).1, (step_here hi' hf).2, hb]
    · exact step_other hi' e
  exact ⟨h.h1, h.h2, fun t ht => by rw [key, h.lowb t ht], fun t ht => by rw [key, h.high t ht]⟩
theorem xor_tb (n j t : Nat) : (n ^^^ 2 ^ j).testBit t = (n.testBit t ^^ decide (j = t)) := by
  rw [Nat.testBit_xor, Nat.testBit_two_pow]
theorem xor_lt64 {n j : Nat} (h : n < 18446744073709551616) (hj : j < 64) : n ^^^ 2 ^ j < 18446744073709551616 :=
  Nat.xor_lt_two_pow (n := 64) h (Nat.pow_lt_pow_right (by omega) hj)
theorem wst_low {N w from_ i hi lo : Nat} {one : Bool} (h : Wst N w from_ i one hi lo) (hi' : i < w) (hf : from_ ≤ i) (hb : N.testBit (w - 1 - i) ≠ one) (hj : w - 1 - i < 64) : Wst N w from_ (i + 1) one hi (lo ^^^ 2 ^ (w - 1 - i)) := by
  refine ⟨h.h1, xor_lt64 h.h2 hj, fun t ht => ?_, fun t ht => ?_⟩
  · rw [xor_tb, h.lowb t ht]
    by_cases e : t = w - 1 - i
    · subst e
      rw [(step_here hi' hf).1, (step_here hi' hf).2]
      cases hx : N.testBit (w - 1 - i) <;> cases one <;> simp_all
    · rw [step_other hi' e, show decide (w - 1 - i = t) = false by simp; omega, Bool.xor_false]
  · rw [h.high t ht, step_other hi' (by omega)]
theorem wst_high {N w from_ i hi lo : Nat} {one : Bool} (h : Wst N w from_ i one hi lo) (hi' : i < w) (hf : from_ ≤ i) (hb : N.testBit (w - 1 - i) ≠ one) {j : Nat} (hj : j + 64 = w - 1 - i) (hj2 : j < 64) : Wst N w from_ (i + 1) one (hi ^^^ 2 ^ j) lo := by
  refine ⟨xor_lt64 h.h1 hj2, h.h2, fun t ht => ?_, fun t ht => ?_⟩
  · rw [h.lowb t ht, step_other hi' (by omega)]
  · rw [xor_tb, h.high t ht]
    by_cases e : t = j
    · subst e
      rw [hj, (step_here hi' hf).1, (step_here hi' hf).2]
      cases hx : N.testBit (w - 1 - i) <;> cases one <;> simp_all
    · rw [step_other hi' (by omega), show decide (j = t) = false by simp; omega, Bool.xor_false]
theorem wst_end {N w from_ hi lo : Nat} {one : Bool} (h : Wst N w from_ w one hi lo) (hN : N < 2 ^ 128) (hw : w - from_ ≤ 128) : numA hi lo = if one then fillN w from_ N else cutN w from_ N := by
  have hlo : lo < 2 ^ 64 := h.h2
  have hhi : hi < 2 ^ 64 := h.h1
  apply Nat.eq_of_testBit_eq
  intro t
  have hl : (numA hi lo).testBit t = if t < 128 then stepB N w from_ w one t else false := by
    by_cases h1 : t < 64
    · rw [numA_low hlo h1, h.lowb t h1, if_pos (by omega)]
    · obtain ⟨u, rfl⟩ : ∃ u, t = u + 64 := ⟨t - 64, by omega⟩
      rw [numA_high hlo]
      by_cases h2 : u < 64
      · rw [h.high u h2, if_pos (by omega)]
      · rw [if_neg (by omega), Nat.testBit_lt_two_pow (Nat.lt_of_lt_of_le hhi (Nat.pow_le_pow_right (by omega) (by omega)))]
  have hr : (if one then fillN w from_ N else cutN w from_ N).testBit t = if w - from_ ≤ t then N.testBit t else one := by
    have hc : cutN w from_ N = 2 ^ (w - from_) * (N / 2 ^ (w - from_)) := by unfold cutN; rw [Nat.mul_comm]
    cases one with
    | true =>
      rw [if_pos rfl]
      unfold fillN
      rw [hc, Nat.testBit_two_pow_mul_add _ (by have := Nat.two_pow_pos (w - from_); omega)]
      by_cases h2 : t < w - from_
      · rw [if_pos h2, if_neg (by omega), Nat.testBit_two_pow_sub_one]
        simpa using h2
      · rw [if_neg h2, if_pos (by omega), Nat.testBit_div_two_pow]
        congr 1; omega
    | false =>
      rw [if_neg (by decide), hc]
      have := Nat.testBit_two_pow_mul_add (N / 2 ^ (w - from_)) (Nat.two_pow_pos (w - from_)) t
      rw [Nat.add_zero] at this
      rw [this]
      by_cases h2 : t < w - from_
      · rw [if_pos h2, if_neg (by omega), Nat.zero_testBit]
      · rw [if_neg h2, if_pos (by omega), Nat.testBit_div_two_pow]
        congr 1; omega
  rw [hl, hr]
  unfold stepB
  by_cases h1 : t < 128
  · rw [if_pos h1]
    split
    · rfl
    · rw [if_pos (by omega)]
  · rw [if_neg h1, if_pos (by omega), Nat.testBit_lt_two_pow (Nat.lt_of_lt_of_le hN (Nat.pow_le_pow_right (by omega) (by omega)))]

theorem xor64 (n k : Nat) (h : n < 18446744073709551616) (hk : k < 64) : bits .xor .u64 (n : Int) (IntKind.u64.wrap (2 ^ k)) = ((n ^^^ 2 ^ k : Nat) : Int) := by
  have h2 : (2 : Nat) ^ k < 18446744073709551616 := Nat.pow_lt_pow_right (n := 64) (by omega) hk
  have e : ((2 : Int) ^ k) = ((2 ^ k : Nat) : Int) := by simp
  rw [e]
  generalize (2 : Nat) ^ k = p at *
  rw [wrap_u64_in (by omega) (by omega)]
  exact u64_xor_nat n p h h2
theorem AB.set2 {w : World} {g : Nat} {v6 : Bool} {hi lo : Nat} (h : AB w g v6 hi lo) (l : Nat) : AB (w.setCell ⟨g, 2, none⟩ (.int .u64 l)) g v6 hi l := Cells.set h 2 (.int .u64 l)
theorem AB.set1 {w : World} {g : Nat} {v6 : Bool} {hi lo : Nat} (h : AB w g v6 hi lo) (l : Nat) : AB (w.setCell ⟨g, 1, none⟩ (.int .u64 l)) g v6 l lo := Cells.set h 1 (.int .u64 l)
theorem AB.far {w : World} {g b i : Nat} {v6 : Bool} {hi lo : Nat} (h : AB w g v6 hi lo) (hne : g ≠ b) (u : Value) : AB (w.setCell ⟨b, i, none⟩ u) g v6 hi lo := (Below.heap_setCell w ⟨b, i, none⟩ u g hne).trans h
/-- The three stores of an address. -/
def aset (w : World) (g : Nat) (v6 : Bool) (hi lo : Nat) : World := ((w.setCell ⟨g, 0, none⟩ (.bool v6)).setCell ⟨g, 1, none⟩ (.int .u64 hi)).setCell ⟨g, 2, none⟩ (.int .u64 lo)
theorem AB.set {w : World} {g : Nat} {b : Bool} {x y : Nat} (h : AB w g b x y) (v6 : Bool) (hi lo : Nat) : AB (aset w g v6 hi lo) g v6 hi lo := by
  have h0 := Cells.set h 0 (.bool v6)
  have h1 := Cells.set h0 1 (.int .u64 hi)
  have h2 := Cells.set h1 2 (.int .u64 lo)
  exact h2
theorem aset_below {B : Nat} {a w : World} {g : Nat} (h : Below B a w) (hg : B ≤ g) (v6 : Bool) (hi lo : Nat) : Below B a (aset w g v6 hi lo) := ((h.setCell hg _).setCell hg _).setCell hg _
set_option maxHeartbeats 1000000 in
set_option maxRecDepth 20000 in
theorem rwith6_any (v6 one : Bool) (hi lo from_ : Nat) (w : World) (h1 : hi < 18446744073709551616) (h2 : lo < 18446744073709551616) (hf : from_ ≤ width v6) :
    Calls Tryd.prog 50 #[.agg #[.bool v6, .int .u64 hi, .int .u64 lo], .int .i64 from_, .bool one] w fun e w' => (∃ hi' lo' : Nat, e = .returned (.agg #[.bool v6, .int .u64 hi', .int .u64 lo']) ∧ Wst (numA hi lo) (width v6) from_ (width v6) one hi' lo') ∧ Below w.heap.size w w' := by
  have hw : width v6 ≤ 128 := by unfold width; split <;> omega
  have HW0 := Lib.hid (wst_start (w := width v6) (from_ := from_) one h1 h2)
  have HWD := Lib.hid (fun hi lo W => rwidth_any v6 hi lo W)
  have HBIT := Lib.hid (fun hi lo i W a b c => rbit6_any v6 hi lo i W a b c)
  obtain ⟨N, hN⟩ : ∃ N, N = numA hi lo := ⟨_, rfl⟩
  rw [← hN] at HW0 ⊢
  obtain ⟨wd, hwd⟩ : ∃ wd, wd = width v6 := ⟨_, rfl⟩
  rw [← hwd] at HWD HW0 hf hw HBIT ⊢
  have HV := Lib.hid hwd
  have HX := Lib.hid (ab_new w v6 hi lo |>.kept (below_alloc6 _ (.cells #[.bool false, .int .u64 0, .int .u64 0] 25)) (alloc_lt6 w _))
  have HR := Lib.hid (ab2 w (.cells #[.bool v6, .int .u64 hi, .int .u64 lo] 25) false 0 0)
  have HB := Lib.hid (below2 w (.cells #[.bool v6, .int .u64 hi, .int .u64 lo] 25) (.cells #[.bool false, .int .u64 0, .int .u64 0] 25))
  clear hN hwd h1 h2
  go_enter Tryd.func50, Tryd.ntmps50
  go_wp2_with fail
  generalize (w.alloc (.cells #[.bool v6, .int .u64 hi, .int .u64 lo] 25)).alloc (.cells #[.bool false, .int .u64 0, .int .u64 0] 25) = w1 at *
  go_loopw [7] (fun v7 wr => ∃ i hi lo : Nat, from_ ≤ i ∧ i ≤ wd ∧ v7 = .int .i64 i ∧ Hid (AB wr w.heap.size v6 hi lo) ∧ Hid (AB wr (w.heap.size + 1) false 0 0) ∧ Hid (Below w.heap.size w wr) ∧ Hid (Wst N wd from_ i one hi lo)) (fun v7 _ => wd - (intOf v7).toNat)
  case atStart => exact ⟨from_, hi, lo, Nat.le_refl _, hf, rfl, HX, HR, HB, HW0⟩
  case round =>
    clear HX HR HB HW0
    obtain ⟨i, hi, lo, hfi, hiw, rfl, HX, HR, HB, HW⟩ := hrel
    have x0 := HX.out.c0
    have x1 := HX.out.c1
    have x2 := HX.out.c2
    go_wp2_with fail
    refine (HWD.out hi lo _).mono ?_
    rintro e w2 ⟨rfl, hb⟩
    have HX2 := Lib.hid (HX.out.kept hb HX.out.lt)
    have HR2 := Lib.hid (HR.out.kept hb HR.out.lt)
    have HB2 := Lib.hid (HB.out.trans (hb.mono HB.out.size))
    clear hb HX HR HB x0 x1 x2
    have x0 := HX2.out.c0
    have x1 := HX2.out.c1
    have x2 := HX2.out.c2
    by_cases hlt : i < wd
    · have hli : (i : Int) < (wd : Int) := by omega
      go_wp2_with fail
      refine (HBIT.out hi lo i _ HW.out.h1 HW.out.h2 hlt).mono ?_
      rintro e w3 ⟨rfl, hb⟩
      have HX3 := Lib.hid (HX2.out.kept hb HX2.out.lt)
      have HR3 := Lib.hid (HR2.out.kept hb HR2.out.lt)
      have HB3 := Lib.hid (HB2.out.trans (hb.mono HB2.out.size))
      have hbit : bitA v6 hi lo i = N.testBit (wd - 1 - i) := by
        have h := HW.out
        rw [HV.out] at h ⊢
        exact bit_of h (by rw [← HV.out]; exact hlt) hfi
      rw [hbit]
      clear hb HX2 HR2 HB2 x0 x1 x2
      have x0 := HX3.out.c0
      have x1 := HX3.out.c1
      have x2 := HX3.out.c2
      have f1 := HX3.out.f 1
      have f2 := HX3.out.f 2
      by_cases hb : N.testBit (wd - 1 - i) = one
      · have HW4 := Lib.hid (wst_stay HW.out hlt hfi hb)
        have db : (N.testBit (wd - 1 - i) == one) = true := by simp [hb]
        generalize N.testBit (wd - 1 - i) = bt at *
        clear hb hbit HW
        go_wp2_with fail
        go_roundw
        case rel => exact ⟨i + 1, hi, lo, by omega, by omega, by go_num, HX3, HR3, HB3, HW4⟩
        case measure => simp [intOf]; omega
      · have db : (N.testBit (wd - 1 - i) == one) = false := by simp [hb]
        cases v6 with
        | false =>
          obtain rfl : wd = 32 := HV.out
          have HW4 := Lib.hid (show Wst N 32 from_ (i + 1) one hi (lo ^^^ 2 ^ (31 - i)) from wst_low HW.out hlt hfi hb (by omega))
          have HXE := Lib.hid (xor64 lo (31 - i) HW.out.h2 (by omega))
          have HX4 := Lib.hid (HX3.out.set2 (lo ^^^ 2 ^ (31 - i)))
          have HR4 := Lib.hid (HR3.out.far (b := w.heap.size) (i := 2) (by omega) (.int .u64 ((lo ^^^ 2 ^ (31 - i) : Nat) : Int)))
          have HB4 := Lib.hid (HB3.out.setCell (p := ⟨w.heap.size, 2, none⟩) (Nat.le_refl _) (.int .u64 ((lo ^^^ 2 ^ (31 - i) : Nat) : Int)))
          clear hb hbit
          generalize N.testBit _ = bt at *
          go_wp2_with fail
          rw [HXE.out]
          exact ⟨⟨i + 1, hi, lo ^^^ 2 ^ (31 - i), by omega, by omega, by go_num, HX4, HR4, HB4, HW4⟩, by simp [intOf]; omega⟩
        | true =>
          obtain rfl : wd = 128 := HV.out
          by_cases h64 : i < 64
          · have d64 : decide ((i : Int) < 64) = true := by simp; omega
            have HW4 := Lib.hid (wst_high (j := 63 - i) HW.out hlt hfi hb (by omega) (by omega))
            have HXE := Lib.hid (xor64 hi (63 - i) HW.out.h1 (by omega))
            have HX4 := Lib.hid (HX3.out.set1 (hi ^^^ 2 ^ (63 - i)))
            have HR4 := Lib.hid (HR3.out.far (b := w.heap.size) (i := 1) (by omega) (.int .u64 ((hi ^^^ 2 ^ (63 - i) : Nat) : Int)))
            have HB4 := Lib.hid (HB3.out.setCell (p := ⟨w.heap.size, 1, none⟩) (Nat.le_refl _) (.int .u64 ((hi ^^^ 2 ^ (63 - i) : Nat) : Int)))
            clear hb hbit
            generalize N.testBit _ = bt at *
            go_wp2_with fail
            rw [HXE.out]
            exact ⟨⟨i + 1, hi ^^^ 2 ^ (63 - i), lo, by omega, by omega, by go_num, HX4, HR4, HB4, HW4⟩, by simp [intOf]; omega⟩
          · have d64 : decide ((i : Int) < 64) = false := by simp; omega
            have HW4 := Lib.hid (show Wst N 128 from_ (i + 1) one hi (lo ^^^ 2 ^ (127 - i)) from wst_low HW.out hlt hfi hb (by omega))
            have HXE := Lib.hid (xor64 lo (127 - i) HW.out.h2 (by omega))
            have HX4 := Lib.hid (HX3.out.set2 (lo ^^^ 2 ^ (127 - i)))
            have HR4 := Lib.hid (HR3.out.far (b := w.heap.size) (i := 2) (by omega) (.int .u64 ((lo ^^^ 2 ^ (127 - i) : Nat) : Int)))
            have HB4 := Lib.hid (HB3.out.setCell (p := ⟨w.heap.size, 2, none⟩) (Nat.le_refl _) (.int .u64 ((lo ^^^ 2 ^ (127 - i) : Nat) : Int)))
            clear hb hbit
            generalize N.testBit _ = bt at *
            go_wp2_with fail
            rw [HXE.out]
            exact ⟨⟨i + 1, hi, lo ^^^ 2 ^ (127 - i), by omega, by omega, by go_num, HX4, HR4, HB4, HW4⟩, by simp [intOf]; omega⟩
    · obtain rfl : i = wd := by omega
      have hd : decide ((i : Int) < (i : Int)) = false := by simp
      have r0 := HR2.out.c0
      have r1 := HR2.out.c1
      have r2 := HR2.out.c2
      have rf0 := HR2.out.f 0
      have rf1 := HR2.out.f 1
      have rf2 := HR2.out.f 2
      go_wp2_with fail
      change bodyPost _ _ _ _ _ (aset w2 (w.heap.size + 1) v6 hi lo)
      exact bodyPost_ret (res_addr1 rfl _ _ rfl (HR2.out.set v6 hi lo)) rfl ⟨⟨hi, lo, rfl, HW.out⟩, aset_below HB2.out (Nat.le_succ _) v6 hi lo⟩
end Go.Proofs.YtcblgbonijloiaaDoor

/- Contract of the reference of layer 6: parse4. -/
namespace Go.Proofs.YtcblgbonijloiaaDoor
open Go.ChangeShapes Go.WideShapes Go.ChangeAt Go.RowKit
set_option linter.unusedVariables false

/-- 'a<<8 | b' of a uint64. -/
theorem or_u64 (a b : Nat) (h1 : a * 256 < 18446744073709551616) (h2 : b < 256) : bits .or .u64 ((a : Int) * 256) (b : Int) = ((a * 256 + b : Nat) : Int) := by
  have nn : ∀ x : Nat, x < 2 ^ 64 → (BitVec.ofInt 64 (x : Int)).toNat = x := fun x hx => by
    rw [BitVec.ofInt_natCast, BitVec.toNat_ofNat]
    exact Nat.mod_eq_of_lt (by omega)
  have e : a * 256 ||| b = a * 256 + b := by
    have h := Nat.shiftLeft_add_eq_or_of_lt (i := 8) (b := b) (by omega) a
    rw [Nat.shiftLeft_eq, show 2 ^ 8 = 256 from rfl] at h
    omega
  rw [show ((a : Int) * 256) = ((a * 256 : Nat) : Int) by omega]
  show IntKind.u64.wrap ((BitVec.ofInt 64 ((a * 256 : Nat) : Int) ||| BitVec.ofInt 64 (b : Int)).toNat : Int) = _
  rw [BitVec.toNat_or, nn _ (by omega), nn _ (by omega), e]
  exact wrap_u64_in (by omega) (by omega)
theorem decGo_le (most : Nat) : ∀ (s : By) (n m : Nat), n ≤ most + 1 → decGo most n s = some m → m ≤ most + 1
  | [], n, m, hn, h => by rw [decGo] at h; cases h; exact hn
  | c :: r, n, m, hn, h => by
    rw [decGo] at h
    split at h
    · exact decGo_le most r _ m (by omega) h
    · exact absurd h (by simp)
theorem decS_le {most : Nat} {s : By} {n : Nat} (h : decS most s = (n : Int)) : n ≤ most := by
  unfold decS at h
  split at h
  · omega
  · split at h
    · omega
    · split at h <;> omega
/-- The address of four bytes, the first of which make n. -/
def dfrom (n : Nat) (l : List Nat) : Nat := l.foldl (fun n d => n * 256 + d) n
theorem decAll_step {p : By} {r : List By} {n : Nat} (h : decS 255 p = (n : Int)) (lo : Nat) : (decAll (p :: r)).map (dfrom lo) = (decAll r).map (dfrom (lo * 256 + n)) := by
  rw [decAll, h]
  show ((decAll r).map (n :: ·)).map (dfrom lo) = _
  cases decAll r <;> simp [dfrom]
theorem decAll_stop {p : By} {r : List By} (h : decS 255 p < 0) : decAll (p :: r) = none := by
  rw [decAll]
  split
  · rename_i n hn; rw [hn] at h; exact absurd h (by simp)
  · rfl
theorem pow256_le {k : Nat} (h : k < 4) : 256 ^ k ≤ 16777216 := by
  calc 256 ^ k ≤ 256 ^ 3 := Nat.pow_le_pow_right (by omega) (by omega)
    _ = 16777216 := rfl
def P4 : Option Nat → Value
  | none => .tuple #[.agg #[.bool false, .int .u64 0, .int .u64 0], .bool false]
  | some n => .tuple #[.agg #[.bool false, .int .u64 0, .int .u64 n], .bool true]
set_option maxHeartbeats 800000 in
set_option maxRecDepth 20000 in
theorem rparse46_any (s : ByteArray) (w : World) (hs : s.size ≤ 1000) :
    Calls Tryd.prog 42 #[.string s] w fun e w' => e = .returned (P4 ((parse4 s.data.toList).map (ofDigits 256))) ∧ Below w.heap.size w w' := by
  obtain ⟨R, hR⟩ : ∃ R, R = (parse4 s.data.toList).map (ofDigits 256) := ⟨_, rfl⟩
  rw [← hR]
  have hlen := toList_length6 s
  have HSP := Lib.hid (fun W => rsplit6_any s 46 W hs)
  have HPL := Lib.hid (fun (p : By) (h : p ∈ splitL 46 s.data.toList) => (split_len h : p.length ≤ s.data.toList.length))
  have hcn := split_count 46 s.data.toList
  rw [parse4] at hR
  rw [hlen] at HPL hcn
  obtain ⟨L, hL⟩ : ∃ L, L = splitL 46 s.data.toList := ⟨_, rfl⟩
  rw [← hL] at HSP HPL hcn hR
  have HR := Lib.hid hR
  have HX := Lib.hid (ab_new w false 0 0)
  have HB := Lib.hid (below_alloc6 w (.cells #[.bool false, .int .u64 0, .int .u64 0] 25))
  have hn0 := hcn.1
  have hn1 := hcn.2
  clear hR hL hlen hcn
  go_enter Tryd.func42, Tryd.ntmps42
  go_wp2_with fail
  refine (HSP.out _).mono ?_
  rintro e w1 ⟨A, cap, rfl, hown, hb⟩
  obtain ⟨g, hA, hgl, hcell⟩ := own_stl hown hn0
  subst hA
  have HC := Lib.hid hcell
  have HX1 := Lib.hid (HX.out.kept hb HX.out.lt)
  have HB1 := Lib.hid (HB.out.trans (hb.mono HB.out.size))
  obtain ⟨n, hn⟩ : ∃ n, n = L.length := ⟨_, rfl⟩
  rw [← hn] at hn0 hn1 ⊢
  have hsz1 := HB1.out.size
  have hxl := HX1.out.lt
  clear hb hown hcell HSP HX HB
  by_cases h4 : n = 4
  · have d4 : ((n : Int) == 4) = true := by simp [h4]
    have hr := HR.out
    rw [if_pos (by omega)] at hr
    have HQ0 := Lib.hid (show (decAll (L.drop 0)).map (dfrom 0) = R by rw [hr, List.drop_zero]; rfl)
    have HN := Lib.hid hn
    have HL0 := Lib.hid (show 0 < 256 ^ 0 by decide)
    have HX2 := Lib.hid (HX1.out.kept (below_alloc6 w1 (.cells #[.bool false, .int .u64 0, .int .u64 0] 25)) hxl)
    have HB2 := Lib.hid (HB1.out.alloc HB1.out.size (.cells #[.bool false, .int .u64 0, .int .u64 0] 25))
    have HY2 := Lib.hid (ab_new w1 false 0 0)
    have HBk := Lib.hid (below_alloc6 w1 (.cells #[.bool false, .int .u64 0, .int .u64 0] 25))
    have HG1 := Lib.hid (show ((w1.alloc (.cells #[.bool false, .int .u64 0, .int .u64 0] 25)).heap[g]? = w1.heap[g]?) from HBk.out.block g hgl)
    subst h4
    clear hn hr HR
    go_wp2_with fail
    go_loopw [6, 7] (fun v6 _ wr => ∃ k lo : Nat, v6 = .int .i64 k ∧ k ≤ 4 ∧ Hid (lo < 256 ^ k) ∧ Hid ((decAll (L.drop k)).map (dfrom lo) = R) ∧ Hid (AB wr w1.heap.size false 0 lo) ∧ Hid (AB wr w.heap.size false 0 0) ∧ Hid (Below w.heap.size w wr) ∧ Hid (wr.heap[g]? = w1.heap[g]?)) (fun v6 _ _ => 4 - (intOf v6).toNat)
    case atStart => exact ⟨0, 0, rfl, Nat.zero_le _, HL0, HQ0, HY2, HX2, HB2, HG1⟩
    case round =>
      clear HL0 HQ0 HY2 HX2 HB2 HG1
      obtain ⟨k, lo, rfl, hk, HL, HQ, HY, HX, HB, HG⟩ := hrel
      obtain ⟨k1, hk1⟩ : ∃ k1, k1 = k + 1 := ⟨_, rfl⟩
      have k1i : (k : Int) + 1 = (k1 : Int) := by omega
      by_cases hlt : k < 4
      · have dlt : decide ((k : Int) < 4) = true := by simp; omega
        have hlti : (k : Int) < 4 := by omega
        have hkl : k < L.length := by have := HN.out; omega
        have k1n : k1 ≤ 4 := by omega
        obtain ⟨p, hp⟩ : ∃ p, p = L[k] := ⟨_, rfl⟩
        have hdrop : L.drop k = p :: L.drop k1 := by rw [List.drop_eq_getElem_cons hkl, hp, hk1]
        have hpl : (str p).size ≤ 1000 := by
          rw [str_size]
          have := HPL.out p (by rw [hp]; exact List.getElem_mem hkl)
          omega
        have hcell : wr.cell? ⟨g, k, none⟩ = some (.string (str p)) := by
          rw [World.cell?_of_block (w := w1) (w' := wr) (a := ⟨g, k, none⟩) HG.out]
          exact HC.out k p (by rw [List.getElem?_eq_getElem hkl, hp])
        have HD := Lib.hid (fun W => rdec6_any (str p) 255 W (by omega) hpl)
        rw [str_toList] at HD
        have hq := HQ.out
        rw [hdrop] at hq
        have x0 := HX.out.c0
        have x1 := HX.out.c1
        have x2 := HX.out.c2
        have xf0 := HX.out.f 0
        have xf1 := HX.out.f 1
        have xf2 := HX.out.f 2
        have y0 := HY.out.c0
        have y1 := HY.out.c1
        have y2 := HY.out.c2
        have yf2 := HY.out.f 2
        by_cases hv : decS 255 p < 0
        · have dv : decide (decS 255 p < 0) = true := by simpa using hv
          rw [decAll_stop hv] at hq
          have HE := Lib.hid (show R = none from hq.symm)
          clear hq hp hdrop hpl hk1 HQ
          generalize str p = S at *
          generalize decS 255 p = V at *
          go_wp2_with fail
          refine (HD.out _).mono ?_
          rintro e w2 ⟨rfl, rfl⟩
          go_wp2_with fail
          change bodyPost _ _ _ _ _ (aset wr w.heap.size false 0 0)
          exact bodyPost_ret (res_addr2 rfl _ _ rfl (HX.out.set false 0 0)) rfl ⟨by rw [HE.out]; rfl, aset_below HB.out (Nat.le_refl _) false 0 0⟩
        · obtain ⟨m, hm⟩ : ∃ m : Nat, decS 255 p = (m : Int) := ⟨(decS 255 p).toNat, by omega⟩
          have hm2 : m ≤ 255 := decS_le hm
          rw [decAll_step hm] at hq
          rw [hm] at HD
          have hlo : lo < 16777216 := Nat.lt_of_lt_of_le HL.out (pow256_le hlt)
          have HOR := Lib.hid (or_u64 lo m (by omega) (by omega))
          have HQ2 := Lib.hid hq
          have HL2 := Lib.hid (show lo * 256 + m < 256 ^ k1 by have := HL.out; rw [hk1, Nat.pow_succ]; omega)
          have dm : decide ((m : Int) < 0) = false := by simp
          have HK1 := Lib.hid hk1
          have HX3 := Lib.hid (HX.out.far (b := w1.heap.size) (i := 2) (by omega) (.int .u64 ((lo * 256 + m : Nat) : Int)))
          have HY3 := Lib.hid (HY.out.set2 (lo * 256 + m))
          have HB3 := Lib.hid (HB.out.setCell (p := ⟨w1.heap.size, 2, none⟩) hsz1 (.int .u64 ((lo * 256 + m : Nat) : Int)))
          have HG3 := Lib.hid ((Below.heap_setCell wr ⟨w1.heap.size, 2, none⟩ (.int .u64 ((lo * 256 + m : Nat) : Int)) g (Nat.ne_of_lt hgl)).trans HG.out)
          clear hq hp hdrop hpl hk1 HQ hv hm
          generalize str p = S at *
          go_wp2_with fail
          refine (HD.out _).mono ?_
          rintro e w2 ⟨rfl, rfl⟩
          go_wp2_with fail
          go_roundw
          case rel =>
            rw [HOR.out]
            exact ⟨k1, lo * 256 + m, by go_num, k1n, HL2, HQ2, HY3, HX3, HB3, HG3⟩
          case measure => have := HK1.out; simp [intOf]; omega
      · have dlt : decide ((k : Int) < 4) = false := by simp; omega
        have nlt : ¬ (k : Int) < 4 := by omega
        have hq := HQ.out
        rw [List.drop_of_length_le (by have := HN.out; omega), decAll] at hq
        have HE := Lib.hid (show R = some lo from hq.symm)
        have x0 := HX.out.c0
        have x1 := HX.out.c1
        have x2 := HX.out.c2
        have xf0 := HX.out.f 0
        have xf1 := HX.out.f 1
        have xf2 := HX.out.f 2
        have y0 := HY.out.c0
        have y1 := HY.out.c1
        have y2 := HY.out.c2
        clear hq HQ hk1
        go_wp2_with fail
        change bodyPost _ _ _ _ _ (aset wr w.heap.size false 0 lo)
        exact bodyPost_ret (res_addr2 rfl _ _ rfl (HX.out.set false 0 lo)) rfl ⟨by rw [HE.out]; rfl, aset_below HB.out (Nat.le_refl _) false 0 lo⟩
  · have d4 : ((n : Int) == 4) = false := by rw [beq_eq_false_iff_ne]; omega
    have hr := HR.out
    rw [if_neg (by omega)] at hr
    have HE := Lib.hid (show R = none from hr)
    have x0 := HX1.out.c0
    have x1 := HX1.out.c1
    have x2 := HX1.out.c2
    have xf0 := HX1.out.f 0
    have xf1 := HX1.out.f 1
    have xf2 := HX1.out.f 2
    clear hn hr HR
    go_wp2_with fail
    change bodyPost _ _ _ _ _ (aset w1 w.heap.size false 0 0)
    exact bodyPost_ret (res_addr2 rfl _ _ rfl (HX1.out.set false 0 0)) rfl ⟨by rw [HE.out]; rfl, aset_below HB1.out (Nat.le_refl _) false 0 0⟩
end Go.Proofs.YtcblgbonijloiaaDoor
