/- Contracts of the functions, part 12: OvSm, OvCut, Row. -/
import Derived.Laws.Tables
import Derived.StillTailTactics
import Derived.Test.YtafpmlikocchpaaPA3
import Derived.Test.YtafpmlikocchpaaPA6
import Derived.Test.YtafpmlikocchpaaPA11
/- Contracts of the reference of layer 15: Size, at, Same (of equal lists). -/
namespace Go.Proofs.Ytafpmlikocchpaa
open Go.ChangeShapes Go.WideShapes Go.ChangeAt Go.RowKit
set_option linter.unusedVariables false
set_option maxRecDepth 100000

theorem sizeL_nil : sizeL [] = 0 := rfl
theorem sizeL_cons (x : PcR) (r : List PcR) : sizeL (x :: r) = x.dat.length + sizeL r := rfl
theorem sizeL_append : ∀ (a b : List PcR), sizeL (a ++ b) = sizeL a + sizeL b
  | [], b => by rw [sizeL_nil, List.nil_append, Nat.zero_add]
  | x :: r, b => by rw [List.cons_append, sizeL_cons, sizeL_cons, sizeL_append r b]; omega
theorem sizeL_take (l : List PcR) (k : Nat) : sizeL (l.take k) ≤ sizeL l := by
  have := sizeL_append (l.take k) (l.drop k)
  rw [List.take_append_drop] at this
  omega
theorem sizeL_next {l : List PcR} {k : Nat} {x : PcR} (hx : l[k]? = some x) : sizeL (l.take (k + 1)) = sizeL (l.take k) + x.dat.length := by
  obtain ⟨hk, e⟩ := List.getElem?_eq_some_iff.1 hx
  rw [List.take_succ_eq_append_getElem hk, e, sizeL_append, sizeL_cons, sizeL_nil, Nat.add_zero]
set_option maxHeartbeats 8000000 in
set_option maxRecDepth 100000 in
theorem rsize15_any (l : List PcR) (A : Option Addr) (c : Nat) (w : World) (h : RowL EPc w A l) (hl : l.length ≤ 1000000) (hz : sizeL l ≤ 4611686018427387904) :
    Calls Try.prog 24 #[.slice A l.length c] w fun e w' => e = .returned (.int .i64 (sizeL l : Int)) ∧ w = w' := by
  obtain ⟨n, hnl⟩ : ∃ n, n = l.length := ⟨_, rfl⟩
  obtain ⟨Q, hQ⟩ : ∃ Q, Q = sizeL l := ⟨_, rfl⟩
  rw [← hnl] at hl ⊢
  rw [← hQ] at hz ⊢
  have HN := Lib.hid hnl
  have HQ := Lib.hid hQ
  have HS := Lib.hid h
  clear hnl h hQ
  go_enter Try.func24, Try.ntmps24
  go_wp2_with fail
  go_loop [3, 4] (fun s i => ∃ k m : Nat, s = .int .i64 (m : Int) ∧ i = .int .i64 (k : Int) ∧ k ≤ n ∧ m ≤ Q ∧ Hid (m = sizeL (l.take k))) (fun _ i => n - (intOf i).toNat)
  case atStart => exact ⟨0, 0, rfl, rfl, Nat.zero_le _, Nat.zero_le _, Lib.hid (by simp [sizeL])⟩
  case round =>
    obtain ⟨k, m, rfl, rfl, hk, hm, HM⟩ := hrel
    by_cases hlt : k < n
    · obtain ⟨x, hget⟩ : ∃ x, l[k]? = some x := ⟨l[k]'(by have := HN.out; omega), List.getElem?_eq_getElem _⟩
      obtain ⟨ga, oa, rfl, hga⟩ := HS.out.shapeA (by have := HN.out; omega)
      obtain ⟨a0, a1, a2, a3⟩ := pc_at HS.out hget (Below.refl _ _)
      have hki : (k : Int) < (n : Int) := by omega
      have dlt : decide ((k : Int) < (n : Int)) = true := by simp; omega
      have hki0 : (0 : Int) ≤ (k : Int) := by omega
      have hnx := sizeL_next hget
      have hle := sizeL_take l (k + 1)
      rw [← HQ.out, hnx, ← HM.out] at hle
      rw [← HM.out] at hnx
      obtain ⟨D, hD⟩ : ∃ D, D = str x.dat := ⟨_, rfl⟩
      have hDs : D.size = x.dat.length := by rw [hD, str_size]
      rw [← hDs] at hle hnx
      rw [← hD] at a1
      obtain ⟨m2, hm2⟩ : ∃ m2, m2 = m + D.size := ⟨_, rfl⟩
      have km : (m : Int) + (D.size : Int) = (m2 : Int) := by omega
      have hmq : m2 ≤ Q := by omega
      have HM2 := Lib.hid (show m2 = sizeL (l.take (k + 1)) by rw [hnx, hm2])
      clear hget hnx hle hD hDs hm2 HM
      go_wp2_with fail
      go_round
      case rel => exact ⟨k + 1, m2, rfl, by go_num, by omega, hmq, HM2⟩
      case measure => simp [intOf]; omega
    · obtain rfl : k = n := by omega
      have hd : decide ((k : Int) < (k : Int)) = false := by simp
      have HE := Lib.hid (show m = Q by rw [HM.out, HQ.out, HN.out, List.take_length])
      go_wp2_with fail
      go_ret
      exact ⟨by rw [HE.out]; rfl, rfl⟩
/-! ### at -/
/-- The place of the byte at an offset. -/
def idxC (c : List CeR) (o : Int) : Int := match c.findIdx? (fun y => y.at_ == o) with | none => -1 | some i => (i : Int)
theorem idx_none {c : List CeR} {o : Int} (h : fndC c o = none) : idxC c o = -1 := by
  unfold fndC at h
  unfold idxC
  rw [List.findIdx?_eq_none_iff.2 (fun y hy => by have := List.find?_eq_none.1 h y hy; simpa using this)]
theorem fnd_take_none {c : List CeR} {o : Int} {k : Nat} {x : CeR} (h : fndC (c.take k) o = none) (hx : c[k]? = some x) (hd : (x.at_ == o) = false) : fndC (c.take (k + 1)) o = none := by
  obtain ⟨hk', e⟩ := List.getElem?_eq_some_iff.1 hx
  unfold fndC at h ⊢
  rw [List.take_succ_eq_append_getElem hk', e, List.find?_append, h]
  simp [hd]
theorem fnd_take_some {c : List CeR} {o : Int} {k : Nat} {x : CeR} (h : fndC (c.take k) o = none) (hx : c[k]? = some x) (hd : (x.at_ == o) = true) : idxC c o = (k : Int) ∧ fndC c o = some x := by
  obtain ⟨hk', e⟩ := List.getElem?_eq_some_iff.1 hx
  unfold fndC at h
  have hl : c = c.take k ++ x :: c.drop (k + 1) := by rw [← e, ← List.drop_eq_getElem_cons hk', List.take_append_drop]
  have hall := List.find?_eq_none.1 h
  refine ⟨?_, ?_⟩
  · unfold idxC
    rw [show c.findIdx? (fun y => y.at_ == o) = some k from ?_]
    rw [List.findIdx?_eq_some_iff_getElem]
    refine ⟨hk', by rw [e]; exact hd, fun j hj => ?_⟩
    have := hall (c[j]'(by omega)) (by rw [List.mem_take_iff_getElem]; exact ⟨j, by omega, rfl⟩)
    exact this
  · unfold fndC
    rw [hl, List.find?_append, h]
    simp [hd]
set_option maxHeartbeats 8000000 in
set_option maxRecDepth 100000 in
theorem rat15_any (l : List CeR) (A : Option Addr) (c : Nat) (o : Int) (w : World) (h : RowL ECe w A l) (hl : l.length ≤ 1000000) :
    Calls Try.prog 33 #[.slice A l.length c, .int .i64 o] w fun e w' => e = .returned (.int .i64 (idxC l o)) ∧ w = w' := by
  obtain ⟨n, hnl⟩ : ∃ n, n = l.length := ⟨_, rfl⟩
  obtain ⟨Q, hQ⟩ : ∃ Q, Q = idxC l o := ⟨_, rfl⟩
  rw [← hnl] at hl ⊢
  rw [← hQ]
  have HN := Lib.hid hnl
  have HQ := Lib.hid hQ
  have HS := Lib.hid h
  clear hnl h hQ
  go_enter Try.func33, Try.ntmps33
  go_wp2_with fail
  go_loop [5] (fun i => ∃ k : Nat, i = .int .i64 (k : Int) ∧ k ≤ n ∧ Hid (fndC (l.take k) o = none)) (fun i => n - (intOf i).toNat)
  case atStart => exact ⟨0, rfl, Nat.zero_le _, Lib.hid rfl⟩
  case round =>
    obtain ⟨k, rfl, hk, HM⟩ := hrel
    by_cases hlt : k < n
    · obtain ⟨x, hget⟩ : ∃ x, l[k]? = some x := ⟨l[k]'(by have := HN.out; omega), List.getElem?_eq_getElem _⟩
      obtain ⟨ga, oa, rfl, hga⟩ := HS.out.shapeA (by have := HN.out; omega)
      obtain ⟨a0, a1, a2, a3⟩ := ce_at HS.out hget (Below.refl _ _)
      have hki : (k : Int) < (n : Int) := by omega
      have dlt : decide ((k : Int) < (n : Int)) = true := by simp; omega
      have hki0 : (0 : Int) ≤ (k : Int) := by omega
      cases hd : (x.at_ == o) with
      | true =>
        have HE := Lib.hid (show Q = (k : Int) by rw [HQ.out]; exact (fnd_take_some HM.out hget hd).1)
        clear hget
        go_wp2_with fail
        go_ret
        exact ⟨by rw [HE.out]; rfl, rfl⟩
      | false =>
        have HM2 := Lib.hid (fnd_take_none HM.out hget hd)
        clear hget
        go_wp2_with fail
        go_round
        case rel => exact ⟨k + 1, by go_num, by omega, HM2⟩
        case measure => simp [intOf]; omega
    · obtain rfl : k = n := by omega
      have hd : decide ((k : Int) < (k : Int)) = false := by simp
      have HE := Lib.hid (show Q = -1 by rw [HQ.out]; exact idx_none (by have := HM.out; rwa [HN.out, List.take_length] at this))
      go_wp2_with fail
      go_ret
      exact ⟨by rw [HE.out]; rfl, rfl⟩
theorem below_drewN15 {b : Nat} {w w' : World} (h : Below b w w') (q : Nat) : Below b w (w'.drewN q) := ⟨h.os, h.tape, h.output, h.size, h.block⟩
set_option maxHeartbeats 8000000 in
set_option maxRecDepth 100000 in
theorem rsame15_any (l : List PcR) (A1 A2 : Option Addr) (c1 c2 : Nat) (w : World) (h1 : RowL EPc w A1 l) (h2 : RowL EPc w A2 l) (hn : l.length ≤ 1000000) :
    Calls Try.prog 17 #[.slice A1 l.length c1, .slice A2 l.length c2] w fun e w' => e = .returned (.bool true) ∧ Below w.heap.size w w' := by
  obtain ⟨n, hnl⟩ : ∃ n, n = l.length := ⟨_, rfl⟩
  rw [← hnl] at hn ⊢
  have HN := Lib.hid hnl
  have H1 := Lib.hid h1
  have H2 := Lib.hid h2
  clear hnl h1 h2
  go_enter Try.func17, Try.ntmps17
  go_wp2_with fail
  go_loopw [5] (fun i wr => ∃ k : Nat, k ≤ n ∧ i = .int .i64 k ∧ Hid (Below w.heap.size w wr)) (fun i _ => n - (intOf i).toNat)
  case atStart => exact ⟨0, Nat.zero_le _, rfl, Lib.hid (Below.refl _ _)⟩
  case round =>
    obtain ⟨k, hk, rfl, HB⟩ := hrel
    by_cases hlt : k < n
    · obtain ⟨x, hget⟩ : ∃ x, l[k]? = some x := ⟨l[k]'(by have := HN.out; omega), List.getElem?_eq_getElem _⟩
      obtain ⟨ga, oa, rfl, hga⟩ := H1.out.shapeA (by have := HN.out; omega)
      obtain ⟨gb, ob, rfl, hgb⟩ := H2.out.shapeA (by have := HN.out; omega)
      obtain ⟨a0, a1, a2, a3⟩ := pc_at H1.out hget HB.out
      obtain ⟨b0, b1, b2, b3⟩ := pc_at H2.out hget HB.out
      have hki : (k : Int) < (n : Int) := by omega
      have dlt : decide ((k : Int) < (n : Int)) = true := by simp; omega
      have hki0 : (0 : Int) ≤ (k : Int) := by omega
      obtain ⟨x1, x2, x3, x4⟩ := x
      dsimp only at a0 a1 a2 a3 b0 b1 b2 b3
      generalize str x2 = D at *
      clear hget
      go_wp2_with fail
      go_quiet (fail)
      have HB2 := Lib.hid (below_drewN15 HB.out nq)
      clear HB a0 b0 a1 b1 a2 b2 a3 b3
      generalize wr.drewN nq = w2 at *
      go_wp2_with fail
      go_roundw
      case rel => exact ⟨k + 1, by omega, by go_num, HB2⟩
      case measure => simp [intOf]; omega
    · obtain rfl : k = n := by omega
      have hd : decide ((k : Int) < (k : Int)) = false := by simp
      go_wp2_with fail
      go_ret
      exact ⟨rfl, HB.out⟩
end Go.Proofs.Ytafpmlikocchpaa

/- Contract of the reference of layer 15: Cut. -/
namespace Go.Proofs.Ytafpmlikocchpaa
open Go.ChangeShapes Go.WideShapes Go.ChangeAt Go.RowKit
set_option linter.unusedVariables false
set_option maxRecDepth 100000

theorem extract_str15 (s : ByteArray) (L : List UInt8) (h : s = str L) (a b : Nat) : s.extract a b = str ((L.drop a).take (b - a)) := by
  subst h
  have : str ((str L).extract a b).data.toList = (str L).extract a b := str_of _
  rw [← this]
  congr 1
  have e := str_toList L
  simp only [ByteArray.data_extract, Array.toList_extract, List.extract_eq_take_drop, e]
theorem own_setn15 {w : World} {base g : Nat} {e : TypeId} {size : Nat} {v : Value} {n : Nat} {xs : List Value} (h : w.ownsRow base e size v n xs) (hg : ∀ j, v.ownBlock = some j → j ≠ g) (i : Nat) (u : Value) : (w.setCell ⟨g, i, none⟩ u).ownsRow base e size v n xs :=
  own_only h (only_set w g i u) (fun c hc q => hg c hc (Option.some.inj q))
/-- Pieces whose ends do not leave the integers. -/
def fitP (x : PcR) : Prop := -1152921504606846976 ≤ x.at_ ∧ x.at_ ≤ 1152921504606846976 ∧ x.dat.length ≤ 1152921504606846976
theorem okP_fit {x : PcR} (h : okP x) : fitP x := by
  obtain ⟨h1, h2, h3, h4, h5⟩ := h
  exact ⟨by omega, by omega, by omega⟩
theorem vldF_mem : ∀ {l : List PcR} {e : Int}, vldF e l → ∀ x ∈ l, okP x
  | y :: r, e, ⟨h1, h2, h3⟩, x, hx => by
    rcases List.mem_cons.1 hx with rfl | hx
    · exact h1
    · exact vldF_mem h3 x hx
theorem cutL_next {l : List PcR} {k : Nat} {x : PcR} (a : Int) (hx : l[k]? = some x) : cutL (l.take (k + 1)) a = cutL (l.take k) a ++ (match cutP a x with | none => [] | some y => [y]) := by
  obtain ⟨hk, e⟩ := List.getElem?_eq_some_iff.1 hx
  unfold cutL
  rw [List.take_succ_eq_append_getElem hk, e, List.filterMap_append]
  congr 1
  rw [List.filterMap_cons]
  cases cutP a x <;> rfl
/-- What a function that returns a list of pieces leaves. -/
def PcsP (w : World) (R : List PcR) (e : Ending) (w' : World) : Prop :=
  ∃ A c, e = .returned (.slice A R.length c) ∧ RowL EPc w' A R ∧ (A = none → c = 0) ∧ (∀ a, A = some a → w.heap.size ≤ a.block) ∧ Below w.heap.size w w'
set_option maxHeartbeats 8000000 in
set_option maxRecDepth 100000 in
theorem rcut15_any (l : List PcR) (A : Option Addr) (c : Nat) (a : Int) (w : World) (h : RowL EPc w A l) (hl : l.length ≤ 100000) (hf : ∀ x ∈ l, fitP x) :
    Calls Try.prog 22 #[.slice A l.length c, .int .i64 a] w (PcsP w (cutL l a)) := by
  obtain ⟨n, hnl⟩ : ∃ n, n = l.length := ⟨_, rfl⟩
  rw [← hnl] at hl ⊢
  have HN := Lib.hid hnl
  have HS := Lib.hid h
  have HF := Lib.hid hf
  have HO0 := Lib.hid (OwnE.nil (E := EPc) (e := 23) w w.heap.size)
  clear hnl h hf
  go_enter Try.func22, Try.ntmps22
  go_wp2_with fail
  go_loopw [5, 6] (fun s i wr => ∃ (k m c2 : Nat) (A2 : Option Addr), s = .slice A2 m c2 ∧ i = .int .i64 (k : Int) ∧ k ≤ n ∧ m ≤ k ∧ Hid (OwnE EPc 23 wr w.heap.size A2 m c2 (cutL (l.take k) a)) ∧ Hid (Below w.heap.size w wr)) (fun _ i _ => n - (intOf i).toNat)
  case atStart => exact ⟨0, 0, 0, none, rfl, rfl, Nat.zero_le _, Nat.zero_le _, HO0, Lib.hid (Below.refl _ _)⟩
  case round =>
    clear HO0
    obtain ⟨k, m, c2, A2, rfl, rfl, hk, hmk, HO, HB⟩ := hrel
    by_cases hlt : k < n
    · obtain ⟨x, hget⟩ : ∃ x, l[k]? = some x := ⟨l[k]'(by have := HN.out; omega), List.getElem?_eq_getElem _⟩
      obtain ⟨ga, oa, rfl, hga⟩ := HS.out.shapeA (by have := HN.out; omega)
      obtain ⟨a0, a1, a2, a3⟩ := pc_at HS.out hget HB.out
      have hki : (k : Int) < (n : Int) := by omega
      have dlt : decide ((k : Int) < (n : Int)) = true := by simp; omega
      have hki0 : (0 : Int) ≤ (k : Int) := by omega
      have hnx := cutL_next a hget
      obtain ⟨f1, f2, f3⟩ := HF.out x (List.mem_of_getElem? hget)
      obtain ⟨p, dat, fr, to_⟩ := x
      dsimp only at a0 a1 a2 a3 f1 f2 f3
      obtain ⟨D, hD⟩ : ∃ D, D = str dat := ⟨_, rfl⟩
      have hDs : D.size = dat.length := by rw [hD, str_size]
      rw [← hD] at a1
      have hsz : w.heap.size ≤ wr.heap.size := HB.out.size
      obtain ⟨z, hz⟩ : ∃ z, z = p + (D.size : Int) := ⟨_, rfl⟩
      have kz : p + (D.size : Int) = z := hz.symm
      have wz : IntKind.i64.wrap z = z := by rw [IntKind.wrap_i64]; omega
      have HZ := Lib.hid (show z = p + (dat.length : Int) by rw [hz, hDs])
      by_cases q1 : z ≤ a
      · have d1 : decide (z ≤ a) = true := by simpa using q1
        have HO1 := Lib.hid (show OwnE EPc 23 (wr.alloc (.cells #[.int .i64 p, .string D, .int .i64 fr, .int .i64 to_] 23)) w.heap.size A2 m c2 (cutL (l.take (k + 1)) a) by
          rw [hnx, show cutP a ⟨p, dat, fr, to_⟩ = none by unfold cutP; rw [if_pos (by rw [← HZ.out]; exact q1)]]
          show OwnE EPc _ _ _ _ _ _ (cutL (l.take k) a ++ [])
          rw [List.append_nil]
          exact HO.out.al _)
        have HB1 := Lib.hid (HB.out.alloc hsz (.cells #[.int .i64 p, .string D, .int .i64 fr, .int .i64 to_] 23))
        clear hnx hget HO HB hD hDs f3 hz
        go_wp2_with fail
        go_roundw
        case rel => exact ⟨k + 1, m, c2, A2, rfl, by go_num, by omega, by omega, HO1, HB1⟩
        case measure => simp [intOf]; omega
      · have d1 : decide (z ≤ a) = false := by simpa using q1
        have n1 : ¬ z ≤ a := q1
        obtain ⟨W1, hW1⟩ : ∃ W, W = wr.alloc (.cells #[.int .i64 p, .string D, .int .i64 fr, .int .i64 to_] 23) := ⟨_, rfl⟩
        obtain ⟨gx, hgx⟩ : ∃ g, g = wr.heap.size := ⟨_, rfl⟩
        have HX1 := Lib.hid (show Cells W1 gx 23 #[.int .i64 p, .string D, .int .i64 fr, .int .i64 to_] by rw [hW1, hgx]; exact heap_alloc_new wr _)
        have HO1 := Lib.hid (show OwnE EPc 23 W1 w.heap.size A2 m c2 (cutL (l.take k) a) by rw [hW1]; exact HO.out.al _)
        have HB1 := Lib.hid (show Below w.heap.size w W1 by rw [hW1]; exact HB.out.alloc hsz _)
        have HNE := Lib.hid (show ∀ j, (Value.slice A2 m c2).ownBlock = some j → j < gx by rw [hgx]; exact fun j hj => (HO.out.2.lt j hj).2)
        have hgw : w.heap.size ≤ gx := by omega
        have HW1 := Lib.hid hW1
        have HGX := Lib.hid hgx
        clear HO HB hsz hW1 hgx
        by_cases q2 : p < a
        · have d2 : decide (p < a) = true := by simpa using q2
          obtain ⟨t, ht⟩ : ∃ t : Nat, t = (a - p).toNat := ⟨_, rfl⟩
          have kt : a - p = (t : Int) := by omega
          have wt : IntKind.i64.wrap (t : Int) = (t : Int) := by rw [IntKind.wrap_i64]; omega
          have hts : t ≤ D.size := by omega
          have hti : (t : Int) ≤ (D.size : Int) := by omega
          have ht0 : (0 : Int) ≤ (t : Int) := by omega
          obtain ⟨E, hE⟩ : ∃ E, E = D.extract t D.size := ⟨_, rfl⟩
          have hEs : E = str (dat.drop t) := by rw [hE, extract_str15 D dat hD, List.take_of_length_le (by rw [List.length_drop, hDs]; exact Nat.le_refl _)]
          have HEE := Lib.hid hE
          have HCP := Lib.hid (show cutL (l.take (k + 1)) a = cutL (l.take k) a ++ [⟨a, dat.drop t, fr, to_⟩] by
            rw [hnx, show cutP a ⟨p, dat, fr, to_⟩ = some ⟨a, dat.drop t, fr, to_⟩ by unfold cutP; rw [if_neg (by rw [← HZ.out]; exact q1), if_pos q2, ht]])
          have HES := Lib.hid hEs
          have x0 := (Cells.cell HX1.out 0).trans (show _ = some (Value.int .i64 p) from rfl)
          have x1 := (Cells.cell HX1.out 1).trans (show _ = some (Value.string D) from rfl)
          have z0 := Cells.frozen HX1.out 0
          have z1 := Cells.frozen HX1.out 1
          have hgl := HX1.out.lt
          clear hnx hget hD hDs f3 hz ht hE hEs q1 q2
          go_upto_region 7 with fail
          rw [← HGX.out, ← HW1.out]
          clear HW1 HGX
          go_upto_region 10 with fail
          rw [← HEE.out]
          have HX2 := Lib.hid ((HX1.out.set 1 (.string E)).set 0 (.int .i64 a))
          have HB2 := Lib.hid ((HB1.out.setCell (p := ⟨gx, 1, none⟩) (by simp only; omega) (.string E)).setCell (p := ⟨gx, 0, none⟩) (by simp only; omega) (.int .i64 a))
          have HO2 := Lib.hid (show OwnE EPc 23 ((W1.setCell ⟨gx, 1, none⟩ (.string E)).setCell ⟨gx, 0, none⟩ (.int .i64 a)) w.heap.size A2 m c2 (cutL (l.take k) a) from ⟨HO1.out.1, own_setn15 (own_setn15 HO1.out.2 (fun j hj e => by have := HNE.out j hj; omega) _ _) (fun j hj e => by have := HNE.out j hj; omega) _ _⟩)
          generalize (W1.setCell ⟨gx, 1, none⟩ (.string E)).setCell ⟨gx, 0, none⟩ (.int .i64 a) = W2 at *
          clear HX1 HB1 HO1 HNE x0 x1 z0 z1 hgl
          have x0 := (Cells.cell HX2.out 0).trans (show _ = some (Value.int .i64 a) from rfl)
          have x1 := (Cells.cell HX2.out 1).trans (show _ = some (Value.string E) from rfl)
          have x2 := (Cells.cell HX2.out 2).trans (show _ = some (Value.int .i64 fr) from rfl)
          have x3 := (Cells.cell HX2.out 3).trans (show _ = some (Value.int .i64 to_) from rfl)
          have hszw : w.heap.size ≤ W2.heap.size := HB2.out.size
          go_wp2_with (at_builtin; refine wpList_push (E := EPc) pcTy (by rfl) _ _ (by rfl) w.heap.size _ m (cutL (l.take k) a) [⟨a, dat.drop t, fr, to_⟩] (by rfl) (HO2.out.al _).2 _ 1 1 #[.int .i64 a, .string E, .int .i64 fr, .int .i64 to_] (0, 0) (by rfl) (heap_alloc_new W2 _) (by rw [HES.out]; rfl) rfl (by omega) (by omega) (by decide) ?hb ?_)
          case hb => first | (simp; omega) | omega | exact Nat.le_trans hszw (by simp)
          intro g2 cap2 wz hown hgrow hat hlt2
          have HO9 := Lib.hid (show OwnE EPc 23 wz w.heap.size (some ⟨g2, 0, none⟩) (m + 1) cap2 (cutL (l.take (k + 1)) a) by rw [HCP.out]; exact HO2.out.push rfl hown)
          have HB9 := Lib.hid (HO2.out.below HB2.out hszw (Nat.le_refl _) hgrow)
          clear hown hgrow hat hlt2 HO2 HB2 HX2 hszw x0 x1 x2 x3 HCP HES
          go_wp2_with fail
          go_roundw
          case rel => exact ⟨k + 1, m + 1, cap2, some ⟨g2, 0, none⟩, rfl, by go_num, by omega, by omega, HO9, HB9⟩
          case measure => simp [intOf]; omega
        · have d2 : decide (p < a) = false := by simpa using q2
          have n2 : ¬ p < a := q2
          have HCP := Lib.hid (show cutL (l.take (k + 1)) a = cutL (l.take k) a ++ [⟨p, dat, fr, to_⟩] by
            rw [hnx, show cutP a ⟨p, dat, fr, to_⟩ = some ⟨p, dat, fr, to_⟩ by unfold cutP; rw [if_neg (by rw [← HZ.out]; exact q1), if_neg q2]])
          have HES := Lib.hid hD
          have x0 := (Cells.cell HX1.out 0).trans (show _ = some (Value.int .i64 p) from rfl)
          have x1 := (Cells.cell HX1.out 1).trans (show _ = some (Value.string D) from rfl)
          have x2 := (Cells.cell HX1.out 2).trans (show _ = some (Value.int .i64 fr) from rfl)
          have x3 := (Cells.cell HX1.out 3).trans (show _ = some (Value.int .i64 to_) from rfl)
          clear hnx hget hD hDs f3 hz q1 q2
          go_upto_region 7 with fail
          rw [← HGX.out, ← HW1.out]
          clear HW1 HGX
          have HX2 := HX1
          have HB2 := HB1
          have HO2 := HO1
          clear HX1 HB1 HO1 HNE
          generalize W1 = W2 at *
          have hszw : w.heap.size ≤ W2.heap.size := HB2.out.size
          go_wp2_with (at_builtin; refine wpList_push (E := EPc) pcTy (by rfl) _ _ (by rfl) w.heap.size _ m (cutL (l.take k) a) [⟨p, dat, fr, to_⟩] (by rfl) (HO2.out.al _).2 _ 1 1 #[.int .i64 p, .string D, .int .i64 fr, .int .i64 to_] (0, 0) (by rfl) (heap_alloc_new W2 _) (by rw [HES.out]; rfl) rfl (by omega) (by omega) (by decide) ?hb ?_)
          case hb => first | (simp; omega) | omega | exact Nat.le_trans hszw (by simp)
          intro g2 cap2 wz hown hgrow hat hlt2
          have HO9 := Lib.hid (show OwnE EPc 23 wz w.heap.size (some ⟨g2, 0, none⟩) (m + 1) cap2 (cutL (l.take (k + 1)) a) by rw [HCP.out]; exact HO2.out.push rfl hown)
          have HB9 := Lib.hid (HO2.out.below HB2.out hszw (Nat.le_refl _) hgrow)
          clear hown hgrow hat hlt2 HO2 HB2 HX2 hszw x0 x1 x2 x3 HCP HES
          go_wp2_with fail
          go_roundw
          case rel => exact ⟨k + 1, m + 1, cap2, some ⟨g2, 0, none⟩, rfl, by go_num, by omega, by omega, HO9, HB9⟩
          case measure => simp [intOf]; omega
    · obtain rfl : k = n := by omega
      have hd : decide ((k : Int) < (k : Int)) = false := by simp
      have HE := Lib.hid (show OwnE EPc 23 wr w.heap.size A2 m c2 (cutL l a) by have := HO.out; rwa [HN.out, List.take_length] at this)
      go_wp2_with fail
      go_ret
      exact ⟨A2, c2, by rw [HE.out.1]; rfl, HE.out.row, HE.out.none0, fun q hq => by subst hq; exact (HE.out.2.lt q.block (by rfl)).1, HB.out⟩
end Go.Proofs.Ytafpmlikocchpaa

/- A struct stored over another as ONE row (wpList_store_row): what becomes of memory. For a struct of many cells, where cell by cell runs away. -/
namespace Go.Proofs.Ytafpmlikocchpaa
open Go.ChangeShapes Go.WideShapes Go.ChangeAt Go.RowKit
set_option linter.unusedVariables false

theorem below_row {B : Nat} {a w : World} (h : Below B a w) (g : Nat) (hg : B ≤ g) (cs : Array Value) : Below B a (w.setRow g cs) :=
  ⟨h.os, h.tape, h.output, by rw [setRow_size]; exact h.size, fun k hk => by rw [setRow_other _ _ _ _ (by omega)]; exact h.block k hk⟩
theorem Cells.row {w : World} {g : Nat} {t : TypeId} {cs : Array Value} (h : Cells w g t cs) (cs' : Array Value) : Cells (w.setRow g cs') g t cs' := setRow_heap w g cs cs' t (0, 0) h
theorem Cells.rowFar {w : World} {g b : Nat} {t : TypeId} {cs : Array Value} (h : Cells w g t cs) (hne : g ≠ b) (cs' : Array Value) : Cells (w.setRow b cs') g t cs := (setRow_other w b g cs' hne).trans h
theorem RowL.blocks {α : Type} {E : Enc α} {w w' : World} {A : Option Addr} {l : List α} (h : RowL E w A l) (hb : ∀ a, A = some a → w'.heap[a.block]? = w.heap[a.block]?) : RowL E w' A l := fun hp => by
  obtain ⟨g, o, e, h1, h2⟩ := h hp
  subst e
  have hbl := hb ⟨g, o, none⟩ rfl
  refine ⟨g, o, rfl, ?_, fun i x hx j v hj => by rw [World.cell?_of_block (w := w) (w' := w') (a := ⟨g, o + i * E.k + j, none⟩) hbl]; exact h2 i x hx j v hj⟩
  exact Decidable.byContradiction fun hn => by
    have e1 : w'.heap[g]? = none := Array.getElem?_eq_none (by omega)
    rw [e1] at hbl
    have e2 : w.heap[g]? = some w.heap[g] := Array.getElem?_eq_getElem h1
    rw [e2] at hbl
    cases hbl
theorem own_row {w : World} {base g : Nat} {e : TypeId} {size : Nat} {v : Value} {n : Nat} {xs : List Value} (h : w.ownsRow base e size v n xs) (hg : g < base) (cs : Array Value) : (w.setRow g cs).ownsRow base e size v n xs :=
  own_blocks h (fun b hb _ => setRow_other w g b cs (by omega))
end Go.Proofs.Ytafpmlikocchpaa
