/- Contracts of the functions, part 18: OvVal. -/
import Derived.Test.YtafpmlikocchpaaPA12
/- Contracts of the reference of layer 15: Few, Valid. -/
namespace Go.Proofs.Ytafpmlikocchpaa
open Go.ChangeShapes Go.WideShapes Go.ChangeAt Go.RowKit
set_option linter.unusedVariables false
set_option maxRecDepth 100000

/-- What Few says. -/
def fewB (l : List PcR) (many most : Nat) : Bool := (l.take (many + 1)).all (fun x => decide (x.dat.length ≤ most)) && decide (l.length ≤ many ∧ sizeL (l.take (many + 1)) ≤ most)
theorem fewB_true {l : List PcR} {many most : Nat} (h : fewB l many most = true) : l.length ≤ many ∧ sizeL l ≤ most := by
  unfold fewB at h
  rw [Bool.and_eq_true, decide_eq_true_iff] at h
  obtain ⟨-, h1, h2⟩ := h
  rw [List.take_of_length_le (by omega)] at h2
  exact ⟨h1, h2⟩
set_option maxHeartbeats 8000000 in
set_option maxRecDepth 100000 in
theorem rfew15_any (l : List PcR) (A : Option Addr) (c many most : Nat) (M1 M2 : Int) (h1 : (many : Int) = M1) (h2 : (most : Int) = M2) (w : World) (h : RowL EPc w A l) (hl : l.length ≤ maxLen) (hm : many ≤ 1000) (hs : most ≤ 1000) :
    Calls Try.prog 13 #[.slice A l.length c, .int .i64 M1, .int .i64 M2] w fun e w' => e = .returned (.bool (fewB l many most)) ∧ w = w' := by
  subst h1 h2
  unfold maxLen at hl
  obtain ⟨n, hnl⟩ : ∃ n, n = l.length := ⟨_, rfl⟩
  obtain ⟨Q, hQ⟩ : ∃ Q, Q = fewB l many most := ⟨_, rfl⟩
  rw [← hnl] at hl ⊢
  rw [← hQ]
  unfold fewB at hQ
  have HN := Lib.hid hnl
  have HQ := Lib.hid hQ
  have HS := Lib.hid h
  clear hnl h hQ
  go_enter Try.func13, Try.ntmps13
  go_wp2_with fail
  go_loop [7, 8] (fun s i => ∃ k m : Nat, s = .int .i64 (m : Int) ∧ i = .int .i64 (k : Int) ∧ k ≤ n ∧ k ≤ many + 1 ∧ m ≤ k * 1000 ∧ Hid (m = sizeL (l.take k)) ∧ Hid ((l.take k).all (fun x => decide (x.dat.length ≤ most)) = true)) (fun _ i => n - (intOf i).toNat)
  case atStart => exact ⟨0, 0, rfl, rfl, Nat.zero_le _, Nat.zero_le _, Nat.zero_le _, Lib.hid rfl, Lib.hid rfl⟩
  case round =>
    obtain ⟨k, m, rfl, rfl, hk, hkm, hmk, HM, HA⟩ := hrel
    have hk0 : (0 : Int) ≤ (k : Int) := by omega
    by_cases hlt : k < n
    · have hki : (k : Int) < (n : Int) := by omega
      have dlt : decide ((k : Int) < (n : Int)) = true := by simp; omega
      by_cases hle : k ≤ many
      · have hlei : (k : Int) ≤ (many : Int) := by omega
        have dle : decide ((k : Int) ≤ (many : Int)) = true := by simp; omega
        obtain ⟨x, hget⟩ : ∃ x, l[k]? = some x := ⟨l[k]'(by have := HN.out; omega), List.getElem?_eq_getElem _⟩
        obtain ⟨ga, oa, rfl, hga⟩ := HS.out.shapeA (by have := HN.out; omega)
        obtain ⟨a0, a1, a2, a3⟩ := pc_at HS.out hget (Below.refl _ _)
        have hnx := sizeL_next hget
        obtain ⟨hk', he⟩ := List.getElem?_eq_some_iff.1 hget
        have hall : (l.take (k + 1)).all (fun x => decide (x.dat.length ≤ most)) = decide (x.dat.length ≤ most) := by
          rw [List.take_succ_eq_append_getElem hk', he, List.all_append, HA.out]
          simp
        obtain ⟨D, hD⟩ : ∃ D, D = str x.dat := ⟨_, rfl⟩
        have hDs : D.size = x.dat.length := by rw [hD, str_size]
        rw [← hDs] at hnx hall
        rw [← hD] at a1
        have HALL := Lib.hid hall
        rw [← HM.out] at hnx
        by_cases hg : most < D.size
        · have dg : decide ((most : Int) < (D.size : Int)) = true := by simp; omega
          have ng : (most : Int) < (D.size : Int) := by omega
          have HF := Lib.hid (show Q = false by
            rw [HQ.out]
            have h1 : (l.take (many + 1)).all (fun x => decide (x.dat.length ≤ most)) = false := by
              rw [List.all_eq_false]
              refine ⟨x, ?_, by rw [← hDs]; simp; omega⟩
              rw [List.mem_take_iff_getElem]
              exact ⟨k, by omega, he⟩
            rw [h1, Bool.false_and])
          clear hget hnx hall hD hDs hk' he hg
          go_wp2_with fail
          go_ret
          exact ⟨by rw [HF.out]; rfl, rfl⟩
        · have dg : decide ((most : Int) < (D.size : Int)) = false := by simp; omega
          have ng : ¬ (most : Int) < (D.size : Int) := by omega
          obtain ⟨m2, hm2⟩ : ∃ m2, m2 = m + D.size := ⟨_, rfl⟩
          have km : (m : Int) + (D.size : Int) = (m2 : Int) := by omega
          have hmq : m2 ≤ (k + 1) * 1000 := by omega
          have HM2 := Lib.hid (show m2 = sizeL (l.take (k + 1)) by rw [hnx, hm2])
          have HA2 := Lib.hid (show (l.take (k + 1)).all (fun x => decide (x.dat.length ≤ most)) = true by rw [HALL.out]; simp; omega)
          clear hget hnx hall hD hDs hk' he hg hm2 HM HA HALL
          go_wp2_with fail
          go_round
          case rel => exact ⟨k + 1, m2, rfl, by go_num, by omega, by omega, hmq, HM2, HA2⟩
          case measure => simp [intOf]; omega
      · obtain rfl : k = many + 1 := by omega
        have dle : decide (((many + 1 : Nat) : Int) ≤ (many : Int)) = false := by rw [decide_eq_false_iff_not]; omega
        have HE := Lib.hid (show Q = false by
          rw [HQ.out]
          have : ¬ (l.length ≤ many ∧ sizeL (l.take (many + 1)) ≤ most) := fun h => by have := HN.out; omega
          rw [decide_eq_false this, Bool.and_false])
        have dn : decide ((n : Int) ≤ (many : Int)) = false := by simp; omega
        have nn : ¬ (n : Int) ≤ (many : Int) := by omega
        obtain ⟨k, hkk⟩ : ∃ k, k = many + 1 := ⟨_, rfl⟩
        rw [← hkk] at hki dlt dle hk0 hk hkm hmk hlt ⊢
        have nle : ¬ (k : Int) ≤ (many : Int) := by omega
        clear hkk hle
        go_wp2_with fail
        go_ret
        exact ⟨by rw [HE.out]; rfl, rfl⟩
    · obtain rfl : k = n := by omega
      have hd : decide ((k : Int) < (k : Int)) = false := by simp
      by_cases hle : k ≤ many
      · have dn : decide ((k : Int) ≤ (many : Int)) = true := by simp; omega
        have nn : (k : Int) ≤ (many : Int) := by omega
        have hsz : sizeL (l.take (many + 1)) = m := by rw [HM.out, List.take_of_length_le (show l.length ≤ many + 1 by have := HN.out; omega), List.take_of_length_le (show l.length ≤ k by have := HN.out; omega)]
        have hal : (l.take (many + 1)).all (fun x => decide (x.dat.length ≤ most)) = true := by
          have := HA.out
          rw [List.take_of_length_le (show l.length ≤ k by have := HN.out; omega)] at this
          rw [List.take_of_length_le (show l.length ≤ many + 1 by have := HN.out; omega)]
          exact this
        by_cases hms : m ≤ most
        · have dm : decide ((m : Int) ≤ (most : Int)) = true := by simp; omega
          have dmN : decide (m ≤ most) = true := by simp; omega
          have nmN : m ≤ most := hms
          have HE := Lib.hid (show Q = true by rw [HQ.out, hal, hsz, decide_eq_true ⟨by rw [← HN.out]; exact hle, hms⟩]; rfl)
          clear hsz hal hms hle
          go_wp2_with fail
          go_ret
          exact ⟨by rw [HE.out]; rfl, rfl⟩
        · have dm : decide ((m : Int) ≤ (most : Int)) = false := by simp; omega
          have dmN : decide (m ≤ most) = false := by simp; omega
          have nmN : ¬ m ≤ most := hms
          have nmI : ¬ (m : Int) ≤ (most : Int) := by omega
          have gmN : most < m := by omega
          have HE := Lib.hid (show Q = false by rw [HQ.out, hsz, decide_eq_false (fun h => hms h.2), Bool.and_false])
          clear hsz hal hms hle
          go_wp2_with fail
          go_ret
          exact ⟨by rw [HE.out]; rfl, rfl⟩
      · have dn : decide ((k : Int) ≤ (many : Int)) = false := by simp; omega
        have nn : ¬ (k : Int) ≤ (many : Int) := by omega
        have HE := Lib.hid (show Q = false by
          rw [HQ.out]
          have : ¬ (l.length ≤ many ∧ sizeL (l.take (many + 1)) ≤ most) := fun h => by have := HN.out; omega
          rw [decide_eq_false this, Bool.and_false])
        clear hle
        go_wp2_with fail
        go_ret
        exact ⟨by rw [HE.out]; rfl, rfl⟩
theorem str_isEmpty15v (l : List UInt8) : (str l).toList.isEmpty = l.isEmpty := by
  rw [(ByteArray.toList_eq _).trans (str_toList l)]
/-- Where the piece ahead of place k ends. -/
def endE (l : List PcR) (k : Nat) : Int := match k with
  | 0 => 0
  | j + 1 => match l[j]? with | some y => y.at_ + y.dat.length | none => 0
theorem vld_step {l : List PcR} {k : Nat} {x : PcR} (h : vldL l ↔ vldF (endE l k) (l.drop k)) (hx : l[k]? = some x) : vldL l ↔ (okP x ∧ endE l k ≤ x.at_ ∧ vldF (endE l (k + 1)) (l.drop (k + 1))) := by
  obtain ⟨hk', e⟩ := List.getElem?_eq_some_iff.1 hx
  rw [h, List.drop_eq_getElem_cons hk', e]
  have : endE l (k + 1) = x.at_ + x.dat.length := by show (match l[k]? with | some y => y.at_ + (y.dat.length : Int) | none => 0) = _; rw [hx]
  rw [this]
  exact Iff.rfl
set_option maxHeartbeats 8000000 in
set_option maxRecDepth 100000 in
theorem rvalid15_any (l : List PcR) (A : Option Addr) (c : Nat) (w : World) (h : RowL EPc w A l) (hl : l.length ≤ 100000) :
    Calls Try.prog 14 #[.slice A l.length c] w fun e w' => e = .returned (.bool (decide (vldL l))) ∧ Below w.heap.size w w' := by
  obtain ⟨n, hnl⟩ : ∃ n, n = l.length := ⟨_, rfl⟩
  obtain ⟨Q, hQ⟩ : ∃ Q, Q = decide (vldL l) := ⟨_, rfl⟩
  rw [← hnl] at hl ⊢
  rw [← hQ]
  have HN := Lib.hid hnl
  have HQT := Lib.hid (fun (h : vldL l) => show Q = true from hQ.trans (decide_eq_true h))
  have HQF := Lib.hid (fun (h : ¬ vldL l) => show Q = false from hQ.trans (decide_eq_false h))
  have HS := Lib.hid h
  clear hnl h hQ
  go_enter Try.func14, Try.ntmps14
  go_wp2_with fail
  go_loopw [3] (fun i wr => ∃ k : Nat, i = .int .i64 (k : Int) ∧ k ≤ n ∧ Hid (vldL l ↔ vldF (endE l k) (l.drop k)) ∧ Hid (∀ y ∈ l.take k, okP y) ∧ Hid (Below w.heap.size w wr)) (fun i _ => n - (intOf i).toNat)
  case atStart => exact ⟨0, rfl, Nat.zero_le _, Lib.hid Iff.rfl, Lib.hid (fun y hy => by simp at hy), Lib.hid (Below.refl _ _)⟩
  case round =>
    obtain ⟨k, rfl, hk, HI, HO, HB⟩ := hrel
    have hk0 : (0 : Int) ≤ (k : Int) := by omega
    have hsz : w.heap.size ≤ wr.heap.size := HB.out.size
    by_cases hlt : k < n
    · have hki : (k : Int) < (n : Int) := by omega
      have dlt : decide ((k : Int) < (n : Int)) = true := by simp; omega
      obtain ⟨x, hget⟩ : ∃ x, l[k]? = some x := ⟨l[k]'(by have := HN.out; omega), List.getElem?_eq_getElem _⟩
      obtain ⟨ga, oa, rfl, hga⟩ := HS.out.shapeA (by have := HN.out; omega)
      obtain ⟨a0, a1, a2, a3⟩ := pc_at HS.out hget HB.out
      have hvs := vld_step HI.out hget
      have htk : l.take (k + 1) = l.take k ++ [x] := by
        obtain ⟨hk', e⟩ := List.getElem?_eq_some_iff.1 hget
        rw [List.take_succ_eq_append_getElem hk', e]
      obtain ⟨xa, dat, xf, xt⟩ := x
      dsimp only at a0 a1 a2 a3
      obtain ⟨D, hD⟩ : ∃ D, D = str dat := ⟨_, rfl⟩
      have hDs : D.size = dat.length := by rw [hD, str_size]
      rw [← hD] at a1
      have hDe : D.toList.isEmpty = dat.isEmpty := by rw [hD, str_isEmpty15v]
      have hb0 : D.toList.isEmpty = true ↔ dat = [] := by rw [hDe, List.isEmpty_iff]
      have hs0 : dat = [] ↔ D.size = 0 := by rw [hDs, List.length_eq_zero_iff]
      obtain ⟨t7, ht7⟩ : ∃ t, t = xt - xa := ⟨_, rfl⟩
      have hokp : okP ⟨xa, dat, xf, xt⟩ ↔ (¬ D.toList.isEmpty = true ∧ ¬ xf < 0 ∧ ¬ xt < 0 ∧ ¬ 4294967296 < xt ∧ ¬ xa < xf ∧ ¬ xt < xa ∧ ¬ t7 < (D.size : Int)) := by
        unfold okP
        dsimp only
        rw [hb0, hs0, ← hDs, show (dat ≠ []) ↔ ¬ D.size = 0 from not_congr hs0]
        omega
      have HVS := Lib.hid hvs
      have HOK := Lib.hid hokp
      have HTK := Lib.hid htk
      have HT7 := Lib.hid ht7
      have hcs : (D.toList.isEmpty = true) ∨ (D.toList.isEmpty = false ∧ decide (xf < (0 : Int)) = true) ∨ (D.toList.isEmpty = false ∧ decide (xf < (0 : Int)) = false ∧ decide (xt < (0 : Int)) = true) ∨ (D.toList.isEmpty = false ∧ decide (xf < (0 : Int)) = false ∧ decide (xt < (0 : Int)) = false ∧ decide ((4294967296 : Int) < xt) = true) ∨ (D.toList.isEmpty = false ∧ decide (xf < (0 : Int)) = false ∧ decide (xt < (0 : Int)) = false ∧ decide ((4294967296 : Int) < xt) = false ∧ decide (xa < xf) = true) ∨ (D.toList.isEmpty = false ∧ decide (xf < (0 : Int)) = false ∧ decide (xt < (0 : Int)) = false ∧ decide ((4294967296 : Int) < xt) = false ∧ decide (xa < xf) = false ∧ decide (xt < xa) = true) ∨ (D.toList.isEmpty = false ∧ decide (xf < (0 : Int)) = false ∧ decide (xt < (0 : Int)) = false ∧ decide ((4294967296 : Int) < xt) = false ∧ decide (xa < xf) = false ∧ decide (xt < xa) = false ∧ decide (t7 < (D.size : Int)) = true) ∨ (D.toList.isEmpty = false ∧ decide (xf < (0 : Int)) = false ∧ decide (xt < (0 : Int)) = false ∧ decide ((4294967296 : Int) < xt) = false ∧ decide (xa < xf) = false ∧ decide (xt < xa) = false ∧ decide (t7 < (D.size : Int)) = false) := by
        cases D.toList.isEmpty <;> cases decide (xf < (0 : Int)) <;> cases decide (xt < (0 : Int)) <;> cases decide ((4294967296 : Int) < xt) <;> cases decide (xa < xf) <;> cases decide (xt < xa) <;> cases decide (t7 < (D.size : Int)) <;> simp
      have kt7 : xt - xa = t7 := ht7.symm
      clear hget hvs htk hD hDs hDe hb0 hs0 hokp ht7
      rcases hcs with e0 | ⟨e0, e1⟩ | ⟨e0, e1, e2⟩ | ⟨e0, e1, e2, e3⟩ | ⟨e0, e1, e2, e3, e4⟩ | ⟨e0, e1, e2, e3, e4, e5⟩ | ⟨e0, e1, e2, e3, e4, e5, e6⟩ | ⟨e0, e1, e2, e3, e4, e5, e6⟩
      · have HF := Lib.hid (HQF.out (fun h => by
          have h2 := HOK.out.1 (HVS.out.1 h).1
          exact h2.1 e0))
        have HB9 := Lib.hid (HB.out.alloc hsz (.cells #[.int .i64 xa, .string D, .int .i64 xf, .int .i64 xt] 23))
        clear HVS HOK HTK HI HO
        go_wp2_with fail
        go_upto_region 5 with fail
        refine wp_region_pick (fun w' => Below (wr.alloc (.cells #[.int .i64 xa, .string D, .int .i64 xf, .int .i64 xt] 23)).heap.size (wr.alloc (.cells #[.int .i64 xa, .string D, .int .i64 xf, .int .i64 xt] 23)) w') (by kernel_rfl) (by kernel_rfl) (Below.refl _ _) ⟨rfl, rfl, rfl, Nat.le_refl _, fun _ _ => rfl⟩ (fun pw hp hq => ?_)
        have z0 : ∀ u, (pw u).cell? ⟨wr.heap.size, 0, none⟩ = some (.int .i64 xa) := fun u => (Cells.cell (Cells.kept (show Cells (wr.alloc (.cells #[.int .i64 xa, .string D, .int .i64 xf, .int .i64 xt] 23)) wr.heap.size 23 #[.int .i64 xa, .string D, .int .i64 xf, .int .i64 xt] from heap_alloc_new wr _) (hp u) (by simp)) 0).trans rfl
        have z1 : ∀ u, (pw u).cell? ⟨wr.heap.size, 1, none⟩ = some (.string D) := fun u => (Cells.cell (Cells.kept (show Cells (wr.alloc (.cells #[.int .i64 xa, .string D, .int .i64 xf, .int .i64 xt] 23)) wr.heap.size 23 #[.int .i64 xa, .string D, .int .i64 xf, .int .i64 xt] from heap_alloc_new wr _) (hp u) (by simp)) 1).trans rfl
        have z2 : ∀ u, (pw u).cell? ⟨wr.heap.size, 2, none⟩ = some (.int .i64 xf) := fun u => (Cells.cell (Cells.kept (show Cells (wr.alloc (.cells #[.int .i64 xa, .string D, .int .i64 xf, .int .i64 xt] 23)) wr.heap.size 23 #[.int .i64 xa, .string D, .int .i64 xf, .int .i64 xt] from heap_alloc_new wr _) (hp u) (by simp)) 2).trans rfl
        have z3 : ∀ u, (pw u).cell? ⟨wr.heap.size, 3, none⟩ = some (.int .i64 xt) := fun u => (Cells.cell (Cells.kept (show Cells (wr.alloc (.cells #[.int .i64 xa, .string D, .int .i64 xf, .int .i64 xt] 23)) wr.heap.size 23 #[.int .i64 xa, .string D, .int .i64 xf, .int .i64 xt] from heap_alloc_new wr _) (hp u) (by simp)) 3).trans rfl
        try dsimp only [List.append]
        repeat (go_big_quiet_step (fail))
        refine wpQuiet_nil ?_
        rintro _ ⟨u, rfl⟩
        have hB := HB9.out.trans ((hp u).mono HB9.out.size)
        generalize pw u = wr2 at *
        clear hp hq HB9 z0 z1 z2 z3
        have HB9 := Lib.hid hB
        clear hB
        go_wp2_with fail
        go_ret
        exact ⟨by rw [HF.out]; rfl, HB9.out⟩
      · have HF := Lib.hid (HQF.out (fun h => by
          have h2 := HOK.out.1 (HVS.out.1 h).1
          exact h2.2.1 (of_decide_eq_true e1)))
        have HB9 := Lib.hid (HB.out.alloc hsz (.cells #[.int .i64 xa, .string D, .int .i64 xf, .int .i64 xt] 23))
        clear HVS HOK HTK HI HO
        go_wp2_with fail
        go_upto_region 5 with fail
        refine wp_region_pick (fun w' => Below (wr.alloc (.cells #[.int .i64 xa, .string D, .int .i64 xf, .int .i64 xt] 23)).heap.size (wr.alloc (.cells #[.int .i64 xa, .string D, .int .i64 xf, .int .i64 xt] 23)) w') (by kernel_rfl) (by kernel_rfl) (Below.refl _ _) ⟨rfl, rfl, rfl, Nat.le_refl _, fun _ _ => rfl⟩ (fun pw hp hq => ?_)
        have z0 : ∀ u, (pw u).cell? ⟨wr.heap.size, 0, none⟩ = some (.int .i64 xa) := fun u => (Cells.cell (Cells.kept (show Cells (wr.alloc (.cells #[.int .i64 xa, .string D, .int .i64 xf, .int .i64 xt] 23)) wr.heap.size 23 #[.int .i64 xa, .string D, .int .i64 xf, .int .i64 xt] from heap_alloc_new wr _) (hp u) (by simp)) 0).trans rfl
        have z1 : ∀ u, (pw u).cell? ⟨wr.heap.size, 1, none⟩ = some (.string D) := fun u => (Cells.cell (Cells.kept (show Cells (wr.alloc (.cells #[.int .i64 xa, .string D, .int .i64 xf, .int .i64 xt] 23)) wr.heap.size 23 #[.int .i64 xa, .string D, .int .i64 xf, .int .i64 xt] from heap_alloc_new wr _) (hp u) (by simp)) 1).trans rfl
        have z2 : ∀ u, (pw u).cell? ⟨wr.heap.size, 2, none⟩ = some (.int .i64 xf) := fun u => (Cells.cell (Cells.kept (show Cells (wr.alloc (.cells #[.int .i64 xa, .string D, .int .i64 xf, .int .i64 xt] 23)) wr.heap.size 23 #[.int .i64 xa, .string D, .int .i64 xf, .int .i64 xt] from heap_alloc_new wr _) (hp u) (by simp)) 2).trans rfl
        have z3 : ∀ u, (pw u).cell? ⟨wr.heap.size, 3, none⟩ = some (.int .i64 xt) := fun u => (Cells.cell (Cells.kept (show Cells (wr.alloc (.cells #[.int .i64 xa, .string D, .int .i64 xf, .int .i64 xt] 23)) wr.heap.size 23 #[.int .i64 xa, .string D, .int .i64 xf, .int .i64 xt] from heap_alloc_new wr _) (hp u) (by simp)) 3).trans rfl
        try dsimp only [List.append]
        repeat (go_big_quiet_step (fail))
        refine wpQuiet_nil ?_
        rintro _ ⟨u, rfl⟩
        have hB := HB9.out.trans ((hp u).mono HB9.out.size)
        generalize pw u = wr2 at *
        clear hp hq HB9 z0 z1 z2 z3
        have HB9 := Lib.hid hB
        clear hB
        go_wp2_with fail
        go_ret
        exact ⟨by rw [HF.out]; rfl, HB9.out⟩
      · have HF := Lib.hid (HQF.out (fun h => by
          have h2 := HOK.out.1 (HVS.out.1 h).1
          exact h2.2.2.1 (of_decide_eq_true e2)))
        have HB9 := Lib.hid (HB.out.alloc hsz (.cells #[.int .i64 xa, .string D, .int .i64 xf, .int .i64 xt] 23))
        clear HVS HOK HTK HI HO
        go_wp2_with fail
        go_upto_region 5 with fail
        refine wp_region_pick (fun w' => Below (wr.alloc (.cells #[.int .i64 xa, .string D, .int .i64 xf, .int .i64 xt] 23)).heap.size (wr.alloc (.cells #[.int .i64 xa, .string D, .int .i64 xf, .int .i64 xt] 23)) w') (by kernel_rfl) (by kernel_rfl) (Below.refl _ _) ⟨rfl, rfl, rfl, Nat.le_refl _, fun _ _ => rfl⟩ (fun pw hp hq => ?_)
        have z0 : ∀ u, (pw u).cell? ⟨wr.heap.size, 0, none⟩ = some (.int .i64 xa) := fun u => (Cells.cell (Cells.kept (show Cells (wr.alloc (.cells #[.int .i64 xa, .string D, .int .i64 xf, .int .i64 xt] 23)) wr.heap.size 23 #[.int .i64 xa, .string D, .int .i64 xf, .int .i64 xt] from heap_alloc_new wr _) (hp u) (by simp)) 0).trans rfl
        have z1 : ∀ u, (pw u).cell? ⟨wr.heap.size, 1, none⟩ = some (.string D) := fun u => (Cells.cell (Cells.kept (show Cells (wr.alloc (.cells #[.int .i64 xa, .string D, .int .i64 xf, .int .i64 xt] 23)) wr.heap.size 23 #[.int .i64 xa, .string D, .int .i64 xf, .int .i64 xt] from heap_alloc_new wr _) (hp u) (by simp)) 1).trans rfl
        have z2 : ∀ u, (pw u).cell? ⟨wr.heap.size, 2, none⟩ = some (.int .i64 xf) := fun u => (Cells.cell (Cells.kept (show Cells (wr.alloc (.cells #[.int .i64 xa, .string D, .int .i64 xf, .int .i64 xt] 23)) wr.heap.size 23 #[.int .i64 xa, .string D, .int .i64 xf, .int .i64 xt] from heap_alloc_new wr _) (hp u) (by simp)) 2).trans rfl
        have z3 : ∀ u, (pw u).cell? ⟨wr.heap.size, 3, none⟩ = some (.int .i64 xt) := fun u => (Cells.cell (Cells.kept (show Cells (wr.alloc (.cells #[.int .i64 xa, .string D, .int .i64 xf, .int .i64 xt] 23)) wr.heap.size 23 #[.int .i64 xa, .string D, .int .i64 xf, .int .i64 xt] from heap_alloc_new wr _) (hp u) (by simp)) 3).trans rfl
        try dsimp only [List.append]
        repeat (go_big_quiet_step (fail))
        refine wpQuiet_nil ?_
        rintro _ ⟨u, rfl⟩
        have hB := HB9.out.trans ((hp u).mono HB9.out.size)
        generalize pw u = wr2 at *
        clear hp hq HB9 z0 z1 z2 z3
        have HB9 := Lib.hid hB
        clear hB
        go_wp2_with fail
        go_ret
        exact ⟨by rw [HF.out]; rfl, HB9.out⟩
      · have HF := Lib.hid (HQF.out (fun h => by
          have h2 := HOK.out.1 (HVS.out.1 h).1
          exact h2.2.2.2.1 (of_decide_eq_true e3)))
        have HB9 := Lib.hid (HB.out.alloc hsz (.cells #[.int .i64 xa, .string D, .int .i64 xf, .int .i64 xt] 23))
        clear HVS HOK HTK HI HO
        go_wp2_with fail
        go_upto_region 5 with fail
        refine wp_region_pick (fun w' => Below (wr.alloc (.cells #[.int .i64 xa, .string D, .int .i64 xf, .int .i64 xt] 23)).heap.size (wr.alloc (.cells #[.int .i64 xa, .string D, .int .i64 xf, .int .i64 xt] 23)) w') (by kernel_rfl) (by kernel_rfl) (Below.refl _ _) ⟨rfl, rfl, rfl, Nat.le_refl _, fun _ _ => rfl⟩ (fun pw hp hq => ?_)
        have z0 : ∀ u, (pw u).cell? ⟨wr.heap.size, 0, none⟩ = some (.int .i64 xa) := fun u => (Cells.cell (Cells.kept (show Cells (wr.alloc (.cells #[.int .i64 xa, .string D, .int .i64 xf, .int .i64 xt] 23)) wr.heap.size 23 #[.int .i64 xa, .string D, .int .i64 xf, .int .i64 xt] from heap_alloc_new wr _) (hp u) (by simp)) 0).trans rfl
        have z1 : ∀ u, (pw u).cell? ⟨wr.heap.size, 1, none⟩ = some (.string D) := fun u => (Cells.cell (Cells.kept (show Cells (wr.alloc (.cells #[.int .i64 xa, .string D, .int .i64 xf, .int .i64 xt] 23)) wr.heap.size 23 #[.int .i64 xa, .string D, .int .i64 xf, .int .i64 xt] from heap_alloc_new wr _) (hp u) (by simp)) 1).trans rfl
        have z2 : ∀ u, (pw u).cell? ⟨wr.heap.size, 2, none⟩ = some (.int .i64 xf) := fun u => (Cells.cell (Cells.kept (show Cells (wr.alloc (.cells #[.int .i64 xa, .string D, .int .i64 xf, .int .i64 xt] 23)) wr.heap.size 23 #[.int .i64 xa, .string D, .int .i64 xf, .int .i64 xt] from heap_alloc_new wr _) (hp u) (by simp)) 2).trans rfl
        have z3 : ∀ u, (pw u).cell? ⟨wr.heap.size, 3, none⟩ = some (.int .i64 xt) := fun u => (Cells.cell (Cells.kept (show Cells (wr.alloc (.cells #[.int .i64 xa, .string D, .int .i64 xf, .int .i64 xt] 23)) wr.heap.size 23 #[.int .i64 xa, .string D, .int .i64 xf, .int .i64 xt] from heap_alloc_new wr _) (hp u) (by simp)) 3).trans rfl
        try dsimp only [List.append]
        repeat (go_big_quiet_step (fail))
        refine wpQuiet_nil ?_
        rintro _ ⟨u, rfl⟩
        have hB := HB9.out.trans ((hp u).mono HB9.out.size)
        generalize pw u = wr2 at *
        clear hp hq HB9 z0 z1 z2 z3
        have HB9 := Lib.hid hB
        clear hB
        go_wp2_with fail
        go_ret
        exact ⟨by rw [HF.out]; rfl, HB9.out⟩
      · have HF := Lib.hid (HQF.out (fun h => by
          have h2 := HOK.out.1 (HVS.out.1 h).1
          exact h2.2.2.2.2.1 (of_decide_eq_true e4)))
        have HB9 := Lib.hid (HB.out.alloc hsz (.cells #[.int .i64 xa, .string D, .int .i64 xf, .int .i64 xt] 23))
        clear HVS HOK HTK HI HO
        go_wp2_with fail
        go_upto_region 5 with fail
        refine wp_region_pick (fun w' => Below (wr.alloc (.cells #[.int .i64 xa, .string D, .int .i64 xf, .int .i64 xt] 23)).heap.size (wr.alloc (.cells #[.int .i64 xa, .string D, .int .i64 xf, .int .i64 xt] 23)) w') (by kernel_rfl) (by kernel_rfl) (Below.refl _ _) ⟨rfl, rfl, rfl, Nat.le_refl _, fun _ _ => rfl⟩ (fun pw hp hq => ?_)
        have z0 : ∀ u, (pw u).cell? ⟨wr.heap.size, 0, none⟩ = some (.int .i64 xa) := fun u => (Cells.cell (Cells.kept (show Cells (wr.alloc (.cells #[.int .i64 xa, .string D, .int .i64 xf, .int .i64 xt] 23)) wr.heap.size 23 #[.int .i64 xa, .string D, .int .i64 xf, .int .i64 xt] from heap_alloc_new wr _) (hp u) (by simp)) 0).trans rfl
        have z1 : ∀ u, (pw u).cell? ⟨wr.heap.size, 1, none⟩ = some (.string D) := fun u => (Cells.cell (Cells.kept (show Cells (wr.alloc (.cells #[.int .i64 xa, .string D, .int .i64 xf, .int .i64 xt] 23)) wr.heap.size 23 #[.int .i64 xa, .string D, .int .i64 xf, .int .i64 xt] from heap_alloc_new wr _) (hp u) (by simp)) 1).trans rfl
        have z2 : ∀ u, (pw u).cell? ⟨wr.heap.size, 2, none⟩ = some (.int .i64 xf) := fun u => (Cells.cell (Cells.kept (show Cells (wr.alloc (.cells #[.int .i64 xa, .string D, .int .i64 xf, .int .i64 xt] 23)) wr.heap.size 23 #[.int .i64 xa, .string D, .int .i64 xf, .int .i64 xt] from heap_alloc_new wr _) (hp u) (by simp)) 2).trans rfl
        have z3 : ∀ u, (pw u).cell? ⟨wr.heap.size, 3, none⟩ = some (.int .i64 xt) := fun u => (Cells.cell (Cells.kept (show Cells (wr.alloc (.cells #[.int .i64 xa, .string D, .int .i64 xf, .int .i64 xt] 23)) wr.heap.size 23 #[.int .i64 xa, .string D, .int .i64 xf, .int .i64 xt] from heap_alloc_new wr _) (hp u) (by simp)) 3).trans rfl
        try dsimp only [List.append]
        repeat (go_big_quiet_step (fail))
        refine wpQuiet_nil ?_
        rintro _ ⟨u, rfl⟩
        have hB := HB9.out.trans ((hp u).mono HB9.out.size)
        generalize pw u = wr2 at *
        clear hp hq HB9 z0 z1 z2 z3
        have HB9 := Lib.hid hB
        clear hB
        go_wp2_with fail
        go_ret
        exact ⟨by rw [HF.out]; rfl, HB9.out⟩
      · have HF := Lib.hid (HQF.out (fun h => by
          have h2 := HOK.out.1 (HVS.out.1 h).1
          exact h2.2.2.2.2.2.1 (of_decide_eq_true e5)))
        have HB9 := Lib.hid (HB.out.alloc hsz (.cells #[.int .i64 xa, .string D, .int .i64 xf, .int .i64 xt] 23))
        clear HVS HOK HTK HI HO
        go_wp2_with fail
        go_upto_region 5 with fail
        refine wp_region_pick (fun w' => Below (wr.alloc (.cells #[.int .i64 xa, .string D, .int .i64 xf, .int .i64 xt] 23)).heap.size (wr.alloc (.cells #[.int .i64 xa, .string D, .int .i64 xf, .int .i64 xt] 23)) w') (by kernel_rfl) (by kernel_rfl) (Below.refl _ _) ⟨rfl, rfl, rfl, Nat.le_refl _, fun _ _ => rfl⟩ (fun pw hp hq => ?_)
        have z0 : ∀ u, (pw u).cell? ⟨wr.heap.size, 0, none⟩ = some (.int .i64 xa) := fun u => (Cells.cell (Cells.kept (show Cells (wr.alloc (.cells #[.int .i64 xa, .string D, .int .i64 xf, .int .i64 xt] 23)) wr.heap.size 23 #[.int .i64 xa, .string D, .int .i64 xf, .int .i64 xt] from heap_alloc_new wr _) (hp u) (by simp)) 0).trans rfl
        have z1 : ∀ u, (pw u).cell? ⟨wr.heap.size, 1, none⟩ = some (.string D) := fun u => (Cells.cell (Cells.kept (show Cells (wr.alloc (.cells #[.int .i64 xa, .string D, .int .i64 xf, .int .i64 xt] 23)) wr.heap.size 23 #[.int .i64 xa, .string D, .int .i64 xf, .int .i64 xt] from heap_alloc_new wr _) (hp u) (by simp)) 1).trans rfl
        have z2 : ∀ u, (pw u).cell? ⟨wr.heap.size, 2, none⟩ = some (.int .i64 xf) := fun u => (Cells.cell (Cells.kept (show Cells (wr.alloc (.cells #[.int .i64 xa, .string D, .int .i64 xf, .int .i64 xt] 23)) wr.heap.size 23 #[.int .i64 xa, .string D, .int .i64 xf, .int .i64 xt] from heap_alloc_new wr _) (hp u) (by simp)) 2).trans rfl
        have z3 : ∀ u, (pw u).cell? ⟨wr.heap.size, 3, none⟩ = some (.int .i64 xt) := fun u => (Cells.cell (Cells.kept (show Cells (wr.alloc (.cells #[.int .i64 xa, .string D, .int .i64 xf, .int .i64 xt] 23)) wr.heap.size 23 #[.int .i64 xa, .string D, .int .i64 xf, .int .i64 xt] from heap_alloc_new wr _) (hp u) (by simp)) 3).trans rfl
        try dsimp only [List.append]
        repeat (go_big_quiet_step (fail))
        refine wpQuiet_nil ?_
        rintro _ ⟨u, rfl⟩
        have hB := HB9.out.trans ((hp u).mono HB9.out.size)
        generalize pw u = wr2 at *
        clear hp hq HB9 z0 z1 z2 z3
        have HB9 := Lib.hid hB
        clear hB
        go_wp2_with fail
        go_ret
        exact ⟨by rw [HF.out]; rfl, HB9.out⟩
      · have HF := Lib.hid (HQF.out (fun h => by
          have h2 := HOK.out.1 (HVS.out.1 h).1
          exact h2.2.2.2.2.2.2 (of_decide_eq_true e6)))
        have wt7 : IntKind.i64.wrap t7 = t7 := by
          have h1 := of_decide_eq_false e1
          have h3 := of_decide_eq_false e3
          have h4 := of_decide_eq_false e4
          have h5 := of_decide_eq_false e5
          have := HT7.out
          rw [IntKind.wrap_i64]; omega
        have HB9 := Lib.hid (HB.out.alloc hsz (.cells #[.int .i64 xa, .string D, .int .i64 xf, .int .i64 xt] 23))
        clear HVS HOK HTK HI HO
        go_wp2_with fail
        go_upto_region 5 with fail
        refine wp_region_pick (fun w' => Below (wr.alloc (.cells #[.int .i64 xa, .string D, .int .i64 xf, .int .i64 xt] 23)).heap.size (wr.alloc (.cells #[.int .i64 xa, .string D, .int .i64 xf, .int .i64 xt] 23)) w') (by kernel_rfl) (by kernel_rfl) (Below.refl _ _) ⟨rfl, rfl, rfl, Nat.le_refl _, fun _ _ => rfl⟩ (fun pw hp hq => ?_)
        have z0 : ∀ u, (pw u).cell? ⟨wr.heap.size, 0, none⟩ = some (.int .i64 xa) := fun u => (Cells.cell (Cells.kept (show Cells (wr.alloc (.cells #[.int .i64 xa, .string D, .int .i64 xf, .int .i64 xt] 23)) wr.heap.size 23 #[.int .i64 xa, .string D, .int .i64 xf, .int .i64 xt] from heap_alloc_new wr _) (hp u) (by simp)) 0).trans rfl
        have z1 : ∀ u, (pw u).cell? ⟨wr.heap.size, 1, none⟩ = some (.string D) := fun u => (Cells.cell (Cells.kept (show Cells (wr.alloc (.cells #[.int .i64 xa, .string D, .int .i64 xf, .int .i64 xt] 23)) wr.heap.size 23 #[.int .i64 xa, .string D, .int .i64 xf, .int .i64 xt] from heap_alloc_new wr _) (hp u) (by simp)) 1).trans rfl
        have z2 : ∀ u, (pw u).cell? ⟨wr.heap.size, 2, none⟩ = some (.int .i64 xf) := fun u => (Cells.cell (Cells.kept (show Cells (wr.alloc (.cells #[.int .i64 xa, .string D, .int .i64 xf, .int .i64 xt] 23)) wr.heap.size 23 #[.int .i64 xa, .string D, .int .i64 xf, .int .i64 xt] from heap_alloc_new wr _) (hp u) (by simp)) 2).trans rfl
        have z3 : ∀ u, (pw u).cell? ⟨wr.heap.size, 3, none⟩ = some (.int .i64 xt) := fun u => (Cells.cell (Cells.kept (show Cells (wr.alloc (.cells #[.int .i64 xa, .string D, .int .i64 xf, .int .i64 xt] 23)) wr.heap.size 23 #[.int .i64 xa, .string D, .int .i64 xf, .int .i64 xt] from heap_alloc_new wr _) (hp u) (by simp)) 3).trans rfl
        try dsimp only [List.append]
        repeat (go_big_quiet_step (fail))
        refine wpQuiet_nil ?_
        rintro _ ⟨u, rfl⟩
        have hB := HB9.out.trans ((hp u).mono HB9.out.size)
        generalize pw u = wr2 at *
        clear hp hq HB9 z0 z1 z2 z3
        have HB9 := Lib.hid hB
        clear hB
        go_wp2_with fail
        go_ret
        exact ⟨by rw [HF.out]; rfl, HB9.out⟩
      · have h1 := of_decide_eq_false e1
        have h3 := of_decide_eq_false e3
        have h4 := of_decide_eq_false e4
        have h5 := of_decide_eq_false e5
        have wt7 : IntKind.i64.wrap t7 = t7 := by
          have := HT7.out
          rw [IntKind.wrap_i64]; omega
        have HOX := Lib.hid (HOK.out.2 ⟨by rw [e0]; exact Bool.false_ne_true, h1, of_decide_eq_false e2, h3, h4, h5, of_decide_eq_false e6⟩)
        have HON := Lib.hid (show ∀ y ∈ l.take (k + 1), okP y from fun y hy => by
          rw [HTK.out] at hy
          rcases List.mem_append.1 hy with hy | hy
          · exact HO.out y hy
          · obtain rfl := List.mem_singleton.1 hy
            exact HOX.out)
        cases k with
        | zero =>
          rw [show oa + 0 * 4 = oa by omega] at a0 a1 a2 a3
          have HIN := Lib.hid (show vldL l ↔ vldF (endE l (0 + 1)) (l.drop (0 + 1)) from by
            rw [HVS.out]
            have h2 : endE l 0 ≤ xa := by show (0 : Int) ≤ xa; omega
            exact ⟨fun h => h.2.2, fun h => ⟨HOX.out, h2, h⟩⟩)
          have HB9 := Lib.hid (HB.out.alloc hsz (.cells #[.int .i64 xa, .string D, .int .i64 xf, .int .i64 xt] 23))
          clear HVS HOK HTK HI HO HOX
          go_wp2_with fail
          go_upto_region 5 with fail
          refine wp_region_pick (fun w' => Below (wr.alloc (.cells #[.int .i64 xa, .string D, .int .i64 xf, .int .i64 xt] 23)).heap.size (wr.alloc (.cells #[.int .i64 xa, .string D, .int .i64 xf, .int .i64 xt] 23)) w') (by kernel_rfl) (by kernel_rfl) (Below.refl _ _) ⟨rfl, rfl, rfl, Nat.le_refl _, fun _ _ => rfl⟩ (fun pw hp hq => ?_)
          have z0 : ∀ u, (pw u).cell? ⟨wr.heap.size, 0, none⟩ = some (.int .i64 xa) := fun u => (Cells.cell (Cells.kept (show Cells (wr.alloc (.cells #[.int .i64 xa, .string D, .int .i64 xf, .int .i64 xt] 23)) wr.heap.size 23 #[.int .i64 xa, .string D, .int .i64 xf, .int .i64 xt] from heap_alloc_new wr _) (hp u) (by simp)) 0).trans rfl
          have z1 : ∀ u, (pw u).cell? ⟨wr.heap.size, 1, none⟩ = some (.string D) := fun u => (Cells.cell (Cells.kept (show Cells (wr.alloc (.cells #[.int .i64 xa, .string D, .int .i64 xf, .int .i64 xt] 23)) wr.heap.size 23 #[.int .i64 xa, .string D, .int .i64 xf, .int .i64 xt] from heap_alloc_new wr _) (hp u) (by simp)) 1).trans rfl
          have z2 : ∀ u, (pw u).cell? ⟨wr.heap.size, 2, none⟩ = some (.int .i64 xf) := fun u => (Cells.cell (Cells.kept (show Cells (wr.alloc (.cells #[.int .i64 xa, .string D, .int .i64 xf, .int .i64 xt] 23)) wr.heap.size 23 #[.int .i64 xa, .string D, .int .i64 xf, .int .i64 xt] from heap_alloc_new wr _) (hp u) (by simp)) 2).trans rfl
          have z3 : ∀ u, (pw u).cell? ⟨wr.heap.size, 3, none⟩ = some (.int .i64 xt) := fun u => (Cells.cell (Cells.kept (show Cells (wr.alloc (.cells #[.int .i64 xa, .string D, .int .i64 xf, .int .i64 xt] 23)) wr.heap.size 23 #[.int .i64 xa, .string D, .int .i64 xf, .int .i64 xt] from heap_alloc_new wr _) (hp u) (by simp)) 3).trans rfl
          try dsimp only [List.append]
          repeat (go_big_quiet_step (fail))
          refine wpQuiet_nil ?_
          rintro _ ⟨u, rfl⟩
          have hB := HB9.out.trans ((hp u).mono HB9.out.size)
          generalize pw u = wr2 at *
          clear hp hq HB9 z0 z1 z2 z3
          have HB9 := Lib.hid hB
          clear hB
          go_wp2_with fail
          go_roundw
          case rel => exact ⟨0 + 1, by go_num, by omega, HIN, HON, HB9⟩
          case measure => simp [intOf]; omega
        | succ k1 =>
          obtain ⟨y, hgy⟩ : ∃ y, l[k1]? = some y := ⟨l[k1]'(by have := HN.out; omega), List.getElem?_eq_getElem _⟩
          obtain ⟨b0, b1, b2, b3⟩ := pc_at HS.out hgy HB.out
          have hoy := HO.out y (by
            obtain ⟨hk', e⟩ := List.getElem?_eq_some_iff.1 hgy
            rw [List.mem_take_iff_getElem]
            exact ⟨k1, by omega, e⟩)
          have hey : endE l (k1 + 1) = y.at_ + y.dat.length := by show (match l[k1]? with | some y => y.at_ + (y.dat.length : Int) | none => 0) = _; rw [hgy]
          obtain ⟨o1, o2, o3, o4, o5⟩ := hoy
          obtain ⟨ya, ydat, yf, yt⟩ := y
          dsimp only at b0 b1 b2 b3 hey o2 o3 o4 o5
          obtain ⟨E, hE⟩ : ∃ E, E = str ydat := ⟨_, rfl⟩
          have hEs : E.size = ydat.length := by rw [hE, str_size]
          rw [← hE] at b1
          obtain ⟨pe, hpe⟩ : ∃ p, p = ya + (E.size : Int) := ⟨_, rfl⟩
          have kpe : ya + (E.size : Int) = pe := hpe.symm
          have wpe : IntKind.i64.wrap pe = pe := by rw [IntKind.wrap_i64]; omega
          have HEY := Lib.hid (show endE l (k1 + 1) = pe by rw [hey, hpe, hEs])
          obtain ⟨k, hkk⟩ : ∃ k, k = k1 + 1 := ⟨_, rfl⟩
          rw [← hkk] at HEY HVS HON hk hlt hki dlt hk0 HTK HI HO a0 a1 a2 a3 ⊢
          have kk1 : (k : Int) - 1 = (k1 : Int) := by omega
          have wk1 : IntKind.i64.wrap (k1 : Int) = (k1 : Int) := by rw [IntKind.wrap_i64]; omega
          have k1n : (k1 : Int) < (n : Int) := by omega
          have k10 : (0 : Int) ≤ (k1 : Int) := by omega
          have dk : decide ((0 : Int) < (k : Int)) = true := by simp; omega
          have dkn : decide (0 < k) = true := by simp; omega
          have nk : 0 < k := by omega
          have HB9 := Lib.hid (HB.out.alloc hsz (.cells #[.int .i64 xa, .string D, .int .i64 xf, .int .i64 xt] 23))
          have HGY := Lib.hid hgy
          have HE := Lib.hid hE
          clear hgy hey hE hEs hpe hkk b0 b1 b2 b3 o1 o2 o3 o4 o5
          cases e7 : decide (xa < pe) with
          | true =>
            have HF := Lib.hid (HQF.out (fun h => by
              have h2 := (HVS.out.1 h).2.1
              rw [HEY.out] at h2
              have h3 := of_decide_eq_true e7
              dsimp only at h2
              omega))
            clear HVS HOK HTK HI HO HOX HON
            go_wp2_with fail
            go_upto_region 5 with fail
            refine wp_region_pick (fun w' => Below (wr.alloc (.cells #[.int .i64 xa, .string D, .int .i64 xf, .int .i64 xt] 23)).heap.size (wr.alloc (.cells #[.int .i64 xa, .string D, .int .i64 xf, .int .i64 xt] 23)) w') (by kernel_rfl) (by kernel_rfl) (Below.refl _ _) ⟨rfl, rfl, rfl, Nat.le_refl _, fun _ _ => rfl⟩ (fun pw hp hq => ?_)
            have z0 : ∀ u, (pw u).cell? ⟨wr.heap.size, 0, none⟩ = some (.int .i64 xa) := fun u => (Cells.cell (Cells.kept (show Cells (wr.alloc (.cells #[.int .i64 xa, .string D, .int .i64 xf, .int .i64 xt] 23)) wr.heap.size 23 #[.int .i64 xa, .string D, .int .i64 xf, .int .i64 xt] from heap_alloc_new wr _) (hp u) (by simp)) 0).trans rfl
            have z1 : ∀ u, (pw u).cell? ⟨wr.heap.size, 1, none⟩ = some (.string D) := fun u => (Cells.cell (Cells.kept (show Cells (wr.alloc (.cells #[.int .i64 xa, .string D, .int .i64 xf, .int .i64 xt] 23)) wr.heap.size 23 #[.int .i64 xa, .string D, .int .i64 xf, .int .i64 xt] from heap_alloc_new wr _) (hp u) (by simp)) 1).trans rfl
            have z2 : ∀ u, (pw u).cell? ⟨wr.heap.size, 2, none⟩ = some (.int .i64 xf) := fun u => (Cells.cell (Cells.kept (show Cells (wr.alloc (.cells #[.int .i64 xa, .string D, .int .i64 xf, .int .i64 xt] 23)) wr.heap.size 23 #[.int .i64 xa, .string D, .int .i64 xf, .int .i64 xt] from heap_alloc_new wr _) (hp u) (by simp)) 2).trans rfl
            have z3 : ∀ u, (pw u).cell? ⟨wr.heap.size, 3, none⟩ = some (.int .i64 xt) := fun u => (Cells.cell (Cells.kept (show Cells (wr.alloc (.cells #[.int .i64 xa, .string D, .int .i64 xf, .int .i64 xt] 23)) wr.heap.size 23 #[.int .i64 xa, .string D, .int .i64 xf, .int .i64 xt] from heap_alloc_new wr _) (hp u) (by simp)) 3).trans rfl
            have z5 : ∀ u, (pw u).cell? ⟨ga, oa + k1 * 4, none⟩ = some (.int .i64 ya) := fun u => (pc_at HS.out HGY.out (HB9.out.trans ((hp u).mono HB9.out.size))).1
            have z6 : ∀ u, (pw u).cell? ⟨ga, oa + k1 * 4 + 1, none⟩ = some (.string E) := fun u => ((pc_at HS.out HGY.out (HB9.out.trans ((hp u).mono HB9.out.size))).2.1).trans (by rw [HE.out])
            try dsimp only [List.append]
            repeat (go_big_quiet_step (fail))
            refine wpQuiet_nil ?_
            rintro _ ⟨u, rfl⟩
            have hB := HB9.out.trans ((hp u).mono HB9.out.size)
            generalize pw u = wr2 at *
            clear hp hq HB9 z0 z1 z2 z3 z5 z6
            have HB9 := Lib.hid hB
            clear hB
            go_wp2_with fail
            go_ret
            exact ⟨by rw [HF.out]; rfl, HB9.out⟩
          | false =>
            have HIN := Lib.hid (show vldL l ↔ vldF (endE l (k + 1)) (l.drop (k + 1)) from by
              rw [HVS.out]
              have h2 : endE l k ≤ xa := by rw [HEY.out]; have := of_decide_eq_false e7; omega
              exact ⟨fun h => h.2.2, fun h => ⟨HOX.out, h2, h⟩⟩)
            clear HVS HOK HTK HI HO HOX
            go_wp2_with fail
            go_upto_region 5 with fail
            refine wp_region_pick (fun w' => Below (wr.alloc (.cells #[.int .i64 xa, .string D, .int .i64 xf, .int .i64 xt] 23)).heap.size (wr.alloc (.cells #[.int .i64 xa, .string D, .int .i64 xf, .int .i64 xt] 23)) w') (by kernel_rfl) (by kernel_rfl) (Below.refl _ _) ⟨rfl, rfl, rfl, Nat.le_refl _, fun _ _ => rfl⟩ (fun pw hp hq => ?_)
            have z0 : ∀ u, (pw u).cell? ⟨wr.heap.size, 0, none⟩ = some (.int .i64 xa) := fun u => (Cells.cell (Cells.kept (show Cells (wr.alloc (.cells #[.int .i64 xa, .string D, .int .i64 xf, .int .i64 xt] 23)) wr.heap.size 23 #[.int .i64 xa, .string D, .int .i64 xf, .int .i64 xt] from heap_alloc_new wr _) (hp u) (by simp)) 0).trans rfl
            have z1 : ∀ u, (pw u).cell? ⟨wr.heap.size, 1, none⟩ = some (.string D) := fun u => (Cells.cell (Cells.kept (show Cells (wr.alloc (.cells #[.int .i64 xa, .string D, .int .i64 xf, .int .i64 xt] 23)) wr.heap.size 23 #[.int .i64 xa, .string D, .int .i64 xf, .int .i64 xt] from heap_alloc_new wr _) (hp u) (by simp)) 1).trans rfl
            have z2 : ∀ u, (pw u).cell? ⟨wr.heap.size, 2, none⟩ = some (.int .i64 xf) := fun u => (Cells.cell (Cells.kept (show Cells (wr.alloc (.cells #[.int .i64 xa, .string D, .int .i64 xf, .int .i64 xt] 23)) wr.heap.size 23 #[.int .i64 xa, .string D, .int .i64 xf, .int .i64 xt] from heap_alloc_new wr _) (hp u) (by simp)) 2).trans rfl
            have z3 : ∀ u, (pw u).cell? ⟨wr.heap.size, 3, none⟩ = some (.int .i64 xt) := fun u => (Cells.cell (Cells.kept (show Cells (wr.alloc (.cells #[.int .i64 xa, .string D, .int .i64 xf, .int .i64 xt] 23)) wr.heap.size 23 #[.int .i64 xa, .string D, .int .i64 xf, .int .i64 xt] from heap_alloc_new wr _) (hp u) (by simp)) 3).trans rfl
            have z5 : ∀ u, (pw u).cell? ⟨ga, oa + k1 * 4, none⟩ = some (.int .i64 ya) := fun u => (pc_at HS.out HGY.out (HB9.out.trans ((hp u).mono HB9.out.size))).1
            have z6 : ∀ u, (pw u).cell? ⟨ga, oa + k1 * 4 + 1, none⟩ = some (.string E) := fun u => ((pc_at HS.out HGY.out (HB9.out.trans ((hp u).mono HB9.out.size))).2.1).trans (by rw [HE.out])
            try dsimp only [List.append]
            repeat (go_big_quiet_step (fail))
            refine wpQuiet_nil ?_
            rintro _ ⟨u, rfl⟩
            have hB := HB9.out.trans ((hp u).mono HB9.out.size)
            generalize pw u = wr2 at *
            clear hp hq HB9 z0 z1 z2 z3 z5 z6
            have HB9 := Lib.hid hB
            clear hB
            go_wp2_with fail
            go_roundw
            case rel => exact ⟨k + 1, by go_num, by omega, HIN, HON, HB9⟩
            case measure => simp [intOf]; omega
    · obtain rfl : k = n := by omega
      have hd : decide ((k : Int) < (k : Int)) = false := by simp
      have HE := Lib.hid (HQT.out (HI.out.2 (by rw [HN.out, List.drop_length]; trivial)))
      go_wp2_with fail
      go_ret
      exact ⟨by rw [HE.out]; rfl, HB.out⟩
end Go.Proofs.Ytafpmlikocchpaa
