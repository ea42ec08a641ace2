/- Contracts of the functions, part 16: OvTake. -/
import Derived.Test.YtafpmlikocchpaaPA15
/- Contract of the reference of layer 15: Take. -/
namespace Go.Proofs.Ytafpmlikocchpaa
open Go.ChangeShapes Go.WideShapes Go.ChangeAt Go.RowKit
set_option linter.unusedVariables false
set_option maxRecDepth 100000

theorem idx_some {c : List CeR} {o : Int} {y : CeR} (h : fndC c o = some y) : ∃ k : Nat, idxC c o = (k : Int) ∧ c[k]? = some y ∧ k < c.length := by
  unfold fndC at h
  unfold idxC
  cases hq : c.findIdx? (fun y => y.at_ == o) with
  | none =>
    have := List.findIdx?_eq_none_iff.1 hq y (List.mem_of_find?_eq_some h)
    have h2 := List.find?_some h
    simp at this h2
    exact absurd h2 this
  | some k =>
    obtain ⟨hk, h1, h2⟩ := List.findIdx?_eq_some_iff_getElem.1 hq
    refine ⟨k, rfl, ?_, hk⟩
    have hl : c = c.take k ++ c[k] :: c.drop (k + 1) := by rw [← List.drop_eq_getElem_cons hk, List.take_append_drop]
    have h3 : (c.take k).find? (fun y => y.at_ == o) = none := List.find?_eq_none.2 (fun z hz => by
      obtain ⟨j, hj, e⟩ := List.mem_iff_getElem.1 hz
      rw [List.length_take] at hj
      have := h2 j (by omega)
      rw [← e, List.getElem_take]
      exact this)
    rw [hl, List.find?_append, h3, Option.none_or, List.find?_cons, h1] at h
    rw [List.getElem?_eq_getElem hk]
    exact h
/-- Where Take stands. -/
def TakI (c : List CeR) (total : List UInt8) (a : Int) (b : List UInt8) : Prop := ∃ f, total = b ++ takC c (f + 1) (a + b.length) ∧ f + b.length = c.length
def cutV (B : Nat) (R : List PcR) (v : Value) (W : World) : Prop := ∃ A c, v = .slice A R.length c ∧ RowL EPc W A R ∧ (A = none → c = 0) ∧ (∀ q, A = some q → B ≤ q.block)
theorem cutV_kept (B : Nat) (R : List PcR) : ∀ (v : Value) (w w' : World), cutV B R v w → Below w.heap.size w w' → cutV B R v w'
  | v, w, w', ⟨A, c, h1, h2, h3, h4⟩, hb => ⟨A, c, h1, h2.kept hb, h3, h4⟩
/-- What a function that returns a string and a list of pieces leaves. -/
def TkP (w : World) (T : List UInt8) (R : List PcR) (e : Ending) (w' : World) : Prop :=
  ∃ A c, e = .returned (.tuple #[.string (str T), .slice A R.length c]) ∧ RowL EPc w' A R ∧ (A = none → c = 0) ∧ (∀ a, A = some a → w.heap.size ≤ a.block) ∧ Below w.heap.size w w'
set_option maxHeartbeats 8000000 in
set_option maxRecDepth 100000 in
theorem rtake15_any (l : List PcR) (A : Option Addr) (c : Nat) (a : Int) (w : World) (h : RowL EPc w A l) (hl : l.length ≤ 100000) (hv : vldL l) (hz : sizeL l ≤ 100000) (ha : (Lit.int .i64 a).wf = true) :
    Calls Try.prog 20 #[.slice A l.length c, .int .i64 a] w (TkP w (takL l a) (cutL l (a + (takL l a).length))) := by
  have hfit : ∀ x ∈ l, fitP x := fun x hx => okP_fit (vldF_mem hv x hx)
  have hsrt := cels_srt hv
  have hok := cels_ok hv
  obtain ⟨C, hC⟩ : ∃ C, C = cels l := ⟨_, rfl⟩
  obtain ⟨TT, hTT⟩ : ∃ T, T = takL l a := ⟨_, rfl⟩
  have hTL : TT.length ≤ C.length := by rw [hTT, hC]; exact takC_le hsrt _ _
  have hCl : C.length ≤ 100000 := by rw [hC, cels_len]; exact hz
  have HCL := Lib.hid (fun (W : World) (hb : Below w.heap.size w W) => rcells15_any l A c W (h.kept hb) hl hfit hz)
  have HCU := Lib.hid (fun (z : Int) (W : World) (hb : Below w.heap.size w W) => rcut15_any l A c z W (h.kept hb) hl hfit)
  rw [← hC] at HCL hsrt hok
  have HT0 := Lib.hid (show TakI C TT a [] from ⟨C.length, by rw [hTT, hC]; show _ = [] ++ takC (cels l) ((cels l).length + 1) (a + ((0 : Nat) : Int)); rw [List.nil_append]; unfold takL; congr 1; omega, by simp⟩)
  have HTK := Lib.hid (show TT = takC C (C.length + 1) a by rw [hTT, hC]; rfl)
  rw [← hTT]
  obtain ⟨n, hn⟩ : ∃ n, n = l.length := ⟨_, rfl⟩
  obtain ⟨N, hN⟩ : ∃ n, n = C.length := ⟨_, rfl⟩
  rw [← hn] at HCL HCU ⊢
  have HN := Lib.hid hN
  have HSR := Lib.hid hsrt
  have HOK := Lib.hid hok
  have hN5 : N ≤ 100000 := by omega
  have wfa : -9223372036854775808 ≤ a ∧ a ≤ 9223372036854775807 := by
    have h' : IntKind.i64.min ≤ a ∧ a ≤ IntKind.i64.max := by simpa [Lit.wf] using ha
    exact h'
  have HWA := Lib.hid wfa
  have HFD := Lib.hid (fun (o : Int) (y : CeR) (hy : fndC C o = some y) => show 0 ≤ o ∧ o < 4294967296 from by
    obtain ⟨h1, h2⟩ := fndC_at hy
    obtain ⟨k1, k2, k3, k4⟩ := hok y h2
    omega)
  clear hfit hsrt hok hC hTT h hl hv hz ha hn hN hTL hCl wfa
  go_enter Try.func20, Try.ntmps20
  go_wp2_with fail
  refine (HCL.out _ (Below.refl _ _)).mono ?_
  rintro e w1 ⟨A1, c1, rfl, ho1, hb1⟩
  have HO1 := Lib.hid ho1
  have HB1 := Lib.hid hb1
  have HR1 := Lib.hid ho1.row
  have HNX := Lib.hid HN.out
  rw [← HN.out]
  clear ho1 hb1
  obtain ⟨bs, hbs⟩ : ∃ b, b = w1.heap.size := ⟨_, rfl⟩
  have HY0 := Lib.hid (show OwnE EU8 5 w1 bs none 0 0 [] from OwnE.nil _ _)
  have HBS := Lib.hid (show bs = w1.heap.size ∧ w.heap.size ≤ bs from ⟨hbs, by rw [hbs]; exact HB1.out.size⟩)
  clear hbs
  go_wp2_with fail
  go_loopw [7, 8] (fun v7 v8 wr => ∃ (m c3 : Nat) (A3 : Option Addr) (b : List UInt8) (o : Int), v7 = .slice A3 m c3 ∧ v8 = .int .i64 o ∧ m ≤ N ∧ Hid (o = a + (m : Int)) ∧ Hid (OwnE EU8 5 wr bs A3 m c3 b) ∧ Hid (TakI C TT a b) ∧ Hid (Below w1.heap.size w1 wr)) (fun v7 _ _ => N - (match v7 with | .slice _ m _ => m | _ => 0))
  case atStart => exact ⟨0, 0, none, [], a, rfl, rfl, Nat.zero_le _, Lib.hid (by simp), HY0, HT0, Lib.hid (Below.refl _ _)⟩
  case round =>
    clear HY0 HT0
    obtain ⟨m, c3, A3, b, o, rfl, rfl, hm, HOE, HY, HT, HB⟩ := hrel
    have hat := fun (W : World) (hb : Below w1.heap.size w1 W) => show Calls Try.prog 33 #[.slice A1 N c1, .int .i64 o] W fun e w' => e = .returned (.int .i64 (idxC C o)) ∧ W = w' from by rw [HNX.out]; exact rat15_any C A1 c1 o W (HR1.out.kept hb) (by rw [← HNX.out]; omega)
    have HML := Lib.hid (show m = b.length from HY.out.1)
    cases hq : fndC C o with
    | none =>
      rw [idx_none hq] at hat
      have HAT := Lib.hid hat
      have HTE := Lib.hid (show b = TT by
        obtain ⟨f, h1, h2⟩ := HT.out
        unfold takC at h1
        rw [← HML.out, ← HOE.out, hq] at h1
        rw [h1]
        simp)
      have HB2 := Lib.hid (HB1.out.trans (HB.out.mono HB1.out.size))
      clear hat hq HT
      by_cases h0 : m = 0
      · have HZ := Lib.hid (show TT = [] ∧ a + (TT.length : Int) = a by
          rw [← HTE.out]
          have : b = [] := List.length_eq_zero_iff.1 (by rw [← HML.out]; exact h0)
          subst this
          exact ⟨rfl, by simp⟩)
        have e0 : ((m : Int) == 0) = true := by simp; omega
        clear h0 HML HTE HOE
        go_wp2_with fail
        refine (HAT.out _ HB.out).mono ?_
        rintro e w5 ⟨rfl, rfl⟩
        go_wp2_with fail
        refine (HCU.out a _ HB2.out).mono ?_
        rintro e w6 ⟨A6, c6, rfl, hr6, hn6, hb6, hB6⟩
        have HR6 := Lib.hid (And.intro hr6 (And.intro hn6 (And.intro hb6 hB6)))
        clear hr6 hn6 hb6 hB6
        go_wp2_with fail
        go_ret2
        obtain ⟨hr6, hn6, hb6, hB6⟩ := HR6.out
        have hsz := HB2.out.size
        rw [HZ.out.2, HZ.out.1]
        exact ⟨A6, c6, rfl, hr6, hn6, fun q hq => Nat.le_trans hsz (hb6 q hq), HB2.out.trans (hB6.mono hsz)⟩
      · have e0 : ((m : Int) == 0) = false := by simp; omega
        have hob : -1 ≤ o ∧ o ≤ 4294967296 := by
          obtain ⟨y, h1, -⟩ := takC_fnd C (C.length + 1) a (m - 1) (by rw [← HTK.out, ← HTE.out, ← HML.out]; omega)
          have := HFD.out _ _ h1
          have := HOE.out
          omega
        have HZ := Lib.hid (show o = a + (TT.length : Int) by rw [← HTE.out, ← HML.out]; exact HOE.out)
        obtain ⟨D, hD⟩ : ∃ D, D = str TT := ⟨_, rfl⟩
        have HDD := Lib.hid hD
        have ko : a + (m : Int) = o := HOE.out.symm
        have wo : IntKind.i64.wrap o = o := by rw [IntKind.wrap_i64]; omega
        have HCV := Lib.hid (fun (W : World) (hbW : Below wr.heap.size wr W) => show (convert 57 9 (.slice A3 m c3)).run Try.prog W = .ok (.string D) W from by
          have h := HY.out.kept hbW
          have h1 := h.1
          have h2 := h.2
          rw [h1, eu8_cells] at h2
          rw [h1, HDD.out, ← HTE.out]
          exact bs_string (bs_of_own h2))
        obtain ⟨R, hR⟩ : ∃ R, R = cutL l o := ⟨_, rfl⟩
        have HRR := Lib.hid (show cutL l (a + (TT.length : Int)) = R by rw [hR, HZ.out])
        have HCO := Lib.hid (fun (W : World) (hb : Below w.heap.size w W) => show Calls Try.prog 22 #[.slice A n c, .int .i64 o] W (PcsP W R) from by rw [hR]; exact HCU.out o W hb)
        clear h0 HML HTE HOE hD hob hR HCU HZ
        go_upto_region 4 with fail
        go_wp2_with fail
        refine (HAT.out _ HB.out).mono ?_
        rintro e w5 ⟨rfl, rfl⟩
        go_upto_region 9 with fail
        refine wp_region_specs_tail 8 [.val (Value.slice A3 m c3), .val (Value.string D), .val (Value.slice A n c), .val (Value.int .i64 a), .val (Value.slice A3 m c3), .val (Value.int .i64 (m : Int)), .val (Value.int .i64 o), .wp (cutV w.heap.size R) (cutV_kept w.heap.size R)] (by kernel_rfl) (by kernel_rfl) (by kernel_rfl) (by kernel_rfl) (by kernel_rfl) (by kernel_rfl) (by kernel_rfl) (by kernel_rfl) ?_ ?_
        · refine ⟨⟨rfl, ?_⟩, ⟨rfl, ?_⟩, ⟨rfl, ?_⟩, ⟨rfl, ?_⟩, ⟨rfl, ?_⟩, ⟨rfl, ?_⟩, ⟨rfl, ?_⟩, ⟨rfl, ?_⟩, trivial⟩
          · intro ac W hbW hk K hK
            have e7 := kvalT hk 7 (Value.slice A3 m c3) (by kernel_rfl)
            clear hk
            go_simp
            exact ⟨_, rfl, hK _ _ rfl (Below.refl _ _)⟩
          · intro ac W hbW hk K hK
            have e34 := kvalT hk 34 (Value.slice A3 m c3) (by kernel_rfl)
            clear hk
            have hcv := HCV.out W hbW
            go_simp
            exact ⟨_, rfl, hK _ _ rfl (Below.refl _ _)⟩
          · intro ac W hbW hk K hK
            have e0 := kvalT hk 0 (Value.slice A n c) (by kernel_rfl)
            clear hk
            go_simp
            exact ⟨_, rfl, hK _ _ rfl (Below.refl _ _)⟩
          · intro ac W hbW hk K hK
            have e1 := kvalT hk 1 (Value.int .i64 a) (by kernel_rfl)
            clear hk
            go_simp
            exact ⟨_, rfl, hK _ _ rfl (Below.refl _ _)⟩
          · intro ac W hbW hk K hK
            have e7 := kvalT hk 7 (Value.slice A3 m c3) (by kernel_rfl)
            clear hk
            go_simp
            exact ⟨_, rfl, hK _ _ rfl (Below.refl _ _)⟩
          · intro ac W hbW hk K hK
            have e38 := kvalT hk 38 (Value.slice A3 m c3) (by kernel_rfl)
            clear hk
            go_simp
            exact ⟨_, rfl, hK _ _ rfl (Below.refl _ _)⟩
          · intro ac W hbW hk K hK
            have e37 := kvalT hk 37 (Value.int .i64 a) (by kernel_rfl)
            have e39 := kvalT hk 39 (Value.int .i64 (m : Int)) (by kernel_rfl)
            clear hk
            go_simp
            exact ⟨_, rfl, hK _ _ rfl (Below.refl _ _)⟩
          · intro ac W hbW hk K hK
            have e36 := kvalT hk 36 (Value.slice A n c) (by kernel_rfl)
            have e40 := kvalT hk 40 (Value.int .i64 o) (by kernel_rfl)
            clear hk
            go_simp
            refine (HCO.out W (HB2.out.trans (hbW.mono HB2.out.size))).mono ?_
            rintro e w9 ⟨A6, c6, rfl, hr6, hn6, hb6, hb9⟩
            exact ⟨_, rfl, hK _ _ ⟨A6, c6, rfl, hr6, hn6, fun q hq => Nat.le_trans (Nat.le_trans HB2.out.size hbW.size) (hb6 q hq)⟩ hb9⟩
        · intro W9 hb9
          simp only [List.take_succ_cons, List.take_zero, List.drop_succ_cons, List.drop_zero, endT]
          rintro v41 ⟨A6, c6, rfl, hr6, hn6, hb6⟩
          have HR6 := Lib.hid (And.intro hr6 (And.intro hn6 hb6))
          have HB9 := Lib.hid (HB2.out.trans (hb9.mono HB2.out.size))
          clear hr6 hn6 hb6 hb9
          go_wp2_with fail
          go_ret2
          obtain ⟨hr6, hn6, hb6⟩ := HR6.out
          rw [HRR.out]
          exact ⟨A6, c6, by rw [← HDD.out]; rfl, hr6, hn6, hb6, HB9.out⟩
    | some y =>
      obtain ⟨kk, hk1, hk2, hk3⟩ := idx_some hq
      rw [hk1] at hat
      have HAT := Lib.hid hat
      have hob := HFD.out _ _ hq
      obtain ⟨ga, oa, rfl, hga⟩ := HR1.out.shapeA (by omega)
      obtain ⟨a0, a1, a2, a3⟩ := ce_at HR1.out hk2 HB.out
      have hkN : kk < N := by rw [HNX.out]; exact hk3
      have hkNi : (kk : Int) < (N : Int) := by omega
      have hk0 : (0 : Int) ≤ (kk : Int) := by omega
      have dk0 : decide ((0 : Int) ≤ (kk : Int)) = true := by simp
      obtain ⟨ya, yc, yf, yt⟩ := y
      dsimp only at a0 a1 a2 a3
      obtain ⟨o2, ho2⟩ : ∃ o2, o2 = o + 1 := ⟨_, rfl⟩
      have ko2 : o + 1 = o2 := ho2.symm
      have wo2 : IntKind.i64.wrap o2 = o2 := by rw [IntKind.wrap_i64]; omega
      have HOE2 := Lib.hid (show o2 = a + ((m + 1 : Nat) : Int) by rw [ho2, HOE.out]; omega)
      have HT2 := Lib.hid (show TakI C TT a (b ++ [yc]) ∧ m + 1 ≤ N from by
        obtain ⟨f, h1, h2⟩ := HT.out
        have hn := HNX.out
        have hml := HML.out
        unfold takC at h1
        rw [← HML.out, ← HOE.out, hq] at h1
        simp only at h1
        have hmN : m < C.length := by
          have hle : TT.length ≤ C.length := by rw [HTK.out]; exact takC_le HSR.out _ _
          rw [h1] at hle
          simp at hle
          omega
        obtain ⟨f', rfl⟩ : ∃ f', f = f' + 1 := ⟨f - 1, by omega⟩
        refine ⟨⟨f', ?_, by simp; omega⟩, by omega⟩
        rw [h1]
        simp only [List.append_assoc, List.cons_append, List.nil_append, List.length_append, List.length_cons, List.length_nil]
        rw [HOE.out, HML.out]
        congr 3
        omega)
      have hm1 : m + 1 ≤ N := HT2.out.2
      clear hat hq hk1 hk2 hk3 hob ho2 HT HOE HML hga
      have hszb : bs ≤ wr.heap.size := by rw [HBS.out.1]; exact HB.out.size
      go_wp2_with fail
      refine (HAT.out _ HB.out).mono ?_
      rintro e w5 ⟨rfl, rfl⟩
      go_wp2_with fail
      refine (HAT.out _ HB.out).mono ?_
      rintro e w5 ⟨rfl, rfl⟩
      go_wp2_with (at_builtin; refine wpList_push (E := EU8) u8Ty10 (by rfl) _ _ (by rfl) bs _ m b [yc] (by rfl) (HY.out.al _).2 _ 1 1 #[.int .u8 (yc.toNat : Int)] (0, 0) (by rfl) (heap_alloc_new _ _) (by rfl) rfl (by omega) (by omega) (by decide) ?hb ?_)
      case hb => first | (simp; omega) | omega | exact Nat.le_trans hszb (by simp)
      intro g2 cap2 wz hown hgrow hat hlt3
      have HY9 := Lib.hid (HY.out.push (ys := [yc]) rfl hown)
      have HB9 := Lib.hid (HY.out.below HB.out HB.out.size (Nat.le_of_eq HBS.out.1.symm) hgrow)
      clear hown hgrow hat hlt3 HY HB a0 a1 a2 a3 hszb
      go_wp2_with fail
      go_roundw
      case rel => exact ⟨m + 1, cap2, some ⟨g2, 0, none⟩, b ++ [yc], o2, rfl, rfl, hm1, HOE2, HY9, Lib.hid HT2.out.1, HB9⟩
      case measure => simp; omega
end Go.Proofs.Ytafpmlikocchpaa
