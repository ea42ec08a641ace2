/- Contracts of the functions, part 15: OvPcs. -/
import Derived.Test.YtafpmlikocchpaaPA2
import Derived.Test.YtafpmlikocchpaaPA14
/- Contract of the reference of layer 15: Pieces. -/
namespace Go.Proofs.Ytafpmlikocchpaa
open Go.ChangeShapes Go.WideShapes Go.ChangeAt Go.RowKit
set_option linter.unusedVariables false
set_option maxRecDepth 100000

/-- Where Pieces stands: the pieces before i, then those of the rest. -/
def PcI (c : List CeR) (out : List PcR) (i : Nat) : Prop := out ++ pcs (c.drop i) = pcs c
theorem pcs_step {c : List CeR} {out : List PcR} {i k : Nat} {x : CeR} {b : List UInt8} (h : PcI c out i) (hb : celF x.fr x.to_ x.at_ b ++ c.drop k = c.drop i) (hne : b ≠ [])
    (hend : ∀ y r, c.drop k = y :: r → ¬ (y.at_ = x.at_ + b.length ∧ y.fr = x.fr ∧ y.to_ = x.to_)) : PcI c (out ++ [⟨x.at_, b, x.fr, x.to_⟩]) k := by
  unfold PcI at h ⊢
  rw [← h, ← hb, pcs_run _ _ _ _ _ hne hend]
  simp
theorem pcs_le : ∀ c : List CeR, (pcs c).length ≤ c.length
  | [] => Nat.le_refl _
  | x :: r => by
    have := pcs_le r
    rw [pcs_cons]
    cases hq : pcs r with
    | nil => simp [addC]
    | cons p q =>
      rw [hq] at this
      rw [addC_cons]
      split <;> simp at this ⊢ <;> omega
set_option maxHeartbeats 8000000 in
set_option maxRecDepth 100000 in
theorem rpcs15_any (l : List CeR) (A : Option Addr) (c : Nat) (w : World) (h : RowL ECe w A l) (hl : l.length ≤ 100000) (hf : ∀ x ∈ l, -1152921504606846976 ≤ x.at_ ∧ x.at_ ≤ 1152921504606846976) :
    Calls Try.prog 35 #[.slice A l.length c] w (PcsP w (pcs l)) := by
  obtain ⟨n, hnl⟩ : ∃ n, n = l.length := ⟨_, rfl⟩
  rw [← hnl] at hl ⊢
  have HN := Lib.hid hnl
  have HS := Lib.hid h
  have HF := Lib.hid hf
  have HO0 := Lib.hid (OwnE.nil (E := EPc) (e := 23) w w.heap.size)
  clear hnl h hf
  go_enter Try.func35, Try.ntmps35
  go_wp2_with fail
  go_loopw [3, 4] (fun s j wr => ∃ (i m c2 : Nat) (A2 : Option Addr) (out : List PcR), s = .slice A2 m c2 ∧ j = .int .i64 (i : Int) ∧ i ≤ n ∧ m ≤ i ∧ Hid (OwnE EPc 23 wr w.heap.size A2 m c2 out) ∧ Hid (PcI l out i) ∧ Hid (Below w.heap.size w wr)) (fun _ j _ => n - (intOf j).toNat)
  case atStart => exact ⟨0, 0, 0, none, [], rfl, rfl, Nat.zero_le _, Nat.zero_le _, HO0, Lib.hid rfl, Lib.hid (Below.refl _ _)⟩
  case round =>
    clear HO0
    obtain ⟨i, m, c2, A2, out, rfl, rfl, hi, hmi, HO, HP, HB⟩ := hrel
    by_cases hlt : i < n
    · obtain ⟨xx, hget⟩ : ∃ x, l[i]? = some x := ⟨l[i]'(by have := HN.out; omega), List.getElem?_eq_getElem _⟩
      obtain ⟨ga, oa, rfl, hga⟩ := HS.out.shapeA (by have := HN.out; omega)
      have hii : (i : Int) < (n : Int) := by omega
      have dlt : decide ((i : Int) < (n : Int)) = true := by simp; omega
      have hi0 : (0 : Int) ≤ (i : Int) := by omega
      obtain ⟨f1, f2⟩ := HF.out xx (List.mem_of_getElem? hget)
      obtain ⟨xa, xc, xf, xt⟩ := xx
      dsimp only at f1 f2
      have HGI := Lib.hid hget
      have HY0 := Lib.hid (OwnE.nil (E := EU8) (e := 5) wr wr.heap.size)
      have HSZ := Lib.hid (show w.heap.size ≤ wr.heap.size from HB.out.size)
      obtain ⟨bs, hbs⟩ : ∃ b, b = wr.heap.size := ⟨_, rfl⟩
      have HBS := Lib.hid (show w.heap.size ≤ bs ∧ bs = wr.heap.size from ⟨by rw [hbs]; exact HSZ.out, hbs⟩)
      have HY0 := Lib.hid (show OwnE EU8 5 wr bs none 0 0 [] by rw [hbs]; exact HY0.out)
      have HOB := Lib.hid (show ∀ j, (Value.slice A2 m c2).ownBlock = some j → j < bs by rw [hbs]; exact fun j hj => (HO.out.2.lt j hj).2)
      clear hget hbs HSZ
      go_wp2_with fail
      go_loopw [5, 6] (fun v5 v6 wr => ∃ (k m3 c3 : Nat) (A3 : Option Addr) (b : List UInt8), v5 = .int .i64 (k : Int) ∧ v6 = .slice A3 m3 c3 ∧ i ≤ k ∧ k ≤ n ∧ m3 + i = k ∧ Hid (OwnE EU8 5 wr bs A3 m3 c3 b) ∧ Hid (celF xf xt xa b ++ l.drop k = l.drop i) ∧ Hid (OwnE EPc 23 wr w.heap.size A2 m c2 out) ∧ Hid (Below w.heap.size w wr) ∧ Hid (bs ≤ wr.heap.size)) (fun v5 _ _ => n - (intOf v5).toNat)
      case atStart => exact ⟨i, 0, 0, none, [], rfl, rfl, Nat.le_refl _, hi, by omega, HY0, Lib.hid rfl, HO, HB, Lib.hid (by rw [HBS.out.2]; exact Nat.le_refl _)⟩
      case round =>
        clear HO HB HY0
        obtain ⟨k, m3, c3, A3, b, rfl, rfl, hik, hk, hm3, HBY, HCF, HO, HB, HBW⟩ := hrel
        obtain ⟨D, hD⟩ : ∃ D, D = str b := ⟨_, rfl⟩
        have HDD := Lib.hid hD
        clear hD
        have hk0 : (0 : Int) ≤ (k : Int) := by omega
        by_cases hlt2 : k < n
        · have hki : (k : Int) < (n : Int) := by omega
          have dlt2 : decide ((k : Int) < (n : Int)) = true := by simp; omega
          obtain ⟨yy, hgk⟩ : ∃ x, l[k]? = some x := ⟨l[k]'(by have := HN.out; omega), List.getElem?_eq_getElem _⟩
          have hdk : l.drop k = yy :: l.drop (k + 1) := by
            obtain ⟨hk', e⟩ := List.getElem?_eq_some_iff.1 hgk
            rw [List.drop_eq_getElem_cons hk', e]
          obtain ⟨ya, yc, yf, yt⟩ := yy
          have HGK := Lib.hid hgk
          have HDK := Lib.hid hdk
          have HBL := Lib.hid (show b.length = m3 from HBY.out.1.symm)
          clear hgk hdk
          obtain ⟨s1, hs1⟩ : ∃ s, s = xa + (k : Int) := ⟨_, rfl⟩
          have ks1 : xa + (k : Int) = s1 := hs1.symm
          obtain ⟨s2, hs2⟩ : ∃ s, s = s1 - (i : Int) := ⟨_, rfl⟩
          have ks2 : s1 - (i : Int) = s2 := hs2.symm
          have ws1 : IntKind.i64.wrap s1 = s1 := by rw [IntKind.wrap_i64]; omega
          have ws2 : IntKind.i64.wrap s2 = s2 := by rw [IntKind.wrap_i64]; omega
          have HS2 := Lib.hid (show s2 = xa + (m3 : Int) by omega)
          clear hs1 hs2
          have hcs : (ya == s2) = false ∨ ((ya == s2) = true ∧ (yf == xf) = false) ∨ ((ya == s2) = true ∧ (yf == xf) = true ∧ (yt == xt) = false) ∨ ((ya == s2) = true ∧ (yf == xf) = true ∧ (yt == xt) = true) := by
            cases (ya == s2) <;> cases (yf == xf) <;> cases (yt == xt) <;> simp
          have HKI := Lib.hid (fun (hno : ¬ (ya = s2 ∧ yf = xf ∧ yt = xt)) => show i < k from by
            rcases Nat.lt_or_eq_of_le hik with q | q
            · exact q
            · exfalso
              subst q
              have e : (⟨ya, yc, yf, yt⟩ : CeR) = ⟨xa, xc, xf, xt⟩ := Option.some.inj (HGK.out.symm.trans HGI.out)
              injection e with e1 e2 e3 e4
              exact hno ⟨by rw [HS2.out, e1]; omega, e3, e4⟩)
          have HPZ := Lib.hid (fun (hno : ¬ (ya = s2 ∧ yf = xf ∧ yt = xt)) => show PcI l (out ++ [⟨xa, b, xf, xt⟩]) k from
            pcs_step (x := ⟨xa, xc, xf, xt⟩) HP.out HCF.out (fun e => by have h1 := HBL.out; have h2 := HKI.out hno; rw [e] at h1; simp at h1; omega) (fun y r hy => by
              rw [HDK.out] at hy
              injection hy with hy1 hy2
              subst hy1
              intro ⟨q1, q2, q3⟩
              exact hno ⟨by rw [HS2.out, ← HBL.out]; exact q1, q2, q3⟩))
          rcases hcs with e1 | ⟨e1, e2⟩ | ⟨e1, e2, e3⟩ | ⟨e1, e2, e3⟩
          · have hno : ¬ (ya = s2 ∧ yf = xf ∧ yt = xt) := fun h => by rw [h.1] at e1; simp at e1
            have HKI := Lib.hid (HKI.out hno)
            have HPZ := Lib.hid (HPZ.out hno)
            clear hno HDK HBL HS2 HCF HP
            go_upto_region 6 with fail
            refine wp_region_pick (fun w' => Below wr.heap.size wr w') (by kernel_rfl) (by kernel_rfl) (Below.refl _ _) ⟨rfl, rfl, rfl, Nat.le_refl _, fun _ _ => rfl⟩ (fun pw hp hq => ?_)
            have y0 : ∀ u, (pw u).cell? ⟨ga, oa + k * 4, none⟩ = some (.int .i64 ya) := fun u => (ce_at HS.out HGK.out (HB.out.trans ((hp u).mono HB.out.size))).1
            have y2 : ∀ u, (pw u).cell? ⟨ga, oa + k * 4 + 2, none⟩ = some (.int .i64 yf) := fun u => (ce_at HS.out HGK.out (HB.out.trans ((hp u).mono HB.out.size))).2.2.1
            have y3 : ∀ u, (pw u).cell? ⟨ga, oa + k * 4 + 3, none⟩ = some (.int .i64 yt) := fun u => (ce_at HS.out HGK.out (HB.out.trans ((hp u).mono HB.out.size))).2.2.2
            have x0 : ∀ u, (pw u).cell? ⟨ga, oa + i * 4, none⟩ = some (.int .i64 xa) := fun u => (ce_at HS.out HGI.out (HB.out.trans ((hp u).mono HB.out.size))).1
            have x2 : ∀ u, (pw u).cell? ⟨ga, oa + i * 4 + 2, none⟩ = some (.int .i64 xf) := fun u => (ce_at HS.out HGI.out (HB.out.trans ((hp u).mono HB.out.size))).2.2.1
            have x3 : ∀ u, (pw u).cell? ⟨ga, oa + i * 4 + 3, none⟩ = some (.int .i64 xt) := fun u => (ce_at HS.out HGI.out (HB.out.trans ((hp u).mono HB.out.size))).2.2.2
            repeat (go_big_quiet_step (fail))
            refine wpQuiet_nil ?_
            rintro _ ⟨u, rfl⟩
            have hB := HB.out.trans ((hp u).mono HB.out.size)
            have hO := HO.out.kept (hp u)
            have hY := HBY.out.kept (hp u)
            have hZ := (hp u).size
            generalize pw u = wr2 at *
            have HBZ := Lib.hid hZ
            clear hZ
            clear hp hq HB HO HBY y0 y2 y3 x0 x2 x3
            have HB := Lib.hid hB
            have HO := Lib.hid hO
            have HBY := Lib.hid hY
            clear hB hO hY
            have HCV := Lib.hid (fun (W : World) (hbW : Below wr2.heap.size wr2 W) => show (convert 57 9 (.slice A3 m3 c3)).run Try.prog W = .ok (.string D) W from by
              have h := HBY.out.kept hbW
              have h1 := h.1
              have h2 := h.2
              rw [h1, eu8_cells] at h2
              rw [h1, HDD.out]
              exact bs_string (bs_of_own h2))
            go_upto_region 9 with fail
            refine wp_region_specs_tail 20 [.val (Value.slice A2 m c2), .val (Value.slice (some ⟨ga, oa, none⟩) n c), .val (Value.int .i64 (i : Int)), .val (Value.pointer (some ⟨ga, oa + i * 4, none⟩)), .val (Value.pointer (some ⟨ga, oa + i * 4, none⟩)), .val (Value.int .i64 xa), .val (Value.slice A3 m3 c3), .val (Value.string D), .val (Value.slice (some ⟨ga, oa, none⟩) n c), .val (Value.int .i64 (i : Int)), .val (Value.pointer (some ⟨ga, oa + i * 4, none⟩)), .val (Value.pointer (some ⟨ga, oa + i * 4 + 2, none⟩)), .val (Value.int .i64 xf), .val (Value.slice (some ⟨ga, oa, none⟩) n c), .val (Value.int .i64 (i : Int)), .val (Value.pointer (some ⟨ga, oa + i * 4, none⟩)), .val (Value.pointer (some ⟨ga, oa + i * 4 + 3, none⟩)), .val (Value.int .i64 xt), .val (Value.agg #[.int .i64 xa, .string D, .int .i64 xf, .int .i64 xt]), .row #[.int .i64 xa, .string D, .int .i64 xf, .int .i64 xt] 23 1] (by kernel_rfl) (by kernel_rfl) (by kernel_rfl) (by kernel_rfl) (by kernel_rfl) (by kernel_rfl) (by kernel_rfl) (by kernel_rfl) ?_ ?_
            · refine ⟨⟨rfl, ?_⟩, ⟨rfl, ?_⟩, ⟨rfl, ?_⟩, ⟨rfl, ?_⟩, ⟨rfl, ?_⟩, ⟨rfl, ?_⟩, ⟨rfl, ?_⟩, ⟨rfl, ?_⟩, ⟨rfl, ?_⟩, ⟨rfl, ?_⟩, ⟨rfl, ?_⟩, ⟨rfl, ?_⟩, ⟨rfl, ?_⟩, ⟨rfl, ?_⟩, ⟨rfl, ?_⟩, ⟨rfl, ?_⟩, ⟨rfl, ?_⟩, ⟨rfl, ?_⟩, ⟨rfl, ?_⟩, ⟨rfl, ?_⟩, trivial⟩
              · intro a W hbW hk K hK
                have e3 := kvalT hk 3 (Value.slice A2 m c2) (by kernel_rfl)
                clear hk
                go_simp
                exact ⟨_, rfl, hK _ _ rfl (Below.refl _ _)⟩
              · intro a W hbW hk K hK
                have e0 := kvalT hk 0 (Value.slice (some ⟨ga, oa, none⟩) n c) (by kernel_rfl)
                clear hk
                go_simp
                exact ⟨_, rfl, hK _ _ rfl (Below.refl _ _)⟩
              · intro a W hbW hk K hK
                have e4 := kvalT hk 4 (Value.int .i64 (i : Int)) (by kernel_rfl)
                clear hk
                go_simp
                exact ⟨_, rfl, hK _ _ rfl (Below.refl _ _)⟩
              · intro a W hbW hk K hK
                have e70 := kvalT hk 70 (Value.slice (some ⟨ga, oa, none⟩) n c) (by kernel_rfl)
                have e71 := kvalT hk 71 (Value.int .i64 (i : Int)) (by kernel_rfl)
                clear hk
                go_simp
                exact ⟨_, rfl, hK _ _ rfl (Below.refl _ _)⟩
              · intro a W hbW hk K hK
                have e72 := kvalT hk 72 (Value.pointer (some ⟨ga, oa + i * 4, none⟩)) (by kernel_rfl)
                clear hk
                go_simp
                exact ⟨_, rfl, hK _ _ rfl (Below.refl _ _)⟩
              · intro a W hbW hk K hK
                have e73 := kvalT hk 73 (Value.pointer (some ⟨ga, oa + i * 4, none⟩)) (by kernel_rfl)
                clear hk
                obtain ⟨a0, a1, a2, a3⟩ := ce_at HS.out HGI.out (HB.out.trans (hbW.mono HB.out.size))
                dsimp only at a0 a1 a2 a3
                go_simp
                exact ⟨_, rfl, hK _ _ rfl (Below.refl _ _)⟩
              · intro a W hbW hk K hK
                have e6 := kvalT hk 6 (Value.slice A3 m3 c3) (by kernel_rfl)
                clear hk
                go_simp
                exact ⟨_, rfl, hK _ _ rfl (Below.refl _ _)⟩
              · intro a W hbW hk K hK
                have e75 := kvalT hk 75 (Value.slice A3 m3 c3) (by kernel_rfl)
                clear hk
                have hcv := HCV.out W hbW
                go_simp
                exact ⟨_, rfl, hK _ _ rfl (Below.refl _ _)⟩
              · intro a W hbW hk K hK
                have e0 := kvalT hk 0 (Value.slice (some ⟨ga, oa, none⟩) n c) (by kernel_rfl)
                clear hk
                go_simp
                exact ⟨_, rfl, hK _ _ rfl (Below.refl _ _)⟩
              · intro a W hbW hk K hK
                have e4 := kvalT hk 4 (Value.int .i64 (i : Int)) (by kernel_rfl)
                clear hk
                go_simp
                exact ⟨_, rfl, hK _ _ rfl (Below.refl _ _)⟩
              · intro a W hbW hk K hK
                have e77 := kvalT hk 77 (Value.slice (some ⟨ga, oa, none⟩) n c) (by kernel_rfl)
                have e78 := kvalT hk 78 (Value.int .i64 (i : Int)) (by kernel_rfl)
                clear hk
                go_simp
                exact ⟨_, rfl, hK _ _ rfl (Below.refl _ _)⟩
              · intro a W hbW hk K hK
                have e79 := kvalT hk 79 (Value.pointer (some ⟨ga, oa + i * 4, none⟩)) (by kernel_rfl)
                clear hk
                go_simp
                exact ⟨_, rfl, hK _ _ rfl (Below.refl _ _)⟩
              · intro a W hbW hk K hK
                have e80 := kvalT hk 80 (Value.pointer (some ⟨ga, oa + i * 4 + 2, none⟩)) (by kernel_rfl)
                clear hk
                obtain ⟨a0, a1, a2, a3⟩ := ce_at HS.out HGI.out (HB.out.trans (hbW.mono HB.out.size))
                dsimp only at a0 a1 a2 a3
                go_simp
                exact ⟨_, rfl, hK _ _ rfl (Below.refl _ _)⟩
              · intro a W hbW hk K hK
                have e0 := kvalT hk 0 (Value.slice (some ⟨ga, oa, none⟩) n c) (by kernel_rfl)
                clear hk
                go_simp
                exact ⟨_, rfl, hK _ _ rfl (Below.refl _ _)⟩
              · intro a W hbW hk K hK
                have e4 := kvalT hk 4 (Value.int .i64 (i : Int)) (by kernel_rfl)
                clear hk
                go_simp
                exact ⟨_, rfl, hK _ _ rfl (Below.refl _ _)⟩
              · intro a W hbW hk K hK
                have e82 := kvalT hk 82 (Value.slice (some ⟨ga, oa, none⟩) n c) (by kernel_rfl)
                have e83 := kvalT hk 83 (Value.int .i64 (i : Int)) (by kernel_rfl)
                clear hk
                go_simp
                exact ⟨_, rfl, hK _ _ rfl (Below.refl _ _)⟩
              · intro a W hbW hk K hK
                have e84 := kvalT hk 84 (Value.pointer (some ⟨ga, oa + i * 4, none⟩)) (by kernel_rfl)
                clear hk
                go_simp
                exact ⟨_, rfl, hK _ _ rfl (Below.refl _ _)⟩
              · intro a W hbW hk K hK
                have e85 := kvalT hk 85 (Value.pointer (some ⟨ga, oa + i * 4 + 3, none⟩)) (by kernel_rfl)
                clear hk
                obtain ⟨a0, a1, a2, a3⟩ := ce_at HS.out HGI.out (HB.out.trans (hbW.mono HB.out.size))
                dsimp only at a0 a1 a2 a3
                go_simp
                exact ⟨_, rfl, hK _ _ rfl (Below.refl _ _)⟩
              · intro a W hbW hk K hK
                have e74 := kvalT hk 74 (Value.int .i64 xa) (by kernel_rfl)
                have e76 := kvalT hk 76 (Value.string D) (by kernel_rfl)
                have e81 := kvalT hk 81 (Value.int .i64 xf) (by kernel_rfl)
                have e86 := kvalT hk 86 (Value.int .i64 xt) (by kernel_rfl)
                clear hk
                go_simp
                exact ⟨_, rfl, hK _ _ rfl (Below.refl _ _)⟩
              · intro a W hbW hk K hK
                have e87 := kvalT hk 87 (Value.agg #[.int .i64 xa, .string D, .int .i64 xf, .int .i64 xt]) (by kernel_rfl)
                clear hk
                go_simp
                exact ⟨_, rfl, hK _ _ ⟨W.heap.size, rfl, hbW.size, heap_alloc_new W _⟩ (below_alloc6 W _)⟩
            · intro W9 hb9
              simp only [List.take_succ_cons, List.take_zero, List.drop_succ_cons, List.drop_zero, endT]
              intro gr hgr hcr
              have HO9 := HO.out.kept hb9
              have hB9 := HB.out.trans (hb9.mono HB.out.size)
              have hs9 : w.heap.size ≤ W9.heap.size := hB9.size
              go_simp
              refine wpList_push (E := EPc) pcTy (by rfl) _ _ (by rfl) w.heap.size _ m out [⟨xa, b, xf, xt⟩] (by rfl) HO9.2 gr 1 1 #[.int .i64 xa, .string D, .int .i64 xf, .int .i64 xt] (0, 0) (by rfl) hcr (by rw [HDD.out]; rfl) rfl (by omega) (by omega) (by decide) hs9 ?_
              intro g2 cap2 wz hown hgrow hat hlt2
              have HOz := Lib.hid (HO9.push (ys := [⟨xa, b, xf, xt⟩]) rfl hown)
              have HBz := Lib.hid (HO9.below0 hB9 hs9 (Nat.le_refl _) hgrow)
              clear hown hgrow hat hlt2 HO9 hB9 hs9 hcr hgr hb9 HO HB HBY HCV
              go_wp2_with fail
              go_roundw
              case rel => exact ⟨k, m + 1, cap2, some ⟨g2, 0, none⟩, out ++ [⟨xa, b, xf, xt⟩], rfl, rfl, by omega, by have := HKI.out; omega, HOz, HPZ, HBz⟩
              case measure => simp [intOf]; have := HKI.out; omega
          · have hno : ¬ (ya = s2 ∧ yf = xf ∧ yt = xt) := fun h => by rw [h.2.1] at e2; simp at e2
            have HKI := Lib.hid (HKI.out hno)
            have HPZ := Lib.hid (HPZ.out hno)
            clear hno HDK HBL HS2 HCF HP
            go_upto_region 6 with fail
            refine wp_region_pick (fun w' => Below wr.heap.size wr w') (by kernel_rfl) (by kernel_rfl) (Below.refl _ _) ⟨rfl, rfl, rfl, Nat.le_refl _, fun _ _ => rfl⟩ (fun pw hp hq => ?_)
            have y0 : ∀ u, (pw u).cell? ⟨ga, oa + k * 4, none⟩ = some (.int .i64 ya) := fun u => (ce_at HS.out HGK.out (HB.out.trans ((hp u).mono HB.out.size))).1
            have y2 : ∀ u, (pw u).cell? ⟨ga, oa + k * 4 + 2, none⟩ = some (.int .i64 yf) := fun u => (ce_at HS.out HGK.out (HB.out.trans ((hp u).mono HB.out.size))).2.2.1
            have y3 : ∀ u, (pw u).cell? ⟨ga, oa + k * 4 + 3, none⟩ = some (.int .i64 yt) := fun u => (ce_at HS.out HGK.out (HB.out.trans ((hp u).mono HB.out.size))).2.2.2
            have x0 : ∀ u, (pw u).cell? ⟨ga, oa + i * 4, none⟩ = some (.int .i64 xa) := fun u => (ce_at HS.out HGI.out (HB.out.trans ((hp u).mono HB.out.size))).1
            have x2 : ∀ u, (pw u).cell? ⟨ga, oa + i * 4 + 2, none⟩ = some (.int .i64 xf) := fun u => (ce_at HS.out HGI.out (HB.out.trans ((hp u).mono HB.out.size))).2.2.1
            have x3 : ∀ u, (pw u).cell? ⟨ga, oa + i * 4 + 3, none⟩ = some (.int .i64 xt) := fun u => (ce_at HS.out HGI.out (HB.out.trans ((hp u).mono HB.out.size))).2.2.2
            repeat (go_big_quiet_step (fail))
            refine wpQuiet_nil ?_
            rintro _ ⟨u, rfl⟩
            have hB := HB.out.trans ((hp u).mono HB.out.size)
            have hO := HO.out.kept (hp u)
            have hY := HBY.out.kept (hp u)
            have hZ := (hp u).size
            generalize pw u = wr2 at *
            have HBZ := Lib.hid hZ
            clear hZ
            clear hp hq HB HO HBY y0 y2 y3 x0 x2 x3
            have HB := Lib.hid hB
            have HO := Lib.hid hO
            have HBY := Lib.hid hY
            clear hB hO hY
            have HCV := Lib.hid (fun (W : World) (hbW : Below wr2.heap.size wr2 W) => show (convert 57 9 (.slice A3 m3 c3)).run Try.prog W = .ok (.string D) W from by
              have h := HBY.out.kept hbW
              have h1 := h.1
              have h2 := h.2
              rw [h1, eu8_cells] at h2
              rw [h1, HDD.out]
              exact bs_string (bs_of_own h2))
            go_upto_region 9 with fail
            refine wp_region_specs_tail 20 [.val (Value.slice A2 m c2), .val (Value.slice (some ⟨ga, oa, none⟩) n c), .val (Value.int .i64 (i : Int)), .val (Value.pointer (some ⟨ga, oa + i * 4, none⟩)), .val (Value.pointer (some ⟨ga, oa + i * 4, none⟩)), .val (Value.int .i64 xa), .val (Value.slice A3 m3 c3), .val (Value.string D), .val (Value.slice (some ⟨ga, oa, none⟩) n c), .val (Value.int .i64 (i : Int)), .val (Value.pointer (some ⟨ga, oa + i * 4, none⟩)), .val (Value.pointer (some ⟨ga, oa + i * 4 + 2, none⟩)), .val (Value.int .i64 xf), .val (Value.slice (some ⟨ga, oa, none⟩) n c), .val (Value.int .i64 (i : Int)), .val (Value.pointer (some ⟨ga, oa + i * 4, none⟩)), .val (Value.pointer (some ⟨ga, oa + i * 4 + 3, none⟩)), .val (Value.int .i64 xt), .val (Value.agg #[.int .i64 xa, .string D, .int .i64 xf, .int .i64 xt]), .row #[.int .i64 xa, .string D, .int .i64 xf, .int .i64 xt] 23 1] (by kernel_rfl) (by kernel_rfl) (by kernel_rfl) (by kernel_rfl) (by kernel_rfl) (by kernel_rfl) (by kernel_rfl) (by kernel_rfl) ?_ ?_
            · refine ⟨⟨rfl, ?_⟩, ⟨rfl, ?_⟩, ⟨rfl, ?_⟩, ⟨rfl, ?_⟩, ⟨rfl, ?_⟩, ⟨rfl, ?_⟩, ⟨rfl, ?_⟩, ⟨rfl, ?_⟩, ⟨rfl, ?_⟩, ⟨rfl, ?_⟩, ⟨rfl, ?_⟩, ⟨rfl, ?_⟩, ⟨rfl, ?_⟩, ⟨rfl, ?_⟩, ⟨rfl, ?_⟩, ⟨rfl, ?_⟩, ⟨rfl, ?_⟩, ⟨rfl, ?_⟩, ⟨rfl, ?_⟩, ⟨rfl, ?_⟩, trivial⟩
              · intro a W hbW hk K hK
                have e3 := kvalT hk 3 (Value.slice A2 m c2) (by kernel_rfl)
                clear hk
                go_simp
                exact ⟨_, rfl, hK _ _ rfl (Below.refl _ _)⟩
              · intro a W hbW hk K hK
                have e0 := kvalT hk 0 (Value.slice (some ⟨ga, oa, none⟩) n c) (by kernel_rfl)
                clear hk
                go_simp
                exact ⟨_, rfl, hK _ _ rfl (Below.refl _ _)⟩
              · intro a W hbW hk K hK
                have e4 := kvalT hk 4 (Value.int .i64 (i : Int)) (by kernel_rfl)
                clear hk
                go_simp
                exact ⟨_, rfl, hK _ _ rfl (Below.refl _ _)⟩
              · intro a W hbW hk K hK
                have e70 := kvalT hk 70 (Value.slice (some ⟨ga, oa, none⟩) n c) (by kernel_rfl)
                have e71 := kvalT hk 71 (Value.int .i64 (i : Int)) (by kernel_rfl)
                clear hk
                go_simp
                exact ⟨_, rfl, hK _ _ rfl (Below.refl _ _)⟩
              · intro a W hbW hk K hK
                have e72 := kvalT hk 72 (Value.pointer (some ⟨ga, oa + i * 4, none⟩)) (by kernel_rfl)
                clear hk
                go_simp
                exact ⟨_, rfl, hK _ _ rfl (Below.refl _ _)⟩
              · intro a W hbW hk K hK
                have e73 := kvalT hk 73 (Value.pointer (some ⟨ga, oa + i * 4, none⟩)) (by kernel_rfl)
                clear hk
                obtain ⟨a0, a1, a2, a3⟩ := ce_at HS.out HGI.out (HB.out.trans (hbW.mono HB.out.size))
                dsimp only at a0 a1 a2 a3
                go_simp
                exact ⟨_, rfl, hK _ _ rfl (Below.refl _ _)⟩
              · intro a W hbW hk K hK
                have e6 := kvalT hk 6 (Value.slice A3 m3 c3) (by kernel_rfl)
                clear hk
                go_simp
                exact ⟨_, rfl, hK _ _ rfl (Below.refl _ _)⟩
              · intro a W hbW hk K hK
                have e75 := kvalT hk 75 (Value.slice A3 m3 c3) (by kernel_rfl)
                clear hk
                have hcv := HCV.out W hbW
                go_simp
                exact ⟨_, rfl, hK _ _ rfl (Below.refl _ _)⟩
              · intro a W hbW hk K hK
                have e0 := kvalT hk 0 (Value.slice (some ⟨ga, oa, none⟩) n c) (by kernel_rfl)
                clear hk
                go_simp
                exact ⟨_, rfl, hK _ _ rfl (Below.refl _ _)⟩
              · intro a W hbW hk K hK
                have e4 := kvalT hk 4 (Value.int .i64 (i : Int)) (by kernel_rfl)
                clear hk
                go_simp
                exact ⟨_, rfl, hK _ _ rfl (Below.refl _ _)⟩
              · intro a W hbW hk K hK
                have e77 := kvalT hk 77 (Value.slice (some ⟨ga, oa, none⟩) n c) (by kernel_rfl)
                have e78 := kvalT hk 78 (Value.int .i64 (i : Int)) (by kernel_rfl)
                clear hk
                go_simp
                exact ⟨_, rfl, hK _ _ rfl (Below.refl _ _)⟩
              · intro a W hbW hk K hK
                have e79 := kvalT hk 79 (Value.pointer (some ⟨ga, oa + i * 4, none⟩)) (by kernel_rfl)
                clear hk
                go_simp
                exact ⟨_, rfl, hK _ _ rfl (Below.refl _ _)⟩
              · intro a W hbW hk K hK
                have e80 := kvalT hk 80 (Value.pointer (some ⟨ga, oa + i * 4 + 2, none⟩)) (by kernel_rfl)
                clear hk
                obtain ⟨a0, a1, a2, a3⟩ := ce_at HS.out HGI.out (HB.out.trans (hbW.mono HB.out.size))
                dsimp only at a0 a1 a2 a3
                go_simp
                exact ⟨_, rfl, hK _ _ rfl (Below.refl _ _)⟩
              · intro a W hbW hk K hK
                have e0 := kvalT hk 0 (Value.slice (some ⟨ga, oa, none⟩) n c) (by kernel_rfl)
                clear hk
                go_simp
                exact ⟨_, rfl, hK _ _ rfl (Below.refl _ _)⟩
              · intro a W hbW hk K hK
                have e4 := kvalT hk 4 (Value.int .i64 (i : Int)) (by kernel_rfl)
                clear hk
                go_simp
                exact ⟨_, rfl, hK _ _ rfl (Below.refl _ _)⟩
              · intro a W hbW hk K hK
                have e82 := kvalT hk 82 (Value.slice (some ⟨ga, oa, none⟩) n c) (by kernel_rfl)
                have e83 := kvalT hk 83 (Value.int .i64 (i : Int)) (by kernel_rfl)
                clear hk
                go_simp
                exact ⟨_, rfl, hK _ _ rfl (Below.refl _ _)⟩
              · intro a W hbW hk K hK
                have e84 := kvalT hk 84 (Value.pointer (some ⟨ga, oa + i * 4, none⟩)) (by kernel_rfl)
                clear hk
                go_simp
                exact ⟨_, rfl, hK _ _ rfl (Below.refl _ _)⟩
              · intro a W hbW hk K hK
                have e85 := kvalT hk 85 (Value.pointer (some ⟨ga, oa + i * 4 + 3, none⟩)) (by kernel_rfl)
                clear hk
                obtain ⟨a0, a1, a2, a3⟩ := ce_at HS.out HGI.out (HB.out.trans (hbW.mono HB.out.size))
                dsimp only at a0 a1 a2 a3
                go_simp
                exact ⟨_, rfl, hK _ _ rfl (Below.refl _ _)⟩
              · intro a W hbW hk K hK
                have e74 := kvalT hk 74 (Value.int .i64 xa) (by kernel_rfl)
                have e76 := kvalT hk 76 (Value.string D) (by kernel_rfl)
                have e81 := kvalT hk 81 (Value.int .i64 xf) (by kernel_rfl)
                have e86 := kvalT hk 86 (Value.int .i64 xt) (by kernel_rfl)
                clear hk
                go_simp
                exact ⟨_, rfl, hK _ _ rfl (Below.refl _ _)⟩
              · intro a W hbW hk K hK
                have e87 := kvalT hk 87 (Value.agg #[.int .i64 xa, .string D, .int .i64 xf, .int .i64 xt]) (by kernel_rfl)
                clear hk
                go_simp
                exact ⟨_, rfl, hK _ _ ⟨W.heap.size, rfl, hbW.size, heap_alloc_new W _⟩ (below_alloc6 W _)⟩
            · intro W9 hb9
              simp only [List.take_succ_cons, List.take_zero, List.drop_succ_cons, List.drop_zero, endT]
              intro gr hgr hcr
              have HO9 := HO.out.kept hb9
              have hB9 := HB.out.trans (hb9.mono HB.out.size)
              have hs9 : w.heap.size ≤ W9.heap.size := hB9.size
              go_simp
              refine wpList_push (E := EPc) pcTy (by rfl) _ _ (by rfl) w.heap.size _ m out [⟨xa, b, xf, xt⟩] (by rfl) HO9.2 gr 1 1 #[.int .i64 xa, .string D, .int .i64 xf, .int .i64 xt] (0, 0) (by rfl) hcr (by rw [HDD.out]; rfl) rfl (by omega) (by omega) (by decide) hs9 ?_
              intro g2 cap2 wz hown hgrow hat hlt2
              have HOz := Lib.hid (HO9.push (ys := [⟨xa, b, xf, xt⟩]) rfl hown)
              have HBz := Lib.hid (HO9.below0 hB9 hs9 (Nat.le_refl _) hgrow)
              clear hown hgrow hat hlt2 HO9 hB9 hs9 hcr hgr hb9 HO HB HBY HCV
              go_wp2_with fail
              go_roundw
              case rel => exact ⟨k, m + 1, cap2, some ⟨g2, 0, none⟩, out ++ [⟨xa, b, xf, xt⟩], rfl, rfl, by omega, by have := HKI.out; omega, HOz, HPZ, HBz⟩
              case measure => simp [intOf]; have := HKI.out; omega
          · have hno : ¬ (ya = s2 ∧ yf = xf ∧ yt = xt) := fun h => by rw [h.2.2] at e3; simp at e3
            have HKI := Lib.hid (HKI.out hno)
            have HPZ := Lib.hid (HPZ.out hno)
            clear hno HDK HBL HS2 HCF HP
            go_upto_region 6 with fail
            refine wp_region_pick (fun w' => Below wr.heap.size wr w') (by kernel_rfl) (by kernel_rfl) (Below.refl _ _) ⟨rfl, rfl, rfl, Nat.le_refl _, fun _ _ => rfl⟩ (fun pw hp hq => ?_)
            have y0 : ∀ u, (pw u).cell? ⟨ga, oa + k * 4, none⟩ = some (.int .i64 ya) := fun u => (ce_at HS.out HGK.out (HB.out.trans ((hp u).mono HB.out.size))).1
            have y2 : ∀ u, (pw u).cell? ⟨ga, oa + k * 4 + 2, none⟩ = some (.int .i64 yf) := fun u => (ce_at HS.out HGK.out (HB.out.trans ((hp u).mono HB.out.size))).2.2.1
            have y3 : ∀ u, (pw u).cell? ⟨ga, oa + k * 4 + 3, none⟩ = some (.int .i64 yt) := fun u => (ce_at HS.out HGK.out (HB.out.trans ((hp u).mono HB.out.size))).2.2.2
            have x0 : ∀ u, (pw u).cell? ⟨ga, oa + i * 4, none⟩ = some (.int .i64 xa) := fun u => (ce_at HS.out HGI.out (HB.out.trans ((hp u).mono HB.out.size))).1
            have x2 : ∀ u, (pw u).cell? ⟨ga, oa + i * 4 + 2, none⟩ = some (.int .i64 xf) := fun u => (ce_at HS.out HGI.out (HB.out.trans ((hp u).mono HB.out.size))).2.2.1
            have x3 : ∀ u, (pw u).cell? ⟨ga, oa + i * 4 + 3, none⟩ = some (.int .i64 xt) := fun u => (ce_at HS.out HGI.out (HB.out.trans ((hp u).mono HB.out.size))).2.2.2
            repeat (go_big_quiet_step (fail))
            refine wpQuiet_nil ?_
            rintro _ ⟨u, rfl⟩
            have hB := HB.out.trans ((hp u).mono HB.out.size)
            have hO := HO.out.kept (hp u)
            have hY := HBY.out.kept (hp u)
            have hZ := (hp u).size
            generalize pw u = wr2 at *
            have HBZ := Lib.hid hZ
            clear hZ
            clear hp hq HB HO HBY y0 y2 y3 x0 x2 x3
            have HB := Lib.hid hB
            have HO := Lib.hid hO
            have HBY := Lib.hid hY
            clear hB hO hY
            have HCV := Lib.hid (fun (W : World) (hbW : Below wr2.heap.size wr2 W) => show (convert 57 9 (.slice A3 m3 c3)).run Try.prog W = .ok (.string D) W from by
              have h := HBY.out.kept hbW
              have h1 := h.1
              have h2 := h.2
              rw [h1, eu8_cells] at h2
              rw [h1, HDD.out]
              exact bs_string (bs_of_own h2))
            go_upto_region 9 with fail
            refine wp_region_specs_tail 20 [.val (Value.slice A2 m c2), .val (Value.slice (some ⟨ga, oa, none⟩) n c), .val (Value.int .i64 (i : Int)), .val (Value.pointer (some ⟨ga, oa + i * 4, none⟩)), .val (Value.pointer (some ⟨ga, oa + i * 4, none⟩)), .val (Value.int .i64 xa), .val (Value.slice A3 m3 c3), .val (Value.string D), .val (Value.slice (some ⟨ga, oa, none⟩) n c), .val (Value.int .i64 (i : Int)), .val (Value.pointer (some ⟨ga, oa + i * 4, none⟩)), .val (Value.pointer (some ⟨ga, oa + i * 4 + 2, none⟩)), .val (Value.int .i64 xf), .val (Value.slice (some ⟨ga, oa, none⟩) n c), .val (Value.int .i64 (i : Int)), .val (Value.pointer (some ⟨ga, oa + i * 4, none⟩)), .val (Value.pointer (some ⟨ga, oa + i * 4 + 3, none⟩)), .val (Value.int .i64 xt), .val (Value.agg #[.int .i64 xa, .string D, .int .i64 xf, .int .i64 xt]), .row #[.int .i64 xa, .string D, .int .i64 xf, .int .i64 xt] 23 1] (by kernel_rfl) (by kernel_rfl) (by kernel_rfl) (by kernel_rfl) (by kernel_rfl) (by kernel_rfl) (by kernel_rfl) (by kernel_rfl) ?_ ?_
            · refine ⟨⟨rfl, ?_⟩, ⟨rfl, ?_⟩, ⟨rfl, ?_⟩, ⟨rfl, ?_⟩, ⟨rfl, ?_⟩, ⟨rfl, ?_⟩, ⟨rfl, ?_⟩, ⟨rfl, ?_⟩, ⟨rfl, ?_⟩, ⟨rfl, ?_⟩, ⟨rfl, ?_⟩, ⟨rfl, ?_⟩, ⟨rfl, ?_⟩, ⟨rfl, ?_⟩, ⟨rfl, ?_⟩, ⟨rfl, ?_⟩, ⟨rfl, ?_⟩, ⟨rfl, ?_⟩, ⟨rfl, ?_⟩, ⟨rfl, ?_⟩, trivial⟩
              · intro a W hbW hk K hK
                have e3 := kvalT hk 3 (Value.slice A2 m c2) (by kernel_rfl)
                clear hk
                go_simp
                exact ⟨_, rfl, hK _ _ rfl (Below.refl _ _)⟩
              · intro a W hbW hk K hK
                have e0 := kvalT hk 0 (Value.slice (some ⟨ga, oa, none⟩) n c) (by kernel_rfl)
                clear hk
                go_simp
                exact ⟨_, rfl, hK _ _ rfl (Below.refl _ _)⟩
              · intro a W hbW hk K hK
                have e4 := kvalT hk 4 (Value.int .i64 (i : Int)) (by kernel_rfl)
                clear hk
                go_simp
                exact ⟨_, rfl, hK _ _ rfl (Below.refl _ _)⟩
              · intro a W hbW hk K hK
                have e70 := kvalT hk 70 (Value.slice (some ⟨ga, oa, none⟩) n c) (by kernel_rfl)
                have e71 := kvalT hk 71 (Value.int .i64 (i : Int)) (by kernel_rfl)
                clear hk
                go_simp
                exact ⟨_, rfl, hK _ _ rfl (Below.refl _ _)⟩
              · intro a W hbW hk K hK
                have e72 := kvalT hk 72 (Value.pointer (some ⟨ga, oa + i * 4, none⟩)) (by kernel_rfl)
                clear hk
                go_simp
                exact ⟨_, rfl, hK _ _ rfl (Below.refl _ _)⟩
              · intro a W hbW hk K hK
                have e73 := kvalT hk 73 (Value.pointer (some ⟨ga, oa + i * 4, none⟩)) (by kernel_rfl)
                clear hk
                obtain ⟨a0, a1, a2, a3⟩ := ce_at HS.out HGI.out (HB.out.trans (hbW.mono HB.out.size))
                dsimp only at a0 a1 a2 a3
                go_simp
                exact ⟨_, rfl, hK _ _ rfl (Below.refl _ _)⟩
              · intro a W hbW hk K hK
                have e6 := kvalT hk 6 (Value.slice A3 m3 c3) (by kernel_rfl)
                clear hk
                go_simp
                exact ⟨_, rfl, hK _ _ rfl (Below.refl _ _)⟩
              · intro a W hbW hk K hK
                have e75 := kvalT hk 75 (Value.slice A3 m3 c3) (by kernel_rfl)
                clear hk
                have hcv := HCV.out W hbW
                go_simp
                exact ⟨_, rfl, hK _ _ rfl (Below.refl _ _)⟩
              · intro a W hbW hk K hK
                have e0 := kvalT hk 0 (Value.slice (some ⟨ga, oa, none⟩) n c) (by kernel_rfl)
                clear hk
                go_simp
                exact ⟨_, rfl, hK _ _ rfl (Below.refl _ _)⟩
              · intro a W hbW hk K hK
                have e4 := kvalT hk 4 (Value.int .i64 (i : Int)) (by kernel_rfl)
                clear hk
                go_simp
                exact ⟨_, rfl, hK _ _ rfl (Below.refl _ _)⟩
              · intro a W hbW hk K hK
                have e77 := kvalT hk 77 (Value.slice (some ⟨ga, oa, none⟩) n c) (by kernel_rfl)
                have e78 := kvalT hk 78 (Value.int .i64 (i : Int)) (by kernel_rfl)
                clear hk
                go_simp
                exact ⟨_, rfl, hK _ _ rfl (Below.refl _ _)⟩
              · intro a W hbW hk K hK
                have e79 := kvalT hk 79 (Value.pointer (some ⟨ga, oa + i * 4, none⟩)) (by kernel_rfl)
                clear hk
                go_simp
                exact ⟨_, rfl, hK _ _ rfl (Below.refl _ _)⟩
              · intro a W hbW hk K hK
                have e80 := kvalT hk 80 (Value.pointer (some ⟨ga, oa + i * 4 + 2, none⟩)) (by kernel_rfl)
                clear hk
                obtain ⟨a0, a1, a2, a3⟩ := ce_at HS.out HGI.out (HB.out.trans (hbW.mono HB.out.size))
                dsimp only at a0 a1 a2 a3
                go_simp
                exact ⟨_, rfl, hK _ _ rfl (Below.refl _ _)⟩
              · intro a W hbW hk K hK
                have e0 := kvalT hk 0 (Value.slice (some ⟨ga, oa, none⟩) n c) (by kernel_rfl)
                clear hk
                go_simp
                exact ⟨_, rfl, hK _ _ rfl (Below.refl _ _)⟩
              · intro a W hbW hk K hK
                have e4 := kvalT hk 4 (Value.int .i64 (i : Int)) (by kernel_rfl)
                clear hk
                go_simp
                exact ⟨_, rfl, hK _ _ rfl (Below.refl _ _)⟩
              · intro a W hbW hk K hK
                have e82 := kvalT hk 82 (Value.slice (some ⟨ga, oa, none⟩) n c) (by kernel_rfl)
                have e83 := kvalT hk 83 (Value.int .i64 (i : Int)) (by kernel_rfl)
                clear hk
                go_simp
                exact ⟨_, rfl, hK _ _ rfl (Below.refl _ _)⟩
              · intro a W hbW hk K hK
                have e84 := kvalT hk 84 (Value.pointer (some ⟨ga, oa + i * 4, none⟩)) (by kernel_rfl)
                clear hk
                go_simp
                exact ⟨_, rfl, hK _ _ rfl (Below.refl _ _)⟩
              · intro a W hbW hk K hK
                have e85 := kvalT hk 85 (Value.pointer (some ⟨ga, oa + i * 4 + 3, none⟩)) (by kernel_rfl)
                clear hk
                obtain ⟨a0, a1, a2, a3⟩ := ce_at HS.out HGI.out (HB.out.trans (hbW.mono HB.out.size))
                dsimp only at a0 a1 a2 a3
                go_simp
                exact ⟨_, rfl, hK _ _ rfl (Below.refl _ _)⟩
              · intro a W hbW hk K hK
                have e74 := kvalT hk 74 (Value.int .i64 xa) (by kernel_rfl)
                have e76 := kvalT hk 76 (Value.string D) (by kernel_rfl)
                have e81 := kvalT hk 81 (Value.int .i64 xf) (by kernel_rfl)
                have e86 := kvalT hk 86 (Value.int .i64 xt) (by kernel_rfl)
                clear hk
                go_simp
                exact ⟨_, rfl, hK _ _ rfl (Below.refl _ _)⟩
              · intro a W hbW hk K hK
                have e87 := kvalT hk 87 (Value.agg #[.int .i64 xa, .string D, .int .i64 xf, .int .i64 xt]) (by kernel_rfl)
                clear hk
                go_simp
                exact ⟨_, rfl, hK _ _ ⟨W.heap.size, rfl, hbW.size, heap_alloc_new W _⟩ (below_alloc6 W _)⟩
            · intro W9 hb9
              simp only [List.take_succ_cons, List.take_zero, List.drop_succ_cons, List.drop_zero, endT]
              intro gr hgr hcr
              have HO9 := HO.out.kept hb9
              have hB9 := HB.out.trans (hb9.mono HB.out.size)
              have hs9 : w.heap.size ≤ W9.heap.size := hB9.size
              go_simp
              refine wpList_push (E := EPc) pcTy (by rfl) _ _ (by rfl) w.heap.size _ m out [⟨xa, b, xf, xt⟩] (by rfl) HO9.2 gr 1 1 #[.int .i64 xa, .string D, .int .i64 xf, .int .i64 xt] (0, 0) (by rfl) hcr (by rw [HDD.out]; rfl) rfl (by omega) (by omega) (by decide) hs9 ?_
              intro g2 cap2 wz hown hgrow hat hlt2
              have HOz := Lib.hid (HO9.push (ys := [⟨xa, b, xf, xt⟩]) rfl hown)
              have HBz := Lib.hid (HO9.below0 hB9 hs9 (Nat.le_refl _) hgrow)
              clear hown hgrow hat hlt2 HO9 hB9 hs9 hcr hgr hb9 HO HB HBY HCV
              go_wp2_with fail
              go_roundw
              case rel => exact ⟨k, m + 1, cap2, some ⟨g2, 0, none⟩, out ++ [⟨xa, b, xf, xt⟩], rfl, rfl, by omega, by have := HKI.out; omega, HOz, HPZ, HBz⟩
              case measure => simp [intOf]; have := HKI.out; omega
          · have HNX := Lib.hid (show celF xf xt xa (b ++ [yc]) ++ l.drop (k + 1) = l.drop i by
              have q1 : ya = s2 := by simpa using e1
              have q2 : yf = xf := by simpa using e2
              have q3 : yt = xt := by simpa using e3
              rw [← HCF.out, HDK.out, celF_append, List.append_assoc]
              show celF xf xt xa b ++ (⟨xa + (b.length : Int), yc, xf, xt⟩ :: l.drop (k + 1)) = _
              rw [HBL.out, ← HS2.out, q1, q2, q3])
            clear HKI HPZ HDK HBL HS2 HCF
            go_upto_region 6 with fail
            refine wp_region_pick (fun w' => Below wr.heap.size wr w') (by kernel_rfl) (by kernel_rfl) (Below.refl _ _) ⟨rfl, rfl, rfl, Nat.le_refl _, fun _ _ => rfl⟩ (fun pw hp hq => ?_)
            have y0 : ∀ u, (pw u).cell? ⟨ga, oa + k * 4, none⟩ = some (.int .i64 ya) := fun u => (ce_at HS.out HGK.out (HB.out.trans ((hp u).mono HB.out.size))).1
            have y2 : ∀ u, (pw u).cell? ⟨ga, oa + k * 4 + 2, none⟩ = some (.int .i64 yf) := fun u => (ce_at HS.out HGK.out (HB.out.trans ((hp u).mono HB.out.size))).2.2.1
            have y3 : ∀ u, (pw u).cell? ⟨ga, oa + k * 4 + 3, none⟩ = some (.int .i64 yt) := fun u => (ce_at HS.out HGK.out (HB.out.trans ((hp u).mono HB.out.size))).2.2.2
            have x0 : ∀ u, (pw u).cell? ⟨ga, oa + i * 4, none⟩ = some (.int .i64 xa) := fun u => (ce_at HS.out HGI.out (HB.out.trans ((hp u).mono HB.out.size))).1
            have x2 : ∀ u, (pw u).cell? ⟨ga, oa + i * 4 + 2, none⟩ = some (.int .i64 xf) := fun u => (ce_at HS.out HGI.out (HB.out.trans ((hp u).mono HB.out.size))).2.2.1
            have x3 : ∀ u, (pw u).cell? ⟨ga, oa + i * 4 + 3, none⟩ = some (.int .i64 xt) := fun u => (ce_at HS.out HGI.out (HB.out.trans ((hp u).mono HB.out.size))).2.2.2
            repeat (go_big_quiet_step (fail))
            refine wpQuiet_nil ?_
            rintro _ ⟨u, rfl⟩
            have hB := HB.out.trans ((hp u).mono HB.out.size)
            have hO := HO.out.kept (hp u)
            have hY := HBY.out.kept (hp u)
            have hZ := (hp u).size
            generalize pw u = wr2 at *
            have HBZ := Lib.hid hZ
            clear hZ
            clear hp hq HB HO HBY y0 y2 y3 x0 x2 x3
            have HB := Lib.hid hB
            have HO := Lib.hid hO
            have HBY := Lib.hid hY
            clear hB hO hY
            obtain ⟨a0, a1, a2, a3⟩ := ce_at HS.out HGK.out HB.out
            dsimp only at a0 a1 a2 a3
            have hszb : bs ≤ wr2.heap.size := by
              have h1 := HBW.out
              have h2 := HBZ.out
              omega
            go_wp2_with (at_builtin; refine wpList_push (E := EU8) u8Ty10 (by rfl) _ _ (by rfl) bs _ m3 b [yc] (by rfl) (HBY.out.al _).2 _ 1 1 #[.int .u8 (yc.toNat : Int)] (0, 0) (by rfl) (heap_alloc_new wr2 _) (by rfl) rfl (by omega) (by omega) (by decide) ?hb ?_)
            case hb => first | (simp; omega) | omega | exact Nat.le_trans hszb (by simp)
            intro g2 cap2 wz hown hgrow hat hlt3
            have HBY9 := Lib.hid (HBY.out.push (ys := [yc]) rfl hown)
            have HB9 := Lib.hid (HBY.out.below HB.out (Nat.le_trans HBS.out.1 hszb) HBS.out.1 hgrow)
            have HO9 := Lib.hid (show OwnE EPc 23 wz w.heap.size A2 m c2 out from ⟨HO.out.1, own_only (HO.out.al _).2 hgrow (fun j hj q => by
              have h1 := HOB.out j hj
              have h2 := (HBY.out.2.lt j q.symm).1
              omega)⟩)
            have HBW9 := Lib.hid (show bs ≤ wz.heap.size by have := hgrow.size; simp at this; omega)
            clear hown hgrow hat hlt3 HO HB HBY HBW HBZ a0 a1 a2 a3 hszb
            go_wp2_with fail
            go_roundw
            case rel => exact ⟨k + 1, m3 + 1, cap2, some ⟨g2, 0, none⟩, b ++ [yc], by go_num, rfl, by omega, by omega, by omega, HBY9, HNX, HO9, HB9, HBW9⟩
            case measure => simp [intOf]; omega
        · obtain rfl : k = n := by omega
          have dlt2 : decide ((k : Int) < (k : Int)) = false := by simp
          have HKI := Lib.hid (show i < k from hlt)
          have HPZ := Lib.hid (show PcI l (out ++ [⟨xa, b, xf, xt⟩]) k from
            pcs_step (x := ⟨xa, xc, xf, xt⟩) HP.out HCF.out (fun e => by have h1 := HBY.out.1; rw [e] at h1; simp at h1; omega) (fun y r hy => by rw [HN.out, List.drop_length] at hy; cases hy))
          clear HCF HP
          go_upto_region 6 with fail
          refine wp_region_pick (fun w' => Below wr.heap.size wr w') (by kernel_rfl) (by kernel_rfl) (Below.refl _ _) ⟨rfl, rfl, rfl, Nat.le_refl _, fun _ _ => rfl⟩ (fun pw hp hq => ?_)
          repeat (go_big_quiet_step (fail))
          refine wpQuiet_nil ?_
          rintro _ ⟨u, rfl⟩
          have hB := HB.out.trans ((hp u).mono HB.out.size)
          have hO := HO.out.kept (hp u)
          have hY := HBY.out.kept (hp u)
          have hZ := (hp u).size
          generalize pw u = wr2 at *
          have HBZ := Lib.hid hZ
          clear hZ
          clear hp hq HB HO HBY
          have HB := Lib.hid hB
          have HO := Lib.hid hO
          have HBY := Lib.hid hY
          clear hB hO hY
          have HCV := Lib.hid (fun (W : World) (hbW : Below wr2.heap.size wr2 W) => show (convert 57 9 (.slice A3 m3 c3)).run Try.prog W = .ok (.string D) W from by
            have h := HBY.out.kept hbW
            have h1 := h.1
            have h2 := h.2
            rw [h1, eu8_cells] at h2
            rw [h1, HDD.out]
            exact bs_string (bs_of_own h2))
          go_upto_region 9 with fail
          refine wp_region_specs_tail 20 [.val (Value.slice A2 m c2), .val (Value.slice (some ⟨ga, oa, none⟩) k c), .val (Value.int .i64 (i : Int)), .val (Value.pointer (some ⟨ga, oa + i * 4, none⟩)), .val (Value.pointer (some ⟨ga, oa + i * 4, none⟩)), .val (Value.int .i64 xa), .val (Value.slice A3 m3 c3), .val (Value.string D), .val (Value.slice (some ⟨ga, oa, none⟩) k c), .val (Value.int .i64 (i : Int)), .val (Value.pointer (some ⟨ga, oa + i * 4, none⟩)), .val (Value.pointer (some ⟨ga, oa + i * 4 + 2, none⟩)), .val (Value.int .i64 xf), .val (Value.slice (some ⟨ga, oa, none⟩) k c), .val (Value.int .i64 (i : Int)), .val (Value.pointer (some ⟨ga, oa + i * 4, none⟩)), .val (Value.pointer (some ⟨ga, oa + i * 4 + 3, none⟩)), .val (Value.int .i64 xt), .val (Value.agg #[.int .i64 xa, .string D, .int .i64 xf, .int .i64 xt]), .row #[.int .i64 xa, .string D, .int .i64 xf, .int .i64 xt] 23 1] (by kernel_rfl) (by kernel_rfl) (by kernel_rfl) (by kernel_rfl) (by kernel_rfl) (by kernel_rfl) (by kernel_rfl) (by kernel_rfl) ?_ ?_
          · refine ⟨⟨rfl, ?_⟩, ⟨rfl, ?_⟩, ⟨rfl, ?_⟩, ⟨rfl, ?_⟩, ⟨rfl, ?_⟩, ⟨rfl, ?_⟩, ⟨rfl, ?_⟩, ⟨rfl, ?_⟩, ⟨rfl, ?_⟩, ⟨rfl, ?_⟩, ⟨rfl, ?_⟩, ⟨rfl, ?_⟩, ⟨rfl, ?_⟩, ⟨rfl, ?_⟩, ⟨rfl, ?_⟩, ⟨rfl, ?_⟩, ⟨rfl, ?_⟩, ⟨rfl, ?_⟩, ⟨rfl, ?_⟩, ⟨rfl, ?_⟩, trivial⟩
            · intro a W hbW hk K hK
              have e3 := kvalT hk 3 (Value.slice A2 m c2) (by kernel_rfl)
              clear hk
              go_simp
              exact ⟨_, rfl, hK _ _ rfl (Below.refl _ _)⟩
            · intro a W hbW hk K hK
              have e0 := kvalT hk 0 (Value.slice (some ⟨ga, oa, none⟩) k c) (by kernel_rfl)
              clear hk
              go_simp
              exact ⟨_, rfl, hK _ _ rfl (Below.refl _ _)⟩
            · intro a W hbW hk K hK
              have e4 := kvalT hk 4 (Value.int .i64 (i : Int)) (by kernel_rfl)
              clear hk
              go_simp
              exact ⟨_, rfl, hK _ _ rfl (Below.refl _ _)⟩
            · intro a W hbW hk K hK
              have e70 := kvalT hk 70 (Value.slice (some ⟨ga, oa, none⟩) k c) (by kernel_rfl)
              have e71 := kvalT hk 71 (Value.int .i64 (i : Int)) (by kernel_rfl)
              clear hk
              go_simp
              exact ⟨_, rfl, hK _ _ rfl (Below.refl _ _)⟩
            · intro a W hbW hk K hK
              have e72 := kvalT hk 72 (Value.pointer (some ⟨ga, oa + i * 4, none⟩)) (by kernel_rfl)
              clear hk
              go_simp
              exact ⟨_, rfl, hK _ _ rfl (Below.refl _ _)⟩
            · intro a W hbW hk K hK
              have e73 := kvalT hk 73 (Value.pointer (some ⟨ga, oa + i * 4, none⟩)) (by kernel_rfl)
              clear hk
              obtain ⟨a0, a1, a2, a3⟩ := ce_at HS.out HGI.out (HB.out.trans (hbW.mono HB.out.size))
              dsimp only at a0 a1 a2 a3
              go_simp
              exact ⟨_, rfl, hK _ _ rfl (Below.refl _ _)⟩
            · intro a W hbW hk K hK
              have e6 := kvalT hk 6 (Value.slice A3 m3 c3) (by kernel_rfl)
              clear hk
              go_simp
              exact ⟨_, rfl, hK _ _ rfl (Below.refl _ _)⟩
            · intro a W hbW hk K hK
              have e75 := kvalT hk 75 (Value.slice A3 m3 c3) (by kernel_rfl)
              clear hk
              have hcv := HCV.out W hbW
              go_simp
              exact ⟨_, rfl, hK _ _ rfl (Below.refl _ _)⟩
            · intro a W hbW hk K hK
              have e0 := kvalT hk 0 (Value.slice (some ⟨ga, oa, none⟩) k c) (by kernel_rfl)
              clear hk
              go_simp
              exact ⟨_, rfl, hK _ _ rfl (Below.refl _ _)⟩
            · intro a W hbW hk K hK
              have e4 := kvalT hk 4 (Value.int .i64 (i : Int)) (by kernel_rfl)
              clear hk
              go_simp
              exact ⟨_, rfl, hK _ _ rfl (Below.refl _ _)⟩
            · intro a W hbW hk K hK
              have e77 := kvalT hk 77 (Value.slice (some ⟨ga, oa, none⟩) k c) (by kernel_rfl)
              have e78 := kvalT hk 78 (Value.int .i64 (i : Int)) (by kernel_rfl)
              clear hk
              go_simp
              exact ⟨_, rfl, hK _ _ rfl (Below.refl _ _)⟩
            · intro a W hbW hk K hK
              have e79 := kvalT hk 79 (Value.pointer (some ⟨ga, oa + i * 4, none⟩)) (by kernel_rfl)
              clear hk
              go_simp
              exact ⟨_, rfl, hK _ _ rfl (Below.refl _ _)⟩
            · intro a W hbW hk K hK
              have e80 := kvalT hk 80 (Value.pointer (some ⟨ga, oa + i * 4 + 2, none⟩)) (by kernel_rfl)
              clear hk
              obtain ⟨a0, a1, a2, a3⟩ := ce_at HS.out HGI.out (HB.out.trans (hbW.mono HB.out.size))
              dsimp only at a0 a1 a2 a3
              go_simp
              exact ⟨_, rfl, hK _ _ rfl (Below.refl _ _)⟩
            · intro a W hbW hk K hK
              have e0 := kvalT hk 0 (Value.slice (some ⟨ga, oa, none⟩) k c) (by kernel_rfl)
              clear hk
              go_simp
              exact ⟨_, rfl, hK _ _ rfl (Below.refl _ _)⟩
            · intro a W hbW hk K hK
              have e4 := kvalT hk 4 (Value.int .i64 (i : Int)) (by kernel_rfl)
              clear hk
              go_simp
              exact ⟨_, rfl, hK _ _ rfl (Below.refl _ _)⟩
            · intro a W hbW hk K hK
              have e82 := kvalT hk 82 (Value.slice (some ⟨ga, oa, none⟩) k c) (by kernel_rfl)
              have e83 := kvalT hk 83 (Value.int .i64 (i : Int)) (by kernel_rfl)
              clear hk
              go_simp
              exact ⟨_, rfl, hK _ _ rfl (Below.refl _ _)⟩
            · intro a W hbW hk K hK
              have e84 := kvalT hk 84 (Value.pointer (some ⟨ga, oa + i * 4, none⟩)) (by kernel_rfl)
              clear hk
              go_simp
              exact ⟨_, rfl, hK _ _ rfl (Below.refl _ _)⟩
            · intro a W hbW hk K hK
              have e85 := kvalT hk 85 (Value.pointer (some ⟨ga, oa + i * 4 + 3, none⟩)) (by kernel_rfl)
              clear hk
              obtain ⟨a0, a1, a2, a3⟩ := ce_at HS.out HGI.out (HB.out.trans (hbW.mono HB.out.size))
              dsimp only at a0 a1 a2 a3
              go_simp
              exact ⟨_, rfl, hK _ _ rfl (Below.refl _ _)⟩
            · intro a W hbW hk K hK
              have e74 := kvalT hk 74 (Value.int .i64 xa) (by kernel_rfl)
              have e76 := kvalT hk 76 (Value.string D) (by kernel_rfl)
              have e81 := kvalT hk 81 (Value.int .i64 xf) (by kernel_rfl)
              have e86 := kvalT hk 86 (Value.int .i64 xt) (by kernel_rfl)
              clear hk
              go_simp
              exact ⟨_, rfl, hK _ _ rfl (Below.refl _ _)⟩
            · intro a W hbW hk K hK
              have e87 := kvalT hk 87 (Value.agg #[.int .i64 xa, .string D, .int .i64 xf, .int .i64 xt]) (by kernel_rfl)
              clear hk
              go_simp
              exact ⟨_, rfl, hK _ _ ⟨W.heap.size, rfl, hbW.size, heap_alloc_new W _⟩ (below_alloc6 W _)⟩
          · intro W9 hb9
            simp only [List.take_succ_cons, List.take_zero, List.drop_succ_cons, List.drop_zero, endT]
            intro gr hgr hcr
            have HO9 := HO.out.kept hb9
            have hB9 := HB.out.trans (hb9.mono HB.out.size)
            have hs9 : w.heap.size ≤ W9.heap.size := hB9.size
            go_simp
            refine wpList_push (E := EPc) pcTy (by rfl) _ _ (by rfl) w.heap.size _ m out [⟨xa, b, xf, xt⟩] (by rfl) HO9.2 gr 1 1 #[.int .i64 xa, .string D, .int .i64 xf, .int .i64 xt] (0, 0) (by rfl) hcr (by rw [HDD.out]; rfl) rfl (by omega) (by omega) (by decide) hs9 ?_
            intro g2 cap2 wz hown hgrow hat hlt2
            have HOz := Lib.hid (HO9.push (ys := [⟨xa, b, xf, xt⟩]) rfl hown)
            have HBz := Lib.hid (HO9.below0 hB9 hs9 (Nat.le_refl _) hgrow)
            clear hown hgrow hat hlt2 HO9 hB9 hs9 hcr hgr hb9 HO HB HBY HCV
            go_wp2_with fail
            go_roundw
            case rel => exact ⟨k, m + 1, cap2, some ⟨g2, 0, none⟩, out ++ [⟨xa, b, xf, xt⟩], rfl, rfl, by omega, by have := HKI.out; omega, HOz, HPZ, HBz⟩
            case measure => simp [intOf]; have := HKI.out; omega
    · obtain rfl : i = n := by omega
      have hd : decide ((i : Int) < (i : Int)) = false := by simp
      have HE := Lib.hid (show out = pcs l by have := HP.out; unfold PcI at this; rwa [HN.out, List.drop_length, show pcs [] = [] from rfl, List.append_nil] at this)
      go_wp2_with fail
      go_ret
      exact ⟨A2, c2, by rw [← HE.out, HO.out.1]; rfl, by rw [← HE.out]; exact HO.out.row, HO.out.none0, fun q hq => by subst hq; exact (HO.out.2.lt q.block (by rfl)).1, HB.out⟩
end Go.Proofs.Ytafpmlikocchpaa
