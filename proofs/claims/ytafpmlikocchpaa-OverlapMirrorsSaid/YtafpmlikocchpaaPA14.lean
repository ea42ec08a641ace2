/- Contracts of the functions, part 14: OvPut, Eu8. -/
import Derived.Test.YtafpmlikocchpaaPA2
import Derived.Test.YtafpmlikocchpaaPA3
import Derived.Test.YtafpmlikocchpaaPA4
import Derived.Test.YtafpmlikocchpaaPA6
import Derived.Test.YtafpmlikocchpaaPA13
/- Contract of the reference of layer 15: put. -/
namespace Go.Proofs.Ytafpmlikocchpaa
open Go.ChangeShapes Go.WideShapes Go.ChangeAt Go.RowKit
set_option linter.unusedVariables false
set_option maxRecDepth 100000

theorem putC_here {x : CeR} : ∀ {c : List CeR} {k : Nat} {y : CeR}, (∀ z ∈ c.take k, ¬ x.at_ < z.at_) → c[k]? = some y → x.at_ < y.at_ → putC x c = c.take k ++ x :: c.drop k
  | [], k, y, _, h, _ => by simp at h
  | z :: r, 0, y, _, h, hy => by
    obtain rfl := Option.some.inj h
    unfold putC
    rw [if_pos hy]
    rfl
  | z :: r, k + 1, y, hn, h, hy => by
    unfold putC
    rw [if_neg (hn z (by simp)), putC_here (c := r) (k := k) (fun q hq => hn q (by simp [hq])) (by simpa using h) hy]
    rfl
theorem putC_last {x : CeR} : ∀ {c : List CeR}, (∀ z ∈ c, ¬ x.at_ < z.at_) → putC x c = c ++ [x]
  | [], _ => rfl
  | z :: r, hn => by
    unfold putC
    rw [if_neg (hn z (by simp)), putC_last (fun q hq => hn q (by simp [hq]))]
    rfl
theorem putC_len (x : CeR) : ∀ c : List CeR, (putC x c).length = c.length + 1
  | [] => rfl
  | z :: r => by
    unfold putC
    split
    · rfl
    · rw [List.length_cons, putC_len x r, List.length_cons]
/-- Where put stands. -/
def PutI (x : CeR) (l out : List CeR) (k : Nat) (d : Bool) : Prop := (d = false ∧ out = l.take k ∧ ∀ z ∈ l.take k, ¬ x.at_ < z.at_) ∨ (d = true ∧ out ++ l.drop k = putC x l)
set_option maxHeartbeats 8000000 in
set_option maxRecDepth 100000 in
theorem rput15_any (l : List CeR) (A : Option Addr) (c : Nat) (xa : Int) (xc : UInt8) (xf xt : Int) (w : World) (h : RowL ECe w A l) (hl : l.length ≤ 100000) :
    Calls Try.prog 34 #[.slice A l.length c, .agg #[.int .i64 xa, .int .u8 (xc.toNat : Int), .int .i64 xf, .int .i64 xt]] w (CesP w (putC ⟨xa, xc, xf, xt⟩ l)) := by
  obtain ⟨n, hnl⟩ : ∃ n, n = l.length := ⟨_, rfl⟩
  rw [← hnl] at hl ⊢
  have HN := Lib.hid hnl
  have HS := Lib.hid h
  obtain ⟨W0, hW0⟩ : ∃ W, W = w.alloc (.cells #[.int .i64 xa, .int .u8 (xc.toNat : Int), .int .i64 xf, .int .i64 xt] 51) := ⟨_, rfl⟩
  obtain ⟨gx, hgx⟩ : ∃ g, g = w.heap.size := ⟨_, rfl⟩
  have HX0 := Lib.hid (show Cells W0 gx 51 #[.int .i64 xa, .int .u8 (xc.toNat : Int), .int .i64 xf, .int .i64 xt] by rw [hW0, hgx]; exact heap_alloc_new w _)
  have HB0 := Lib.hid (show Below w.heap.size w W0 by rw [hW0]; exact below_alloc6 w _)
  have HO0 := Lib.hid (OwnE.nil (E := ECe) (e := 51) W0 (w.heap.size + 1))
  have HGX := Lib.hid hgx
  have HW0 := Lib.hid hW0
  clear hnl h hW0 hgx
  go_enter Try.func34, Try.ntmps34
  go_wp2_with fail
  rw [← HW0.out, ← HGX.out]
  clear HW0
  go_loopw [5, 6, 7] (fun s dn i wr => ∃ (k m c2 : Nat) (A2 : Option Addr) (d : Bool) (out : List CeR), s = .slice A2 m c2 ∧ dn = .bool d ∧ i = .int .i64 (k : Int) ∧ k ≤ n ∧ m ≤ k + 1 ∧ Hid (PutI ⟨xa, xc, xf, xt⟩ l out k d) ∧ Hid (OwnE ECe 51 wr (w.heap.size + 1) A2 m c2 out) ∧ Hid (Below w.heap.size w wr) ∧ Hid (Cells wr gx 51 #[.int .i64 xa, .int .u8 (xc.toNat : Int), .int .i64 xf, .int .i64 xt])) (fun _ _ i _ => n - (intOf i).toNat)
  case atStart => exact ⟨0, 0, 0, none, false, [], rfl, rfl, rfl, Nat.zero_le _, by omega, Lib.hid (.inl ⟨rfl, rfl, fun z hz => by simp at hz⟩), HO0, HB0, HX0⟩
  case round =>
    clear HO0 HB0 HX0
    obtain ⟨k, m, c2, A2, d, out, rfl, rfl, rfl, hk, hmk, HI, HO, HB, HX⟩ := hrel
    have hgw : gx = w.heap.size := HGX.out
    have hsz : w.heap.size + 1 ≤ wr.heap.size := by have := HX.out.lt; omega
    clear hgw
    by_cases hlt : k < n
    · obtain ⟨y, hget⟩ : ∃ x, l[k]? = some x := ⟨l[k]'(by have := HN.out; omega), List.getElem?_eq_getElem _⟩
      obtain ⟨ga, oa, rfl, hga⟩ := HS.out.shapeA (by have := HN.out; omega)
      have hki : (k : Int) < (n : Int) := by omega
      have dlt : decide ((k : Int) < (n : Int)) = true := by simp; omega
      have hki0 : (0 : Int) ≤ (k : Int) := by omega
      have hdr : l.drop k = y :: l.drop (k + 1) := by
        obtain ⟨hk', e⟩ := List.getElem?_eq_some_iff.1 hget
        rw [List.drop_eq_getElem_cons hk', e]
      have htk : l.take (k + 1) = l.take k ++ [y] := by
        obtain ⟨hk', e⟩ := List.getElem?_eq_some_iff.1 hget
        rw [List.take_succ_eq_append_getElem hk', e]
      obtain ⟨ya, yc, yf, yt⟩ := y
      have HGET := Lib.hid hget
      have HDR := Lib.hid hdr
      have HTK := Lib.hid htk
      clear hget hdr htk
      cases d with
      | true =>
        have HI1 := Lib.hid (show PutI ⟨xa, xc, xf, xt⟩ l (out ++ [⟨ya, yc, yf, yt⟩]) (k + 1) true by
          rcases HI.out with h | h
          · cases h.1
          · exact .inr ⟨rfl, by rw [List.append_assoc]; show out ++ (⟨ya, yc, yf, yt⟩ :: l.drop (k + 1)) = _; rw [← HDR.out]; exact h.2⟩)
        clear HI HDR HTK
        go_upto_region 6 with fail
        refine wp_region_pick (fun w' => Below wr.heap.size wr w') (by kernel_rfl) (by kernel_rfl) (Below.refl _ _) ⟨rfl, rfl, rfl, Nat.le_refl _, fun _ _ => rfl⟩ (fun pw hp hq => ?_)
        repeat (go_big_quiet_step (fail))
        refine wpQuiet_nil ?_
        rintro _ ⟨u, rfl⟩
        have hB := HB.out.trans ((hp u).mono HB.out.size)
        have hO := HO.out.kept (hp u)
        have hX := Cells.kept HX.out (hp u) HX.out.lt
        generalize pw u = wr2 at *
        clear hp hq HB HO HX hsz
        have HB := Lib.hid hB
        have HO := Lib.hid hO
        have HX := Lib.hid hX
        clear hB hO hX
        have hsz : w.heap.size + 1 ≤ wr2.heap.size := by have := HX.out.lt; have := HGX.out; omega
        obtain ⟨a0, a1, a2, a3⟩ := ce_at HS.out HGET.out HB.out
        dsimp only at a0 a1 a2 a3
        go_wp2_with (at_builtin; refine wpList_push (E := ECe) ceTy (by rfl) _ _ (by rfl) (w.heap.size + 1) _ m out [⟨ya, yc, yf, yt⟩] (by rfl) (HO.out.al _).2 _ 1 1 #[.int .i64 ya, .int .u8 (yc.toNat : Int), .int .i64 yf, .int .i64 yt] (0, 0) (by rfl) (heap_alloc_new wr2 _) (by rfl) rfl (by omega) (by omega) (by decide) ?hb ?_)
        case hb => first | (simp; omega) | omega | exact Nat.le_trans hsz (by simp)
        intro g2 cap2 wz hown hgrow hat hlt2
        have hgw : gx = w.heap.size := HGX.out
        have HO9 := Lib.hid (HO.out.push rfl hown)
        have HB9 := Lib.hid (HO.out.below HB.out (by omega) (Nat.le_succ _) hgrow)
        have HX9 := Lib.hid (show Cells wz gx 51 #[.int .i64 xa, .int .u8 (xc.toNat : Int), .int .i64 xf, .int .i64 xt] from (HO.out.far hgrow (by omega) (by simp; omega)).trans (Cells.kept HX.out (below_alloc6 wr2 _) HX.out.lt))
        clear hown hgrow hat hlt2 HO HB HX
        go_wp2_with fail
        go_roundw
        case rel => exact ⟨k + 1, m + 1, cap2, some ⟨g2, 0, none⟩, true, out ++ [⟨ya, yc, yf, yt⟩], rfl, rfl, by go_num, by omega, by omega, HI1, HO9, HB9, HX9⟩
        case measure => simp [intOf]; omega
      | false =>
        cases hgt : decide (xa < ya) with
        | false =>
          have ngt : ¬ xa < ya := of_decide_eq_false hgt
          have HI1 := Lib.hid (show PutI ⟨xa, xc, xf, xt⟩ l (out ++ [⟨ya, yc, yf, yt⟩]) (k + 1) false by
            rcases HI.out with h | h
            · refine .inl ⟨rfl, by rw [HTK.out, h.2.1], fun z hz => ?_⟩
              rw [HTK.out] at hz
              rcases List.mem_append.1 hz with hz | hz
              · exact h.2.2 z hz
              · obtain rfl := List.mem_singleton.1 hz
                exact ngt
            · cases h.1)
          clear HI HDR HTK
          go_upto_region 6 with fail
          refine wp_region_pick (fun w' => Below wr.heap.size wr w') (by kernel_rfl) (by kernel_rfl) (Below.refl _ _) ⟨rfl, rfl, rfl, Nat.le_refl _, fun _ _ => rfl⟩ (fun pw hp hq => ?_)
          have y0 : ∀ u, (pw u).cell? ⟨ga, oa + k * 4, none⟩ = some (.int .i64 ya) := fun u => (ce_at HS.out HGET.out (HB.out.trans ((hp u).mono HB.out.size))).1
          have y1 : ∀ u, (pw u).cell? ⟨gx, 0, none⟩ = some (.int .i64 xa) := fun u => ((Cells.kept HX.out (hp u) HX.out.lt).cell 0).trans (show _ = some (Value.int .i64 xa) from rfl)
          repeat (go_big_quiet_step (fail))
          refine wpQuiet_nil ?_
          rintro _ ⟨u, rfl⟩
          have hB := HB.out.trans ((hp u).mono HB.out.size)
          have hO := HO.out.kept (hp u)
          have hX := Cells.kept HX.out (hp u) HX.out.lt
          generalize pw u = wr2 at *
          clear hp hq HB HO HX hsz y0 y1
          have HB := Lib.hid hB
          have HO := Lib.hid hO
          have HX := Lib.hid hX
          clear hB hO hX
          have hsz : w.heap.size + 1 ≤ wr2.heap.size := by have := HX.out.lt; have := HGX.out; omega
          obtain ⟨a0, a1, a2, a3⟩ := ce_at HS.out HGET.out HB.out
          dsimp only at a0 a1 a2 a3
          go_wp2_with (at_builtin; refine wpList_push (E := ECe) ceTy (by rfl) _ _ (by rfl) (w.heap.size + 1) _ m out [⟨ya, yc, yf, yt⟩] (by rfl) (HO.out.al _).2 _ 1 1 #[.int .i64 ya, .int .u8 (yc.toNat : Int), .int .i64 yf, .int .i64 yt] (0, 0) (by rfl) (heap_alloc_new wr2 _) (by rfl) rfl (by omega) (by omega) (by decide) ?hb ?_)
          case hb => first | (simp; omega) | omega | exact Nat.le_trans hsz (by simp)
          intro g2 cap2 wz hown hgrow hat hlt2
          have hgw : gx = w.heap.size := HGX.out
          have HO9 := Lib.hid (HO.out.push rfl hown)
          have HB9 := Lib.hid (HO.out.below HB.out (by omega) (Nat.le_succ _) hgrow)
          have HX9 := Lib.hid (show Cells wz gx 51 #[.int .i64 xa, .int .u8 (xc.toNat : Int), .int .i64 xf, .int .i64 xt] from (HO.out.far hgrow (by omega) (by simp; omega)).trans (Cells.kept HX.out (below_alloc6 wr2 _) HX.out.lt))
          clear hown hgrow hat hlt2 HO HB HX
          go_wp2_with fail
          go_roundw
          case rel => exact ⟨k + 1, m + 1, cap2, some ⟨g2, 0, none⟩, false, out ++ [⟨ya, yc, yf, yt⟩], rfl, rfl, by go_num, by omega, by omega, HI1, HO9, HB9, HX9⟩
          case measure => simp [intOf]; omega
        | true =>
          have ngt : xa < ya := of_decide_eq_true hgt
          have HML := Lib.hid (show m ≤ k by
            rcases HI.out with h | h
            · have := HO.out.1
              rw [h.2.1, List.length_take] at this
              omega
            · cases h.1)
          have HI1 := Lib.hid (show PutI ⟨xa, xc, xf, xt⟩ l (out ++ [⟨xa, xc, xf, xt⟩, ⟨ya, yc, yf, yt⟩]) (k + 1) true by
            rcases HI.out with h | h
            · refine .inr ⟨rfl, ?_⟩
              rw [putC_here h.2.2 HGET.out ngt, HDR.out, h.2.1]
              simp
            · cases h.1)
          clear HI HDR HTK
          go_upto_region 6 with fail
          refine wp_region_pick (fun w' => Below wr.heap.size wr w') (by kernel_rfl) (by kernel_rfl) (Below.refl _ _) ⟨rfl, rfl, rfl, Nat.le_refl _, fun _ _ => rfl⟩ (fun pw hp hq => ?_)
          have y0 : ∀ u, (pw u).cell? ⟨ga, oa + k * 4, none⟩ = some (.int .i64 ya) := fun u => (ce_at HS.out HGET.out (HB.out.trans ((hp u).mono HB.out.size))).1
          have y1 : ∀ u, (pw u).cell? ⟨gx, 0, none⟩ = some (.int .i64 xa) := fun u => ((Cells.kept HX.out (hp u) HX.out.lt).cell 0).trans (show _ = some (Value.int .i64 xa) from rfl)
          repeat (go_big_quiet_step (fail))
          refine wpQuiet_nil ?_
          rintro _ ⟨u, rfl⟩
          have hB := HB.out.trans ((hp u).mono HB.out.size)
          have hO := HO.out.kept (hp u)
          have hX := Cells.kept HX.out (hp u) HX.out.lt
          generalize pw u = wr2 at *
          clear hp hq HB HO HX hsz y0 y1
          have HB := Lib.hid hB
          have HO := Lib.hid hO
          have HX := Lib.hid hX
          clear hB hO hX
          have hsz : w.heap.size + 1 ≤ wr2.heap.size := by have := HX.out.lt; have := HGX.out; omega
          have x0 := (Cells.cell HX.out 0).trans (show _ = some (Value.int .i64 xa) from rfl)
          have x1 := (Cells.cell HX.out 1).trans (show _ = some (Value.int .u8 (xc.toNat : Int)) from rfl)
          have x2 := (Cells.cell HX.out 2).trans (show _ = some (Value.int .i64 xf) from rfl)
          have x3 := (Cells.cell HX.out 3).trans (show _ = some (Value.int .i64 xt) from rfl)
          go_wp2_with (at_builtin; refine wpList_push (E := ECe) ceTy (by rfl) _ _ (by rfl) (w.heap.size + 1) _ m out [⟨xa, xc, xf, xt⟩] (by rfl) (HO.out.al _).2 _ 1 1 #[.int .i64 xa, .int .u8 (xc.toNat : Int), .int .i64 xf, .int .i64 xt] (0, 0) (by rfl) (heap_alloc_new wr2 _) (by rfl) rfl (by omega) (by omega) (by decide) ?hb ?_)
          case hb => first | (simp; omega) | omega | exact Nat.le_trans hsz (by simp)
          intro g2 cap2 wz hown hgrow hat hlt2
          have hgw : gx = w.heap.size := HGX.out
          have HO9 := Lib.hid (HO.out.push rfl hown)
          have HB9 := Lib.hid (HO.out.below HB.out (by omega) (Nat.le_succ _) hgrow)
          have HX9 := Lib.hid (show Cells wz gx 51 #[.int .i64 xa, .int .u8 (xc.toNat : Int), .int .i64 xf, .int .i64 xt] from (HO.out.far hgrow (by omega) (by simp; omega)).trans (Cells.kept HX.out (below_alloc6 wr2 _) HX.out.lt))
          clear hown hgrow hat hlt2 HO HB HX
          clear x0 x1 x2 x3 hsz
          have HB := HB9
          have HO := HO9
          have HX := HX9
          clear HB9 HO9 HX9
          have hsz : w.heap.size + 1 ≤ wz.heap.size := by have := HX.out.lt; have := HGX.out; omega
          clear hgw
          obtain ⟨a0, a1, a2, a3⟩ := ce_at HS.out HGET.out HB.out
          dsimp only at a0 a1 a2 a3
          have hmk2 : m ≤ k := HML.out
          go_wp2_with (at_builtin; refine wpList_push (E := ECe) ceTy (by rfl) _ _ (by rfl) (w.heap.size + 1) _ (m + 1) (out ++ [⟨xa, xc, xf, xt⟩]) [⟨ya, yc, yf, yt⟩] (by rfl) (HO.out.al _).2 _ 1 1 #[.int .i64 ya, .int .u8 (yc.toNat : Int), .int .i64 yf, .int .i64 yt] (0, 0) (by rfl) (heap_alloc_new wz _) (by rfl) rfl (by omega) (by omega) (by decide) ?hb ?_)
          case hb => first | (simp; omega) | omega | exact Nat.le_trans hsz (by simp)
          intro g3 cap3 wz3 hown hgrow hat hlt2
          have hgw : gx = w.heap.size := HGX.out
          have HO9 := Lib.hid (show OwnE ECe 51 wz3 (w.heap.size + 1) (some ⟨g3, 0, none⟩) (m + 1 + 1) cap3 (out ++ [⟨xa, xc, xf, xt⟩, ⟨ya, yc, yf, yt⟩]) from ⟨by have := HO.out.1; simp at this ⊢; omega, hown⟩)
          have HB9 := Lib.hid (HO.out.below HB.out (by omega) (Nat.le_succ _) hgrow)
          have HX9 := Lib.hid (show Cells wz3 gx 51 #[.int .i64 xa, .int .u8 (xc.toNat : Int), .int .i64 xf, .int .i64 xt] from (HO.out.far hgrow (by omega) (by simp; omega)).trans (Cells.kept HX.out (below_alloc6 wz _) HX.out.lt))
          clear hown hgrow hat hlt2 HO HB HX
          go_wp2_with fail
          go_roundw
          case rel => exact ⟨k + 1, m + 1 + 1, cap3, some ⟨g3, 0, none⟩, true, out ++ [⟨xa, xc, xf, xt⟩, ⟨ya, yc, yf, yt⟩], rfl, rfl, by go_num, by omega, by omega, HI1, HO9, HB9, HX9⟩
          case measure => simp [intOf]; omega
    · obtain rfl : k = n := by omega
      have hd : decide ((k : Int) < (k : Int)) = false := by simp
      cases d with
      | true =>
        have HE := Lib.hid (show out = putC ⟨xa, xc, xf, xt⟩ l by
          rcases HI.out with h | h
          · cases h.1
          · have := h.2
            rwa [HN.out, List.drop_length, List.append_nil] at this)
        go_wp2_with fail
        go_ret
        exact ⟨A2, c2, by rw [← HE.out, HO.out.1]; rfl, by rw [← HE.out, ← HO.out.1]; exact ⟨HO.out.1, own_mono HO.out.2 (Nat.le_succ _)⟩, HB.out⟩
      | false =>
        have HE := Lib.hid (show out ++ [⟨xa, xc, xf, xt⟩] = putC ⟨xa, xc, xf, xt⟩ l by
          rcases HI.out with h | h
          · rw [HN.out, List.take_length] at h
            rw [putC_last h.2.2, h.2.1]
          · cases h.1)
        have x0 := (Cells.cell HX.out 0).trans (show _ = some (Value.int .i64 xa) from rfl)
        have x1 := (Cells.cell HX.out 1).trans (show _ = some (Value.int .u8 (xc.toNat : Int)) from rfl)
        have x2 := (Cells.cell HX.out 2).trans (show _ = some (Value.int .i64 xf) from rfl)
        have x3 := (Cells.cell HX.out 3).trans (show _ = some (Value.int .i64 xt) from rfl)
        go_wp2_with (at_builtin; refine wpList_push (E := ECe) ceTy (by rfl) _ _ (by rfl) (w.heap.size + 1) _ m out [⟨xa, xc, xf, xt⟩] (by rfl) (HO.out.al _).2 _ 1 1 #[.int .i64 xa, .int .u8 (xc.toNat : Int), .int .i64 xf, .int .i64 xt] (0, 0) (by rfl) (heap_alloc_new wr _) (by rfl) rfl (by omega) (by omega) (by decide) ?hb ?_)
        case hb => first | (simp; omega) | omega | exact Nat.le_trans hsz (by simp)
        intro g2 cap2 wz hown hgrow hat hlt2
        have hgw : gx = w.heap.size := HGX.out
        have HO9 := Lib.hid (HO.out.push rfl hown)
        have HB9 := Lib.hid (HO.out.below HB.out (by omega) (Nat.le_succ _) hgrow)
        have HX9 := Lib.hid (show Cells wz gx 51 #[.int .i64 xa, .int .u8 (xc.toNat : Int), .int .i64 xf, .int .i64 xt] from (HO.out.far hgrow (by omega) (by simp; omega)).trans (Cells.kept HX.out (below_alloc6 wr _) HX.out.lt))
        clear hown hgrow hat hlt2 HO HB HX
        clear x0 x1 x2 x3
        go_wp2_with fail
        go_ret
        exact ⟨some ⟨g2, 0, none⟩, cap2, by rw [← HE.out, ← HO9.out.1]; rfl, by rw [← HE.out, ← HO9.out.1]; exact ⟨HO9.out.1, own_mono HO9.out.2 (Nat.le_succ _)⟩, HB9.out⟩
end Go.Proofs.Ytafpmlikocchpaa

/- Bytes as elements of a row that the call owns; Put of the program, of a number that fits. -/
namespace Go.Proofs.Ytafpmlikocchpaa
open Go.ChangeShapes Go.WideShapes Go.ChangeAt Go.RowKit
set_option linter.unusedVariables false

/-- Bytes as elements. -/
def EU8 : Enc UInt8 := ⟨1, by decide, fun x => [.int .u8 (x.toNat : Int)], fun _ => rfl, fun s v hv => by
  simp only [List.mem_cons, List.not_mem_nil, or_false] at hv
  subst hv
  rfl⟩
theorem u8Ty10 : ElemTy 57 5 1 1 :=
  ⟨Try.underlying57, by
    obtain ⟨i, h1, h2, h3, h4⟩ := info_parts info5
    exact ⟨i, _, h1, h2, h3, h4, rfl⟩⟩
theorem eu8_cells (l : List UInt8) : EU8.cells l = cellsOf l := by
  induction l with
  | nil => rfl
  | cons a r ih => rw [Enc.cells_cons, ih]; rfl
end Go.Proofs.Ytafpmlikocchpaa
