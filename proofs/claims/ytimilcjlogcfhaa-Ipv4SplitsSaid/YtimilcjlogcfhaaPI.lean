/- Ipv4Splits holds: for every packet and size the law about Split beside the reference returns true and leaves memory as it was; no conditions. -/
import Derived.Test.YtimilcjlogcfhaaRows
import Derived.Test.YtimilcjlogcfhaaChecked
import Derived.Deep.Cut
import Derived.Deep.WholeRow
import Derived.BigQuiet
import Derived.Test.YtimilcjlogcfhaaPE45
namespace Go.Proofs.Ytimilcjlogcfhaa.ipv4Splits
open Go.ChangeShapes Go.WideShapes Go.ChangeAt Go.RowKit
open Go.ChangeMaps (open_string shut_string)
set_option linter.unusedVariables false

theorem own : ownKnob Try.prog.godebug = none := by kernel_rfl
theorem laidOut : laidOutB Try.prog = true := by kernel_rfl
theorem parts_len (p : Ip4R) (size : Nat) : ∀ (f at_ : Nat) (l : List Ip4R), partsI p size f at_ = some l → l.length ≤ f ∧ ∀ y ∈ l, y.ops.length ≤ p.ops.length
  | 0, at_, l, h => by
    rw [partsI] at h
    cases h
    exact ⟨Nat.le_refl _, fun y hy => by cases hy⟩
  | f + 1, at_, l, h => by
    rw [partsI] at h
    split at h
    · cases h
    · split at h
      · cases h
        exact ⟨by simp, fun y hy => by rw [List.mem_singleton.1 hy]; exact List.length_filter_le _ _⟩
      · cases hq : partsI p size f (at_ + size) with
        | none => rw [hq] at h; cases h
        | some r =>
          rw [hq] at h
          cases h
          obtain ⟨h1, h2⟩ := parts_len p size f _ r hq
          refine ⟨by rw [List.length_cons]; omega, fun y hy => ?_⟩
          rcases List.mem_cons.1 hy with rfl | hy
          · exact List.length_filter_le _ _
          · exact h2 y hy
theorem split_len (p : Ip4R) (size : Int) : (splitI p size).1.length ≤ p.pay.length + 1 ∧ ∀ y ∈ (splitI p size).1, y.ops.length ≤ p.ops.length := by
  unfold splitI
  split
  · exact ⟨by simp, fun y hy => by cases hy⟩
  · split
    · exact ⟨by simp, fun y hy => by cases hy⟩
    · split
      · exact ⟨by simp, fun y hy => by rw [List.mem_singleton.1 hy]; exact List.length_filter_le _ _⟩
      · split
        · exact ⟨by simp, fun y hy => by cases hy⟩
        · cases hq : partsI p size.toNat (p.pay.length + 1) 0 with
          | none => exact ⟨by simp, fun y hy => by cases hy⟩
          | some r => exact parts_len p size.toNat _ _ r hq
set_option maxHeartbeats 8000000 in
set_option maxRecDepth 20000 in
theorem walk (x : Ip4R) (A : Option Addr) (c : Nat) (size : Int) (w : World) (hw : ipWf x) (h : RowL EOpt w A x.ops) (hc : A = none → c = 0) (hz : (Lit.int .i64 size).wf = true) :
    Calls Try.prog 5 #[.agg (ipC x x.ops.length A c (str x.pay)), .int .i64 size] w fun e w' => e = .returned (.bool true) ∧ Below w.heap.size w w' := by
  obtain ⟨p, hp⟩ : ∃ q, q = x := ⟨_, rfl⟩
  have HPX := Lib.hid hp
  have HWF := Lib.hid (show ipWf p by rw [hp]; exact hw)
  have HOP := Lib.hid (show RowL EOpt w A p.ops by rw [hp]; exact h)
  obtain ⟨tos, id, ttl, proto, dont, more, off, ⟨sv, sh, sl⟩, ⟨dv, dh, dl⟩, l, pay⟩ := x
  unfold ipC
  dsimp only
  obtain ⟨n, hn⟩ : ∃ n, n = l.length := ⟨_, rfl⟩
  obtain ⟨P, hP⟩ : ∃ P, P = str pay := ⟨_, rfl⟩
  have hPs : P.size = pay.length := by rw [hP, str_size]
  have HLG := Lib.hid (fun (W : World) => large_raw tos id ttl proto off dont more sv dv sh sl dh dl n c A P W)
  rw [← hn, ← hP]
  have HNP := Lib.hid (And.intro hn hP)
  have HPS := Lib.hid hPs
  have HPA := Lib.hid (show #[.int .i64 tos, .int .i64 id, .int .i64 ttl, .int .i64 proto, .bool dont, .bool more, .int .i64 off, .bool sv, .int .u64 (sh : Int), .int .u64 (sl : Int), .bool dv, .int .u64 (dh : Int), .int .u64 (dl : Int), .slice A n c, .string P] = ipC p p.ops.length A c (str p.pay) by rw [hn, hP, hp]; rfl)
  have HPL := Lib.hid (show p.pay.length = P.size ∧ p.ops.length = n by rw [hp]; exact ⟨hPs.symm, hn.symm⟩)
  clear hp hw h hc hn hP hPs
  have B0 := Lib.hid (Below.refl w.heap.size w)
  obtain ⟨lg, hlg⟩ : ∃ b : Bool, decide (70000 < P.size ∨ 60 < n) = b := ⟨_, rfl⟩
  rw [hlg] at HLG
  cases lg
  · have hsm : P.size ≤ 70000 ∧ n ≤ 60 := by have := of_decide_eq_false hlg; omega
    have HOK := Lib.hid (fun (W : World) (hb : Below w.heap.size w W) => show ipOk W p A from ⟨HWF.out, HOP.out.kept hb, by have h1 := HPL.out.2; omega, by have h1 := HPL.out.1; omega⟩)
    by_cases ha : 3000 < P.size
    · have d0 : decide ((3000 : Int) < (P.size : Int)) = true := by simp; omega
      have nd : (3000 : Int) < (P.size : Int) := by omega
      clear hlg ha
      go_enter Try.func5, Try.ntmps5
      go_upto_region 1 with fail
      obtain ⟨W1, hW1⟩ : ∃ W, W = w.alloc (.cells #[.int .i64 tos, .int .i64 id, .int .i64 ttl, .int .i64 proto, .bool dont, .bool more, .int .i64 off, .bool sv, .int .u64 (sh : Int), .int .u64 (sl : Int), .bool dv, .int .u64 (dh : Int), .int .u64 (dl : Int), .slice A n c, .string P] 28) := ⟨_, rfl⟩
      obtain ⟨g0, hg0⟩ : ∃ g, g = w.heap.size := ⟨_, rfl⟩
      have X1 := Lib.hid (show Cells W1 g0 28 #[.int .i64 tos, .int .i64 id, .int .i64 ttl, .int .i64 proto, .bool dont, .bool more, .int .i64 off, .bool sv, .int .u64 (sh : Int), .int .u64 (sl : Int), .bool dv, .int .u64 (dh : Int), .int .u64 (dl : Int), .slice A n c, .string P] by rw [hW1, hg0]; exact heap_alloc_new w _)
      have kW1 : Below w.heap.size w W1 := by rw [hW1]; exact below_alloc6 w _
      have B1 := Lib.hid (B0.out.trans (kW1.mono B0.out.size))
      rw [← hW1, ← hg0]
      clear hW1 hg0
      go_wp2_with (refine wpList_load_row (by rfl) 28 _ (by rfl) g0 (by rfl) 28 #[.int .i64 tos, .int .i64 id, .int .i64 ttl, .int .i64 proto, .bool dont, .bool more, .int .i64 off, .bool sv, .int .u64 (sh : Int), .int .u64 (sl : Int), .bool dv, .int .u64 (dh : Int), .int .u64 (dl : Int), .slice A n c, .string P] (0, 0) _ X1.out Try.underlying28 (by rfl) (by kernel_rfl) ?_)
      refine (HLG.out _).mono ?_
      rintro e w2 ⟨rfl, b2⟩
      have X2 := Lib.hid (X1.out.kept b2 X1.out.lt)
      have B2 := Lib.hid (B1.out.trans (b2.mono B1.out.size))
      clear b2
      clear X1 HLG kW1
      have x14 := (Cells.cell X2.out 14).trans (show _ = some (Value.string P) from rfl)
      go_wp2_with fail
      refine (awk11 _).mono ?_
      rintro e w99 ⟨rfl, b99⟩
      go_wp2_with fail
      go_ret
      exact ⟨rfl, B2.out.trans (b99.mono B2.out.size)⟩
    have d0 : decide ((3000 : Int) < (P.size : Int)) = false := by simp; omega
    have nd : ¬ (3000 : Int) < (P.size : Int) := by omega
    have hP3 : P.size ≤ 3000 := by omega
    obtain ⟨R, hR⟩ : ∃ R, R = splitI p size := ⟨_, rfl⟩
    have H1 := Lib.hid (fun (W : World) (hb : Below w.heap.size w W) => show Calls Try.prog 21 #[.agg #[.int .i64 tos, .int .i64 id, .int .i64 ttl, .int .i64 proto, .bool dont, .bool more, .int .i64 off, .bool sv, .int .u64 (sh : Int), .int .u64 (sl : Int), .bool dv, .int .u64 (dh : Int), .int .u64 (dl : Int), .slice A n c, .string P], .int .i64 size] W (SplP W R) from by
      rw [HPA.out, hR]
      exact prog11.spl p size A c W trivial (HOK.out W hb) hz)
    have H2 := Lib.hid (fun (W : World) (hb : Below w.heap.size w W) => show Calls Try.prog 22 #[.agg #[.int .i64 tos, .int .i64 id, .int .i64 ttl, .int .i64 proto, .bool dont, .bool more, .int .i64 off, .bool sv, .int .u64 (sh : Int), .int .u64 (sl : Int), .bool dv, .int .u64 (dh : Int), .int .u64 (dl : Int), .slice A n c, .string P], .int .i64 size] W (SplP W R) from by
      have hwf := HWF.out
      have hop := HOP.out.kept hb
      have h1 := HPL.out.1
      have h2 := HPL.out.2
      rw [HPX.out] at hwf hop h1 h2
      have hzz := wf_i64_11 hz
      have := rsplit11_any tos id ttl proto off dont more sv dv sh sl dh dl l pay size A c W hop hwf.2.1.1 hwf.2.1.2 hwf.2.2.1.1 hwf.2.2.1.2 (by show l.length ≤ _; dsimp only at h2; omega) (fun x hx => by have := (hwf.2.2.2.2.2 x hx).2; omega) (by dsimp only at h1; omega) hzz.1 hzz.2
      rw [← HPX.out, ← HNP.out.1, ← HNP.out.2, ← hR] at this
      exact this)
    obtain ⟨hlen, hops⟩ := split_len p size
    rw [← hR] at hlen hops
    obtain ⟨nn, hnn⟩ : ∃ k, k = R.1.length := ⟨_, rfl⟩
    obtain ⟨er, her⟩ : ∃ k, k = R.2 := ⟨_, rfl⟩
    have hnn6 : nn ≤ 70001 := by rw [hnn]; have := HPL.out.1; omega
    have HOPS := Lib.hid (show ∀ y ∈ R.1, y.ops.length ≤ 1000000 from fun y hy => by have h1 := hops y hy; have h2 := HPL.out.2; omega)
    have HNN := Lib.hid hnn
    have n1 : ((nn : Int) != (nn : Int)) = false := by simp
    have n2 : ((er : Int) != (er : Int)) = false := by simp
    unfold SplP at H1 H2
    rw [← hnn, ← her] at H1 H2
    clear hR hlen hops hnn her hlg HOK HPA HPL HWF HOP HPX HNP HPS hz
    go_enter Try.func5, Try.ntmps5
    go_upto_region 1 with fail
    obtain ⟨W1, hW1⟩ : ∃ W, W = w.alloc (.cells #[.int .i64 tos, .int .i64 id, .int .i64 ttl, .int .i64 proto, .bool dont, .bool more, .int .i64 off, .bool sv, .int .u64 (sh : Int), .int .u64 (sl : Int), .bool dv, .int .u64 (dh : Int), .int .u64 (dl : Int), .slice A n c, .string P] 28) := ⟨_, rfl⟩
    obtain ⟨g0, hg0⟩ : ∃ g, g = w.heap.size := ⟨_, rfl⟩
    have X1 := Lib.hid (show Cells W1 g0 28 #[.int .i64 tos, .int .i64 id, .int .i64 ttl, .int .i64 proto, .bool dont, .bool more, .int .i64 off, .bool sv, .int .u64 (sh : Int), .int .u64 (sl : Int), .bool dv, .int .u64 (dh : Int), .int .u64 (dl : Int), .slice A n c, .string P] by rw [hW1, hg0]; exact heap_alloc_new w _)
    have kW1 : Below w.heap.size w W1 := by rw [hW1]; exact below_alloc6 w _
    have B1 := Lib.hid (B0.out.trans (kW1.mono B0.out.size))
    rw [← hW1, ← hg0]
    clear hW1 hg0
    go_wp2_with (refine wpList_load_row (by rfl) 28 _ (by rfl) g0 (by rfl) 28 #[.int .i64 tos, .int .i64 id, .int .i64 ttl, .int .i64 proto, .bool dont, .bool more, .int .i64 off, .bool sv, .int .u64 (sh : Int), .int .u64 (sl : Int), .bool dv, .int .u64 (dh : Int), .int .u64 (dl : Int), .slice A n c, .string P] (0, 0) _ X1.out Try.underlying28 (by rfl) (by kernel_rfl) ?_)
    refine (HLG.out _).mono ?_
    rintro e w2 ⟨rfl, b2⟩
    have X2 := Lib.hid (X1.out.kept b2 X1.out.lt)
    have B2 := Lib.hid (B1.out.trans (b2.mono B1.out.size))
    clear b2
    clear X1 HLG kW1
    have x14 := (Cells.cell X2.out 14).trans (show _ = some (Value.string P) from rfl)
    go_wp2_with (refine wpList_load_row (by rfl) 28 _ (by rfl) g0 (by rfl) 28 #[.int .i64 tos, .int .i64 id, .int .i64 ttl, .int .i64 proto, .bool dont, .bool more, .int .i64 off, .bool sv, .int .u64 (sh : Int), .int .u64 (sl : Int), .bool dv, .int .u64 (dh : Int), .int .u64 (dl : Int), .slice A n c, .string P] (0, 0) _ X2.out Try.underlying28 (by rfl) (by kernel_rfl) ?_)
    refine (H1.out _ B2.out).mono ?_
    rintro e w3 ⟨A1, c1, es1, rfl, hm1, hr1, ho1, hn1, b3⟩
    have X3 := Lib.hid (X2.out.kept b3 X2.out.lt)
    have B3 := Lib.hid (B2.out.trans (b3.mono B2.out.size))
    clear b3
    clear X2 H1 x14 hn1
    have HM1 := Lib.hid hm1
    have HR1 := Lib.hid hr1
    have HO1 := Lib.hid ho1
    clear hm1 hr1 ho1
    go_wp2_with (refine wpList_load_row (by rfl) 28 _ (by rfl) g0 (by rfl) 28 #[.int .i64 tos, .int .i64 id, .int .i64 ttl, .int .i64 proto, .bool dont, .bool more, .int .i64 off, .bool sv, .int .u64 (sh : Int), .int .u64 (sl : Int), .bool dv, .int .u64 (dh : Int), .int .u64 (dl : Int), .slice A n c, .string P] (0, 0) _ X3.out Try.underlying28 (by rfl) (by kernel_rfl) ?_)
    refine (H2.out _ B3.out).mono ?_
    rintro e w4 ⟨A2, c2, es2, rfl, hm2, hr2, ho2, hn2, b4⟩
    have HM2 := Lib.hid hm2
    have HR2 := Lib.hid hr2
    have HO2 := Lib.hid ho2
    have K34 := Lib.hid (show Below w3.heap.size w3 w4 from b4)
    have B4 := Lib.hid (B3.out.trans (b4.mono B3.out.size))
    clear b4
    clear X3 H2 hm2 hr2 ho2 hn2
    go_wp2_with fail
    go_loopw [43] (fun i wr => ∃ k : Nat, i = .int .i64 (k : Int) ∧ k ≤ nn ∧ Hid (Below w4.heap.size w4 wr)) (fun i _ => nn - (intOf i).toNat)
    case atStart => exact ⟨0, rfl, Nat.zero_le _, Lib.hid (Below.refl _ _)⟩
    case round =>
      obtain ⟨k, rfl, hk, HB⟩ := hrel
      by_cases hlt : k < nn
      · have hki : (k : Int) < (nn : Int) := by omega
        have hki0 : (0 : Int) ≤ (k : Int) := by omega
        have dlt : decide ((k : Int) < (nn : Int)) = true := by simp; omega
        have hl1 : es1.length = nn := by rw [HNN.out, ← HM1.out, List.length_map]
        have hl2 : es2.length = nn := by rw [HNN.out, ← HM2.out, List.length_map]
        obtain ⟨x1, hx1⟩ : ∃ x, es1[k]? = some x := ⟨es1[k]'(by omega), List.getElem?_eq_getElem _⟩
        obtain ⟨x2, hx2⟩ : ∃ x, es2[k]? = some x := ⟨es2[k]'(by omega), List.getElem?_eq_getElem _⟩
        have hy1 : R.1[k]? = some x1.1 := by rw [← HM1.out, List.getElem?_map, hx1]; rfl
        have hy2 : R.1[k]? = some x2.1 := by rw [← HM2.out, List.getElem?_map, hx2]; rfl
        have hyy : x2.1 = x1.1 := by rw [hy1] at hy2; exact (Option.some.inj hy2).symm
        obtain ⟨y, B1, d1⟩ := x1
        obtain ⟨y2, B2', d2⟩ := x2
        dsimp only at hyy hy1
        subst hyy
        have hyo := HOPS.out y2 (List.mem_of_getElem? hy1)
        obtain ⟨g1, o1, rfl, hg1⟩ := HR1.out.shapeA (by omega)
        obtain ⟨g2, o2, rfl, hg2⟩ := HR2.out.shapeA (by omega)
        have HC1 := Lib.hid (fun (W : World) (hb : Below w3.heap.size w3 W) (j : Nat) (v : Value) (hv : (EIp.c (y2, B1, d1))[j]? = some v) => HR1.out.at_ hx1 hb j v hv)
        have HC2 := Lib.hid (fun (W : World) (hb : Below w4.heap.size w4 W) (j : Nat) (v : Value) (hv : (EIp.c (y2, B2', d2))[j]? = some v) => HR2.out.at_ hx2 hb j v hv)
        have HQ1 := Lib.hid (HO1.out _ (List.mem_of_getElem? hx1)).2
        have HQ2 := Lib.hid (HO2.out _ (List.mem_of_getElem? hx2)).2
        have HSM := Lib.hid (fun (W : World) (h1 : RowL EOpt W B1 y2.ops) (h2 : RowL EOpt W B2' y2.ops) => same11_any y2 B1 B2' d1 d2 W h1 h2 hyo)
        clear hx1 hx2 hy1 hy2 hl1 hl2
        obtain ⟨y, hyE⟩ : ∃ y, y = y2 := ⟨_, rfl⟩
        rw [← hyE] at HC1 HC2 HQ1 HQ2 HSM
        clear hyE hyo
        go_upto_region 10 with fail
        refine wp_region_pick (fun w' => Below wr.heap.size wr w') (by kernel_rfl) (by kernel_rfl) (Below.refl _ _) ⟨rfl, rfl, rfl, Nat.le_refl _, fun _ _ => rfl⟩ (fun pw hp hq => ?_)
        have hp4 : ∀ u, Below w4.heap.size w4 (pw u) := fun u => HB.out.trans ((hp u).mono HB.out.size)
        have hp3 : ∀ u, Below w3.heap.size w3 (pw u) := fun u => K34.out.trans ((hp4 u).mono K34.out.size)
        have y0 : ∀ u, (pw u).cell? ⟨g1, o1 + k * 15, none⟩ = some (.int .i64 y.tos) := fun u => HC1.out _ (hp3 u) 0 _ rfl
        have y1 : ∀ u, (pw u).cell? ⟨g1, o1 + k * 15 + 1, none⟩ = some (.int .i64 y.id) := fun u => HC1.out _ (hp3 u) 1 _ rfl
        have y2 : ∀ u, (pw u).cell? ⟨g1, o1 + k * 15 + 2, none⟩ = some (.int .i64 y.ttl) := fun u => HC1.out _ (hp3 u) 2 _ rfl
        have y3 : ∀ u, (pw u).cell? ⟨g1, o1 + k * 15 + 3, none⟩ = some (.int .i64 y.proto) := fun u => HC1.out _ (hp3 u) 3 _ rfl
        have y4 : ∀ u, (pw u).cell? ⟨g1, o1 + k * 15 + 4, none⟩ = some (.bool y.dont) := fun u => HC1.out _ (hp3 u) 4 _ rfl
        have y5 : ∀ u, (pw u).cell? ⟨g1, o1 + k * 15 + 5, none⟩ = some (.bool y.more) := fun u => HC1.out _ (hp3 u) 5 _ rfl
        have y6 : ∀ u, (pw u).cell? ⟨g1, o1 + k * 15 + 6, none⟩ = some (.int .i64 y.off) := fun u => HC1.out _ (hp3 u) 6 _ rfl
        have y7 : ∀ u, (pw u).cell? ⟨g1, o1 + k * 15 + 7, none⟩ = some (.bool y.src.v6) := fun u => HC1.out _ (hp3 u) 7 _ rfl
        have y8 : ∀ u, (pw u).cell? ⟨g1, o1 + k * 15 + 8, none⟩ = some (.int .u64 (y.src.hi : Int)) := fun u => HC1.out _ (hp3 u) 8 _ rfl
        have y9 : ∀ u, (pw u).cell? ⟨g1, o1 + k * 15 + 9, none⟩ = some (.int .u64 (y.src.lo : Int)) := fun u => HC1.out _ (hp3 u) 9 _ rfl
        have y10 : ∀ u, (pw u).cell? ⟨g1, o1 + k * 15 + 10, none⟩ = some (.bool y.dst.v6) := fun u => HC1.out _ (hp3 u) 10 _ rfl
        have y11 : ∀ u, (pw u).cell? ⟨g1, o1 + k * 15 + 11, none⟩ = some (.int .u64 (y.dst.hi : Int)) := fun u => HC1.out _ (hp3 u) 11 _ rfl
        have y12 : ∀ u, (pw u).cell? ⟨g1, o1 + k * 15 + 12, none⟩ = some (.int .u64 (y.dst.lo : Int)) := fun u => HC1.out _ (hp3 u) 12 _ rfl
        have y13 : ∀ u, (pw u).cell? ⟨g1, o1 + k * 15 + 13, none⟩ = some (.slice B1 y.ops.length d1) := fun u => HC1.out _ (hp3 u) 13 _ rfl
        have y14 : ∀ u, (pw u).cell? ⟨g1, o1 + k * 15 + 14, none⟩ = some (.string (str y.pay)) := fun u => HC1.out _ (hp3 u) 14 _ rfl
        have z0 : ∀ u, (pw u).cell? ⟨g2, o2 + k * 15, none⟩ = some (.int .i64 y.tos) := fun u => HC2.out _ (hp4 u) 0 _ rfl
        have z1 : ∀ u, (pw u).cell? ⟨g2, o2 + k * 15 + 1, none⟩ = some (.int .i64 y.id) := fun u => HC2.out _ (hp4 u) 1 _ rfl
        have z2 : ∀ u, (pw u).cell? ⟨g2, o2 + k * 15 + 2, none⟩ = some (.int .i64 y.ttl) := fun u => HC2.out _ (hp4 u) 2 _ rfl
        have z3 : ∀ u, (pw u).cell? ⟨g2, o2 + k * 15 + 3, none⟩ = some (.int .i64 y.proto) := fun u => HC2.out _ (hp4 u) 3 _ rfl
        have z4 : ∀ u, (pw u).cell? ⟨g2, o2 + k * 15 + 4, none⟩ = some (.bool y.dont) := fun u => HC2.out _ (hp4 u) 4 _ rfl
        have z5 : ∀ u, (pw u).cell? ⟨g2, o2 + k * 15 + 5, none⟩ = some (.bool y.more) := fun u => HC2.out _ (hp4 u) 5 _ rfl
        have z6 : ∀ u, (pw u).cell? ⟨g2, o2 + k * 15 + 6, none⟩ = some (.int .i64 y.off) := fun u => HC2.out _ (hp4 u) 6 _ rfl
        have z7 : ∀ u, (pw u).cell? ⟨g2, o2 + k * 15 + 7, none⟩ = some (.bool y.src.v6) := fun u => HC2.out _ (hp4 u) 7 _ rfl
        have z8 : ∀ u, (pw u).cell? ⟨g2, o2 + k * 15 + 8, none⟩ = some (.int .u64 (y.src.hi : Int)) := fun u => HC2.out _ (hp4 u) 8 _ rfl
        have z9 : ∀ u, (pw u).cell? ⟨g2, o2 + k * 15 + 9, none⟩ = some (.int .u64 (y.src.lo : Int)) := fun u => HC2.out _ (hp4 u) 9 _ rfl
        have z10 : ∀ u, (pw u).cell? ⟨g2, o2 + k * 15 + 10, none⟩ = some (.bool y.dst.v6) := fun u => HC2.out _ (hp4 u) 10 _ rfl
        have z11 : ∀ u, (pw u).cell? ⟨g2, o2 + k * 15 + 11, none⟩ = some (.int .u64 (y.dst.hi : Int)) := fun u => HC2.out _ (hp4 u) 11 _ rfl
        have z12 : ∀ u, (pw u).cell? ⟨g2, o2 + k * 15 + 12, none⟩ = some (.int .u64 (y.dst.lo : Int)) := fun u => HC2.out _ (hp4 u) 12 _ rfl
        have z13 : ∀ u, (pw u).cell? ⟨g2, o2 + k * 15 + 13, none⟩ = some (.slice B2' y.ops.length d2) := fun u => HC2.out _ (hp4 u) 13 _ rfl
        have z14 : ∀ u, (pw u).cell? ⟨g2, o2 + k * 15 + 14, none⟩ = some (.string (str y.pay)) := fun u => HC2.out _ (hp4 u) 14 _ rfl
        have HSU := Lib.hid (fun u => HSM.out (pw u) (HQ1.out.kept (hp3 u)) (HQ2.out.kept (hp4 u)))
        have HP := Lib.hid hp
        have HQ := Lib.hid hq
        clear hp hq hp4 hp3
        repeat (go_big_quiet_step ((first | with_reducible exact Calls.pick_of HQ.out (fun W' hb => (HP.out _).trans (hb.mono (HP.out _).size)) (HSU.out _))))
        refine wpQuiet_nil ?_
        rintro _ ⟨u, rfl⟩
        have HB5 := Lib.hid (HB.out.trans ((HP.out u).mono HB.out.size))
        generalize pw u = w5 at *
        clear HP HQ HSU HB
        go_wp2_with fail
        go_roundw
        case rel => exact ⟨k + 1, by go_num, by omega, HB5⟩
        case measure => simp [intOf]; omega
      · obtain rfl : k = nn := by omega
        have dlt : decide ((k : Int) < (k : Int)) = false := by simp
        have nlt : ¬ (k : Int) < (k : Int) := by omega
        have B5 := Lib.hid (B4.out.trans (HB.out.mono B4.out.size))
        go_wp2_with fail
        refine (awk11 _).mono ?_
        rintro e w99 ⟨rfl, b99⟩
        go_wp2_with fail
        go_ret
        exact ⟨rfl, B5.out.trans (b99.mono B5.out.size)⟩
  · clear hlg
    go_enter Try.func5, Try.ntmps5
    go_upto_region 1 with fail
    obtain ⟨W1, hW1⟩ : ∃ W, W = w.alloc (.cells #[.int .i64 tos, .int .i64 id, .int .i64 ttl, .int .i64 proto, .bool dont, .bool more, .int .i64 off, .bool sv, .int .u64 (sh : Int), .int .u64 (sl : Int), .bool dv, .int .u64 (dh : Int), .int .u64 (dl : Int), .slice A n c, .string P] 28) := ⟨_, rfl⟩
    obtain ⟨g0, hg0⟩ : ∃ g, g = w.heap.size := ⟨_, rfl⟩
    have X1 := Lib.hid (show Cells W1 g0 28 #[.int .i64 tos, .int .i64 id, .int .i64 ttl, .int .i64 proto, .bool dont, .bool more, .int .i64 off, .bool sv, .int .u64 (sh : Int), .int .u64 (sl : Int), .bool dv, .int .u64 (dh : Int), .int .u64 (dl : Int), .slice A n c, .string P] by rw [hW1, hg0]; exact heap_alloc_new w _)
    have kW1 : Below w.heap.size w W1 := by rw [hW1]; exact below_alloc6 w _
    have B1 := Lib.hid (B0.out.trans (kW1.mono B0.out.size))
    rw [← hW1, ← hg0]
    clear hW1 hg0
    go_wp2_with (refine wpList_load_row (by rfl) 28 _ (by rfl) g0 (by rfl) 28 #[.int .i64 tos, .int .i64 id, .int .i64 ttl, .int .i64 proto, .bool dont, .bool more, .int .i64 off, .bool sv, .int .u64 (sh : Int), .int .u64 (sl : Int), .bool dv, .int .u64 (dh : Int), .int .u64 (dl : Int), .slice A n c, .string P] (0, 0) _ X1.out Try.underlying28 (by rfl) (by kernel_rfl) ?_)
    refine (HLG.out _).mono ?_
    rintro e w2 ⟨rfl, b2⟩
    have X2 := Lib.hid (X1.out.kept b2 X1.out.lt)
    have B2 := Lib.hid (B1.out.trans (b2.mono B1.out.size))
    clear b2
    clear X1 HLG kW1
    go_wp2_with fail
    refine (awk11 _).mono ?_
    rintro e w99 ⟨rfl, b99⟩
    go_wp2_with fail
    go_ret
    exact ⟨rfl, B2.out.trans (b99.mono B2.out.size)⟩

set_option maxRecDepth 100000 in
theorem lifted (os : Os) (started : os.Started) (H : Type) (enc : TypeId × Value → H) :
    ReturnsInHanded {} Try.checked os 5 .any (Rows.ipv4SplitsSpec.pre6 enc Try.prog Try.f5 Rows.ipv4SplitsRow.domain false) (Rows.ipv4SplitsSpec.post enc Try.prog Try.f5 false true false false) := by
  refine returnsInHanded_of_change_sized (C := Try.checked) own started (by kernel_rfl) Try.func5
    (ChangeSpec.witness6 (enc := enc) (C := Try.checked) false ⟨#[], #[(.agg #[.int .i64 0, .int .i64 0, .int .i64 0, .int .i64 0, .bool false, .bool false, .int .i64 0, .bool false, .int .u64 0, .int .u64 0, .bool false, .int .u64 0, .int .u64 0, .slice none 0 0, .string ⟨#[]⟩]), .int .i64 0], []⟩ 8 (by kernel_rfl) (by kernel_rfl) (by kernel_rfl) (by kernel_rfl)) ?_
  intro W base args ds gs before hval0 hW hcnd hsz _
  have hval : ∀ (j : Nat) t v, Try.f5.params[j]? = some t → args[j]? = some v → Value.okWide Try.prog W .any base t v := hval0
  have hW' := hW
  obtain ⟨p, q, hA0, hV, rfl, hfz, hnd⟩ := hW
  have hA : DataW.TrodAll enc Try.prog W 0 (fun _ => true) true Try.f5.params.toList args.toList ds p := hA0
  rw [Try.params5] at hA hval hsz
  obtain ⟨v0, vs0, d0, ds0, p0, q0, hargs, rfl, rfl, h0, r0⟩ := trodAll_cons hA
  obtain ⟨v1, vs1, d1, ds1, p1, q1, rfl, rfl, rfl, h1, r1⟩ := trodAll_cons r0
  obtain ⟨rfl, rfl, rfl⟩ := trodAll_nil r1
  obtain rfl : args = #[v0, v1] := by cases args; simp_all
  obtain ⟨rfl, rfl⟩ := trodVars_none hV
  have k0 := h0
  have lt0 : ∀ x ∈ p0, x.block < W.heap.size := by obtain ⟨m, hm⟩ := k0; exact DataW.trod_lt m _ _ _ hm
  obtain ⟨x0, a0, c0, fx0, rfl, s0, n0⟩ := in_ip4 (hval 0 28 v0 rfl rfl) h0 (fun k hk => of_decide_eq_true (List.all_eq_true.1 hsz _ (DataW.weights_mem_each (j := 0) (t := 28) (d := d0) rfl rfl k hk)))
  obtain ⟨a1, rfl, rfl, rfl, w1⟩ := open_int Try.underlying3 (hval 1 3 v1 rfl rfl) h1
  clear hA0 hval0
  refine (walk x0 a0 c0 a1 W fx0 s0 n0 w1).mono fun e W' ⟨he, bel⟩ => ?_
  subst he
  exact ⟨_, rfl, _, _, _, [], _, [], hW', trodAll_mk1 (shut_bool Try.underlying4 _), (trodAll_cons_mk (Below.trod laidOut (by kernel_rfl) (of_decide_eq_true (by kernel_rfl)) k0 bel lt0) (trodAll_cons_mk (shut_int Try.underlying3 w1) trodAll_mk0)), rfl, bel.frame _, fun h => by cases h⟩

theorem over : Rows.ipv4SplitsRow.holds Try.pinned (OpenSpec.ofChange Rows.ipv4SplitsSpec) :=
  OpenClaim.holds_of_wide 5 Try.f5 rfl rfl rfl rfl rfl rfl rfl ⟨rfl, rfl, rfl, rfl, rfl⟩ rfl rfl rfl rfl rfl (by kernel_rfl) Try.func5 (by kernel_rfl)
    (of_decide_eq_true (by kernel_rfl)) (by unfold Func.isWrapper; first | (rw [if_pos (by decide +kernel)]; kernel_rfl) | (rw [if_neg (by decide +kernel)]; exact ⟨rfl, rfl⟩))
    (fun os started H enc _ => lifted os started H enc)

theorem proved : Rows.Ipv4SplitsSaid := over
#print axioms proved
end Go.Proofs.Ytimilcjlogcfhaa.ipv4Splits
