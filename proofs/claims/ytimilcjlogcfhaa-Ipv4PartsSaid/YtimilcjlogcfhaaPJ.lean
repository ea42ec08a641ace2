/- Ipv4Parts holds: for every packet and size the parts that Split makes can be encoded, their payloads are that of the packet, and the law returns true and leaves memory as it was; no conditions. -/
import Derived.Test.YtimilcjlogcfhaaRows
import Derived.Test.YtimilcjlogcfhaaChecked
import Derived.Deep.Cut
import Derived.Deep.WholeRow
import Derived.BigQuiet
import Derived.Test.YtimilcjlogcfhaaPE45
namespace Go.Proofs.Ytimilcjlogcfhaa.ipv4Parts
open Go.ChangeShapes Go.WideShapes Go.ChangeAt Go.RowKit
open Go.ChangeMaps (open_string shut_string)
set_option linter.unusedVariables false

theorem own : ownKnob Try.prog.godebug = none := by kernel_rfl
theorem laidOut : laidOutB Try.prog = true := by kernel_rfl
theorem parts_len (p : Ip4R) (size : Nat) : ∀ (f at_ : Nat) (l : List Ip4R), partsI p size f at_ = some l → l.length ≤ f ∧ ∀ y ∈ l, y.ops.length ≤ p.ops.length
  | 0, at_, l, h => by
    rw [partsI] at h
    cases h
    exact ⟨Nat.le_refl _, fun y hy => by cases hy⟩
  | f + 1, at_, l, h => by
    rw [partsI] at h
    split at h
    · cases h
    · split at h
      · cases h
        exact ⟨by simp, fun y hy => by rw [List.mem_singleton.1 hy]; exact List.length_filter_le _ _⟩
      · cases hq : partsI p size f (at_ + size) with
        | none => rw [hq] at h; cases h
        | some r =>
          rw [hq] at h
          cases h
          obtain ⟨h1, h2⟩ := parts_len p size f _ r hq
          refine ⟨by rw [List.length_cons]; omega, fun y hy => ?_⟩
          rcases List.mem_cons.1 hy with rfl | hy
          · exact List.length_filter_le _ _
          · exact h2 y hy
theorem split_len (p : Ip4R) (size : Int) : (splitI p size).1.length ≤ p.pay.length + 1 ∧ ∀ y ∈ (splitI p size).1, y.ops.length ≤ p.ops.length := by
  unfold splitI
  split
  · exact ⟨by simp, fun y hy => by cases hy⟩
  · split
    · exact ⟨by simp, fun y hy => by cases hy⟩
    · split
      · exact ⟨by simp, fun y hy => by rw [List.mem_singleton.1 hy]; exact List.length_filter_le _ _⟩
      · split
        · exact ⟨by simp, fun y hy => by cases hy⟩
        · cases hq : partsI p size.toNat (p.pay.length + 1) 0 with
          | none => exact ⟨by simp, fun y hy => by cases hy⟩
          | some r => exact parts_len p size.toNat _ _ r hq
theorem enc_in {p : Ip4R} {s : List UInt8} (h : encI p = (s, 0)) (hp : p.pay.length ≤ maxLen) : ipWf p := by
  obtain ⟨hb, ho, ht, _⟩ := encI_ok h
  have hs : a4 p.src := Classical.byContradiction fun e => hb (.inr (.inr (.inr (.inr (.inr (.inl e))))))
  have hd : a4 p.dst := Classical.byContradiction fun e => hb (.inr (.inr (.inr (.inr (.inr (.inr (.inl e)))))))
  have h1 : ¬ (p.tos < 0 ∨ 255 < p.tos) := fun e => hb (.inl e)
  have h2 : ¬ (p.ttl < 0 ∨ 255 < p.ttl) := fun e => hb (.inr (.inl e))
  have h3 : ¬ (p.proto < 0 ∨ 255 < p.proto) := fun e => hb (.inr (.inr (.inl e)))
  have h4 : ¬ (p.id < 0 ∨ 65535 < p.id) := fun e => hb (.inr (.inr (.inr (.inl e))))
  have h5 : ¬ (p.off < 0 ∨ 65528 < p.off ∨ p.off % 8 ≠ 0) := fun e => hb (.inr (.inr (.inr (.inr (.inl e)))))
  refine ⟨⟨int_wf11' _ (by omega) (by omega), int_wf11' _ (by omega) (by omega), int_wf11' _ (by omega) (by omega), int_wf11' _ (by omega) (by omega), int_wf11' _ (by omega) (by omega)⟩, ⟨by rw [hs.2.1]; decide, by have := hs.2.2; omega⟩, ⟨by rw [hd.2.1]; decide, by have := hd.2.2; omega⟩, hp, ?_, fun y hy => ?_⟩
  · have := len_wrOs p.ops
    unfold maxLen
    omega
  · have hk : ¬ (y.kd < 2 ∨ 255 < y.kd) := fun e => hb (.inr (.inr (.inr (.inr (.inr (.inr (.inr ⟨y, hy, e⟩)))))))
    have := wrOs_dat ho y hy
    exact ⟨int_wf11' _ (by omega) (by omega), by omega⟩
theorem enc_part {p : Ip4R} (h : (encI p).2 = 0) : encI p = ((encI p).1, 0) := by rw [← h]
set_option maxHeartbeats 8000000 in
set_option maxRecDepth 20000 in
theorem walk (x : Ip4R) (A : Option Addr) (c : Nat) (size : Int) (w : World) (hw : ipWf x) (h : RowL EOpt w A x.ops) (hc : A = none → c = 0) (hz : (Lit.int .i64 size).wf = true) :
    Calls Try.prog 9 #[.agg (ipC x x.ops.length A c (str x.pay)), .int .i64 size] w fun e w' => e = .returned (.bool true) ∧ Below w.heap.size w w' := by
  obtain ⟨p, hp⟩ : ∃ q, q = x := ⟨_, rfl⟩
  have HPX := Lib.hid hp
  have HWF := Lib.hid (show ipWf p by rw [hp]; exact hw)
  have HOP := Lib.hid (show RowL EOpt w A p.ops by rw [hp]; exact h)
  obtain ⟨tos, id, ttl, proto, dont, more, off, ⟨sv, sh, sl⟩, ⟨dv, dh, dl⟩, l, pay⟩ := x
  unfold ipC
  dsimp only
  obtain ⟨n, hn⟩ : ∃ n, n = l.length := ⟨_, rfl⟩
  obtain ⟨P, hP⟩ : ∃ P, P = str pay := ⟨_, rfl⟩
  have hPs : P.size = pay.length := by rw [hP, str_size]
  have HLG := Lib.hid (fun (W : World) => large_raw tos id ttl proto off dont more sv dv sh sl dh dl n c A P W)
  rw [← hn, ← hP]
  have HNP := Lib.hid (And.intro hn hP)
  have HPS := Lib.hid hPs
  have HPA := Lib.hid (show #[.int .i64 tos, .int .i64 id, .int .i64 ttl, .int .i64 proto, .bool dont, .bool more, .int .i64 off, .bool sv, .int .u64 (sh : Int), .int .u64 (sl : Int), .bool dv, .int .u64 (dh : Int), .int .u64 (dl : Int), .slice A n c, .string P] = ipC p p.ops.length A c (str p.pay) by rw [hn, hP, hp]; rfl)
  have HPL := Lib.hid (show p.pay.length = P.size ∧ p.ops.length = n by rw [hp]; exact ⟨hPs.symm, hn.symm⟩)
  clear hp hw h hc hn hP hPs
  have B0 := Lib.hid (Below.refl w.heap.size w)
  obtain ⟨lg, hlg⟩ : ∃ b : Bool, decide (70000 < P.size ∨ 60 < n) = b := ⟨_, rfl⟩
  rw [hlg] at HLG
  cases lg
  · have hsm : P.size ≤ 70000 ∧ n ≤ 60 := by have := of_decide_eq_false hlg; omega
    have HOK := Lib.hid (fun (W : World) (hb : Below w.heap.size w W) => show ipOk W p A from ⟨HWF.out, HOP.out.kept hb, by have h1 := HPL.out.2; omega, by have h1 := HPL.out.1; omega⟩)
    by_cases ha : 3000 < P.size
    · have d0 : decide ((3000 : Int) < (P.size : Int)) = true := by simp; omega
      have nd : (3000 : Int) < (P.size : Int) := by omega
      clear hlg ha
      go_enter Try.func9, Try.ntmps9
      go_upto_region 1 with fail
      obtain ⟨W1, hW1⟩ : ∃ W, W = w.alloc (.cells #[.int .i64 tos, .int .i64 id, .int .i64 ttl, .int .i64 proto, .bool dont, .bool more, .int .i64 off, .bool sv, .int .u64 (sh : Int), .int .u64 (sl : Int), .bool dv, .int .u64 (dh : Int), .int .u64 (dl : Int), .slice A n c, .string P] 28) := ⟨_, rfl⟩
      obtain ⟨g0, hg0⟩ : ∃ g, g = w.heap.size := ⟨_, rfl⟩
      have X1 := Lib.hid (show Cells W1 g0 28 #[.int .i64 tos, .int .i64 id, .int .i64 ttl, .int .i64 proto, .bool dont, .bool more, .int .i64 off, .bool sv, .int .u64 (sh : Int), .int .u64 (sl : Int), .bool dv, .int .u64 (dh : Int), .int .u64 (dl : Int), .slice A n c, .string P] by rw [hW1, hg0]; exact heap_alloc_new w _)
      have kW1 : Below w.heap.size w W1 := by rw [hW1]; exact below_alloc6 w _
      have B1 := Lib.hid (B0.out.trans (kW1.mono B0.out.size))
      rw [← hW1, ← hg0]
      clear hW1 hg0
      go_wp2_with (refine wpList_load_row (by rfl) 28 _ (by rfl) g0 (by rfl) 28 #[.int .i64 tos, .int .i64 id, .int .i64 ttl, .int .i64 proto, .bool dont, .bool more, .int .i64 off, .bool sv, .int .u64 (sh : Int), .int .u64 (sl : Int), .bool dv, .int .u64 (dh : Int), .int .u64 (dl : Int), .slice A n c, .string P] (0, 0) _ X1.out Try.underlying28 (by rfl) (by kernel_rfl) ?_)
      refine (HLG.out _).mono ?_
      rintro e w2 ⟨rfl, b2⟩
      have X2 := Lib.hid (X1.out.kept b2 X1.out.lt)
      have B2 := Lib.hid (B1.out.trans (b2.mono B1.out.size))
      clear b2
      clear X1 HLG kW1
      have x14 := (Cells.cell X2.out 14).trans (show _ = some (Value.string P) from rfl)
      go_wp2_with fail
      refine (awk11 _).mono ?_
      rintro e w99 ⟨rfl, b99⟩
      go_wp2_with fail
      go_ret
      exact ⟨rfl, B2.out.trans (b99.mono B2.out.size)⟩
    have d0 : decide ((3000 : Int) < (P.size : Int)) = false := by simp; omega
    have nd : ¬ (3000 : Int) < (P.size : Int) := by omega
    have hP3 : P.size ≤ 3000 := by omega
    obtain ⟨R, hR⟩ : ∃ R, R = splitI p size := ⟨_, rfl⟩
    have H1 := Lib.hid (fun (W : World) (hb : Below w.heap.size w W) => show Calls Try.prog 21 #[.agg #[.int .i64 tos, .int .i64 id, .int .i64 ttl, .int .i64 proto, .bool dont, .bool more, .int .i64 off, .bool sv, .int .u64 (sh : Int), .int .u64 (sl : Int), .bool dv, .int .u64 (dh : Int), .int .u64 (dl : Int), .slice A n c, .string P], .int .i64 size] W (SplP W R) from by
      rw [HPA.out, hR]
      exact prog11.spl p size A c W trivial (HOK.out W hb) hz)
    obtain ⟨hlen, hops⟩ := split_len p size
    rw [← hR] at hlen hops
    obtain ⟨nn, hnn⟩ : ∃ k, k = R.1.length := ⟨_, rfl⟩
    obtain ⟨er, her⟩ : ∃ k, k = R.2 := ⟨_, rfl⟩
    have hnn6 : nn ≤ 70001 := by rw [hnn]; have := HPL.out.1; omega
    have HOPS := Lib.hid (show ∀ y ∈ R.1, y.ops.length ≤ 1000 from fun y hy => by have h1 := hops y hy; have h2 := HPL.out.2; omega)
    have HNN := Lib.hid hnn
    unfold SplP at H1
    rw [← hnn, ← her] at H1
    have HRR := Lib.hid hR
    have HER := Lib.hid her
    clear hR hlen hops hnn her hlg
    by_cases he : er ≠ 0
    · have hn0 : nn = 0 := by
        have := split_bad (p := p) (size := size) (by rw [← HRR.out, ← HER.out]; exact he)
        rw [HNN.out, HRR.out, this]
        rfl
      have z1 : ((er : Int) != 0) = true := by rw [bne_iff_ne]; omega
      have z2 : ¬ (er : Int) = 0 := by omega
      rw [hn0] at H1
      clear he hn0 HNN HOPS HRR HER HOK HPA HPL HWF HOP HPX HNP HPS hz hnn6
      go_enter Try.func9, Try.ntmps9
      go_upto_region 1 with fail
      obtain ⟨W1, hW1⟩ : ∃ W, W = w.alloc (.cells #[.int .i64 tos, .int .i64 id, .int .i64 ttl, .int .i64 proto, .bool dont, .bool more, .int .i64 off, .bool sv, .int .u64 (sh : Int), .int .u64 (sl : Int), .bool dv, .int .u64 (dh : Int), .int .u64 (dl : Int), .slice A n c, .string P] 28) := ⟨_, rfl⟩
      obtain ⟨g0, hg0⟩ : ∃ g, g = w.heap.size := ⟨_, rfl⟩
      have X1 := Lib.hid (show Cells W1 g0 28 #[.int .i64 tos, .int .i64 id, .int .i64 ttl, .int .i64 proto, .bool dont, .bool more, .int .i64 off, .bool sv, .int .u64 (sh : Int), .int .u64 (sl : Int), .bool dv, .int .u64 (dh : Int), .int .u64 (dl : Int), .slice A n c, .string P] by rw [hW1, hg0]; exact heap_alloc_new w _)
      have kW1 : Below w.heap.size w W1 := by rw [hW1]; exact below_alloc6 w _
      have B1 := Lib.hid (B0.out.trans (kW1.mono B0.out.size))
      rw [← hW1, ← hg0]
      clear hW1 hg0
      go_wp2_with (refine wpList_load_row (by rfl) 28 _ (by rfl) g0 (by rfl) 28 #[.int .i64 tos, .int .i64 id, .int .i64 ttl, .int .i64 proto, .bool dont, .bool more, .int .i64 off, .bool sv, .int .u64 (sh : Int), .int .u64 (sl : Int), .bool dv, .int .u64 (dh : Int), .int .u64 (dl : Int), .slice A n c, .string P] (0, 0) _ X1.out Try.underlying28 (by rfl) (by kernel_rfl) ?_)
      refine (HLG.out _).mono ?_
      rintro e w2 ⟨rfl, b2⟩
      have X2 := Lib.hid (X1.out.kept b2 X1.out.lt)
      have B2 := Lib.hid (B1.out.trans (b2.mono B1.out.size))
      clear b2
      clear X1 HLG kW1
      have x14 := (Cells.cell X2.out 14).trans (show _ = some (Value.string P) from rfl)
      go_wp2_with (refine wpList_load_row (by rfl) 28 _ (by rfl) g0 (by rfl) 28 #[.int .i64 tos, .int .i64 id, .int .i64 ttl, .int .i64 proto, .bool dont, .bool more, .int .i64 off, .bool sv, .int .u64 (sh : Int), .int .u64 (sl : Int), .bool dv, .int .u64 (dh : Int), .int .u64 (dl : Int), .slice A n c, .string P] (0, 0) _ X2.out Try.underlying28 (by rfl) (by kernel_rfl) ?_)
      refine (H1.out _ B2.out).mono ?_
      rintro e w3 ⟨A1, c1, es1, rfl, hm1, hr1, ho1, hn1, b3⟩
      clear hm1 hr1 ho1 hn1 H1 X2 x14
      have B3 := Lib.hid (B2.out.trans (b3.mono B2.out.size))
      clear b3
      go_wp2_with fail
      refine (awk11 _).mono ?_
      rintro e w99 ⟨rfl, b99⟩
      go_wp2_with fail
      go_ret
      exact ⟨rfl, B3.out.trans (b99.mono B3.out.size)⟩
    have he0 : er = 0 := by omega
    subst he0
    have hspl : splitI p size = (R.1, 0) := by rw [← HRR.out, HER.out]
    have hpp := split_ok hspl
    obtain ⟨hflat, hne, hall⟩ := hpp
    have hencp : encI p = ((encI p).1, 0) := by
      refine enc_part ?_
      by_cases hx : (encI p).2 = 0
      · exact hx
      · exfalso
        have h3 := hspl
        unfold splitI at h3
        split at h3
        · injection h3 with _ h2
          exact absurd h2 (by decide)
        · injection h3 with _ h2
          exact hx h2
    have hszp : 8 ≤ size := by
      have h3 := hspl
      unfold splitI at h3
      split at h3
      · injection h3 with _ h2
        exact absurd h2 (by decide)
      · next h => omega
    have hoffp : 0 ≤ off ∧ off ≤ 65528 := by
      obtain ⟨hb, _⟩ := encI_ok hencp
      have h5 : ¬ (p.off < 0 ∨ 65528 < p.off ∨ p.off % 8 ≠ 0) := fun e => hb (.inr (.inr (.inr (.inr (.inl e)))))
      rw [HPX.out] at h5
      dsimp only at h5
      omega
    have hzz := wf_i64_11 hz
    rw [List.drop_zero] at hflat
    have HFLAT := Lib.hid (show R.1.flatMap (·.pay) = pay by rw [hflat, HPX.out])
    have HALL := Lib.hid (show ∀ (i : Nat) (x : Ip4R), R.1[i]? = some x → (encI x).2 = 0 ∧ x.off = off + (((R.1.take i).flatMap (·.pay)).length : Nat) ∧ x.id = id ∧ x.pay.length ≤ size.toNat ∧ x.more = (decide (i + 1 < nn) || more) from fun i x hx => by
      obtain ⟨h1, h2, h3, h4, h5⟩ := hall i x hx
      rw [HPX.out] at h2 h3 h5
      rw [Nat.zero_add] at h2
      exact ⟨h1, h2, h3, h4, by rw [HNN.out]; exact h5⟩)
    have HPP := HNP.out.2
    have HPY := Lib.hid (show ∀ i, ((R.1.take i).flatMap (·.pay)).length ≤ P.size ∧ ∀ y ∈ R.1, y.pay.length ≤ P.size from fun i => by
      have h1 : P.size = pay.length := HPS.out
      have h2 := HFLAT.out
      refine ⟨?_, fun y hy => ?_⟩
      · have h3 : R.1.flatMap (·.pay) = (R.1.take i).flatMap (·.pay) ++ (R.1.drop i).flatMap (·.pay) := by rw [← List.flatMap_append, List.take_append_drop]
        rw [h1, ← h2, h3, List.length_append]
        omega
      · obtain ⟨a, b, hab⟩ := List.append_of_mem hy
        rw [h1, ← h2, hab, List.flatMap_append, List.flatMap_cons, List.length_append, List.length_append]
        omega)
    have HFP := Lib.hid (show str (R.1.flatMap (·.pay)) = P by rw [HFLAT.out, HPP])
    have HOF := Lib.hid hoffp
    have HZZ := Lib.hid (And.intro hszp hzz)
    clear hoffp hszp hzz
    clear hspl hflat hne hall hencp HPP he HRR HER HFLAT HPA HPL HWF HOP HPX HNP HPS hz HOK
    go_enter Try.func9, Try.ntmps9
    go_upto_region 1 with fail
    obtain ⟨W1, hW1⟩ : ∃ W, W = w.alloc (.cells #[.int .i64 tos, .int .i64 id, .int .i64 ttl, .int .i64 proto, .bool dont, .bool more, .int .i64 off, .bool sv, .int .u64 (sh : Int), .int .u64 (sl : Int), .bool dv, .int .u64 (dh : Int), .int .u64 (dl : Int), .slice A n c, .string P] 28) := ⟨_, rfl⟩
    obtain ⟨g0, hg0⟩ : ∃ g, g = w.heap.size := ⟨_, rfl⟩
    have X1 := Lib.hid (show Cells W1 g0 28 #[.int .i64 tos, .int .i64 id, .int .i64 ttl, .int .i64 proto, .bool dont, .bool more, .int .i64 off, .bool sv, .int .u64 (sh : Int), .int .u64 (sl : Int), .bool dv, .int .u64 (dh : Int), .int .u64 (dl : Int), .slice A n c, .string P] by rw [hW1, hg0]; exact heap_alloc_new w _)
    have kW1 : Below w.heap.size w W1 := by rw [hW1]; exact below_alloc6 w _
    have B1 := Lib.hid (B0.out.trans (kW1.mono B0.out.size))
    rw [← hW1, ← hg0]
    clear hW1 hg0
    go_wp2_with (refine wpList_load_row (by rfl) 28 _ (by rfl) g0 (by rfl) 28 #[.int .i64 tos, .int .i64 id, .int .i64 ttl, .int .i64 proto, .bool dont, .bool more, .int .i64 off, .bool sv, .int .u64 (sh : Int), .int .u64 (sl : Int), .bool dv, .int .u64 (dh : Int), .int .u64 (dl : Int), .slice A n c, .string P] (0, 0) _ X1.out Try.underlying28 (by rfl) (by kernel_rfl) ?_)
    refine (HLG.out _).mono ?_
    rintro e w2 ⟨rfl, b2⟩
    have X2 := Lib.hid (X1.out.kept b2 X1.out.lt)
    have B2 := Lib.hid (B1.out.trans (b2.mono B1.out.size))
    clear b2
    clear X1 HLG kW1
    have x14 := (Cells.cell X2.out 14).trans (show _ = some (Value.string P) from rfl)
    go_wp2_with (refine wpList_load_row (by rfl) 28 _ (by rfl) g0 (by rfl) 28 #[.int .i64 tos, .int .i64 id, .int .i64 ttl, .int .i64 proto, .bool dont, .bool more, .int .i64 off, .bool sv, .int .u64 (sh : Int), .int .u64 (sl : Int), .bool dv, .int .u64 (dh : Int), .int .u64 (dl : Int), .slice A n c, .string P] (0, 0) _ X2.out Try.underlying28 (by rfl) (by kernel_rfl) ?_)
    refine (H1.out _ B2.out).mono ?_
    rintro e w3 ⟨A1, c1, es1, rfl, hm1, hr1, ho1, hn1, b3⟩
    have X3 := Lib.hid (X2.out.kept b3 X2.out.lt)
    have B3 := Lib.hid (B2.out.trans (b3.mono B2.out.size))
    clear b3
    clear X2 H1 x14 hn1
    have HM1 := Lib.hid hm1
    have HR1 := Lib.hid hr1
    have HO1 := Lib.hid ho1
    clear hm1 hr1 ho1
    go_wp2_with fail
    go_loopw [7, 37] (fun t i wr => ∃ (k : Nat) (T : ByteArray), i = .int .i64 (k : Int) ∧ t = .string T ∧ k ≤ nn ∧ T.size ≤ 3000 ∧ Hid (T = str ((R.1.take k).flatMap (·.pay))) ∧ Hid (Below w3.heap.size w3 wr)) (fun _ i _ => nn - (intOf i).toNat)
    case atStart => exact ⟨0, ⟨#[]⟩, rfl, rfl, Nat.zero_le _, by decide, Lib.hid rfl, Lib.hid (Below.refl _ _)⟩
    case round =>
      obtain ⟨k, T, rfl, rfl, hk, hT3, HT, HB⟩ := hrel
      by_cases hlt : k < nn
      · have hki : (k : Int) < (nn : Int) := by omega
        have hki0 : (0 : Int) ≤ (k : Int) := by omega
        have dlt : decide ((k : Int) < (nn : Int)) = true := by simp; omega
        have hl1 : es1.length = nn := by rw [HNN.out, ← HM1.out, List.length_map]
        obtain ⟨x1, hx1⟩ : ∃ x, es1[k]? = some x := ⟨es1[k]'(by omega), List.getElem?_eq_getElem _⟩
        have hy1 : R.1[k]? = some x1.1 := by rw [← HM1.out, List.getElem?_map, hx1]; rfl
        obtain ⟨y, C1, d1⟩ := x1
        dsimp only at hy1
        have hmem := List.mem_of_getElem? hy1
        obtain ⟨f1, f2, f3, f4, f5⟩ := HALL.out k y hy1
        have hyl := (HPY.out 0).2 y hmem
        have hT1 := (HPY.out (k + 1)).1
        have hTs : T.size = ((R.1.take k).flatMap (·.pay)).length := by rw [HT.out, str_size]
        rw [← hTs] at f2
        have hTN : T ++ str y.pay = str ((R.1.take (k + 1)).flatMap (·.pay)) := by
          obtain ⟨hk', e⟩ := List.getElem?_eq_some_iff.1 hy1
          rw [List.take_succ_eq_append_getElem hk', e, List.flatMap_append, HT.out, str_append]
          simp
        have hTN3 : T.size + y.pay.length ≤ 3000 := by
          have h1 : (T ++ str y.pay).size = T.size + y.pay.length := by rw [ByteArray.size_append, str_size]
          rw [hTN, str_size] at h1
          omega
        obtain ⟨g1, o1, rfl, hg1⟩ := HR1.out.shapeA (by omega)
        have hyo := HOPS.out y hmem
        have hec := enc_part f1
        have hwf := enc_in hec (by unfold maxLen; omega)
        have HQ1 := Lib.hid (HO1.out _ (List.mem_of_getElem? hx1)).2
        have HC0 := Lib.hid (fun (W : World) (hb : Below w3.heap.size w3 W) (j : Nat) (v : Value) (hv : (EIp.c (y, C1, d1))[j]? = some v) => HR1.out.at_ hx1 hb j v hv)
        obtain ⟨ES, hES⟩ : ∃ e, e = str (encI y).1 := ⟨_, rfl⟩
        have HE0 := Lib.hid (fun (W : World) (hb : Below w3.heap.size w3 W) => by
          have := prog11.enc y C1 d1 W trivial ⟨hwf, HQ1.out.kept hb, by omega, by omega⟩
          rw [f1, ← hES] at this
          exact this)
        obtain ⟨yt, yi, yl, yx, yd, ym, yo, ⟨a1, a2, a3⟩, ⟨b1, b2, b3⟩, yops, ypay⟩ := y
        dsimp only at f2 f3 f4 f5 hTN hTN3 hyl
        have f3s := f3.symm
        clear f3
        subst f3s
        obtain ⟨Y, hY⟩ : ∃ Y, Y = str ypay := ⟨_, rfl⟩
        have hYs : Y.size = ypay.length := by rw [hY, str_size]
        obtain ⟨yn, hyn⟩ : ∃ m, m = yops.length := ⟨_, rfl⟩
        have HC1 := Lib.hid (fun (W : World) (hb : Below w3.heap.size w3 W) (j : Nat) (v : Value) (hv : ([.int .i64 yt, .int .i64 id, .int .i64 yl, .int .i64 yx, .bool yd, .bool ym, .int .i64 yo, .bool a1, .int .u64 (a2 : Int), .int .u64 (a3 : Int), .bool b1, .int .u64 (b2 : Int), .int .u64 (b3 : Int), .slice C1 yn d1, .string Y] : List Value)[j]? = some v) => HC0.out W hb j v (by subst hyn hY; exact hv))
        have HE1 := Lib.hid (fun (W : World) (hb : Below w3.heap.size w3 W) => show Calls Try.prog 15 #[.agg #[.int .i64 yt, .int .i64 id, .int .i64 yl, .int .i64 yx, .bool yd, .bool ym, .int .i64 yo, .bool a1, .int .u64 (a2 : Int), .int .u64 (a3 : Int), .bool b1, .int .u64 (b2 : Int), .int .u64 (b3 : Int), .slice C1 yn d1, .string Y]] W fun e w' => e = .returned (.tuple #[.string ES, .int .i64 0]) ∧ Below W.heap.size W w' from by rw [hyn, hY]; exact HE0.out W hb)
        have HF1 := Lib.hid (fun (W : World) => show Calls Try.prog 17 #[.agg #[.int .i64 yt, .int .i64 id, .int .i64 yl, .int .i64 yx, .bool yd, .bool ym, .int .i64 yo, .bool a1, .int .u64 (a2 : Int), .int .u64 (a3 : Int), .bool b1, .int .u64 (b2 : Int), .int .u64 (b3 : Int), .slice C1 yn d1, .string Y]] W fun e w' => e = .returned (.agg #[.bool a1, .int .u64 (a2 : Int), .int .u64 (a3 : Int), .bool b1, .int .u64 (b2 : Int), .int .u64 (b3 : Int), .int .i64 yx, .int .i64 id, .int .i64 yl, .int .i64 yo, .bool ym, .string Y]) ∧ Below W.heap.size W w' from pfragment11_any yt id yl yx yo yd ym a1 b1 a2 a3 b2 b3 yn C1 d1 Y W)
        rw [← hY] at hTN
        have HTN := Lib.hid hTN
        have hT9 : (9223372036854775807 < T.size + Y.size) = False := by simp only [eq_iff_iff, iff_false]; omega
        have hTY : (T ++ Y).size ≤ 3000 := by rw [ByteArray.size_append]; omega
        have q1 : (yo != (off + (T.size : Int))) = false := by rw [bne_eq_false_iff_eq]; exact f2
        have q2 : decide (size < (Y.size : Int)) = false := by have h1 := HZZ.out.1; simp; omega
        have q3 : ¬ size < (Y.size : Int) := by have h1 := HZZ.out.1; omega
        have hofi : -9223372036854775808 ≤ off + (T.size : Int) ∧ off + (T.size : Int) ≤ 9223372036854775807 := by have h1 := HOF.out; omega
        have woff : IntKind.i64.wrap (off + (T.size : Int)) = off + (T.size : Int) := IntWalk.i64_in _ hofi
        have hyoi : yo ≤ 9223372036854775807 := by omega
        have q4 : yo = off + (T.size : Int) := f2
        have q5 : (id != id) = false := by simp
        have hnn1 : (nn : Int) - 1 = ((nn - 1 : Nat) : Int) := by omega
        obtain ⟨n1, hn1⟩ : ∃ m, m = nn - 1 := ⟨_, rfl⟩
        have hnn2 : (nn : Int) - 1 = (n1 : Int) := by omega
        have hdm : (decide ((k : Int) < (n1 : Int)) = true ∧ (k : Int) < (n1 : Int) ∧ ym = true) ∨ (decide ((k : Int) < (n1 : Int)) = false ∧ ¬ (k : Int) < (n1 : Int) ∧ ym = more) := by
          by_cases hk1 : k + 1 < nn
          · left; exact ⟨by simp; omega, by omega, by rw [f5, decide_eq_true hk1]; rfl⟩
          · right; exact ⟨by simp; omega, by omega, by rw [f5, decide_eq_false hk1]; rfl⟩
        have HDM := Lib.hid hdm
        clear hx1 hy1 hmem f1 f2 f4 f5 hyl hT1 hTs hTN hec hwf hES HC0 HE0 HQ1 hY hyn hnn1 hn1 hl1 hyo hdm
        have X4 := Lib.hid (X3.out.kept HB.out X3.out.lt)
        have y0 : wr.cell? ⟨g1, o1 + k * 15, none⟩ = some (.int .i64 yt) := HC1.out _ HB.out 0 _ rfl
        have y1 : wr.cell? ⟨g1, o1 + k * 15 + 1, none⟩ = some (.int .i64 id) := HC1.out _ HB.out 1 _ rfl
        have y2 : wr.cell? ⟨g1, o1 + k * 15 + 2, none⟩ = some (.int .i64 yl) := HC1.out _ HB.out 2 _ rfl
        have y3 : wr.cell? ⟨g1, o1 + k * 15 + 3, none⟩ = some (.int .i64 yx) := HC1.out _ HB.out 3 _ rfl
        have y4 : wr.cell? ⟨g1, o1 + k * 15 + 4, none⟩ = some (.bool yd) := HC1.out _ HB.out 4 _ rfl
        have y5 : wr.cell? ⟨g1, o1 + k * 15 + 5, none⟩ = some (.bool ym) := HC1.out _ HB.out 5 _ rfl
        have y6 : wr.cell? ⟨g1, o1 + k * 15 + 6, none⟩ = some (.int .i64 yo) := HC1.out _ HB.out 6 _ rfl
        have y7 : wr.cell? ⟨g1, o1 + k * 15 + 7, none⟩ = some (.bool a1) := HC1.out _ HB.out 7 _ rfl
        have y8 : wr.cell? ⟨g1, o1 + k * 15 + 8, none⟩ = some (.int .u64 (a2 : Int)) := HC1.out _ HB.out 8 _ rfl
        have y9 : wr.cell? ⟨g1, o1 + k * 15 + 9, none⟩ = some (.int .u64 (a3 : Int)) := HC1.out _ HB.out 9 _ rfl
        have y10 : wr.cell? ⟨g1, o1 + k * 15 + 10, none⟩ = some (.bool b1) := HC1.out _ HB.out 10 _ rfl
        have y11 : wr.cell? ⟨g1, o1 + k * 15 + 11, none⟩ = some (.int .u64 (b2 : Int)) := HC1.out _ HB.out 11 _ rfl
        have y12 : wr.cell? ⟨g1, o1 + k * 15 + 12, none⟩ = some (.int .u64 (b3 : Int)) := HC1.out _ HB.out 12 _ rfl
        have y13 : wr.cell? ⟨g1, o1 + k * 15 + 13, none⟩ = some (.slice C1 yn d1) := HC1.out _ HB.out 13 _ rfl
        have y14 : wr.cell? ⟨g1, o1 + k * 15 + 14, none⟩ = some (.string Y) := HC1.out _ HB.out 14 _ rfl
        have HQS := Lib.hid (And.intro q1 (And.intro q2 (And.intro q3 (And.intro woff (And.intro q5 (And.intro hT9 (And.intro hTY hnn2)))))))
        have HLT := Lib.hid hlt
        clear hlt q1 q2 q3 woff q5 hT9 hTY hnn2 q4 hofi hyoi hTN3 hYs
        go_wp2_with fail
        refine (HF1.out _).mono ?_
        rintro e w5 ⟨rfl, b5⟩
        have HB5 := Lib.hid (HB.out.trans (b5.mono HB.out.size))
        clear b5 HF1 y0 y1 y2 y3 y4 y5 y6 y7 y8 y9 y10 y11 y12 y13 y14
        go_upto_region 11 with (refine wpList_store_row (by rfl) 38 _ _ (by rfl) w5.heap.size #[.bool a1, .int .u64 (a2 : Int), .int .u64 (a3 : Int), .bool b1, .int .u64 (b2 : Int), .int .u64 (b3 : Int), .int .i64 yx, .int .i64 id, .int .i64 yl, .int .i64 yo, .bool ym, .string Y] (by rfl) (by rfl) 38 #[.bool false, .int .u64 0, .int .u64 0, .bool false, .int .u64 0, .int .u64 0, .int .i64 0, .int .i64 0, .int .i64 0, .int .i64 0, .bool false, .string ⟨#[]⟩] (heap_alloc_new _ _) (by kernel_rfl) (by rfl) (by simp [Value.oneCell']) ?_; rw [World.setRow_alloc_new])
        obtain ⟨W6, hW6⟩ : ∃ W, W = w5.alloc (.cells #[.bool a1, .int .u64 (a2 : Int), .int .u64 (a3 : Int), .bool b1, .int .u64 (b2 : Int), .int .u64 (b3 : Int), .int .i64 yx, .int .i64 id, .int .i64 yl, .int .i64 yo, .bool ym, .string Y] 38) := ⟨_, rfl⟩
        obtain ⟨g9, hg9⟩ : ∃ g, g = w5.heap.size := ⟨_, rfl⟩
        have hF6 : Cells W6 g9 38 #[.bool a1, .int .u64 (a2 : Int), .int .u64 (a3 : Int), .bool b1, .int .u64 (b2 : Int), .int .u64 (b3 : Int), .int .i64 yx, .int .i64 id, .int .i64 yl, .int .i64 yo, .bool ym, .string Y] := by rw [hW6, hg9]; exact heap_alloc_new w5 _
        have k6 : Below w5.heap.size w5 W6 := by rw [hW6]; exact below_alloc6 w5 _
        rw [← hW6, ← hg9]
        have F6 := Lib.hid hF6
        have HB6 := Lib.hid (HB5.out.trans (k6.mono HB5.out.size))
        clear hW6 hg9 hF6 k6 HB5
        have y0 : W6.cell? ⟨g1, o1 + k * 15, none⟩ = some (.int .i64 yt) := HC1.out _ HB6.out 0 _ rfl
        have y1 : W6.cell? ⟨g1, o1 + k * 15 + 1, none⟩ = some (.int .i64 id) := HC1.out _ HB6.out 1 _ rfl
        have y2 : W6.cell? ⟨g1, o1 + k * 15 + 2, none⟩ = some (.int .i64 yl) := HC1.out _ HB6.out 2 _ rfl
        have y3 : W6.cell? ⟨g1, o1 + k * 15 + 3, none⟩ = some (.int .i64 yx) := HC1.out _ HB6.out 3 _ rfl
        have y4 : W6.cell? ⟨g1, o1 + k * 15 + 4, none⟩ = some (.bool yd) := HC1.out _ HB6.out 4 _ rfl
        have y5 : W6.cell? ⟨g1, o1 + k * 15 + 5, none⟩ = some (.bool ym) := HC1.out _ HB6.out 5 _ rfl
        have y6 : W6.cell? ⟨g1, o1 + k * 15 + 6, none⟩ = some (.int .i64 yo) := HC1.out _ HB6.out 6 _ rfl
        have y7 : W6.cell? ⟨g1, o1 + k * 15 + 7, none⟩ = some (.bool a1) := HC1.out _ HB6.out 7 _ rfl
        have y8 : W6.cell? ⟨g1, o1 + k * 15 + 8, none⟩ = some (.int .u64 (a2 : Int)) := HC1.out _ HB6.out 8 _ rfl
        have y9 : W6.cell? ⟨g1, o1 + k * 15 + 9, none⟩ = some (.int .u64 (a3 : Int)) := HC1.out _ HB6.out 9 _ rfl
        have y10 : W6.cell? ⟨g1, o1 + k * 15 + 10, none⟩ = some (.bool b1) := HC1.out _ HB6.out 10 _ rfl
        have y11 : W6.cell? ⟨g1, o1 + k * 15 + 11, none⟩ = some (.int .u64 (b2 : Int)) := HC1.out _ HB6.out 11 _ rfl
        have y12 : W6.cell? ⟨g1, o1 + k * 15 + 12, none⟩ = some (.int .u64 (b3 : Int)) := HC1.out _ HB6.out 12 _ rfl
        have y13 : W6.cell? ⟨g1, o1 + k * 15 + 13, none⟩ = some (.slice C1 yn d1) := HC1.out _ HB6.out 13 _ rfl
        have y14 : W6.cell? ⟨g1, o1 + k * 15 + 14, none⟩ = some (.string Y) := HC1.out _ HB6.out 14 _ rfl
        go_wp2_with fail
        refine (HE1.out _ HB6.out).mono ?_
        rintro e w7 ⟨rfl, b7⟩
        have HB7 := Lib.hid (HB6.out.trans (b7.mono HB6.out.size))
        have F7 := F6.out.kept b7 F6.out.lt
        have X7 := X3.out.kept HB7.out X3.out.lt
        clear b7 HE1 HB6 F6 HB X4 y0 y1 y2 y3 y4 y5 y6 y7 y8 y9 y10 y11 y12 y13 y14
        have f7 := (Cells.cell F7 7).trans (show _ = some (Value.int .i64 id) from rfl)
        have f9 := (Cells.cell F7 9).trans (show _ = some (Value.int .i64 yo) from rfl)
        have f10 := (Cells.cell F7 10).trans (show _ = some (Value.bool ym) from rfl)
        have f11 := (Cells.cell F7 11).trans (show _ = some (Value.string Y) from rfl)
        have p1 := (Cells.cell X7 1).trans (show _ = some (Value.int .i64 id) from rfl)
        have p5 := (Cells.cell X7 5).trans (show _ = some (Value.bool more) from rfl)
        have p6 := (Cells.cell X7 6).trans (show _ = some (Value.int .i64 off) from rfl)
        clear F7 X7
        have HTN2 := Lib.hid (show T ++ Y = str ((R.1.take (k + 1)).flatMap (·.pay)) from HTN.out)
        obtain ⟨q1, q2, q3, woff, q5, hT9, hTY, hnn2⟩ := HQS.out
        clear HQS
        rcases HDM.out with ⟨m1, m2, rfl⟩ | ⟨m1, m2, rfl⟩
        · go_wp2_with fail
          go_roundw
          case rel => exact ⟨k + 1, T ++ Y, by go_num, rfl, by omega, hTY, HTN2, HB7⟩
          case measure => simp [intOf]; omega
        · cases ym
          · go_wp2_with fail
            go_roundw
            case rel => exact ⟨k + 1, T ++ Y, by go_num, rfl, by have := HLT.out; omega, hTY, HTN2, HB7⟩
            case measure => have := HLT.out; simp [intOf]; omega
          · go_wp2_with fail
            go_roundw
            case rel => exact ⟨k + 1, T ++ Y, by go_num, rfl, by have := HLT.out; omega, hTY, HTN2, HB7⟩
            case measure => have := HLT.out; simp [intOf]; omega
      · obtain rfl : k = nn := by omega
        have dlt : decide ((k : Int) < (k : Int)) = false := by simp
        have nlt : ¬ (k : Int) < (k : Int) := by omega
        have hTP : T = P := by
          rw [HT.out, ← HFP.out, HNN.out, List.take_length]
        subst hTP
        have heq : (T.toList == T.toList) = true := beq_self_eq_true _
        have B5 := Lib.hid (B3.out.trans (HB.out.mono B3.out.size))
        have X7 := X3.out.kept HB.out X3.out.lt
        have x14 := (Cells.cell X7 14).trans (show _ = some (Value.string T) from rfl)
        clear X7
        go_wp2_with fail
        refine (awk11 _).mono ?_
        rintro e w99 ⟨rfl, b99⟩
        go_wp2_with fail
        go_ret
        exact ⟨rfl, B5.out.trans (b99.mono B5.out.size)⟩
  · clear hlg
    go_enter Try.func9, Try.ntmps9
    go_upto_region 1 with fail
    obtain ⟨W1, hW1⟩ : ∃ W, W = w.alloc (.cells #[.int .i64 tos, .int .i64 id, .int .i64 ttl, .int .i64 proto, .bool dont, .bool more, .int .i64 off, .bool sv, .int .u64 (sh : Int), .int .u64 (sl : Int), .bool dv, .int .u64 (dh : Int), .int .u64 (dl : Int), .slice A n c, .string P] 28) := ⟨_, rfl⟩
    obtain ⟨g0, hg0⟩ : ∃ g, g = w.heap.size := ⟨_, rfl⟩
    have X1 := Lib.hid (show Cells W1 g0 28 #[.int .i64 tos, .int .i64 id, .int .i64 ttl, .int .i64 proto, .bool dont, .bool more, .int .i64 off, .bool sv, .int .u64 (sh : Int), .int .u64 (sl : Int), .bool dv, .int .u64 (dh : Int), .int .u64 (dl : Int), .slice A n c, .string P] by rw [hW1, hg0]; exact heap_alloc_new w _)
    have kW1 : Below w.heap.size w W1 := by rw [hW1]; exact below_alloc6 w _
    have B1 := Lib.hid (B0.out.trans (kW1.mono B0.out.size))
    rw [← hW1, ← hg0]
    clear hW1 hg0
    go_wp2_with (refine wpList_load_row (by rfl) 28 _ (by rfl) g0 (by rfl) 28 #[.int .i64 tos, .int .i64 id, .int .i64 ttl, .int .i64 proto, .bool dont, .bool more, .int .i64 off, .bool sv, .int .u64 (sh : Int), .int .u64 (sl : Int), .bool dv, .int .u64 (dh : Int), .int .u64 (dl : Int), .slice A n c, .string P] (0, 0) _ X1.out Try.underlying28 (by rfl) (by kernel_rfl) ?_)
    refine (HLG.out _).mono ?_
    rintro e w2 ⟨rfl, b2⟩
    have X2 := Lib.hid (X1.out.kept b2 X1.out.lt)
    have B2 := Lib.hid (B1.out.trans (b2.mono B1.out.size))
    clear b2
    clear X1 HLG kW1
    go_wp2_with fail
    refine (awk11 _).mono ?_
    rintro e w99 ⟨rfl, b99⟩
    go_wp2_with fail
    go_ret
    exact ⟨rfl, B2.out.trans (b99.mono B2.out.size)⟩

set_option maxRecDepth 100000 in
theorem lifted (os : Os) (started : os.Started) (H : Type) (enc : TypeId × Value → H) :
    ReturnsInHanded {} Try.checked os 9 .any (Rows.ipv4PartsSpec.pre6 enc Try.prog Try.f9 Rows.ipv4PartsRow.domain false) (Rows.ipv4PartsSpec.post enc Try.prog Try.f9 false true false false) := by
  refine returnsInHanded_of_change_sized (C := Try.checked) own started (by kernel_rfl) Try.func9
    (ChangeSpec.witness6 (enc := enc) (C := Try.checked) false ⟨#[], #[(.agg #[.int .i64 0, .int .i64 0, .int .i64 0, .int .i64 0, .bool false, .bool false, .int .i64 0, .bool false, .int .u64 0, .int .u64 0, .bool false, .int .u64 0, .int .u64 0, .slice none 0 0, .string ⟨#[]⟩]), .int .i64 0], []⟩ 8 (by kernel_rfl) (by kernel_rfl) (by kernel_rfl) (by kernel_rfl)) ?_
  intro W base args ds gs before hval0 hW hcnd hsz _
  have hval : ∀ (j : Nat) t v, Try.f9.params[j]? = some t → args[j]? = some v → Value.okWide Try.prog W .any base t v := hval0
  have hW' := hW
  obtain ⟨p, q, hA0, hV, rfl, hfz, hnd⟩ := hW
  have hA : DataW.TrodAll enc Try.prog W 0 (fun _ => true) true Try.f9.params.toList args.toList ds p := hA0
  rw [Try.params9] at hA hval hsz
  obtain ⟨v0, vs0, d0, ds0, p0, q0, hargs, rfl, rfl, h0, r0⟩ := trodAll_cons hA
  obtain ⟨v1, vs1, d1, ds1, p1, q1, rfl, rfl, rfl, h1, r1⟩ := trodAll_cons r0
  obtain ⟨rfl, rfl, rfl⟩ := trodAll_nil r1
  obtain rfl : args = #[v0, v1] := by cases args; simp_all
  obtain ⟨rfl, rfl⟩ := trodVars_none hV
  have k0 := h0
  have lt0 : ∀ x ∈ p0, x.block < W.heap.size := by obtain ⟨m, hm⟩ := k0; exact DataW.trod_lt m _ _ _ hm
  obtain ⟨x0, a0, c0, fx0, rfl, s0, n0⟩ := in_ip4 (hval 0 28 v0 rfl rfl) h0 (fun k hk => of_decide_eq_true (List.all_eq_true.1 hsz _ (DataW.weights_mem_each (j := 0) (t := 28) (d := d0) rfl rfl k hk)))
  obtain ⟨a1, rfl, rfl, rfl, w1⟩ := open_int Try.underlying3 (hval 1 3 v1 rfl rfl) h1
  clear hA0 hval0
  refine (walk x0 a0 c0 a1 W fx0 s0 n0 w1).mono fun e W' ⟨he, bel⟩ => ?_
  subst he
  exact ⟨_, rfl, _, _, _, [], _, [], hW', trodAll_mk1 (shut_bool Try.underlying4 _), (trodAll_cons_mk (Below.trod laidOut (by kernel_rfl) (of_decide_eq_true (by kernel_rfl)) k0 bel lt0) (trodAll_cons_mk (shut_int Try.underlying3 w1) trodAll_mk0)), rfl, bel.frame _, fun h => by cases h⟩

theorem over : Rows.ipv4PartsRow.holds Try.pinned (OpenSpec.ofChange Rows.ipv4PartsSpec) :=
  OpenClaim.holds_of_wide 9 Try.f9 rfl rfl rfl rfl rfl rfl rfl ⟨rfl, rfl, rfl, rfl, rfl⟩ rfl rfl rfl rfl rfl (by kernel_rfl) Try.func9 (by kernel_rfl)
    (of_decide_eq_true (by kernel_rfl)) (by unfold Func.isWrapper; first | (rw [if_pos (by decide +kernel)]; kernel_rfl) | (rw [if_neg (by decide +kernel)]; exact ⟨rfl, rfl⟩))
    (fun os started H enc _ => lifted os started H enc)

theorem proved : Rows.Ipv4PartsSaid := over
#print axioms proved
end Go.Proofs.Ytimilcjlogcfhaa.ipv4Parts
