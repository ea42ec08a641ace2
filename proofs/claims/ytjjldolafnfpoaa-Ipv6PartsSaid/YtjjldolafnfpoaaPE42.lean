/- Contracts of the functions, part 42: Ip6PDec. -/
import Derived.Deep.WholeRow
import Derived.Deep.Cut
import Derived.Test.YtjjldolafnfpoaaPE18
import Derived.Test.YtjjldolafnfpoaaPE40
import Derived.Test.YtjjldolafnfpoaaPE41
/- Contract of the program of layer 12: Decode. -/
namespace Go.Proofs.Ytjjldolafnfpoaa
open Go.ChangeShapes Go.WideShapes Go.ChangeAt Go.RowKit
set_option linter.unusedVariables false

/-- What the call of readPayload leaves, and its first part. -/
def dq6V (Q : Ip6R × Nat) (g0 : Nat) (v : Value) (W : World) : Prop := ∃ A cap, v = .tuple #[.agg #[.int .i64 Q.1.cls, .int .i64 Q.1.lab, .int .i64 Q.1.hops, .int .i64 Q.1.nxt, .bool Q.1.src.v6, .int .u64 (Q.1.src.hi : Int), .int .u64 (Q.1.src.lo : Int), .bool Q.1.dst.v6, .int .u64 (Q.1.dst.hi : Int), .int .u64 (Q.1.dst.lo : Int), .slice A Q.1.exts.length cap, .bool Q.1.frg, .int .i64 Q.1.id, .int .i64 Q.1.off, .bool Q.1.more, .string (str Q.1.pay)], .int .i64 (Q.2 : Int)] ∧ RowL EOpt W A Q.1.exts ∧ (A = none → cap = 0) ∧ (∀ a, A = some a → g0 < a.block)
def dq6U (Q : Ip6R × Nat) (g0 : Nat) (v : Value) (W : World) : Prop := ∃ A cap, v = .agg #[.int .i64 Q.1.cls, .int .i64 Q.1.lab, .int .i64 Q.1.hops, .int .i64 Q.1.nxt, .bool Q.1.src.v6, .int .u64 (Q.1.src.hi : Int), .int .u64 (Q.1.src.lo : Int), .bool Q.1.dst.v6, .int .u64 (Q.1.dst.hi : Int), .int .u64 (Q.1.dst.lo : Int), .slice A Q.1.exts.length cap, .bool Q.1.frg, .int .i64 Q.1.id, .int .i64 Q.1.off, .bool Q.1.more, .string (str Q.1.pay)] ∧ RowL EOpt W A Q.1.exts ∧ (A = none → cap = 0) ∧ (∀ a, A = some a → g0 < a.block)
theorem dq6V_kept (Q : Ip6R × Nat) (g0 : Nat) (v : Value) (w w' : World) (h : dq6V Q g0 v w) (hb : Below w.heap.size w w') : dq6V Q g0 v w' := by
  obtain ⟨A, cap, h1, h2, h3⟩ := h
  exact ⟨A, cap, h1, h2.kept hb, h3⟩
theorem dq6U_kept (Q : Ip6R × Nat) (g0 : Nat) (v : Value) (w w' : World) (h : dq6U Q g0 v w) (hb : Below w.heap.size w w') : dq6U Q g0 v w' := by
  obtain ⟨A, cap, h1, h2, h3⟩ := h
  exact ⟨A, cap, h1, h2.kept hb, h3⟩
theorem decX_pay (S : List UInt8) (h1 : ¬ S.length < 40) (h2 : byt S 0 / 16 = 6) (h3 : ¬ S.length - 40 < nm2 S 4) :
    decX S = payQ (nm4 S 0 / 1048576 % 256) (nm4 S 0 % 1048576) (byt S 7) (nm8 S 8) (nm8 S 16) (nm8 S 24) (nm8 S 32) (byt S 6) true true ((S.drop 40).take (nm2 S 4)) := by
  have hl : ((S.drop 40).take (nm2 S 4)).length = nm2 S 4 := by rw [List.length_take, List.length_drop]; omega
  unfold decX payQ
  rw [if_neg h1, if_neg (fun e => e h2), if_neg h3, hl, (first12 S (by omega)).2]
  rfl
set_option maxHeartbeats 8000000 in
set_option maxRecDepth 100000 in
theorem pdec12_any (S : List UInt8) (w : World) (hs : S.length ≤ 1000000) :
    Calls Try.prog 11 #[.string (str S)] w (Dec6P w (decX S)) := by
  have hsz : (str S).size = S.length := str_size S
  obtain ⟨s, hS⟩ : ∃ s, s = str S := ⟨_, rfl⟩
  have HST := Lib.hid (fun (W : World) => pstart12_any S W hs)
  rw [← hS] at hsz HST ⊢
  obtain ⟨Q, hQ⟩ : ∃ Q, Q = decX S := ⟨_, rfl⟩
  rw [← hQ]
  have HQ := Lib.hid hQ
  have HS := Lib.hid hS
  have HSZ := Lib.hid hsz
  have hs6 : s.size ≤ 1000000 := by omega
  obtain ⟨g0, hg0⟩ : ∃ g, g = w.heap.size := ⟨_, rfl⟩
  obtain ⟨W1, hW1⟩ : ∃ W, W = w.alloc (.cells #[.int .i64 0, .int .i64 0, .int .i64 0, .int .i64 0, .bool false, .int .u64 0, .int .u64 0, .bool false, .int .u64 0, .int .u64 0, .slice none 0 0, .bool false, .int .i64 0, .int .i64 0, .bool false, .string ⟨#[]⟩] 28) := ⟨_, rfl⟩
  have HG0 := Lib.hid (show Cells W1 g0 28 #[.int .i64 0, .int .i64 0, .int .i64 0, .int .i64 0, .bool false, .int .u64 0, .int .u64 0, .bool false, .int .u64 0, .int .u64 0, .slice none 0 0, .bool false, .int .i64 0, .int .i64 0, .bool false, .string ⟨#[]⟩] by rw [hW1, hg0]; exact heap_alloc_new w _)
  have HB0 := Lib.hid (show Below w.heap.size w W1 by rw [hW1]; exact below_alloc6 w _)
  have HGE := Lib.hid hg0
  clear hQ hS hsz hs
  go_enter Try.func11, Try.ntmps11
  go_upto_region 1 with fail
  rw [← hW1, ← hg0]
  clear hW1 hg0
  go_wp2_with fail
  refine (HST.out _).mono ?_
  rintro e w2 ⟨fi, sz, X, H, h1, l1, h2, l2, er, b1, b2, rfl, HBD, HCS, hb2⟩
  unfold StartC6
  obtain ⟨v0, hv0⟩ : ∃ v, v = fi / 268435456 := ⟨_, rfl⟩
  obtain ⟨C, hC⟩ : ∃ v, v = fi / 1048576 % 256 := ⟨_, rfl⟩
  obtain ⟨L, hL⟩ : ∃ v, v = fi % 1048576 := ⟨_, rfl⟩
  rw [← hv0, ← hC, ← hL]
  have hb := HBD.out
  have v0l : v0 < 16 := by omega
  have Cl : C < 256 := by omega
  have Ll : L < 1048576 := by omega
  have szl : sz < 65536 := hb.2.1
  have Xl : X < 256 := hb.2.2.1
  have HVV := Lib.hid (show v0 = fi / 268435456 ∧ C = fi / 1048576 % 256 ∧ L = fi % 1048576 from ⟨hv0, hC, hL⟩)
  have HB2 := Lib.hid (HB0.out.trans (hb2.mono HB0.out.size))
  have HG2 := Lib.hid (HG0.out.kept hb2 HG0.out.lt)
  clear hv0 hC hL hb hb2 HST HBD HB0 HG0
  obtain ⟨gs, hgs⟩ : ∃ g, g = w2.heap.size := ⟨_, rfl⟩
  obtain ⟨W3, hW3⟩ : ∃ W, W = w2.alloc (.cells #[.int .i64 (v0 : Int), .int .i64 (sz : Int), .int .i64 (C : Int), .int .i64 (L : Int), .int .i64 (H : Int), .int .i64 (X : Int), .bool b1, .int .u64 (h1 : Int), .int .u64 (l1 : Int), .bool b2, .int .u64 (h2 : Int), .int .u64 (l2 : Int), .slice none 0 0, .bool false, .int .i64 0, .int .i64 0, .bool false, .string ⟨#[]⟩] 49) := ⟨_, rfl⟩
  have HXS := Lib.hid (show Cells W3 gs 49 #[.int .i64 (v0 : Int), .int .i64 (sz : Int), .int .i64 (C : Int), .int .i64 (L : Int), .int .i64 (H : Int), .int .i64 (X : Int), .bool b1, .int .u64 (h1 : Int), .int .u64 (l1 : Int), .bool b2, .int .u64 (h2 : Int), .int .u64 (l2 : Int), .slice none 0 0, .bool false, .int .i64 0, .int .i64 0, .bool false, .string ⟨#[]⟩] by rw [hW3, hgs]; exact heap_alloc_new w2 _)
  have HB3 := Lib.hid (show Below w.heap.size w W3 by rw [hW3]; exact HB2.out.trans ((below_alloc6 w2 _).mono HB2.out.size))
  have HG3 := Lib.hid (show Cells W3 g0 28 #[.int .i64 0, .int .i64 0, .int .i64 0, .int .i64 0, .bool false, .int .u64 0, .int .u64 0, .bool false, .int .u64 0, .int .u64 0, .slice none 0 0, .bool false, .int .i64 0, .int .i64 0, .bool false, .string ⟨#[]⟩] by rw [hW3]; exact HG2.out.kept (below_alloc6 w2 _) HG2.out.lt)
  have HW3 := Lib.hid (And.intro hW3 hgs)
  clear hW3
  go_upto_region 2 with (refine wpList_store_row (by rfl) 49 _ _ (by rfl) w2.heap.size #[.int .i64 (v0 : Int), .int .i64 (sz : Int), .int .i64 (C : Int), .int .i64 (L : Int), .int .i64 (H : Int), .int .i64 (X : Int), .bool b1, .int .u64 (h1 : Int), .int .u64 (l1 : Int), .bool b2, .int .u64 (h2 : Int), .int .u64 (l2 : Int), .slice none 0 0, .bool false, .int .i64 0, .int .i64 0, .bool false, .string ⟨#[]⟩] (by rfl) (by rfl) 49 #[.int .i64 0, .int .i64 0, .int .i64 0, .int .i64 0, .int .i64 0, .int .i64 0, .bool false, .int .u64 0, .int .u64 0, .bool false, .int .u64 0, .int .u64 0, .slice none 0 0, .bool false, .int .i64 0, .int .i64 0, .bool false, .string ⟨#[]⟩] (heap_alloc_new _ _) (by kernel_rfl) (by rfl) (by simp [Value.oneCell']) ?_; rw [World.setRow_alloc_new, ← HW3.out.1])
  rw [← hgs]
  clear HW3 hgs HG2 HB2
  rcases HCS.out with ⟨hsh, rfl⟩ | ⟨hsh, rfl, rfl, rfl, rfl, rfl, rfl, rfl, rfl, rfl, rfl, rfl⟩
  · have HF := Lib.hid (show Q = (zeroX, 1) by rw [HQ.out]; unfold decX; rw [if_pos hsh])
    go_upto_region 3 with fail
    go_wp2_with (refine wpList_store_row (by rfl) 28 _ _ (by rfl) g0 #[.int .i64 0, .int .i64 0, .int .i64 0, .int .i64 0, .bool false, .int .u64 0, .int .u64 0, .bool false, .int .u64 0, .int .u64 0, .slice none 0 0, .bool false, .int .i64 0, .int .i64 0, .bool false, .string ⟨#[]⟩] (by rfl) (by rfl) 28 #[.int .i64 0, .int .i64 0, .int .i64 0, .int .i64 0, .bool false, .int .u64 0, .int .u64 0, .bool false, .int .u64 0, .int .u64 0, .slice none 0 0, .bool false, .int .i64 0, .int .i64 0, .bool false, .string ⟨#[]⟩] HG3.out (by kernel_rfl) (by rfl) (by simp [Value.oneCell']) ?_)
    refine bodyPost_ret (res_box2 ip6Ty rfl _ _ rfl (Cells.row HG3.out _)) rfl ?_
    exact dec6_err (er := 1) rfl HF.out (below_row HB3.out g0 (Nat.le_of_eq HGE.out.symm) _)
  have HV0 := Lib.hid (show v0 = byt S 0 / 16 by rw [HVV.out.1]; exact (first12 S hsh).1)
  have HSH := Lib.hid (show ¬ S.length < 40 by omega)
  have x0 := (Cells.cell HXS.out 0).trans (show _ = some (Value.int .i64 (v0 : Int)) from rfl)
  have x1 := (Cells.cell HXS.out 1).trans (show _ = some (Value.int .i64 (nm2 S 4 : Int)) from rfl)
  have hgl := HXS.out.lt
  by_cases h6 : v0 ≠ 6
  · have y1 : ((v0 : Int) != 6) = true := by rw [bne_iff_ne]; omega
    have y2 : ¬ (v0 : Int) = 6 := by omega
    have HF := Lib.hid (show Q = (zeroX, 2) by rw [HQ.out]; unfold decX; rw [if_neg HSH.out, if_pos (by rw [← HV0.out]; exact h6)])
    go_upto_region 5 with fail
    go_wp2_with (refine wpList_store_row (by rfl) 28 _ _ (by rfl) g0 #[.int .i64 0, .int .i64 0, .int .i64 0, .int .i64 0, .bool false, .int .u64 0, .int .u64 0, .bool false, .int .u64 0, .int .u64 0, .slice none 0 0, .bool false, .int .i64 0, .int .i64 0, .bool false, .string ⟨#[]⟩] (by rfl) (by rfl) 28 #[.int .i64 0, .int .i64 0, .int .i64 0, .int .i64 0, .bool false, .int .u64 0, .int .u64 0, .bool false, .int .u64 0, .int .u64 0, .slice none 0 0, .bool false, .int .i64 0, .int .i64 0, .bool false, .string ⟨#[]⟩] HG3.out (by kernel_rfl) (by rfl) (by simp [Value.oneCell']) ?_)
    refine bodyPost_ret (res_box2 ip6Ty rfl _ _ rfl (Cells.row HG3.out _)) rfl ?_
    exact dec6_err (er := 2) rfl HF.out (below_row HB3.out g0 (Nat.le_of_eq HGE.out.symm) _)
  have y1 : ((v0 : Int) != 6) = false := by rw [bne_eq_false_iff_eq]; omega
  have y2 : (v0 : Int) = 6 := by omega
  have H6 := Lib.hid (show byt S 0 / 16 = 6 by rw [← HV0.out]; omega)
  obtain ⟨r40, hr40⟩ : ∃ r, r = s.size - 40 := ⟨_, rfl⟩
  have hs40 : 40 ≤ s.size := by have := HSZ.out; omega
  have kr : (s.size : Int) - 40 = (r40 : Int) := by omega
  have HR40 := Lib.hid (show r40 = S.length - 40 by rw [hr40, HSZ.out])
  obtain ⟨tt, htt⟩ : ∃ t, t = nm2 S 4 := ⟨_, rfl⟩
  have HTT := Lib.hid htt
  rw [← htt] at x1 szl HXS
  clear h6 htt
  by_cases hsz : r40 < tt
  · have d7 : decide ((r40 : Int) < (tt : Int)) = true := by simp; omega
    have n7 : (r40 : Int) < (tt : Int) := by omega
    have HF := Lib.hid (show Q = (zeroX, 1) by rw [HQ.out]; unfold decX; rw [if_neg HSH.out, if_neg (fun e => e H6.out), if_pos (by rw [← HR40.out, ← HTT.out]; exact hsz)])
    go_upto_region 7 with fail
    go_wp2_with (refine wpList_store_row (by rfl) 28 _ _ (by rfl) g0 #[.int .i64 0, .int .i64 0, .int .i64 0, .int .i64 0, .bool false, .int .u64 0, .int .u64 0, .bool false, .int .u64 0, .int .u64 0, .slice none 0 0, .bool false, .int .i64 0, .int .i64 0, .bool false, .string ⟨#[]⟩] (by rfl) (by rfl) 28 #[.int .i64 0, .int .i64 0, .int .i64 0, .int .i64 0, .bool false, .int .u64 0, .int .u64 0, .bool false, .int .u64 0, .int .u64 0, .slice none 0 0, .bool false, .int .i64 0, .int .i64 0, .bool false, .string ⟨#[]⟩] HG3.out (by kernel_rfl) (by rfl) (by simp [Value.oneCell']) ?_)
    refine bodyPost_ret (res_box2 ip6Ty rfl _ _ rfl (Cells.row HG3.out _)) rfl ?_
    exact dec6_err (er := 1) rfl HF.out (below_row HB3.out g0 (Nat.le_of_eq HGE.out.symm) _)
  have d7 : decide ((r40 : Int) < (tt : Int)) = false := by simp; omega
  have n7 : ¬ (r40 : Int) < (tt : Int) := by omega
  obtain ⟨te, hte⟩ : ∃ t, t = 40 + tt := ⟨_, rfl⟩
  have kte : (40 : Int) + (tt : Int) = (te : Int) := by omega
  have hte1 : te ≤ s.size := by omega
  have ute : IntKind.i64.wrap (te : Int) = (te : Int) := IntWalk.i64_in _ (by omega)
  have hte2 : (te : Int) ≤ (s.size : Int) := by omega
  have hte3 : (40 : Int) ≤ (te : Int) := by omega
  have hte4 : 40 ≤ te := by omega
  have hex : s.extract 40 te = str ((S.drop 40).take tt) := by rw [extract_str11 s S HS.out, hte]; congr 2; omega
  obtain ⟨P, hP⟩ : ∃ P, P = str ((S.drop 40).take tt) := ⟨_, rfl⟩
  rw [← hP] at hex
  have HPQ := Lib.hid (show Q = payQ C L (byt S 7) (nm8 S 8) (nm8 S 16) (nm8 S 24) (nm8 S 32) (byt S 6) true true ((S.drop 40).take tt) by
    rw [HQ.out, decX_pay S HSH.out H6.out (by rw [← HR40.out, ← HTT.out]; omega), HVV.out.2.1, HVV.out.2.2, HTT.out])
  have HPAY := Lib.hid (fun (W : World) => show Calls Try.prog 26 #[.agg #[.int .i64 (C : Int), .int .i64 (L : Int), .int .i64 (byt S 7 : Int), .int .i64 (byt S 6 : Int), .bool true, .int .u64 (nm8 S 8 : Int), .int .u64 (nm8 S 16 : Int), .bool true, .int .u64 (nm8 S 24 : Int), .int .u64 (nm8 S 32 : Int), .slice none 0 0, .bool false, .int .i64 0, .int .i64 0, .bool false, .string ⟨#[]⟩], .string P] W (Pay6P W Q) from by
    rw [HPQ.out, hP]
    exact ppay12_any C L (byt S 7) (nm8 S 8) (nm8 S 16) (nm8 S 24) (nm8 S 32) (byt S 6) true true _ W (by rw [List.length_take]; omega) Xl)
  have HTE := Lib.hid hte
  clear hP hte hr40 hsz Xl
  go_upto_region 8 with fail
  clear x0 x1 hgl y1 y2 d7 n7
  generalize byt S 7 = H at *
  generalize byt S 6 = X at *
  generalize nm8 S 8 = h1 at *
  generalize nm8 S 16 = l1 at *
  generalize nm8 S 24 = h2 at *
  generalize nm8 S 32 = l2 at *
  refine wp_region_specs_tail 10 [.val (Value.pointer (some ⟨gs, 2, none⟩)), .val (Value.agg #[.int .i64 (C : Int), .int .i64 (L : Int), .int .i64 (H : Int), .int .i64 (X : Int), .bool true, .int .u64 (h1 : Int), .int .u64 (l1 : Int), .bool true, .int .u64 (h2 : Int), .int .u64 (l2 : Int), .slice none 0 0, .bool false, .int .i64 0, .int .i64 0, .bool false, .string ⟨#[]⟩]), .val (Value.string s), .val (Value.pointer (some ⟨gs, 1, none⟩)), .val (Value.int .i64 (tt : Int)), .val (Value.int .i64 (te : Int)), .val (Value.string P), .wp (dq6V Q g0) (dq6V_kept Q g0), .wp (dq6U Q g0) (dq6U_kept Q g0), .val (Value.int .i64 (Q.2 : Int))] (by kernel_rfl) (by kernel_rfl) (by kernel_rfl) (by kernel_rfl) (by kernel_rfl) (by kernel_rfl) (by kernel_rfl) (by kernel_rfl) ?_ ?_
  · refine ⟨⟨rfl, ?_⟩, ⟨rfl, ?_⟩, ⟨rfl, ?_⟩, ⟨rfl, ?_⟩, ⟨rfl, ?_⟩, ⟨rfl, ?_⟩, ⟨rfl, ?_⟩, ⟨rfl, ?_⟩, ⟨rfl, ?_⟩, ⟨rfl, ?_⟩, trivial⟩
    · intro a W hbW hk K hK
      have e4 := kvalT hk 4 (Value.pointer (some ⟨gs, 0, none⟩)) (by kernel_rfl)
      clear hk
      go_simp
      exact ⟨_, rfl, hK _ _ rfl (Below.refl _ _)⟩
    · intro a W hbW hk K hK
      have e29 := kvalT hk 29 (Value.pointer (some ⟨gs, 2, none⟩)) (by kernel_rfl)
      clear hk
      have y2 := (hbW.cell (p := ⟨gs, 2, none⟩) HXS.out.lt).trans ((Cells.cell HXS.out 2).trans (show _ = some (Value.int .i64 (C : Int)) from rfl))
      have y3 := (hbW.cell (p := ⟨gs, 3, none⟩) HXS.out.lt).trans ((Cells.cell HXS.out 3).trans (show _ = some (Value.int .i64 (L : Int)) from rfl))
      have y4 := (hbW.cell (p := ⟨gs, 4, none⟩) HXS.out.lt).trans ((Cells.cell HXS.out 4).trans (show _ = some (Value.int .i64 (H : Int)) from rfl))
      have y5 := (hbW.cell (p := ⟨gs, 5, none⟩) HXS.out.lt).trans ((Cells.cell HXS.out 5).trans (show _ = some (Value.int .i64 (X : Int)) from rfl))
      have y6 := (hbW.cell (p := ⟨gs, 6, none⟩) HXS.out.lt).trans ((Cells.cell HXS.out 6).trans (show _ = some (Value.bool true) from rfl))
      have y7 := (hbW.cell (p := ⟨gs, 7, none⟩) HXS.out.lt).trans ((Cells.cell HXS.out 7).trans (show _ = some (Value.int .u64 (h1 : Int)) from rfl))
      have y8 := (hbW.cell (p := ⟨gs, 8, none⟩) HXS.out.lt).trans ((Cells.cell HXS.out 8).trans (show _ = some (Value.int .u64 (l1 : Int)) from rfl))
      have y9 := (hbW.cell (p := ⟨gs, 9, none⟩) HXS.out.lt).trans ((Cells.cell HXS.out 9).trans (show _ = some (Value.bool true) from rfl))
      have y10 := (hbW.cell (p := ⟨gs, 10, none⟩) HXS.out.lt).trans ((Cells.cell HXS.out 10).trans (show _ = some (Value.int .u64 (h2 : Int)) from rfl))
      have y11 := (hbW.cell (p := ⟨gs, 11, none⟩) HXS.out.lt).trans ((Cells.cell HXS.out 11).trans (show _ = some (Value.int .u64 (l2 : Int)) from rfl))
      have y12 := (hbW.cell (p := ⟨gs, 12, none⟩) HXS.out.lt).trans ((Cells.cell HXS.out 12).trans (show _ = some (Value.slice none 0 0) from rfl))
      have y13 := (hbW.cell (p := ⟨gs, 13, none⟩) HXS.out.lt).trans ((Cells.cell HXS.out 13).trans (show _ = some (Value.bool false) from rfl))
      have y14 := (hbW.cell (p := ⟨gs, 14, none⟩) HXS.out.lt).trans ((Cells.cell HXS.out 14).trans (show _ = some (Value.int .i64 0) from rfl))
      have y15 := (hbW.cell (p := ⟨gs, 15, none⟩) HXS.out.lt).trans ((Cells.cell HXS.out 15).trans (show _ = some (Value.int .i64 0) from rfl))
      have y16 := (hbW.cell (p := ⟨gs, 16, none⟩) HXS.out.lt).trans ((Cells.cell HXS.out 16).trans (show _ = some (Value.bool false) from rfl))
      have y17 := (hbW.cell (p := ⟨gs, 17, none⟩) HXS.out.lt).trans ((Cells.cell HXS.out 17).trans (show _ = some (Value.string ⟨#[]⟩) from rfl))
      go_simp
      exact ⟨_, rfl, hK _ _ rfl (Below.refl _ _)⟩
    · intro a W hbW hk K hK
      have e0 := kvalT hk 0 (Value.string s) (by kernel_rfl)
      clear hk
      go_simp
      exact ⟨_, rfl, hK _ _ rfl (Below.refl _ _)⟩
    · intro a W hbW hk K hK
      have e4 := kvalT hk 4 (Value.pointer (some ⟨gs, 0, none⟩)) (by kernel_rfl)
      clear hk
      go_simp
      exact ⟨_, rfl, hK _ _ rfl (Below.refl _ _)⟩
    · intro a W hbW hk K hK
      have e32 := kvalT hk 32 (Value.pointer (some ⟨gs, 1, none⟩)) (by kernel_rfl)
      clear hk
      have y1 := (hbW.cell (p := ⟨gs, 1, none⟩) HXS.out.lt).trans ((Cells.cell HXS.out 1).trans (show _ = some (Value.int .i64 (tt : Int)) from rfl))
      go_simp
      exact ⟨_, rfl, hK _ _ rfl (Below.refl _ _)⟩
    · intro a W hbW hk K hK
      have e33 := kvalT hk 33 (Value.int .i64 (tt : Int)) (by kernel_rfl)
      clear hk
      go_simp
      exact ⟨_, rfl, hK _ _ rfl (Below.refl _ _)⟩
    · intro a W hbW hk K hK
      have e31 := kvalT hk 31 (Value.string s) (by kernel_rfl)
      have e34 := kvalT hk 34 (Value.int .i64 (te : Int)) (by kernel_rfl)
      clear hk
      go_simp
      exact ⟨_, rfl, hK _ _ rfl (Below.refl _ _)⟩
    · intro a W hbW hk K hK
      have e30 := kvalT hk 30 (Value.agg #[.int .i64 (C : Int), .int .i64 (L : Int), .int .i64 (H : Int), .int .i64 (X : Int), .bool true, .int .u64 (h1 : Int), .int .u64 (l1 : Int), .bool true, .int .u64 (h2 : Int), .int .u64 (l2 : Int), .slice none 0 0, .bool false, .int .i64 0, .int .i64 0, .bool false, .string ⟨#[]⟩]) (by kernel_rfl)
      have e35 := kvalT hk 35 (Value.string P) (by kernel_rfl)
      clear hk
      go_simp
      refine (HPAY.out W).mono ?_
      rintro e w9 ⟨A, cap, rfl, hr, hn, ha, hb9⟩
      exact ⟨_, rfl, hK _ _ ⟨A, cap, rfl, hr, hn, fun a h => by have h1 := ha a h; have h2 := hbW.size; have h3 := HG3.out.lt; omega⟩ hb9⟩
    · intro a W hbW hk K hK
      obtain ⟨A9, c9, e36, hr9, hn9⟩ := kwpT hk 36 (dq6V Q g0) (dq6V_kept Q g0) (by kernel_rfl)
      clear hk
      go_simp
      exact ⟨_, rfl, hK _ _ ⟨A9, c9, rfl, hr9, hn9⟩ (Below.refl _ _)⟩
    · intro a W hbW hk K hK
      obtain ⟨A9, c9, e36, hr9, hn9⟩ := kwpT hk 36 (dq6V Q g0) (dq6V_kept Q g0) (by kernel_rfl)
      clear hk
      go_simp
      exact ⟨_, rfl, hK _ _ rfl (Below.refl _ _)⟩
  · intro w5 hb5
    simp only [List.take_succ_cons, List.take_zero, List.drop_succ_cons, List.drop_zero, endT]
    rintro v36 - v37 ⟨A, cap, rfl, hr, hn, ha⟩
    have HAA := Lib.hid ha
    have HG5 := Lib.hid (HG3.out.kept hb5 HG3.out.lt)
    have HB5 := Lib.hid (HB3.out.trans (hb5.mono HB3.out.size))
    have HRW := Lib.hid hr
    have HNN := Lib.hid hn
    clear hr hn ha hb5
    go_simp
    refine wpList_store_row (by rfl) 28 _ _ (by rfl) g0 #[.int .i64 Q.1.cls, .int .i64 Q.1.lab, .int .i64 Q.1.hops, .int .i64 Q.1.nxt, .bool Q.1.src.v6, .int .u64 (Q.1.src.hi : Int), .int .u64 (Q.1.src.lo : Int), .bool Q.1.dst.v6, .int .u64 (Q.1.dst.hi : Int), .int .u64 (Q.1.dst.lo : Int), .slice A Q.1.exts.length cap, .bool Q.1.frg, .int .i64 Q.1.id, .int .i64 Q.1.off, .bool Q.1.more, .string (str Q.1.pay)] (by rfl) (by rfl) 28 #[.int .i64 0, .int .i64 0, .int .i64 0, .int .i64 0, .bool false, .int .u64 0, .int .u64 0, .bool false, .int .u64 0, .int .u64 0, .slice none 0 0, .bool false, .int .i64 0, .int .i64 0, .bool false, .string ⟨#[]⟩] HG5.out (by kernel_rfl) (by rfl) (by simp [Value.oneCell']) ?_
    go_wp2_with fail
    refine bodyPost_ret (res_box2 ip6Ty rfl _ _ rfl (Cells.row HG5.out _)) rfl ?_
    refine ⟨A, cap, rfl, HRW.out.blocks (fun a h => setRow_other _ g0 a.block _ (by have := HAA.out a h; omega)), HNN.out, below_row HB5.out g0 (Nat.le_of_eq HGE.out.symm) _⟩
end Go.Proofs.Ytjjldolafnfpoaa
