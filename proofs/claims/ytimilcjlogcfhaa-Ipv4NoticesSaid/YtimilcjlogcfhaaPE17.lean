/- Contracts of the functions, part 17: Ip4Cop, Ip4POpt. -/
import Derived.Test.YtimilcjlogcfhaaPE15
/- Contracts of the reference of layer 11: copied. -/
namespace Go.Proofs.Ytimilcjlogcfhaa
open Go.ChangeShapes Go.WideShapes Go.ChangeAt Go.RowKit
set_option linter.unusedVariables false

theorem opsAt_next {l : List OpR} {k a : Nat} {x : OpR} (hx : l[k]? = some x) : opsAt (l.take (k + 1)) a = opsAt (l.take k) a ++ (if a == 0 || decide (128 ≤ x.kd) then [x] else []) := by
  obtain ⟨hk, e⟩ := List.getElem?_eq_some_iff.1 hx
  rw [List.take_succ_eq_append_getElem hk, e]
  unfold opsAt
  rw [List.filter_append]
  congr 1
  rw [List.filter_cons, List.filter_nil]
theorem opsAt_len (l : List OpR) (a : Nat) : (opsAt l a).length ≤ l.length := List.length_filter_le _ _
/-- What copied leaves: the options are new. -/
def CopP (p : Ip4R) (d : ByteArray) (off : Int) (more : Bool) (a : Nat) (w : World) (e : Ending) (w' : World) : Prop :=
  ∃ A c, e = .returned (.agg (ipC { p with off := off, more := more } (opsAt p.ops a).length A c d)) ∧ RowL EOpt w' A (opsAt p.ops a) ∧ (A = none → c = 0) ∧ (∀ b, A = some b → w.heap.size ≤ b.block) ∧ Below w.heap.size w w'
set_option maxHeartbeats 4000000 in
set_option maxRecDepth 20000 in
theorem rcopied11_any (tos id ttl proto off : Int) (dont more sv dv : Bool) (sh sl dh dl : Nat) (l : List OpR) (P : List UInt8) (A : Option Addr) (c : Nat) (D E : ByteArray) (o2 : Int) (m2 : Bool) (a : Nat) (ha : a ≤ 1000000) (w : World) (h : RowL EOpt w A l) (hl : l.length ≤ 1000000) :
    Calls Try.prog 48 #[.agg #[.int .i64 tos, .int .i64 id, .int .i64 ttl, .int .i64 proto, .bool dont, .bool more, .int .i64 off, .bool sv, .int .u64 (sh : Int), .int .u64 (sl : Int), .bool dv, .int .u64 (dh : Int), .int .u64 (dl : Int), .slice A l.length c, .string D], .string E, .int .i64 o2, .bool m2, .int .i64 (a : Int)] w (CopP ⟨tos, id, ttl, proto, dont, more, off, ⟨sv, sh, sl⟩, ⟨dv, dh, dl⟩, l, P⟩ E o2 m2 a w) := by
  obtain ⟨n, hn⟩ : ∃ n, n = l.length := ⟨_, rfl⟩
  rw [← hn] at hl ⊢
  have HN := Lib.hid hn
  have HS := Lib.hid h
  clear hn h
  obtain ⟨B, hB⟩ : ∃ B, B = w.heap.size := ⟨_, rfl⟩
  obtain ⟨W1, hW1⟩ : ∃ W1, W1 = w.alloc (.cells #[.int .i64 tos, .int .i64 id, .int .i64 ttl, .int .i64 proto, .bool dont, .bool more, .int .i64 off, .bool sv, .int .u64 (sh : Int), .int .u64 (sl : Int), .bool dv, .int .u64 (dh : Int), .int .u64 (dl : Int), .slice A n c, .string D] 28) := ⟨_, rfl⟩
  obtain ⟨W2, hW2⟩ : ∃ W2, W2 = W1.alloc (.cells #[.int .i64 0, .int .i64 0, .int .i64 0, .int .i64 0, .bool false, .bool false, .int .i64 0, .bool false, .int .u64 0, .int .u64 0, .bool false, .int .u64 0, .int .u64 0, .slice none 0 0, .string ⟨#[]⟩] 28) := ⟨_, rfl⟩
  have e1 : W1.heap.size = w.heap.size + 1 := by rw [hW1]; simp
  have e2 : W2.heap.size = w.heap.size + 2 := by rw [hW2]; simp [e1]
  have hb01 : Below w.heap.size w W1 := by rw [hW1]; exact below_alloc6 w _
  have hb12 : Below W1.heap.size W1 W2 := by rw [hW2]; exact below_alloc6 W1 _
  have hb23 := below_alloc6 W2 (.cells #[] 50)
  have hx1 : Cells W1 w.heap.size 28 #[.int .i64 tos, .int .i64 id, .int .i64 ttl, .int .i64 proto, .bool dont, .bool more, .int .i64 off, .bool sv, .int .u64 (sh : Int), .int .u64 (sl : Int), .bool dv, .int .u64 (dh : Int), .int .u64 (dl : Int), .slice A n c, .string D] := by rw [hW1]; exact heap_alloc_new w _
  have hz2 : Cells W2 W1.heap.size 28 #[.int .i64 0, .int .i64 0, .int .i64 0, .int .i64 0, .bool false, .bool false, .int .i64 0, .bool false, .int .u64 0, .int .u64 0, .bool false, .int .u64 0, .int .u64 0, .slice none 0 0, .string ⟨#[]⟩] := by rw [hW2]; exact heap_alloc_new W1 _
  have HO0 := Lib.hid (own_empty EOpt W2 50 (Nat.le_refl W2.heap.size))
  have HX0 := Lib.hid ((hx1.kept hb12 (by rw [e1]; omega)).kept hb23 (by rw [e2]; omega))
  have HZ0 := Lib.hid (hz2.kept hb23 (by rw [e2, e1]; omega))
  have HB0 := Lib.hid ((hb01.trans (hb12.mono (by rw [e1]; omega))).trans (hb23.mono (by rw [e2]; omega)))
  rw [e1] at HZ0
  rw [e2] at HO0
  subst hW1
  subst hW2
  clear e1 e2 hb01 hb12 hb23 hx1 hz2
  go_enter Try.func48, Try.ntmps48
  go_wp2_with fail
  go_loopw [11, 12] (fun v11 v12 wr => ∃ (k m : Nat) (A2 : Option Addr) (c2 : Nat), v11 = .slice A2 m c2 ∧ v12 = .int .i64 (k : Int) ∧ k ≤ n ∧ m ≤ k ∧ Hid (m = (opsAt (l.take k) a).length) ∧ Hid (wr.ownsRow (w.heap.size + 2) 50 2 (.slice A2 m c2) m (EOpt.cells (opsAt (l.take k) a))) ∧ Hid (Cells wr w.heap.size 28 #[.int .i64 tos, .int .i64 id, .int .i64 ttl, .int .i64 proto, .bool dont, .bool more, .int .i64 off, .bool sv, .int .u64 (sh : Int), .int .u64 (sl : Int), .bool dv, .int .u64 (dh : Int), .int .u64 (dl : Int), .slice A n c, .string D]) ∧ Hid (Cells wr (w.heap.size + 1) 28 #[.int .i64 0, .int .i64 0, .int .i64 0, .int .i64 0, .bool false, .bool false, .int .i64 0, .bool false, .int .u64 0, .int .u64 0, .bool false, .int .u64 0, .int .u64 0, .slice none 0 0, .string ⟨#[]⟩]) ∧ Hid (Below w.heap.size w wr) ∧ Hid (w.heap.size + 2 ≤ wr.heap.size)) (fun _ v12 _ => n - (intOf v12).toNat)
  case atStart => exact ⟨0, 0, _, 0, rfl, rfl, Nat.zero_le _, Nat.zero_le _, Lib.hid rfl, HO0, HX0, HZ0, HB0, Lib.hid (by simp)⟩
  case round =>
    clear HB0 HX0 HZ0 HO0
    obtain ⟨k, m, A2, c2, rfl, rfl, hk, hmk, HM, HO, HX, HZ, HB, HSI⟩ := hrel
    have hc := Cells.cell HX.out 13
    rw [show (#[.int .i64 tos, .int .i64 id, .int .i64 ttl, .int .i64 proto, .bool dont, .bool more, .int .i64 off, .bool sv, .int .u64 (sh : Int), .int .u64 (sl : Int), .bool dv, .int .u64 (dh : Int), .int .u64 (dl : Int), .slice A n c, .string D] : Array Value)[13]? = some (.slice A n c) from rfl] at hc
    have hk0 : (0 : Int) ≤ (k : Int) := by omega
    by_cases hlt : k < n
    · have hki : (k : Int) < (n : Int) := by omega
      have dlt : decide ((k : Int) < (n : Int)) = true := by simp; omega
      obtain ⟨x, hget⟩ : ∃ x, l[k]? = some x := ⟨l[k]'(by have := HN.out; omega), List.getElem?_eq_getElem _⟩
      obtain ⟨g, ob, rfl, hg, -⟩ := HS.out (by have := HN.out; omega)
      obtain ⟨c0, c1⟩ := opt_at HS.out hget HB.out
      have hnx := opsAt_next (a := a) hget
      clear hget
      cases e : (a == 0 || decide (128 ≤ x.kd))
      · rw [e, if_neg (by decide), List.append_nil] at hnx
        rw [Bool.or_eq_false_iff] at e
        obtain ⟨ea, ex⟩ := e
        have ea' : ((a : Int) == 0) = false := by rw [beq_eq_false_iff_ne] at ea ⊢; omega
        have HM1 := Lib.hid (show m = (opsAt (l.take (k + 1)) a).length by rw [hnx]; exact HM.out)
        have HO1 := Lib.hid (show wr.ownsRow (w.heap.size + 2) 50 2 (.slice A2 m c2) m (EOpt.cells (opsAt (l.take (k + 1)) a)) by rw [hnx]; exact HO.out)
        clear hnx ea HM HO
        go_wp2_with fail
        go_roundw
        case rel => exact ⟨k + 1, m, A2, c2, rfl, by go_num, by omega, by omega, HM1, HO1, HX, HZ, HB, HSI⟩
        case measure => simp [intOf]; omega
      · rw [e, if_pos rfl] at hnx
        have HXC := Lib.hid (show EOpt.cells [x] = [.int .i64 x.kd, .string (str x.dat)] from rfl)
        have HNX := Lib.hid hnx
        clear hnx
        by_cases a0 : a = 0
        · have ea' : ((a : Int) == 0) = true := by rw [a0]; decide
          clear e a0
          go_wp2_with (at_builtin; refine wpList_push (E := EOpt) optTy (by rfl) _ _ (by rfl) (w.heap.size + 2) _ m (opsAt (l.take k) a) [x] (by rfl) (HO.out.alloc _) _ 1 1 #[.int .i64 x.kd, .string (str x.dat)] (0, 0) (by rfl) (heap_alloc_new _ _) HXC.out.symm rfl (by omega) (by omega) (by decide) ?hb ?_)
          case hb => have := HSI.out; simp; omega
          intro g2 cap2 w9 hown hgrow hat hlt2
          have hb9 := ((Below.refl (w.heap.size + 2) wr).alloc HSI.out (.cells #[.int .i64 x.kd, .string (str x.dat)] 50)).grown hgrow (by have := HSI.out; simp; omega) (fun j hj => (own_blk_in HO.out _ hj).1)
          have HB9 := Lib.hid (HB.out.trans (hb9.mono (by omega)))
          have HX9 := Lib.hid (HX.out.kept hb9 (by omega))
          have HZ9 := Lib.hid (HZ.out.kept hb9 (by omega))
          have HO9 := Lib.hid (show w9.ownsRow (w.heap.size + 2) 50 2 (.slice (some ⟨g2, 0, none⟩) (m + 1) cap2) (m + 1) (EOpt.cells (opsAt (l.take (k + 1)) a)) by rw [HNX.out]; exact hown)
          have HN9 := Lib.hid (show m + 1 = (opsAt (l.take (k + 1)) a).length by rw [HNX.out, List.length_append, HM.out]; rfl)
          have HS9 := Lib.hid (show w.heap.size + 2 ≤ w9.heap.size by have := hb9.size; have := HSI.out; omega)
          clear hown hgrow hat hlt2 hb9 HB HO HX HZ HM HSI c0 c1 hc HNX HXC
          go_wp2_with fail
          go_roundw
          case rel => exact ⟨k + 1, m + 1, some ⟨g2, 0, none⟩, cap2, rfl, by go_num, by omega, by omega, HN9, HO9, HX9, HZ9, HB9, HS9⟩
          case measure => simp [intOf]; omega
        · have ea' : ((a : Int) == 0) = false := by rw [beq_eq_false_iff_ne]; omega
          have ex : decide (128 ≤ x.kd) = true := by
            rw [Bool.or_eq_true] at e
            rcases e with e | e
            · rw [beq_iff_eq] at e; exact absurd e a0
            · exact e
          clear e
          go_wp2_with (at_builtin; refine wpList_push (E := EOpt) optTy (by rfl) _ _ (by rfl) (w.heap.size + 2) _ m (opsAt (l.take k) a) [x] (by rfl) (HO.out.alloc _) _ 1 1 #[.int .i64 x.kd, .string (str x.dat)] (0, 0) (by rfl) (heap_alloc_new _ _) HXC.out.symm rfl (by omega) (by omega) (by decide) ?hb ?_)
          case hb => have := HSI.out; simp; omega
          intro g2 cap2 w9 hown hgrow hat hlt2
          have hb9 := ((Below.refl (w.heap.size + 2) wr).alloc HSI.out (.cells #[.int .i64 x.kd, .string (str x.dat)] 50)).grown hgrow (by have := HSI.out; simp; omega) (fun j hj => (own_blk_in HO.out _ hj).1)
          have HB9 := Lib.hid (HB.out.trans (hb9.mono (by omega)))
          have HX9 := Lib.hid (HX.out.kept hb9 (by omega))
          have HZ9 := Lib.hid (HZ.out.kept hb9 (by omega))
          have HO9 := Lib.hid (show w9.ownsRow (w.heap.size + 2) 50 2 (.slice (some ⟨g2, 0, none⟩) (m + 1) cap2) (m + 1) (EOpt.cells (opsAt (l.take (k + 1)) a)) by rw [HNX.out]; exact hown)
          have HN9 := Lib.hid (show m + 1 = (opsAt (l.take (k + 1)) a).length by rw [HNX.out, List.length_append, HM.out]; rfl)
          have HS9 := Lib.hid (show w.heap.size + 2 ≤ w9.heap.size by have := hb9.size; have := HSI.out; omega)
          clear hown hgrow hat hlt2 hb9 HB HO HX HZ HM HSI c0 c1 hc HNX HXC
          go_wp2_with fail
          go_roundw
          case rel => exact ⟨k + 1, m + 1, some ⟨g2, 0, none⟩, cap2, rfl, by go_num, by omega, by omega, HN9, HO9, HX9, HZ9, HB9, HS9⟩
          case measure => simp [intOf]; omega
    · obtain rfl : k = n := by omega
      have dlt : decide ((k : Int) < (k : Int)) = false := by simp
      have nlt : ¬ (k : Int) < (k : Int) := by omega
      have ht : l.take k = l := by rw [HN.out, List.take_length]
      have HM1 := Lib.hid (show m = (opsAt l a).length by rw [← ht]; exact HM.out)
      have HO1 := Lib.hid (show wr.ownsRow (w.heap.size + 2) 50 2 (.slice A2 m c2) m (EOpt.cells (opsAt l a)) by rw [← ht]; exact HO.out)
      clear ht HM HO hc
      obtain ⟨g0, hg0⟩ : ∃ g0, g0 = w.heap.size := ⟨_, rfl⟩
      obtain ⟨g1, hg1⟩ : ∃ g1, g1 = w.heap.size + 1 := ⟨_, rfl⟩
      have hne : g0 ≠ g1 := by omega
      have hne' : g1 ≠ g0 := by omega
      have hl0 : g0 < wr.heap.size := by have := HSI.out; omega
      have hl1 : g1 < wr.heap.size := by have := HSI.out; omega
      have HG := Lib.hid (And.intro hg0 hg1)
      have HE := Lib.hid (show w.heap.size + 1 = g1 by omega)
      have HX' := Lib.hid (show Cells wr g0 28 _ by rw [hg0]; exact HX.out)
      have HZ' := Lib.hid (show Cells wr g1 28 _ by rw [hg1]; exact HZ.out)
      rw [← hg1]
      try rw [← hg0]
      have x0 := (Cells.cell HX'.out 0).trans (show _ = some (Value.int .i64 tos) from rfl)
      have x1 := (Cells.cell HX'.out 1).trans (show _ = some (Value.int .i64 id) from rfl)
      have x2 := (Cells.cell HX'.out 2).trans (show _ = some (Value.int .i64 ttl) from rfl)
      have x3 := (Cells.cell HX'.out 3).trans (show _ = some (Value.int .i64 proto) from rfl)
      have x4 := (Cells.cell HX'.out 4).trans (show _ = some (Value.bool dont) from rfl)
      have x5 := (Cells.cell HX'.out 5).trans (show _ = some (Value.bool more) from rfl)
      have x6 := (Cells.cell HX'.out 6).trans (show _ = some (Value.int .i64 off) from rfl)
      have x7 := (Cells.cell HX'.out 7).trans (show _ = some (Value.bool sv) from rfl)
      have x8 := (Cells.cell HX'.out 8).trans (show _ = some (Value.int .u64 (sh : Int)) from rfl)
      have x9 := (Cells.cell HX'.out 9).trans (show _ = some (Value.int .u64 (sl : Int)) from rfl)
      have x10 := (Cells.cell HX'.out 10).trans (show _ = some (Value.bool dv) from rfl)
      have x11 := (Cells.cell HX'.out 11).trans (show _ = some (Value.int .u64 (dh : Int)) from rfl)
      have x12 := (Cells.cell HX'.out 12).trans (show _ = some (Value.int .u64 (dl : Int)) from rfl)
      have x13 := (Cells.cell HX'.out 13).trans (show _ = some (Value.slice A k c) from rfl)
      have x14 := (Cells.cell HX'.out 14).trans (show _ = some (Value.string D) from rfl)
      have f5 := Cells.frozen HX'.out 5
      have f6 := Cells.frozen HX'.out 6
      have f13 := Cells.frozen HX'.out 13
      have f14 := Cells.frozen HX'.out 14
      have y0 := (Cells.cell HZ'.out 0).trans (show _ = some (Value.int .i64 0) from rfl)
      have z0 := Cells.frozen HZ'.out 0
      have y1 := (Cells.cell HZ'.out 1).trans (show _ = some (Value.int .i64 0) from rfl)
      have z1 := Cells.frozen HZ'.out 1
      have y2 := (Cells.cell HZ'.out 2).trans (show _ = some (Value.int .i64 0) from rfl)
      have z2 := Cells.frozen HZ'.out 2
      have y3 := (Cells.cell HZ'.out 3).trans (show _ = some (Value.int .i64 0) from rfl)
      have z3 := Cells.frozen HZ'.out 3
      have y4 := (Cells.cell HZ'.out 4).trans (show _ = some (Value.bool false) from rfl)
      have z4 := Cells.frozen HZ'.out 4
      have y5 := (Cells.cell HZ'.out 5).trans (show _ = some (Value.bool false) from rfl)
      have z5 := Cells.frozen HZ'.out 5
      have y6 := (Cells.cell HZ'.out 6).trans (show _ = some (Value.int .i64 0) from rfl)
      have z6 := Cells.frozen HZ'.out 6
      have y7 := (Cells.cell HZ'.out 7).trans (show _ = some (Value.bool false) from rfl)
      have z7 := Cells.frozen HZ'.out 7
      have y8 := (Cells.cell HZ'.out 8).trans (show _ = some (Value.int .u64 0) from rfl)
      have z8 := Cells.frozen HZ'.out 8
      have y9 := (Cells.cell HZ'.out 9).trans (show _ = some (Value.int .u64 0) from rfl)
      have z9 := Cells.frozen HZ'.out 9
      have y10 := (Cells.cell HZ'.out 10).trans (show _ = some (Value.bool false) from rfl)
      have z10 := Cells.frozen HZ'.out 10
      have y11 := (Cells.cell HZ'.out 11).trans (show _ = some (Value.int .u64 0) from rfl)
      have z11 := Cells.frozen HZ'.out 11
      have y12 := (Cells.cell HZ'.out 12).trans (show _ = some (Value.int .u64 0) from rfl)
      have z12 := Cells.frozen HZ'.out 12
      have y13 := (Cells.cell HZ'.out 13).trans (show _ = some (Value.slice none 0 0) from rfl)
      have z13 := Cells.frozen HZ'.out 13
      have y14 := (Cells.cell HZ'.out 14).trans (show _ = some (Value.string ⟨#[]⟩) from rfl)
      have z14 := Cells.frozen HZ'.out 14
      clear hg0 hg1 HX HZ
      go_wp2_with fail
      obtain ⟨hg0, hg1⟩ := HG.out
      refine bodyPost_ret (res_box1 (g := g1) ipTy rfl _ _ rfl ((Cells.far (Cells.far (Cells.far (Cells.far HZ'.out hne' _) hne' _) hne' _) hne' _).put [.int .i64 tos, .int .i64 id, .int .i64 ttl, .int .i64 proto, .bool dont, .bool m2, .int .i64 o2, .bool sv, .int .u64 (sh : Int), .int .u64 (sl : Int), .bool dv, .int .u64 (dh : Int), .int .u64 (dl : Int), .slice A2 m c2, .string E] rfl)) rfl ⟨A2, c2, ?_, ?_, ?_, ?_, ?_⟩
      · rw [← HM1.out]; rfl
      · exact rowl_of_own (E := EOpt) (own_putb (own_setb (own_setb (own_setb (own_setb HO1.out (by omega) _) (by omega) _) (by omega) _) (by omega) _) (by omega) [.int .i64 tos, .int .i64 id, .int .i64 ttl, .int .i64 proto, .bool dont, .bool m2, .int .i64 o2, .bool sv, .int .u64 (sh : Int), .int .u64 (sl : Int), .bool dv, .int .u64 (dh : Int), .int .u64 (dl : Int), .slice A2 m c2, .string E] 0) HM1.out
      · intro hA
        have ho := HO1.out
        subst hA
        exact (own_none ho).2
      · intro b hb
        have := (own_blk_in HO1.out b.block (by rw [hb]; rfl)).1
        omega
      · exact putB_below (by omega) [.int .i64 tos, .int .i64 id, .int .i64 ttl, .int .i64 proto, .bool dont, .bool m2, .int .i64 o2, .bool sv, .int .u64 (sh : Int), .int .u64 (sl : Int), .bool dv, .int .u64 (dh : Int), .int .u64 (dl : Int), .slice A2 m c2, .string E] 0 _ ((((HB.out.setCell (p := ⟨g0, 13, none⟩) (by show w.heap.size ≤ g0; omega) _).setCell (p := ⟨g0, 14, none⟩) (by show w.heap.size ≤ g0; omega) _).setCell (p := ⟨g0, 6, none⟩) (by show w.heap.size ≤ g0; omega) _).setCell (p := ⟨g0, 5, none⟩) (by show w.heap.size ≤ g0; omega) _)
end Go.Proofs.Ytimilcjlogcfhaa

/- Contracts of the program of layer 11: optionsSize, partOptions. -/
namespace Go.Proofs.Ytimilcjlogcfhaa
open Go.ChangeShapes Go.WideShapes Go.ChangeAt Go.RowKit
set_option linter.unusedVariables false

theorem wrOs_le : ∀ (l : List OpR) (m : Nat), (∀ x ∈ l, x.dat.length ≤ m) → (wrOs l).length ≤ l.length * (2 + m)
  | [], m, _ => by simp [wrOs]
  | x :: r, m, h => by
    rw [wrOs_cons, List.length_append, wrO_len, List.length_cons, Nat.add_mul, Nat.one_mul]
    have := wrOs_le r m (fun y hy => h y (List.mem_cons_of_mem _ hy))
    have := h x (List.mem_cons_self ..)
    omega
set_option maxHeartbeats 4000000 in
set_option maxRecDepth 20000 in
theorem psize11_any (A : Option Addr) (c : Nat) (l : List OpR) (w : World) (h : RowL EOpt w A l) (hl : l.length ≤ 1000) (hd : ∀ x ∈ l, x.dat.length ≤ 281474976710656) :
    Calls Try.prog 33 #[.slice A l.length c] w fun e w' => e = .returned (.int .i64 ((wrOs l).length : Nat)) ∧ Below w.heap.size w w' := by
  obtain ⟨n, hn⟩ : ∃ n, n = l.length := ⟨_, rfl⟩
  rw [← hn] at hl ⊢
  have HN := Lib.hid hn
  have HS := Lib.hid h
  have HD := Lib.hid hd
  clear hn h hd
  go_enter Try.func33, Try.ntmps33
  go_wp2_with fail
  go_loopw [3, 8] (fun s i wr => ∃ k t : Nat, i = .int .i64 (k : Int) ∧ s = .int .i64 (t : Int) ∧ k ≤ n ∧ t ≤ k * 281474976710658 ∧ Hid (t = (wrOs (l.take k)).length) ∧ Hid (Below w.heap.size w wr)) (fun _ i _ => n - (intOf i).toNat)
  case atStart => exact ⟨0, 0, rfl, rfl, Nat.zero_le _, by omega, Lib.hid (by simp [wrOs]), Lib.hid (Below.refl _ _)⟩
  case round =>
    obtain ⟨k, t, rfl, rfl, hk, ht, HT, HB⟩ := hrel
    by_cases hlt : k < n
    · have hki : (k : Int) < (n : Int) := by omega
      have hki0 : (0 : Int) ≤ (k : Int) := by omega
      have dlt : decide ((k : Int) < (n : Int)) = true := by simp; omega
      obtain ⟨x, hget⟩ : ∃ x, l[k]? = some x := ⟨l[k]'(by have := HN.out; omega), List.getElem?_eq_getElem _⟩
      obtain ⟨g, ob, rfl, hg⟩ := HS.out.shapeA (by have := HN.out; omega)
      obtain ⟨c0, c1⟩ := opt_at HS.out hget HB.out
      have hxd := HD.out x (List.mem_of_getElem? hget)
      obtain ⟨y, hy⟩ : ∃ y, y = x.dat.length := ⟨_, rfl⟩
      have hsz : (str x.dat).size = y := by rw [str_size, hy]
      obtain ⟨t1, ht1⟩ : ∃ t1, t1 = t + (2 + y) := ⟨_, rfl⟩
      have hmn : (t : Int) + (2 + (y : Int)) = (t1 : Int) := by omega
      have HT1 := Lib.hid (show t1 = (wrOs (l.take (k + 1))).length by rw [wrOs_next hget, List.length_append, wrO_len, ht1, HT.out, ← hy])
      rw [← hy] at hxd
      have ht41 : t1 ≤ (k + 1) * 281474976710658 := by omega
      have hkt : k * 281474976710658 ≤ 281474976710658000 := by omega
      have HBA := Lib.hid (HB.out.alloc HB.out.size (.cells #[.int .i64 x.kd, .string (str x.dat)] 50))
      generalize str x.dat = D at *
      generalize x.kd = kd at *
      clear hget hy ht1
      have ht9 : t ≤ 281474976710658000 := by omega
      go_wp2_with fail
      go_roundw
      case rel => exact ⟨k + 1, t1, by go_num, by first | rfl | simp [hmn] | (congr 1; omega), by omega, ht41, HT1, HBA⟩
      case measure => simp [intOf]; omega
    · obtain rfl : k = n := by omega
      have dlt : decide ((k : Int) < (k : Int)) = false := by simp
      have nlt : ¬ (k : Int) < (k : Int) := by omega
      have HT2 := Lib.hid (show t = (wrOs l).length by have := HT.out; rw [HN.out, List.take_length] at this; exact this)
      go_wp2_with fail
      go_ret
      exact ⟨by rw [← HT2.out]; rfl, HB.out⟩
end Go.Proofs.Ytimilcjlogcfhaa
