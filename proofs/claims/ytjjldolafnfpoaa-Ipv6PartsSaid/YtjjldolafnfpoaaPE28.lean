/- Contracts of the functions, part 28: Awk12. -/
import Derived.Deep.Cut
import Derived.Deep.WholeRow
import Derived.Test.YtjjldolafnfpoaaPE12
import Derived.Test.YtjjldolafnfpoaaPE20
import Derived.Test.YtjjldolafnfpoaaPE26
import Derived.Test.YtjjldolafnfpoaaPE27
/- The law package of layer 12: lives, over the bundle P12. -/
namespace Go.Proofs.Ytjjldolafnfpoaa
open Go.ChangeShapes Go.WideShapes Go.ChangeAt Go.RowKit
set_option linter.unusedVariables false

theorem exXWf : ip6Wf exX := ⟨⟨by decide, by decide, by decide, by decide, by decide, by decide⟩, by unfold adrFits; decide, by unfold adrFits; decide, by decide, by decide, fun y hy => by
  obtain rfl := List.mem_singleton.1 hy
  exact ⟨by decide, by decide⟩⟩
theorem spXWf : ip6Wf spX := ⟨⟨by decide, by decide, by decide, by decide, by decide, by decide⟩, by unfold adrFits; decide, by unfold adrFits; decide, by decide, by decide, fun y hy => by cases hy⟩
theorem sx1Wf : ip6Wf sx1 := ⟨⟨by decide, by decide, by decide, by decide, by decide, by decide⟩, by unfold adrFits; decide, by unfold adrFits; decide, by decide, by decide, fun y hy => by cases hy⟩
theorem three6 {es : List Ip6E} {a b c : Ip6R} (h : es.map (·.1) = [a, b, c]) : ∃ x y z : Option Addr × Nat, es = [(a, x), (b, y), (c, z)] := by
  obtain _ | ⟨⟨a', x⟩, r1⟩ := es
  · cases h
  obtain _ | ⟨⟨b', y⟩, r2⟩ := r1
  · exact absurd (congrArg List.length h) (by simp)
  obtain _ | ⟨⟨c', z⟩, r3⟩ := r2
  · exact absurd (congrArg List.length h) (by simp)
  obtain _ | ⟨d, r4⟩ := r3
  · rw [List.map_cons, List.map_cons, List.map_cons, List.map_nil] at h
    injection h with h1 h
    injection h with h2 h
    injection h with h3 h
    subst h1 h2 h3
    exact ⟨x, y, z, rfl⟩
  · exact absurd (congrArg List.length h) (by simp)
theorem bytes_eq12 (s : ByteArray) (L : List UInt8) : (s.toList == L) = (s.data.toList == L) := by rw [ByteArray.toList_eq]
set_option maxHeartbeats 4000000 in
set_option maxRecDepth 20000 in
theorem packet12_any (w : World) :
    Calls Try.prog 24 #[] w fun e w' => ∃ g, e = .returned (.agg #[.int .i64 0, .int .i64 0, .int .i64 64, .int .i64 17, .bool true, .int .u64 0, .int .u64 1, .bool true, .int .u64 0, .int .u64 2, .slice (some ⟨g, 0, none⟩) 1 1, .bool false, .int .i64 0, .int .i64 0, .bool false, .string ⟨#[120, 121, 122]⟩]) ∧ w.heap.size ≤ g ∧ w'.heap[g]? = some (.cells #[.int .i64 60, .string ⟨#[97, 98, 99, 100, 101, 102]⟩] 59 (0, 0)) ∧ Below w.heap.size w w' := by
  go_enter Try.func24, Try.ntmps24
  go_wp2_with (refine wpList_store_row (by rfl) 28 _ _ (by rfl) w.heap.size #[.int .i64 0, .int .i64 0, .int .i64 64, .int .i64 17, .bool true, .int .u64 0, .int .u64 1, .bool true, .int .u64 0, .int .u64 2, .slice (some ⟨w.heap.size + 1, 0, none⟩) 1 1, .bool false, .int .i64 0, .int .i64 0, .bool false, .string ⟨#[120, 121, 122]⟩] (by rfl) (by rfl) 28 #[.int .i64 0, .int .i64 0, .int .i64 0, .int .i64 0, .bool false, .int .u64 0, .int .u64 0, .bool false, .int .u64 0, .int .u64 0, .slice none 0 0, .bool false, .int .i64 0, .int .i64 0, .bool false, .string ⟨#[]⟩] (alloc2_0 _ _ _) (by kernel_rfl) (by rfl) (by simp [Value.oneCell']) ?_)
  refine bodyPost_ret (res_box1 (g := w.heap.size) (cs := #[.int .i64 0, .int .i64 0, .int .i64 64, .int .i64 17, .bool true, .int .u64 0, .int .u64 1, .bool true, .int .u64 0, .int .u64 2, .slice (some ⟨w.heap.size + 1, 0, none⟩) 1 1, .bool false, .int .i64 0, .int .i64 0, .bool false, .string ⟨#[120, 121, 122]⟩]) ip6Ty rfl _ _ rfl (Cells.row (alloc2_0 _ _ _) _)) rfl ?_
  refine ⟨w.heap.size + 1, rfl, by omega, ?_, below_row (alloc2_below w _ _) _ (Nat.le_refl _) _⟩
  rw [setRow_other _ _ _ _ (by omega)]
  exact heap2 w _ _
set_option maxHeartbeats 8000000 in
set_option maxRecDepth 100000 in
theorem lives12_any (T : World → Prop) (hP : P12 T) (w : World) (ht : T w) :
    Calls Try.prog 10 #[] w fun e w' => e = .returned (.bool true) ∧ Below w.heap.size w w' := by
  have HTW := Lib.hid ht
  have HK := Lib.hid hP.keep
  have HE := Lib.hid (fun (W : World) (hT : T W) (g : Nat) (hg : W.heap[g]? = some (.cells #[.int .i64 60, .string ⟨#[97, 98, 99, 100, 101, 102]⟩] 59 (0, 0))) => show Calls Try.prog 15 #[.agg #[.int .i64 0, .int .i64 0, .int .i64 64, .int .i64 17, .bool true, .int .u64 0, .int .u64 1, .bool true, .int .u64 0, .int .u64 2, .slice (some ⟨g, 0, none⟩) 1 1, .bool false, .int .i64 0, .int .i64 0, .bool false, .string ⟨#[120, 121, 122]⟩]] W fun e w' => e = .returned (.tuple #[.string ⟨#[96, 0, 0, 0, 0, 11, 60, 64, 0, 0, 0, 0, 0, 0, 0, 0, 0, 0, 0, 0, 0, 0, 0, 1, 0, 0, 0, 0, 0, 0, 0, 0, 0, 0, 0, 0, 0, 0, 0, 2, 17, 0, 97, 98, 99, 100, 101, 102, 120, 121, 122]⟩, .int .i64 0]) ∧ Below W.heap.size W w' from by
    have := hP.enc exX (some ⟨g, 0, none⟩) 1 W hT ⟨exXWf, rowl_block hg rfl, fun e => (by cases e), by decide, by decide⟩
    rw [encX_ex] at this
    exact this)
  have HD := Lib.hid (fun (W : World) (hT : T W) => show Calls Try.prog 11 #[.string ⟨#[96, 0, 0, 0, 0, 11, 60, 64, 0, 0, 0, 0, 0, 0, 0, 0, 0, 0, 0, 0, 0, 0, 0, 1, 0, 0, 0, 0, 0, 0, 0, 0, 0, 0, 0, 0, 0, 0, 0, 2, 17, 0, 97, 98, 99, 100, 101, 102, 120, 121, 122, 33]⟩] W fun e w' => ∃ g ob cap, e = .returned (.tuple #[.agg #[.int .i64 0, .int .i64 0, .int .i64 64, .int .i64 17, .bool true, .int .u64 0, .int .u64 1, .bool true, .int .u64 0, .int .u64 2, .slice (some ⟨g, ob, none⟩) 1 cap, .bool false, .int .i64 0, .int .i64 0, .bool false, .string ⟨#[120, 121, 122]⟩], .int .i64 0]) ∧ RowL EOpt w' (some ⟨g, ob, none⟩) exX.exts ∧ Below W.heap.size W w' from by
    have := hP.dec (exS6 ++ [33]) W hT (by decide)
    rw [decX_ex] at this
    refine this.mono ?_
    rintro e w' ⟨A, cap, h1, h2, h3, h4⟩
    obtain ⟨g, ob, rfl, -⟩ := h2.shapeA (by decide)
    exact ⟨g, ob, cap, h1, h2, h4⟩)
  have HS := Lib.hid (fun (W : World) (hT : T W) => show Calls Try.prog 17 #[.agg #[.int .i64 0, .int .i64 0, .int .i64 0, .int .i64 6, .bool true, .int .u64 0, .int .u64 0, .bool true, .int .u64 0, .int .u64 0, .slice none 0 0, .bool false, .int .i64 0, .int .i64 0, .bool false, .string ⟨#[97, 98, 99, 100, 101, 102, 103, 104, 105, 106, 107, 108, 109, 110, 111, 112, 113, 114, 115, 116]⟩], .int .i64 8, .int .i64 7] W fun e w' => ∃ gl ol c x y z, e = .returned (.tuple #[.slice (some ⟨gl, ol, none⟩) 3 c, .int .i64 0]) ∧ Hid (RowL EIp6 w' (some ⟨gl, ol, none⟩) [(sx0, x), (sx1, y), (sx2, z)]) ∧ Hid (y.1 = none → y.2 = 0) ∧ Below W.heap.size W w' from by
    have := hP.spl spX 8 7 none 0 W hT ⟨spXWf, RowL.nil _ _, fun _ => rfl, by decide, by decide⟩ (by decide) (by decide)
    rw [splitX_sp] at this
    refine this.mono ?_
    rintro e w' ⟨A, c, es, h1, h2, h3, h4, h5, h6⟩
    obtain ⟨x, y, z, rfl⟩ := three6 h2
    obtain ⟨gl, ol, rfl, -⟩ := h3.shapeA (by simp)
    exact ⟨gl, ol, c, x, y, z, h1, Lib.hid h3, Lib.hid (h4 (sx1, y) (by simp)).1, h6⟩)
  have HFR := Lib.hid (fun (y7 : Option Addr × Nat) (h7 : y7.1 = none → y7.2 = 0) (W : World) (hT : T W) => show Calls Try.prog 20 #[.agg #[.int .i64 0, .int .i64 0, .int .i64 0, .int .i64 6, .bool true, .int .u64 0, .int .u64 0, .bool true, .int .u64 0, .int .u64 0, .slice y7.1 0 y7.2, .bool true, .int .i64 7, .int .i64 8, .bool true, .string ⟨#[105, 106, 107, 108, 109, 110, 111, 112]⟩]] W fun e w' => e = .returned (.agg #[.bool true, .int .u64 0, .int .u64 0, .bool true, .int .u64 0, .int .u64 0, .int .i64 6, .int .i64 7, .int .i64 0, .int .i64 8, .bool true, .string ⟨#[105, 106, 107, 108, 109, 110, 111, 112]⟩]) ∧ Below W.heap.size W w' from
    hP.frg sx1 y7.1 y7.2 W hT ⟨sx1Wf, RowL.nil _ _, h7, by decide, by decide⟩)
  have HRT := Lib.hid (fun (W : World) (hT : T W) (g ob cap : Nat) (hr : RowL EOpt W (some ⟨g, ob, none⟩) exX.exts) => show Calls Try.prog 22 #[.agg #[.int .i64 0, .int .i64 0, .int .i64 64, .int .i64 17, .bool true, .int .u64 0, .int .u64 1, .bool true, .int .u64 0, .int .u64 2, .slice (some ⟨g, ob, none⟩) 1 cap, .bool false, .int .i64 0, .int .i64 0, .bool false, .string ⟨#[120, 121, 122]⟩]] W fun e w' => e = .returned (.bool false) ∧ Below W.heap.size W w' from by
    have := hP.rou exX (some ⟨g, ob, none⟩) cap W hT ⟨exXWf, hr, fun e => (by cases e), by decide, by decide⟩
    rw [routedX_ex] at this
    exact this)
  clear hP ht
  go_enter Try.func10, Try.ntmps10
  go_wp2_with fail
  refine (packet12_any _).mono ?_
  rintro e w1 ⟨gp, rfl, hgp, hcp, b1⟩
  have B1 := Lib.hid b1
  clear b1 hgp
  go_wp2_with fail
  refine (HE.out _ (HK.out _ _ HTW.out B1.out) gp hcp).mono ?_
  rintro e w2 ⟨rfl, b2⟩
  have B2 := Lib.hid (B1.out.trans (b2.mono B1.out.size))
  clear b2 B1 HE hcp
  have q0 : (⟨#[96, 0, 0, 0, 0, 11, 60, 64, 0, 0, 0, 0, 0, 0, 0, 0, 0, 0, 0, 0, 0, 0, 0, 1, 0, 0, 0, 0, 0, 0, 0, 0, 0, 0, 0, 0, 0, 0, 0, 2, 17, 0, 97, 98, 99, 100, 101, 102, 120, 121, 122]⟩ : ByteArray) ++ ⟨#[33]⟩ = ⟨#[96, 0, 0, 0, 0, 11, 60, 64, 0, 0, 0, 0, 0, 0, 0, 0, 0, 0, 0, 0, 0, 0, 0, 1, 0, 0, 0, 0, 0, 0, 0, 0, 0, 0, 0, 0, 0, 0, 0, 2, 17, 0, 97, 98, 99, 100, 101, 102, 120, 121, 122, 33]⟩ := by kernel_rfl
  have q1 : (⟨#[96, 0, 0, 0, 0, 11, 60, 64, 0, 0, 0, 0, 0, 0, 0, 0, 0, 0, 0, 0, 0, 0, 0, 1, 0, 0, 0, 0, 0, 0, 0, 0, 0, 0, 0, 0, 0, 0, 0, 2, 17, 0, 97, 98, 99, 100, 101, 102, 120, 121, 122]⟩ : ByteArray).size = 51 := by kernel_rfl
  have q40 : (((⟨#[96, 0, 0, 0, 0, 11, 60, 64, 0, 0, 0, 0, 0, 0, 0, 0, 0, 0, 0, 0, 0, 0, 0, 1, 0, 0, 0, 0, 0, 0, 0, 0, 0, 0, 0, 0, 0, 0, 0, 2, 17, 0, 97, 98, 99, 100, 101, 102, 120, 121, 122]⟩ : ByteArray)[40]'(by rw [q1]; decide)).toNat : Int) = 17 := by kernel_rfl
  go_wp2_with fail
  refine (HD.out _ (HK.out _ _ HTW.out B2.out)).mono ?_
  rintro e w3 ⟨gd, od, cap, rfl, rd, b3⟩
  have RD3 := Lib.hid rd
  have B3 := Lib.hid (B2.out.trans (b3.mono B2.out.size))
  clear b3 B2 HD rd q0
  go_upto_region 5 with (refine wpList_store_row (by rfl) 28 _ _ (by rfl) w3.heap.size #[.int .i64 0, .int .i64 0, .int .i64 64, .int .i64 17, .bool true, .int .u64 0, .int .u64 1, .bool true, .int .u64 0, .int .u64 2, .slice (some ⟨gd, od, none⟩) 1 cap, .bool false, .int .i64 0, .int .i64 0, .bool false, .string ⟨#[120, 121, 122]⟩] (by rfl) (by rfl) 28 #[.int .i64 0, .int .i64 0, .int .i64 0, .int .i64 0, .bool false, .int .u64 0, .int .u64 0, .bool false, .int .u64 0, .int .u64 0, .slice none 0 0, .bool false, .int .i64 0, .int .i64 0, .bool false, .string ⟨#[]⟩] (heap_alloc_new _ _) (by kernel_rfl) (by rfl) (by simp [Value.oneCell']) ?_; rw [World.setRow_alloc_new])
  obtain ⟨W4, hW4⟩ : ∃ W, W = w3.alloc (.cells #[.int .i64 0, .int .i64 0, .int .i64 64, .int .i64 17, .bool true, .int .u64 0, .int .u64 1, .bool true, .int .u64 0, .int .u64 2, .slice (some ⟨gd, od, none⟩) 1 cap, .bool false, .int .i64 0, .int .i64 0, .bool false, .string ⟨#[120, 121, 122]⟩] 28) := ⟨_, rfl⟩
  obtain ⟨g, hg⟩ : ∃ g, g = w3.heap.size := ⟨_, rfl⟩
  have HG := Lib.hid (show Cells W4 g 28 #[.int .i64 0, .int .i64 0, .int .i64 64, .int .i64 17, .bool true, .int .u64 0, .int .u64 1, .bool true, .int .u64 0, .int .u64 2, .slice (some ⟨gd, od, none⟩) 1 cap, .bool false, .int .i64 0, .int .i64 0, .bool false, .string ⟨#[120, 121, 122]⟩] by rw [hW4, hg]; exact heap_alloc_new w3 _)
  have kW4 : Below w3.heap.size w3 W4 := by rw [hW4]; exact below_alloc6 w3 _
  have RD4 := Lib.hid (RD3.out.kept kW4)
  have B4 := Lib.hid (B3.out.trans (kW4.mono B3.out.size))
  rw [← hW4, ← hg]
  clear hW4 hg kW4 B3 RD3
  go_wp2_with fail
  refine (HS.out _ (HK.out _ _ HTW.out B4.out)).mono ?_
  rintro e w7 ⟨gl, ol, c7, x7, y7, z7, rfl, R7, Y7, b7⟩
  have K7 := Lib.hid b7
  have B7 := Lib.hid (B4.out.trans (b7.mono B4.out.size))
  have RD7 := Lib.hid (RD4.out.kept b7)
  clear b7 HS RD4
  go_upto_region 6 with fail
  have HGV := Lib.hid (fun (W : World) (hb : Below w7.heap.size w7 W) (i : Nat) (v : Value) (hv : (#[.int .i64 0, .int .i64 0, .int .i64 64, .int .i64 17, .bool true, .int .u64 0, .int .u64 1, .bool true, .int .u64 0, .int .u64 2, .slice (some ⟨gd, od, none⟩) 1 cap, .bool false, .int .i64 0, .int .i64 0, .bool false, .string ⟨#[120, 121, 122]⟩] : Array Value)[i]? = some v) => show W.cell? ⟨g, i, none⟩ = some v from box_cell HG.out (K7.out.trans (hb.mono K7.out.size)) i v hv)
  have HRV := Lib.hid (fun (W : World) (hb : Below w7.heap.size w7 W) (i : Nat) (x : Ip6E) (hx : ([(sx0, x7), (sx1, y7), (sx2, z7)] : List Ip6E)[i]? = some x) (j : Nat) (v : Value) (hv : (EIp6.c x)[j]? = some v) => show W.cell? ⟨gl, ol + i * 16 + j, none⟩ = some v from R7.out.at_ hx hb j v hv)
  have HTT := Lib.hid (fun (W : World) (hb : Below w7.heap.size w7 W) => HK.out _ _ HTW.out (B7.out.trans (hb.mono B7.out.size)))
  have q4 : (⟨#[105, 106, 107, 108, 109, 110, 111, 112]⟩ : ByteArray).toList == [105, 106, 107, 108, 109, 110, 111, 112] := by rw [bytes_eq12]; decide
  have f9 : ∀ W : World, (Instr.field 44 (.agg #[.bool true, .int .u64 0, .int .u64 0, .bool true, .int .u64 0, .int .u64 0, .int .i64 6, .int .i64 7, .int .i64 0, .int .i64 8, .bool true, .string ⟨#[105, 106, 107, 108, 109, 110, 111, 112]⟩]) 7).run Try.prog W = .ok (.string ⟨#[105, 106, 107, 108, 109, 110, 111, 112]⟩) W := fun W => by kernel_rfl
  have HFX := Lib.hid (fun (W : World) (hb : Below w7.heap.size w7 W) => HFR.out y7 Y7.out W (HTT.out W hb))
  have HRX := Lib.hid (fun (W : World) (hb : Below w7.heap.size w7 W) => HRT.out W (HTT.out W hb) gd od cap (RD7.out.kept hb))
  refine wp_region_specs_guard 5 [.val (Value.agg #[.int .i64 0, .int .i64 0, .int .i64 64, .int .i64 17, .bool true, .int .u64 0, .int .u64 1, .bool true, .int .u64 0, .int .u64 2, .slice (some ⟨gd, od, none⟩) 1 cap, .bool false, .int .i64 0, .int .i64 0, .bool false, .string ⟨#[120, 121, 122]⟩]), .rowIn (fun gq => Value.agg #[.int .i64 0, .int .i64 0, .int .i64 64, .int .i64 17, .bool true, .int .u64 0, .int .u64 1, .bool true, .int .u64 0, .int .u64 2, .slice (some ⟨gq, 0, none⟩) 1 1, .bool false, .int .i64 0, .int .i64 0, .bool false, .string ⟨#[120, 121, 122]⟩]) #[.int .i64 60, .string ⟨#[97, 98, 99, 100, 101, 102]⟩] 59, .val (Value.bool true), .val (Value.bool true), .val (Value.int .i64 (0 : Int)), .val (Value.bool true), .val (Value.bool true), .val (Value.bool true), .val (Value.int .i64 (0 : Int)), .val (Value.bool true), .val (Value.bool true), .val (Value.bool true), .val (Value.slice (some ⟨gl, ol, none⟩) 3 c7), .val (Value.int .i64 (3 : Int)), .val (Value.bool true), .val (Value.bool true), .val (Value.bool true), .val (Value.slice (some ⟨gl, ol, none⟩) 3 c7), .val (Value.pointer (some ⟨gl, ol + 32, none⟩)), .val (Value.pointer (some ⟨gl, ol + 32 + 13, none⟩)), .val (Value.int .i64 (16 : Int)), .val (Value.bool true), .val (Value.bool true), .val (Value.bool true), .val (Value.slice (some ⟨gl, ol, none⟩) 3 c7), .val (Value.pointer (some ⟨gl, ol + 32, none⟩)), .val (Value.pointer (some ⟨gl, ol + 32 + 14, none⟩)), .val (Value.bool false), .val (Value.bool true), .val (Value.bool true), .val (Value.bool true), .val (Value.slice (some ⟨gl, ol, none⟩) 3 c7), .val (Value.pointer (some ⟨gl, ol + 16, none⟩)), .val (Value.pointer (some ⟨gl, ol + 16 + 14, none⟩)), .val (Value.bool true), .val (Value.bool true), .val (Value.bool true), .val (Value.slice (some ⟨gl, ol, none⟩) 3 c7), .val (Value.pointer (some ⟨gl, ol + 16, none⟩)), .val (Value.agg #[.int .i64 0, .int .i64 0, .int .i64 0, .int .i64 6, .bool true, .int .u64 0, .int .u64 0, .bool true, .int .u64 0, .int .u64 0, .slice y7.1 0 y7.2, .bool true, .int .i64 7, .int .i64 8, .bool true, .string ⟨#[105, 106, 107, 108, 109, 110, 111, 112]⟩]), .val (Value.agg #[.bool true, .int .u64 0, .int .u64 0, .bool true, .int .u64 0, .int .u64 0, .int .i64 6, .int .i64 7, .int .i64 0, .int .i64 8, .bool true, .string ⟨#[105, 106, 107, 108, 109, 110, 111, 112]⟩]), .val (Value.string ⟨#[105, 106, 107, 108, 109, 110, 111, 112]⟩), .val (Value.bool true), .val (Value.bool true), .val (Value.bool true), .val (Value.agg #[.int .i64 0, .int .i64 0, .int .i64 64, .int .i64 17, .bool true, .int .u64 0, .int .u64 1, .bool true, .int .u64 0, .int .u64 2, .slice (some ⟨gd, od, none⟩) 1 cap, .bool false, .int .i64 0, .int .i64 0, .bool false, .string ⟨#[120, 121, 122]⟩]), .val (Value.bool false), .val (Value.bool true), .val (Value.bool true), .val (Value.bool true)] (by kernel_rfl) (by kernel_rfl) (by kernel_rfl) (by kernel_rfl) ?_ ?_
  · refine ⟨Or.inr ⟨by kernel_rfl, ?_⟩, Or.inr ⟨by kernel_rfl, ?_⟩, Or.inr ⟨by kernel_rfl, ?_⟩, Or.inr ⟨by kernel_rfl, ?_⟩, Or.inr ⟨by kernel_rfl, ?_⟩, Or.inr ⟨by kernel_rfl, ?_⟩, Or.inr ⟨by kernel_rfl, ?_⟩, Or.inr ⟨by kernel_rfl, ?_⟩, Or.inr ⟨by kernel_rfl, ?_⟩, Or.inr ⟨by kernel_rfl, ?_⟩, Or.inr ⟨by kernel_rfl, ?_⟩, Or.inr ⟨by kernel_rfl, ?_⟩, Or.inr ⟨by kernel_rfl, ?_⟩, Or.inr ⟨by kernel_rfl, ?_⟩, Or.inr ⟨by kernel_rfl, ?_⟩, Or.inr ⟨by kernel_rfl, ?_⟩, Or.inr ⟨by kernel_rfl, ?_⟩, Or.inr ⟨by kernel_rfl, ?_⟩, Or.inr ⟨by kernel_rfl, ?_⟩, Or.inr ⟨by kernel_rfl, ?_⟩, Or.inr ⟨by kernel_rfl, ?_⟩, Or.inr ⟨by kernel_rfl, ?_⟩, Or.inr ⟨by kernel_rfl, ?_⟩, Or.inr ⟨by kernel_rfl, ?_⟩, Or.inr ⟨by kernel_rfl, ?_⟩, Or.inr ⟨by kernel_rfl, ?_⟩, Or.inr ⟨by kernel_rfl, ?_⟩, Or.inr ⟨by kernel_rfl, ?_⟩, Or.inr ⟨by kernel_rfl, ?_⟩, Or.inr ⟨by kernel_rfl, ?_⟩, Or.inr ⟨by kernel_rfl, ?_⟩, Or.inr ⟨by kernel_rfl, ?_⟩, Or.inr ⟨by kernel_rfl, ?_⟩, Or.inr ⟨by kernel_rfl, ?_⟩, Or.inr ⟨by kernel_rfl, ?_⟩, Or.inr ⟨by kernel_rfl, ?_⟩, Or.inr ⟨by kernel_rfl, ?_⟩, Or.inr ⟨by kernel_rfl, ?_⟩, Or.inr ⟨by kernel_rfl, ?_⟩, Or.inr ⟨by kernel_rfl, ?_⟩, Or.inr ⟨by kernel_rfl, ?_⟩, Or.inr ⟨by kernel_rfl, ?_⟩, Or.inr ⟨by kernel_rfl, ?_⟩, Or.inr ⟨by kernel_rfl, ?_⟩, Or.inr ⟨by kernel_rfl, ?_⟩, Or.inr ⟨by kernel_rfl, ?_⟩, Or.inr ⟨by kernel_rfl, ?_⟩, Or.inr ⟨by kernel_rfl, ?_⟩, Or.inr ⟨by kernel_rfl, ?_⟩, Or.inr ⟨by kernel_rfl, ?_⟩, trivial⟩
    · intro a W hbW hk K hK
      have e3 := kvalG hk 3 (Value.pointer (some ⟨g, 0, none⟩)) (by kernel_rfl)
      clear hk
      have x0 := HGV.out W hbW 0 _ rfl
      have x1 := HGV.out W hbW 1 _ rfl
      have x2 := HGV.out W hbW 2 _ rfl
      have x3 := HGV.out W hbW 3 _ rfl
      have x4 := HGV.out W hbW 4 _ rfl
      have x5 := HGV.out W hbW 5 _ rfl
      have x6 := HGV.out W hbW 6 _ rfl
      have x7 := HGV.out W hbW 7 _ rfl
      have x8 := HGV.out W hbW 8 _ rfl
      have x9 := HGV.out W hbW 9 _ rfl
      have x10 := HGV.out W hbW 10 _ rfl
      have x11 := HGV.out W hbW 11 _ rfl
      have x12 := HGV.out W hbW 12 _ rfl
      have x13 := HGV.out W hbW 13 _ rfl
      have x14 := HGV.out W hbW 14 _ rfl
      have x15 := HGV.out W hbW 15 _ rfl
      go_simp
      exact ⟨_, rfl, hK _ _ rfl (relB_below (Below.refl _ _))⟩
    · intro a W hbW hk K hK
      clear hk
      go_simp
      refine (packet12_any W).mono ?_
      rintro e w9 ⟨gq, rfl, hgq, hcq, hb9⟩
      exact ⟨_, rfl, hK _ _ ⟨by decide, gq, rfl, Nat.le_trans hbW.size hgq, hcq⟩ (relB_below hb9)⟩
    · intro a W hbW hk K hK
      have e47 := kvalG hk 47 (Value.agg #[.int .i64 0, .int .i64 0, .int .i64 64, .int .i64 17, .bool true, .int .u64 0, .int .u64 1, .bool true, .int .u64 0, .int .u64 2, .slice (some ⟨gd, od, none⟩) 1 cap, .bool false, .int .i64 0, .int .i64 0, .bool false, .string ⟨#[120, 121, 122]⟩]) (by kernel_rfl)
      obtain ⟨gr48, e48, _, hg48⟩ := kinG hk 48 (fun gq => Value.agg #[.int .i64 0, .int .i64 0, .int .i64 64, .int .i64 17, .bool true, .int .u64 0, .int .u64 1, .bool true, .int .u64 0, .int .u64 2, .slice (some ⟨gq, 0, none⟩) 1 1, .bool false, .int .i64 0, .int .i64 0, .bool false, .string ⟨#[120, 121, 122]⟩]) #[.int .i64 60, .string ⟨#[97, 98, 99, 100, 101, 102]⟩] 59 (by kernel_rfl)
      clear hk
      go_simp
      refine (show Calls Try.prog 13 #[.agg #[.int .i64 0, .int .i64 0, .int .i64 64, .int .i64 17, .bool true, .int .u64 0, .int .u64 1, .bool true, .int .u64 0, .int .u64 2, .slice (some ⟨gd, od, none⟩) 1 cap, .bool false, .int .i64 0, .int .i64 0, .bool false, .string ⟨#[120, 121, 122]⟩], .agg #[.int .i64 0, .int .i64 0, .int .i64 64, .int .i64 17, .bool true, .int .u64 0, .int .u64 1, .bool true, .int .u64 0, .int .u64 2, .slice (some ⟨gr48, 0, none⟩) 1 1, .bool false, .int .i64 0, .int .i64 0, .bool false, .string ⟨#[120, 121, 122]⟩]] W fun e w' => e = .returned (.bool true) ∧ Below W.heap.size W w' from rsame12_any 0 0 64 17 0 0 true true false false 0 1 0 2 [⟨60, [97, 98, 99, 100, 101, 102]⟩] (some ⟨gd, od, none⟩) (some ⟨gr48, 0, none⟩) cap 1 (str [120, 121, 122]) W (RD7.out.kept hbW) (rowl_block hg48 rfl) (by decide)).mono ?_
      rintro e w9 ⟨rfl, hb9⟩
      exact ⟨_, rfl, hK _ _ rfl (relB_below hb9)⟩
    · intro a W hbW hk K hK
      have e49 := kvalG hk 49 (Value.bool true) (by kernel_rfl)
      clear hk
      go_simp
      exact ⟨_, rfl, hK _ _ rfl (relB_below (Below.refl _ _))⟩
    · intro a W hbW hk K hK
      have e4 := kvalG hk 4 (Value.int .i64 (0 : Int)) (by kernel_rfl)
      clear hk
      go_simp
      exact ⟨_, rfl, hK _ _ rfl (relB_below (Below.refl _ _))⟩
    · intro a W hbW hk K hK
      have e51 := kvalG hk 51 (Value.int .i64 (0 : Int)) (by kernel_rfl)
      clear hk
      go_simp
      exact ⟨_, rfl, hK _ _ rfl (relB_below (Below.refl _ _))⟩
    · intro a W hbW hk K hK
      have e50 := kvalG hk 50 (Value.bool true) (by kernel_rfl)
      have e52 := kvalG hk 52 (Value.bool true) (by kernel_rfl)
      clear hk
      go_simp
      exact ⟨_, rfl, hK _ _ rfl (relB_below (Below.refl _ _))⟩
    · intro a W hbW hk K hK
      have e53 := kvalG hk 53 (Value.bool true) (by kernel_rfl)
      clear hk
      go_simp
      exact ⟨_, rfl, hK _ _ rfl (relB_below (Below.refl _ _))⟩
    · intro a W hbW hk K hK
      have e6 := kvalG hk 6 (Value.int .i64 (0 : Int)) (by kernel_rfl)
      clear hk
      go_simp
      exact ⟨_, rfl, hK _ _ rfl (relB_below (Below.refl _ _))⟩
    · intro a W hbW hk K hK
      have e55 := kvalG hk 55 (Value.int .i64 (0 : Int)) (by kernel_rfl)
      clear hk
      go_simp
      exact ⟨_, rfl, hK _ _ rfl (relB_below (Below.refl _ _))⟩
    · intro a W hbW hk K hK
      have e54 := kvalG hk 54 (Value.bool true) (by kernel_rfl)
      have e56 := kvalG hk 56 (Value.bool true) (by kernel_rfl)
      clear hk
      go_simp
      exact ⟨_, rfl, hK _ _ rfl (relB_below (Below.refl _ _))⟩
    · intro a W hbW hk K hK
      have e57 := kvalG hk 57 (Value.bool true) (by kernel_rfl)
      clear hk
      go_simp
      exact ⟨_, rfl, hK _ _ rfl (relB_below (Below.refl _ _))⟩
    · intro a W hbW hk K hK
      have e5 := kvalG hk 5 (Value.slice (some ⟨gl, ol, none⟩) 3 c7) (by kernel_rfl)
      clear hk
      go_simp
      exact ⟨_, rfl, hK _ _ rfl (relB_below (Below.refl _ _))⟩
    · intro a W hbW hk K hK
      have e59 := kvalG hk 59 (Value.slice (some ⟨gl, ol, none⟩) 3 c7) (by kernel_rfl)
      clear hk
      go_simp
      exact ⟨_, rfl, hK _ _ rfl (relB_below (Below.refl _ _))⟩
    · intro a W hbW hk K hK
      have e60 := kvalG hk 60 (Value.int .i64 (3 : Int)) (by kernel_rfl)
      clear hk
      go_simp
      exact ⟨_, rfl, hK _ _ rfl (relB_below (Below.refl _ _))⟩
    · intro a W hbW hk K hK
      have e58 := kvalG hk 58 (Value.bool true) (by kernel_rfl)
      have e61 := kvalG hk 61 (Value.bool true) (by kernel_rfl)
      clear hk
      go_simp
      exact ⟨_, rfl, hK _ _ rfl (relB_below (Below.refl _ _))⟩
    · intro a W hbW hk K hK
      have e62 := kvalG hk 62 (Value.bool true) (by kernel_rfl)
      clear hk
      go_simp
      exact ⟨_, rfl, hK _ _ rfl (relB_below (Below.refl _ _))⟩
    · intro a W hbW hk K hK
      have e5 := kvalG hk 5 (Value.slice (some ⟨gl, ol, none⟩) 3 c7) (by kernel_rfl)
      clear hk
      go_simp
      exact ⟨_, rfl, hK _ _ rfl (relB_below (Below.refl _ _))⟩
    · intro a W hbW hk K hK
      have e64 := kvalG hk 64 (Value.slice (some ⟨gl, ol, none⟩) 3 c7) (by kernel_rfl)
      clear hk
      go_simp
      exact ⟨_, rfl, hK _ _ rfl (relB_below (Below.refl _ _))⟩
    · intro a W hbW hk K hK
      have e65 := kvalG hk 65 (Value.pointer (some ⟨gl, ol + 32, none⟩)) (by kernel_rfl)
      clear hk
      go_simp
      exact ⟨_, rfl, hK _ _ rfl (relB_below (Below.refl _ _))⟩
    · intro a W hbW hk K hK
      have e66 := kvalG hk 66 (Value.pointer (some ⟨gl, ol + 32 + 13, none⟩)) (by kernel_rfl)
      clear hk
      have y := HRV.out W hbW 2 _ rfl 13 _ rfl
      go_simp
      exact ⟨_, rfl, hK _ _ rfl (relB_below (Below.refl _ _))⟩
    · intro a W hbW hk K hK
      have e67 := kvalG hk 67 (Value.int .i64 (16 : Int)) (by kernel_rfl)
      clear hk
      go_simp
      exact ⟨_, rfl, hK _ _ rfl (relB_below (Below.refl _ _))⟩
    · intro a W hbW hk K hK
      have e63 := kvalG hk 63 (Value.bool true) (by kernel_rfl)
      have e68 := kvalG hk 68 (Value.bool true) (by kernel_rfl)
      clear hk
      go_simp
      exact ⟨_, rfl, hK _ _ rfl (relB_below (Below.refl _ _))⟩
    · intro a W hbW hk K hK
      have e69 := kvalG hk 69 (Value.bool true) (by kernel_rfl)
      clear hk
      go_simp
      exact ⟨_, rfl, hK _ _ rfl (relB_below (Below.refl _ _))⟩
    · intro a W hbW hk K hK
      have e5 := kvalG hk 5 (Value.slice (some ⟨gl, ol, none⟩) 3 c7) (by kernel_rfl)
      clear hk
      go_simp
      exact ⟨_, rfl, hK _ _ rfl (relB_below (Below.refl _ _))⟩
    · intro a W hbW hk K hK
      have e71 := kvalG hk 71 (Value.slice (some ⟨gl, ol, none⟩) 3 c7) (by kernel_rfl)
      clear hk
      go_simp
      exact ⟨_, rfl, hK _ _ rfl (relB_below (Below.refl _ _))⟩
    · intro a W hbW hk K hK
      have e72 := kvalG hk 72 (Value.pointer (some ⟨gl, ol + 32, none⟩)) (by kernel_rfl)
      clear hk
      go_simp
      exact ⟨_, rfl, hK _ _ rfl (relB_below (Below.refl _ _))⟩
    · intro a W hbW hk K hK
      have e73 := kvalG hk 73 (Value.pointer (some ⟨gl, ol + 32 + 14, none⟩)) (by kernel_rfl)
      clear hk
      have y := HRV.out W hbW 2 _ rfl 14 _ rfl
      go_simp
      exact ⟨_, rfl, hK _ _ rfl (relB_below (Below.refl _ _))⟩
    · intro a W hbW hk K hK
      have e74 := kvalG hk 74 (Value.bool false) (by kernel_rfl)
      clear hk
      go_simp
      exact ⟨_, rfl, hK _ _ rfl (relB_below (Below.refl _ _))⟩
    · intro a W hbW hk K hK
      have e70 := kvalG hk 70 (Value.bool true) (by kernel_rfl)
      have e75 := kvalG hk 75 (Value.bool true) (by kernel_rfl)
      clear hk
      go_simp
      exact ⟨_, rfl, hK _ _ rfl (relB_below (Below.refl _ _))⟩
    · intro a W hbW hk K hK
      have e76 := kvalG hk 76 (Value.bool true) (by kernel_rfl)
      clear hk
      go_simp
      exact ⟨_, rfl, hK _ _ rfl (relB_below (Below.refl _ _))⟩
    · intro a W hbW hk K hK
      have e5 := kvalG hk 5 (Value.slice (some ⟨gl, ol, none⟩) 3 c7) (by kernel_rfl)
      clear hk
      go_simp
      exact ⟨_, rfl, hK _ _ rfl (relB_below (Below.refl _ _))⟩
    · intro a W hbW hk K hK
      have e78 := kvalG hk 78 (Value.slice (some ⟨gl, ol, none⟩) 3 c7) (by kernel_rfl)
      clear hk
      go_simp
      exact ⟨_, rfl, hK _ _ rfl (relB_below (Below.refl _ _))⟩
    · intro a W hbW hk K hK
      have e79 := kvalG hk 79 (Value.pointer (some ⟨gl, ol + 16, none⟩)) (by kernel_rfl)
      clear hk
      go_simp
      exact ⟨_, rfl, hK _ _ rfl (relB_below (Below.refl _ _))⟩
    · intro a W hbW hk K hK
      have e80 := kvalG hk 80 (Value.pointer (some ⟨gl, ol + 16 + 14, none⟩)) (by kernel_rfl)
      clear hk
      have y := HRV.out W hbW 1 _ rfl 14 _ rfl
      go_simp
      exact ⟨_, rfl, hK _ _ rfl (relB_below (Below.refl _ _))⟩
    · intro a W hbW hk K hK
      have e77 := kvalG hk 77 (Value.bool true) (by kernel_rfl)
      have e81 := kvalG hk 81 (Value.bool true) (by kernel_rfl)
      clear hk
      go_simp
      exact ⟨_, rfl, hK _ _ rfl (relB_below (Below.refl _ _))⟩
    · intro a W hbW hk K hK
      have e82 := kvalG hk 82 (Value.bool true) (by kernel_rfl)
      clear hk
      go_simp
      exact ⟨_, rfl, hK _ _ rfl (relB_below (Below.refl _ _))⟩
    · intro a W hbW hk K hK
      have e5 := kvalG hk 5 (Value.slice (some ⟨gl, ol, none⟩) 3 c7) (by kernel_rfl)
      clear hk
      go_simp
      exact ⟨_, rfl, hK _ _ rfl (relB_below (Below.refl _ _))⟩
    · intro a W hbW hk K hK
      have e84 := kvalG hk 84 (Value.slice (some ⟨gl, ol, none⟩) 3 c7) (by kernel_rfl)
      clear hk
      go_simp
      exact ⟨_, rfl, hK _ _ rfl (relB_below (Below.refl _ _))⟩
    · intro a W hbW hk K hK
      have e85 := kvalG hk 85 (Value.pointer (some ⟨gl, ol + 16, none⟩)) (by kernel_rfl)
      clear hk
      have y0 := HRV.out W hbW 1 _ rfl 0 _ rfl
      have y1 := HRV.out W hbW 1 _ rfl 1 _ rfl
      have y2 := HRV.out W hbW 1 _ rfl 2 _ rfl
      have y3 := HRV.out W hbW 1 _ rfl 3 _ rfl
      have y4 := HRV.out W hbW 1 _ rfl 4 _ rfl
      have y5 := HRV.out W hbW 1 _ rfl 5 _ rfl
      have y6 := HRV.out W hbW 1 _ rfl 6 _ rfl
      have y7 := HRV.out W hbW 1 _ rfl 7 _ rfl
      have y8 := HRV.out W hbW 1 _ rfl 8 _ rfl
      have y9 := HRV.out W hbW 1 _ rfl 9 _ rfl
      have y10 := HRV.out W hbW 1 _ rfl 10 _ rfl
      have y11 := HRV.out W hbW 1 _ rfl 11 _ rfl
      have y12 := HRV.out W hbW 1 _ rfl 12 _ rfl
      have y13 := HRV.out W hbW 1 _ rfl 13 _ rfl
      have y14 := HRV.out W hbW 1 _ rfl 14 _ rfl
      have y15 := HRV.out W hbW 1 _ rfl 15 _ rfl
      go_simp
      exact ⟨_, rfl, hK _ _ rfl (relB_below (Below.refl _ _))⟩
    · intro a W hbW hk K hK
      have e86 := kvalG hk 86 (Value.agg #[.int .i64 0, .int .i64 0, .int .i64 0, .int .i64 6, .bool true, .int .u64 0, .int .u64 0, .bool true, .int .u64 0, .int .u64 0, .slice y7.1 0 y7.2, .bool true, .int .i64 7, .int .i64 8, .bool true, .string ⟨#[105, 106, 107, 108, 109, 110, 111, 112]⟩]) (by kernel_rfl)
      clear hk
      go_simp
      refine (HFX.out W hbW).mono ?_
      rintro e w9 ⟨rfl, hb9⟩
      exact ⟨_, rfl, hK _ _ rfl (relB_below hb9)⟩
    · intro a W hbW hk K hK
      have e87 := kvalG hk 87 (Value.agg #[.bool true, .int .u64 0, .int .u64 0, .bool true, .int .u64 0, .int .u64 0, .int .i64 6, .int .i64 7, .int .i64 0, .int .i64 8, .bool true, .string ⟨#[105, 106, 107, 108, 109, 110, 111, 112]⟩]) (by kernel_rfl)
      clear hk
      go_simp
      exact ⟨_, rfl, hK _ _ rfl (relB_below (Below.refl _ _))⟩
    · intro a W hbW hk K hK
      have e88 := kvalG hk 88 (Value.string ⟨#[105, 106, 107, 108, 109, 110, 111, 112]⟩) (by kernel_rfl)
      clear hk
      go_simp
      exact ⟨_, rfl, hK _ _ rfl (relB_below (Below.refl _ _))⟩
    · intro a W hbW hk K hK
      have e83 := kvalG hk 83 (Value.bool true) (by kernel_rfl)
      have e89 := kvalG hk 89 (Value.bool true) (by kernel_rfl)
      clear hk
      go_simp
      exact ⟨_, rfl, hK _ _ rfl (relB_below (Below.refl _ _))⟩
    · intro a W hbW hk K hK
      have e90 := kvalG hk 90 (Value.bool true) (by kernel_rfl)
      clear hk
      go_simp
      exact ⟨_, rfl, hK _ _ rfl (relB_below (Below.refl _ _))⟩
    · intro a W hbW hk K hK
      have e3 := kvalG hk 3 (Value.pointer (some ⟨g, 0, none⟩)) (by kernel_rfl)
      clear hk
      have x0 := HGV.out W hbW 0 _ rfl
      have x1 := HGV.out W hbW 1 _ rfl
      have x2 := HGV.out W hbW 2 _ rfl
      have x3 := HGV.out W hbW 3 _ rfl
      have x4 := HGV.out W hbW 4 _ rfl
      have x5 := HGV.out W hbW 5 _ rfl
      have x6 := HGV.out W hbW 6 _ rfl
      have x7 := HGV.out W hbW 7 _ rfl
      have x8 := HGV.out W hbW 8 _ rfl
      have x9 := HGV.out W hbW 9 _ rfl
      have x10 := HGV.out W hbW 10 _ rfl
      have x11 := HGV.out W hbW 11 _ rfl
      have x12 := HGV.out W hbW 12 _ rfl
      have x13 := HGV.out W hbW 13 _ rfl
      have x14 := HGV.out W hbW 14 _ rfl
      have x15 := HGV.out W hbW 15 _ rfl
      go_simp
      exact ⟨_, rfl, hK _ _ rfl (relB_below (Below.refl _ _))⟩
    · intro a W hbW hk K hK
      have e92 := kvalG hk 92 (Value.agg #[.int .i64 0, .int .i64 0, .int .i64 64, .int .i64 17, .bool true, .int .u64 0, .int .u64 1, .bool true, .int .u64 0, .int .u64 2, .slice (some ⟨gd, od, none⟩) 1 cap, .bool false, .int .i64 0, .int .i64 0, .bool false, .string ⟨#[120, 121, 122]⟩]) (by kernel_rfl)
      clear hk
      go_simp
      refine (HRX.out W hbW).mono ?_
      rintro e w9 ⟨rfl, hb9⟩
      exact ⟨_, rfl, hK _ _ rfl (relB_below hb9)⟩
    · intro a W hbW hk K hK
      have e93 := kvalG hk 93 (Value.bool false) (by kernel_rfl)
      clear hk
      go_simp
      exact ⟨_, rfl, hK _ _ rfl (relB_below (Below.refl _ _))⟩
    · intro a W hbW hk K hK
      have e91 := kvalG hk 91 (Value.bool true) (by kernel_rfl)
      have e94 := kvalG hk 94 (Value.bool true) (by kernel_rfl)
      clear hk
      go_simp
      exact ⟨_, rfl, hK _ _ rfl (relB_below (Below.refl _ _))⟩
    · intro a W hbW hk K hK
      have e95 := kvalG hk 95 (Value.bool true) (by kernel_rfl)
      clear hk
      go_simp
      exact ⟨_, rfl, hK _ _ rfl (relB_below (Below.refl _ _))⟩
  · intro w8 hb8
    simp only [endG, putG]
    intro gq hgq
    go_simp
    clear hgq
    have B8 := Lib.hid (B7.out.trans (hb8.mono B7.out.size))
    clear hb8
    go_wp2_with fail
    go_ret
    exact ⟨rfl, B8.out⟩
end Go.Proofs.Ytjjldolafnfpoaa
