/- Contracts of the functions, part 44: Awk11. -/
import Derived.Deep.RegionHeld
import Derived.Test.YtimilcjlogcfhaaPE43
/- The law package of layer 11: awake, over the bundle P11. -/
namespace Go.Proofs.Ytimilcjlogcfhaa
open Go.ChangeShapes Go.WideShapes Go.ChangeAt Go.RowKit
set_option linter.unusedVariables false

theorem exWf : ipWf exI := ⟨⟨by decide, by decide, by decide, by decide, by decide⟩, by unfold adrFits; decide, by unfold adrFits; decide, by decide, by decide, fun y hy => by cases hy⟩
theorem spWf : ipWf spI := ⟨⟨by decide, by decide, by decide, by decide, by decide⟩, by unfold adrFits; decide, by unfold adrFits; decide, by decide, by decide, fun y hy => by cases hy⟩
theorem sp1Wf : ipWf sp1 := ⟨⟨by decide, by decide, by decide, by decide, by decide⟩, by unfold adrFits; decide, by unfold adrFits; decide, by decide, by decide, fun y hy => by cases hy⟩
def rtI : Ip4R := ⟨0, 0, 0, 0, false, false, 0, ⟨false, 0, 0⟩, ⟨false, 0, 0⟩, [⟨131, []⟩], []⟩
theorem rtWf : ipWf rtI := ⟨⟨by decide, by decide, by decide, by decide, by decide⟩, by unfold adrFits; decide, by unfold adrFits; decide, by decide, by decide, fun y hy => by
  obtain rfl := List.mem_singleton.1 hy
  exact ⟨by decide, by decide⟩⟩
theorem bytes_eq11 (s : ByteArray) (L : List UInt8) : (s.toList == L) = (s.data.toList == L) := by rw [ByteArray.toList_eq]
theorem below_al11 {a w : World} (h : Below a.heap.size a w) (o : Obj) : Below a.heap.size a (w.alloc o) := h.alloc h.size o
theorem three_es {es : List IpE} {a b c : Ip4R} (h : es.map (·.1) = [a, b, c]) : ∃ x y z : Option Addr × Nat, es = [(a, x), (b, y), (c, z)] := by
  match es, h with
  | [(a', x), (b', y), (c', z)], h =>
    simp at h
    obtain ⟨rfl, rfl, rfl⟩ := h
    exact ⟨x, y, z, rfl⟩
set_option maxHeartbeats 4000000 in
set_option maxRecDepth 20000 in
theorem awake11_any (T : World → Prop) (hP : P11 T) (w : World) (ht : T w) :
    Calls Try.prog 10 #[] w fun e w' => e = .returned (.bool true) ∧ Below w.heap.size w w' := by
  have HTW := Lib.hid ht
  have HK := Lib.hid hP.keep
  have HX := Lib.hid (fun (W : World) => show Calls Try.prog 24 #[] W fun e w' => e = .returned (.agg #[.int .i64 0, .int .i64 0, .int .i64 64, .int .i64 17, .bool false, .bool false, .int .i64 0, .bool false, .int .u64 0, .int .u64 167772161, .bool false, .int .u64 0, .int .u64 167772162, .slice none 0 0, .string ⟨#[97, 98]⟩]) ∧ Below W.heap.size W w' from example_any W)
  have HE := Lib.hid (fun (W : World) (hT : T W) => show Calls Try.prog 15 #[.agg #[.int .i64 0, .int .i64 0, .int .i64 64, .int .i64 17, .bool false, .bool false, .int .i64 0, .bool false, .int .u64 0, .int .u64 167772161, .bool false, .int .u64 0, .int .u64 167772162, .slice none 0 0, .string ⟨#[97, 98]⟩]] W fun e w' => e = .returned (.tuple #[.string ⟨#[69, 0, 0, 22, 0, 0, 0, 0, 64, 17, 102, 213, 10, 0, 0, 1, 10, 0, 0, 2, 97, 98]⟩, .int .i64 0]) ∧ Below W.heap.size W w' from by
    have := hP.enc exI none 0 W hT ⟨exWf, RowL.nil _ _, by decide, by decide⟩
    rw [encI_ex] at this
    exact this)
  have HD := Lib.hid (fun (W : World) (hT : T W) => show Calls Try.prog 11 #[.string ⟨#[69, 0, 0, 22, 0, 0, 0, 0, 64, 17, 102, 213, 10, 0, 0, 1, 10, 0, 0, 2, 97, 98]⟩] W fun e w' => ∃ A cap, e = .returned (.tuple #[.agg #[.int .i64 0, .int .i64 0, .int .i64 64, .int .i64 17, .bool false, .bool false, .int .i64 0, .bool false, .int .u64 0, .int .u64 167772161, .bool false, .int .u64 0, .int .u64 167772162, .slice A 0 cap, .string ⟨#[97, 98]⟩], .int .i64 0]) ∧ Below W.heap.size W w' from by
    have := hP.dec exS W hT (by decide)
    rw [decI_ex] at this
    exact this.mono (fun e w' ⟨A, cap, h1, _, _, h4⟩ => ⟨A, cap, h1, h4⟩))
  have HS := Lib.hid (fun (W : World) (hT : T W) => show Calls Try.prog 21 #[.agg #[.int .i64 0, .int .i64 0, .int .i64 0, .int .i64 0, .bool false, .bool false, .int .i64 0, .bool false, .int .u64 0, .int .u64 167772161, .bool false, .int .u64 0, .int .u64 167772162, .slice none 0 0, .string ⟨#[97, 97, 97, 97, 97, 97, 97, 97, 98, 98, 98, 98, 98, 98, 98, 98, 99, 99, 99, 99]⟩], .int .i64 8] W fun e w' => ∃ A c x y z, e = .returned (.tuple #[.slice A 3 c, .int .i64 0]) ∧ Hid (RowL EIp w' A [(sp0, x), (sp1, y), (sp2, z)]) ∧ Below W.heap.size W w' from by
    have := hP.spl spI 8 none 0 W hT ⟨spWf, RowL.nil _ _, by decide, by decide⟩ (by decide)
    rw [splitI_sp] at this
    refine this.mono (fun e w' ⟨A, c, es, h1, h2, h3, h4, h5, h6⟩ => ?_)
    obtain ⟨x, y, z, rfl⟩ := three_es h2
    exact ⟨A, c, x, y, z, h1, Lib.hid h3, h6⟩)
  have f7 : ∀ W : World, (Instr.field 28 (.agg #[.int .i64 0, .int .i64 0, .int .i64 64, .int .i64 17, .bool false, .bool false, .int .i64 0, .bool false, .int .u64 0, .int .u64 167772161, .bool false, .int .u64 0, .int .u64 167772162, .slice none 0 0, .string ⟨#[97, 98]⟩]) 7).run Try.prog W = .ok (.agg #[.bool false, .int .u64 0, .int .u64 167772161]) W := fun W => by kernel_rfl
  have f8 : ∀ W : World, (Instr.field 28 (.agg #[.int .i64 0, .int .i64 0, .int .i64 64, .int .i64 17, .bool false, .bool false, .int .i64 0, .bool false, .int .u64 0, .int .u64 167772161, .bool false, .int .u64 0, .int .u64 167772162, .slice none 0 0, .string ⟨#[97, 98]⟩]) 8).run Try.prog W = .ok (.agg #[.bool false, .int .u64 0, .int .u64 167772162]) W := fun W => by kernel_rfl
  have f9 : ∀ W : World, (Instr.field 38 (.agg #[.bool false, .int .u64 0, .int .u64 167772161, .bool false, .int .u64 0, .int .u64 167772162, .int .i64 0, .int .i64 0, .int .i64 0, .int .i64 8, .bool true, .string ⟨#[98, 98, 98, 98, 98, 98, 98, 98]⟩]) 7).run Try.prog W = .ok (.string ⟨#[98, 98, 98, 98, 98, 98, 98, 98]⟩) W := fun W => by kernel_rfl
  have HFR := Lib.hid (fun (y7 : Option Addr × Nat) (W : World) (hT : T W) => show Calls Try.prog 17 #[.agg #[.int .i64 0, .int .i64 0, .int .i64 0, .int .i64 0, .bool false, .bool true, .int .i64 8, .bool false, .int .u64 0, .int .u64 167772161, .bool false, .int .u64 0, .int .u64 167772162, .slice y7.1 0 y7.2, .string ⟨#[98, 98, 98, 98, 98, 98, 98, 98]⟩]] W fun e w' => e = .returned (.agg #[.bool false, .int .u64 0, .int .u64 167772161, .bool false, .int .u64 0, .int .u64 167772162, .int .i64 0, .int .i64 0, .int .i64 0, .int .i64 8, .bool true, .string ⟨#[98, 98, 98, 98, 98, 98, 98, 98]⟩]) ∧ Below W.heap.size W w' from
    hP.frg sp1 y7.1 y7.2 W hT ⟨sp1Wf, RowL.nil _ _, by decide, by decide⟩)
  have HRT := Lib.hid (fun (W : World) (hT : T (W.alloc (.cells #[.int .i64 131, .string ⟨#[]⟩] 50))) => show Calls Try.prog 19 #[.agg #[.int .i64 0, .int .i64 0, .int .i64 0, .int .i64 0, .bool false, .bool false, .int .i64 0, .bool false, .int .u64 0, .int .u64 0, .bool false, .int .u64 0, .int .u64 0, .slice (some ⟨W.heap.size, 0, none⟩) 1 1, .string ⟨#[]⟩]] (W.alloc (.cells #[.int .i64 131, .string ⟨#[]⟩] 50)) fun e w' => e = .returned (.bool true) ∧ Below W.heap.size (W.alloc (.cells #[.int .i64 131, .string ⟨#[]⟩] 50)) w' from by
    have := hP.rou rtI (some ⟨W.heap.size, 0, none⟩) 1 _ hT ⟨rtWf, rowl_block (heap_alloc_new W _) rfl, by decide, by decide⟩
    rw [show routedI rtI = true from routed_ex] at this
    exact this.mono (fun e w' h => ⟨h.1, h.2.mono (by simp)⟩))
  clear hP ht
  go_enter Try.func10, Try.ntmps10
  go_wp2_with fail
  refine (HX.out _).mono ?_
  rintro e w1 ⟨rfl, b1⟩
  have B1 := Lib.hid b1
  clear b1
  go_wp2_with fail
  refine (HE.out _ (HK.out _ _ HTW.out B1.out)).mono ?_
  rintro e w2 ⟨rfl, b2⟩
  have B2 := Lib.hid (B1.out.trans (b2.mono B1.out.size))
  clear b2 B1 HE
  go_wp2_with fail
  refine (HD.out _ (HK.out _ _ HTW.out B2.out)).mono ?_
  rintro e w3 ⟨A, cap, rfl, b3⟩
  have B3 := Lib.hid (B2.out.trans (b3.mono B2.out.size))
  clear b3 B2 HD
  go_wp2_with fail
  obtain ⟨W4, hW4⟩ : ∃ W, W = w3.alloc (.cells #[.int .i64 0, .int .i64 0, .int .i64 64, .int .i64 17, .bool false, .bool false, .int .i64 0, .bool false, .int .u64 0, .int .u64 167772161, .bool false, .int .u64 0, .int .u64 167772162, .slice A 0 cap, .string ⟨#[97, 98]⟩] 28) := ⟨_, rfl⟩
  obtain ⟨g, hg⟩ : ∃ g, g = w3.heap.size := ⟨_, rfl⟩
  have HG := Lib.hid (show Cells W4 g 28 #[.int .i64 0, .int .i64 0, .int .i64 64, .int .i64 17, .bool false, .bool false, .int .i64 0, .bool false, .int .u64 0, .int .u64 167772161, .bool false, .int .u64 0, .int .u64 167772162, .slice A 0 cap, .string ⟨#[97, 98]⟩] by rw [hW4, hg]; exact heap_alloc_new w3 _)
  have B4 := Lib.hid (show Below w.heap.size w W4 by rw [hW4]; exact B3.out.trans ((below_alloc6 w3 _).mono B3.out.size))
  rw [← hW4, ← hg]
  clear hW4 hg B3
  refine (HX.out _).mono ?_
  rintro e w5 ⟨rfl, b5⟩
  have C5 := Lib.hid b5
  clear b5
  go_wp2_with fail
  refine (HX.out _).mono ?_
  rintro e w6 ⟨rfl, b6⟩
  have C6 := Lib.hid (C5.out.trans (b6.mono C5.out.size))
  clear b6 C5
  go_wp2_with fail
  refine (HS.out _ (HK.out _ _ HTW.out (B4.out.trans (C6.out.mono B4.out.size)))).mono ?_
  rintro e w7 ⟨A7, c7, x7, y7, z7, rfl, R7, b7⟩
  have C7 := Lib.hid (C6.out.trans (b7.mono C6.out.size))
  clear b7 C6 HS
  obtain ⟨gl, ol, rfl, hgl⟩ := RowL.shapeA R7.out (by simp)
  go_wp2_with fail
  have HGV := Lib.hid (fun (W : World) (hb : Below w7.heap.size w7 W) (i : Nat) (v : Value) (hv : (#[.int .i64 0, .int .i64 0, .int .i64 64, .int .i64 17, .bool false, .bool false, .int .i64 0, .bool false, .int .u64 0, .int .u64 167772161, .bool false, .int .u64 0, .int .u64 167772162, .slice A 0 cap, .string ⟨#[97, 98]⟩] : Array Value)[i]? = some v) => show W.cell? ⟨g, i, none⟩ = some v from box_cell HG.out (C7.out.trans (hb.mono C7.out.size)) i v hv)
  have HSA := Lib.hid (fun (W : World) (hb : Below w7.heap.size w7 W) => show (fun W : World => W.cell? ⟨g, 0, none⟩ = some (Value.int .i64 0) ∧ W.cell? ⟨g, 1, none⟩ = some (Value.int .i64 0) ∧ W.cell? ⟨g, 2, none⟩ = some (Value.int .i64 64) ∧ W.cell? ⟨g, 3, none⟩ = some (Value.int .i64 17) ∧ W.cell? ⟨g, 4, none⟩ = some (Value.bool false) ∧ W.cell? ⟨g, 5, none⟩ = some (Value.bool false) ∧ W.cell? ⟨g, 6, none⟩ = some (Value.int .i64 0) ∧ W.cell? ⟨g, 7, none⟩ = some (Value.bool false) ∧ W.cell? ⟨g, 8, none⟩ = some (Value.int .u64 0) ∧ W.cell? ⟨g, 9, none⟩ = some (Value.int .u64 167772161) ∧ W.cell? ⟨g, 10, none⟩ = some (Value.bool false) ∧ W.cell? ⟨g, 11, none⟩ = some (Value.int .u64 0) ∧ W.cell? ⟨g, 12, none⟩ = some (Value.int .u64 167772162) ∧ W.cell? ⟨g, 13, none⟩ = some (Value.slice A 0 cap) ∧ W.cell? ⟨g, 14, none⟩ = some (Value.string ⟨#[97, 98]⟩) ∧ W.cell? ⟨gl, ol + 15 + 0, none⟩ = some (Value.int .i64 0) ∧ W.cell? ⟨gl, ol + 15 + 1, none⟩ = some (Value.int .i64 0) ∧ W.cell? ⟨gl, ol + 15 + 2, none⟩ = some (Value.int .i64 0) ∧ W.cell? ⟨gl, ol + 15 + 3, none⟩ = some (Value.int .i64 0) ∧ W.cell? ⟨gl, ol + 15 + 4, none⟩ = some (Value.bool false) ∧ W.cell? ⟨gl, ol + 15 + 5, none⟩ = some (Value.bool true) ∧ W.cell? ⟨gl, ol + 15 + 6, none⟩ = some (Value.int .i64 8) ∧ W.cell? ⟨gl, ol + 15 + 7, none⟩ = some (Value.bool false) ∧ W.cell? ⟨gl, ol + 15 + 8, none⟩ = some (Value.int .u64 0) ∧ W.cell? ⟨gl, ol + 15 + 9, none⟩ = some (Value.int .u64 167772161) ∧ W.cell? ⟨gl, ol + 15 + 10, none⟩ = some (Value.bool false) ∧ W.cell? ⟨gl, ol + 15 + 11, none⟩ = some (Value.int .u64 0) ∧ W.cell? ⟨gl, ol + 15 + 12, none⟩ = some (Value.int .u64 167772162) ∧ W.cell? ⟨gl, ol + 15 + 13, none⟩ = some (Value.slice y7.1 0 y7.2) ∧ W.cell? ⟨gl, ol + 15 + 14, none⟩ = some (Value.string ⟨#[98, 98, 98, 98, 98, 98, 98, 98]⟩) ∧ W.cell? ⟨gl, ol + 30 + 5, none⟩ = some (Value.bool false) ∧ W.cell? ⟨gl, ol + 30 + 6, none⟩ = some (Value.int .i64 16) ∧ W.cell? ⟨gl, ol + 30 + 14, none⟩ = some (Value.string ⟨#[99, 99, 99, 99]⟩)) W from ⟨HGV.out W hb 0 _ rfl, HGV.out W hb 1 _ rfl, HGV.out W hb 2 _ rfl, HGV.out W hb 3 _ rfl, HGV.out W hb 4 _ rfl, HGV.out W hb 5 _ rfl, HGV.out W hb 6 _ rfl, HGV.out W hb 7 _ rfl, HGV.out W hb 8 _ rfl, HGV.out W hb 9 _ rfl, HGV.out W hb 10 _ rfl, HGV.out W hb 11 _ rfl, HGV.out W hb 12 _ rfl, HGV.out W hb 13 _ rfl, HGV.out W hb 14 _ rfl, RowL.at_ R7.out (i := 1) (x := (sp1, y7)) rfl hb 0 _ rfl, RowL.at_ R7.out (i := 1) (x := (sp1, y7)) rfl hb 1 _ rfl, RowL.at_ R7.out (i := 1) (x := (sp1, y7)) rfl hb 2 _ rfl, RowL.at_ R7.out (i := 1) (x := (sp1, y7)) rfl hb 3 _ rfl, RowL.at_ R7.out (i := 1) (x := (sp1, y7)) rfl hb 4 _ rfl, RowL.at_ R7.out (i := 1) (x := (sp1, y7)) rfl hb 5 _ rfl, RowL.at_ R7.out (i := 1) (x := (sp1, y7)) rfl hb 6 _ rfl, RowL.at_ R7.out (i := 1) (x := (sp1, y7)) rfl hb 7 _ rfl, RowL.at_ R7.out (i := 1) (x := (sp1, y7)) rfl hb 8 _ rfl, RowL.at_ R7.out (i := 1) (x := (sp1, y7)) rfl hb 9 _ rfl, RowL.at_ R7.out (i := 1) (x := (sp1, y7)) rfl hb 10 _ rfl, RowL.at_ R7.out (i := 1) (x := (sp1, y7)) rfl hb 11 _ rfl, RowL.at_ R7.out (i := 1) (x := (sp1, y7)) rfl hb 12 _ rfl, RowL.at_ R7.out (i := 1) (x := (sp1, y7)) rfl hb 13 _ rfl, RowL.at_ R7.out (i := 1) (x := (sp1, y7)) rfl hb 14 _ rfl, RowL.at_ R7.out (i := 2) (x := (sp2, z7)) rfl hb 5 _ rfl, RowL.at_ R7.out (i := 2) (x := (sp2, z7)) rfl hb 6 _ rfl, RowL.at_ R7.out (i := 2) (x := (sp2, z7)) rfl hb 14 _ rfl⟩)
  have HTT := Lib.hid (fun (W : World) (hb : Below w7.heap.size w7 W) => HK.out _ _ HTW.out ((B4.out.trans (C7.out.mono B4.out.size)).trans (hb.mono (B4.out.trans (C7.out.mono B4.out.size)).size)))
  have HX2 := Lib.hid (fun (W : World) (hb : Below w7.heap.size w7 W) => (HX.out W).mono (fun e w' h => And.intro h.1 (hb.trans (h.2.mono hb.size))))
  have HSM2 := Lib.hid (fun (W : World) (hb : Below w7.heap.size w7 W) => show Calls Try.prog 13 #[.agg #[.int .i64 0, .int .i64 0, .int .i64 64, .int .i64 17, .bool false, .bool false, .int .i64 0, .bool false, .int .u64 0, .int .u64 167772161, .bool false, .int .u64 0, .int .u64 167772162, .slice A 0 cap, .string ⟨#[97, 98]⟩], .agg #[.int .i64 0, .int .i64 0, .int .i64 64, .int .i64 17, .bool false, .bool false, .int .i64 0, .bool false, .int .u64 0, .int .u64 167772161, .bool false, .int .u64 0, .int .u64 167772162, .slice none 0 0, .string ⟨#[97, 98]⟩]] W fun e w' => e = .returned (.bool true) ∧ Below w7.heap.size w7 w' from (same11_any exI A none cap 0 W (RowL.nil _ _) (RowL.nil _ _) (by decide)).mono (fun e w' h => And.intro h.1 (hb.trans (h.2.mono hb.size))))
  have HF2 := Lib.hid (fun (W : World) (hb : Below w7.heap.size w7 W) => (HFR.out y7 W (HTT.out W hb)).mono (fun e w' h => And.intro h.1 (hb.trans (h.2.mono hb.size))))
  have HR2 := Lib.hid (fun (W : World) (hb : Below w7.heap.size w7 W) => (HRT.out W (HTT.out _ (below_al11 hb _))).mono (fun e w' h => And.intro h.1 ((below_al11 hb _).trans (h.2.mono hb.size))))
  have q0 : (⟨#[69, 0, 0, 22, 0, 0, 0, 0, 64, 17, 102, 213, 10, 0, 0, 1, 10, 0, 0, 2, 97, 98]⟩ : ByteArray).extract 0 12 = ⟨#[69, 0, 0, 22, 0, 0, 0, 0, 64, 17, 102, 213]⟩ := by kernel_rfl
  have q1 : ((⟨#[69, 0, 0, 22, 0, 0, 0, 0, 64, 17, 102, 213]⟩ : ByteArray).toList == [69, 0, 0, 22, 0, 0, 0, 0, 64, 17, 102, 213]) = true := by rw [bytes_eq11]; decide
  have q2 : (((⟨#[69, 0, 0, 22, 0, 0, 0, 0, 64, 17, 102, 213, 10, 0, 0, 1, 10, 0, 0, 2, 97, 98]⟩ : ByteArray).extract 0 12).toList == [69, 0, 0, 22, 0, 0, 0, 0, 64, 17, 102, 213]) = true := by rw [q0]; exact q1
  have q3 : ((⟨#[99, 99, 99, 99]⟩ : ByteArray).toList == [99, 99, 99, 99]) = true := by rw [bytes_eq11]; decide
  have q4 : ((⟨#[98, 98, 98, 98, 98, 98, 98, 98]⟩ : ByteArray).toList == [98, 98, 98, 98, 98, 98, 98, 98]) = true := by rw [bytes_eq11]; decide
  have HBE := Lib.hid (fun (W : World) (hb : Below w7.heap.size w7 W) => (B4.out.trans (C7.out.mono B4.out.size)).trans (hb.mono (B4.out.trans (C7.out.mono B4.out.size)).size))
  have C8 : Below w7.heap.size w7 w7.drew := (Below.refl _ w7).drew
  go_region_held (fun W : World => W.cell? ⟨g, 0, none⟩ = some (Value.int .i64 0) ∧ W.cell? ⟨g, 1, none⟩ = some (Value.int .i64 0) ∧ W.cell? ⟨g, 2, none⟩ = some (Value.int .i64 64) ∧ W.cell? ⟨g, 3, none⟩ = some (Value.int .i64 17) ∧ W.cell? ⟨g, 4, none⟩ = some (Value.bool false) ∧ W.cell? ⟨g, 5, none⟩ = some (Value.bool false) ∧ W.cell? ⟨g, 6, none⟩ = some (Value.int .i64 0) ∧ W.cell? ⟨g, 7, none⟩ = some (Value.bool false) ∧ W.cell? ⟨g, 8, none⟩ = some (Value.int .u64 0) ∧ W.cell? ⟨g, 9, none⟩ = some (Value.int .u64 167772161) ∧ W.cell? ⟨g, 10, none⟩ = some (Value.bool false) ∧ W.cell? ⟨g, 11, none⟩ = some (Value.int .u64 0) ∧ W.cell? ⟨g, 12, none⟩ = some (Value.int .u64 167772162) ∧ W.cell? ⟨g, 13, none⟩ = some (Value.slice A 0 cap) ∧ W.cell? ⟨g, 14, none⟩ = some (Value.string ⟨#[97, 98]⟩) ∧ W.cell? ⟨gl, ol + 15 + 0, none⟩ = some (Value.int .i64 0) ∧ W.cell? ⟨gl, ol + 15 + 1, none⟩ = some (Value.int .i64 0) ∧ W.cell? ⟨gl, ol + 15 + 2, none⟩ = some (Value.int .i64 0) ∧ W.cell? ⟨gl, ol + 15 + 3, none⟩ = some (Value.int .i64 0) ∧ W.cell? ⟨gl, ol + 15 + 4, none⟩ = some (Value.bool false) ∧ W.cell? ⟨gl, ol + 15 + 5, none⟩ = some (Value.bool true) ∧ W.cell? ⟨gl, ol + 15 + 6, none⟩ = some (Value.int .i64 8) ∧ W.cell? ⟨gl, ol + 15 + 7, none⟩ = some (Value.bool false) ∧ W.cell? ⟨gl, ol + 15 + 8, none⟩ = some (Value.int .u64 0) ∧ W.cell? ⟨gl, ol + 15 + 9, none⟩ = some (Value.int .u64 167772161) ∧ W.cell? ⟨gl, ol + 15 + 10, none⟩ = some (Value.bool false) ∧ W.cell? ⟨gl, ol + 15 + 11, none⟩ = some (Value.int .u64 0) ∧ W.cell? ⟨gl, ol + 15 + 12, none⟩ = some (Value.int .u64 167772162) ∧ W.cell? ⟨gl, ol + 15 + 13, none⟩ = some (Value.slice y7.1 0 y7.2) ∧ W.cell? ⟨gl, ol + 15 + 14, none⟩ = some (Value.string ⟨#[98, 98, 98, 98, 98, 98, 98, 98]⟩) ∧ W.cell? ⟨gl, ol + 30 + 5, none⟩ = some (Value.bool false) ∧ W.cell? ⟨gl, ol + 30 + 6, none⟩ = some (Value.int .i64 16) ∧ W.cell? ⟨gl, ol + 30 + 14, none⟩ = some (Value.string ⟨#[99, 99, 99, 99]⟩)) (exact HSA.out _ (by first | assumption | exact below_al11 (by assumption) _)) (first | (go_at_call 24; refine (HX2.out _ (by assumption)).mono ?_; rintro e w8 ⟨rfl, b8⟩) | (go_at_call 13; refine (HSM2.out _ (by assumption)).mono ?_; rintro e w8 ⟨rfl, b8⟩) | (go_at_call 17; refine (HF2.out _ (by assumption)).mono ?_; rintro e w8 ⟨rfl, b8⟩) | (go_at_call 19; refine (HR2.out _ (by assumption)).mono ?_; rintro e w8 ⟨rfl, b8⟩))
  all_goals (
    go_wp2_with fail
    go_ret
    exact ⟨rfl, HBE.out _ (by first | assumption | exact below_al11 (by assumption) _)⟩)
end Go.Proofs.Ytimilcjlogcfhaa
