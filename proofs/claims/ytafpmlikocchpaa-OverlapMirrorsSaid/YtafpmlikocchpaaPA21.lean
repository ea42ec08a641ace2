/- Contracts of the functions, part 21: Awk15. -/
import Derived.Deep.Cut
import Derived.Deep.WholeRow
import Derived.Test.YtafpmlikocchpaaPA19
import Derived.Test.YtafpmlikocchpaaPA20
/- The law package of layer 15: lives, over the bundle P15. -/
namespace Go.Proofs.Ytafpmlikocchpaa
open Go.ChangeShapes Go.WideShapes Go.ChangeAt Go.RowKit
set_option linter.unusedVariables false
set_option maxRecDepth 100000

theorem pc_row15 (W : World) (g : Nat) (x : PcR) (h : W.heap[g]? = some (.cells (pcC x) 23 (0, 0))) : RowL EPc W (some ⟨g, 0, none⟩) [x] := fun _ => by
  refine ⟨g, 0, rfl, (Array.getElem?_eq_some_iff.1 h).1, fun i y hx j v hv => ?_⟩
  match i, hx with
  | 0, hx =>
    obtain rfl := Option.some.inj hx
    show W.cell? ⟨g, 0 + 0 * 4 + j, none⟩ = some v
    match j, hv with
    | 0, hv => simpa [World.cell?, h, EPc, pcC] using hv
    | 1, hv => simpa [World.cell?, h, EPc, pcC] using hv
    | 2, hv => simpa [World.cell?, h, EPc, pcC] using hv
    | 3, hv => simpa [World.cell?, h, EPc, pcC] using hv
theorem vldx15 : decide (vldL exL15) = true := by kernel_rfl
set_option maxHeartbeats 8000000 in
set_option maxRecDepth 100000 in
theorem awk15 {T : World → Prop} (H : P15 T) (w : World) (hT : T w) :
    Calls Try.prog 12 #[] w fun e w' => e = .returned (.bool true) ∧ Below w.heap.size w w' := by
  have HI := Lib.hid (fun (W : World) (g : Nat) (hW : T W) (hg : W.heap[g]? = some (.cells #[.int .i64 0, .string ⟨#[97, 97, 97, 97]⟩, .int .i64 0, .int .i64 4] 23 (0, 0))) => show Calls Try.prog 15 #[.slice (some ⟨g, 0, none⟩) 1 1, .agg #[.int .i64 2, .string ⟨#[98, 98, 98, 98]⟩, .int .i64 0, .int .i64 0], .int .i64 2] W fun e w' => ∃ gl ol cl, e = .returned (.tuple #[.slice (some ⟨gl, ol, none⟩) 2 cl, .int .i64 2, .int .i64 0]) ∧ RowL EPc w' (some ⟨gl, ol, none⟩) exM15 ∧ Below W.heap.size W w' from by
    have := H.ins exL15 (some ⟨g, 0, none⟩) 1 2 0 0 2 [98, 98, 98, 98] W hW (pc_row15 W g _ hg) (fun e => by cases e) (by decide) (of_decide_eq_true vldx15) (by decide) (by decide) (by decide) (by decide) (by decide) (by decide)
    rw [ins_ex15] at this
    refine this.mono ?_
    rintro e w' ⟨A, c, he, hr, -, hb⟩
    obtain ⟨gl, ol, rfl, -⟩ := hr.shapeA (by decide)
    exact ⟨gl, ol, c, he, hr, hb⟩)
  have HTA := Lib.hid (fun (W : World) (hW : T W) (gl ol cl : Nat) (hr : RowL EPc W (some ⟨gl, ol, none⟩) exM15) => show Calls Try.prog 19 #[.slice (some ⟨gl, ol, none⟩) 2 cl, .int .i64 1] W fun e w' => ∃ A c, e = .returned (.tuple #[.string ⟨#[97, 98, 98, 98, 98]⟩, .slice A 0 c]) ∧ Below W.heap.size W w' from by
    have := H.tak exM15 (some ⟨gl, ol, none⟩) cl 1 W hW hr (fun e => by cases e) (by decide) (of_decide_eq_true vld_ex15) (by decide) (by decide)
    rw [tak_ex15, show (1 : Int) + (([97, 98, 98, 98, 98] : List UInt8).length : Int) = 6 from rfl, cut_ex15] at this
    refine this.mono ?_
    rintro e w' ⟨A, c, he, -, -, hb⟩
    exact ⟨A, c, he, hb⟩)
  have HSZ := Lib.hid (fun (W : World) (hW : T W) (gl ol cl : Nat) (hr : RowL EPc W (some ⟨gl, ol, none⟩) exM15) => show Calls Try.prog 23 #[.slice (some ⟨gl, ol, none⟩) 2 cl] W fun e w' => e = .returned (.int .i64 6) ∧ Below W.heap.size W w' from by
    have := H.siz exM15 (some ⟨gl, ol, none⟩) cl W hW hr (fun e => by cases e) (by decide) (of_decide_eq_true vld_ex15) (by decide)
    rw [siz_ex15] at this
    exact this)
  have HVA := Lib.hid (fun (W : World) (hW : T W) (gl ol cl : Nat) (hr : RowL EPc W (some ⟨gl, ol, none⟩) exM15) => show Calls Try.prog 18 #[.slice (some ⟨gl, ol, none⟩) 2 cl] W fun e w' => e = .returned (.bool true) ∧ Below W.heap.size W w' from by
    have := H.val exM15 (some ⟨gl, ol, none⟩) cl W hW hr (fun e => by cases e) (by decide) (fun y hy => by
      rcases List.mem_cons.1 hy with rfl | hy
      · exact ⟨⟨by decide, by decide, by decide, by decide⟩, by decide⟩
      · obtain rfl := List.mem_singleton.1 hy
        exact ⟨⟨by decide, by decide, by decide, by decide⟩, by decide⟩)
    rw [vld_ex15] at this
    exact this)
  have HWA := Lib.hid (fun (W : World) (hW : T W) => show Calls Try.prog 10 #[.int .i64 3, .agg #[.int .i64 0, .string ⟨#[97, 97]⟩, .int .i64 0, .int .i64 4], .agg #[.int .i64 2, .string ⟨#[98, 98, 98, 98]⟩, .int .i64 2, .int .i64 6]] W fun e w' => e = .returned (.bool false) ∧ Below W.heap.size W w' from by
    have := H.win 3 0 0 4 2 2 6 ⟨#[97, 97]⟩ ⟨#[98, 98, 98, 98]⟩ W hW (by decide) (by decide) (by decide) (by decide) (by decide) (by decide) (by decide) (by decide) (by decide)
    rw [win_ex15a] at this
    exact this)
  have HWB := Lib.hid (fun (W : World) (hW : T W) => show Calls Try.prog 10 #[.int .i64 3, .agg #[.int .i64 2, .string ⟨#[98, 98, 98, 98]⟩, .int .i64 2, .int .i64 6], .agg #[.int .i64 0, .string ⟨#[97, 97]⟩, .int .i64 0, .int .i64 4]] W fun e w' => e = .returned (.bool true) ∧ Below W.heap.size W w' from by
    have := H.win 3 2 2 6 0 0 4 ⟨#[98, 98, 98, 98]⟩ ⟨#[97, 97]⟩ W hW (by decide) (by decide) (by decide) (by decide) (by decide) (by decide) (by decide) (by decide) (by decide)
    rw [win_ex15b] at this
    exact this)
  have HK := Lib.hid H.keep
  obtain ⟨W0, hW0⟩ : ∃ W, W = w.alloc (.cells #[.int .i64 0, .string ⟨#[97, 97, 97, 97]⟩, .int .i64 0, .int .i64 4] 23) := ⟨_, rfl⟩
  obtain ⟨g0, hg0⟩ : ∃ g, g = w.heap.size := ⟨_, rfl⟩
  have hb0 : Below w.heap.size w W0 := by rw [hW0]; exact below_alloc6 w _
  have B0 := Lib.hid hb0
  have K0 := Lib.hid (HK.out _ _ hT hb0)
  have HG := Lib.hid (show W0.heap[g0]? = some (.cells #[.int .i64 0, .string ⟨#[97, 97, 97, 97]⟩, .int .i64 0, .int .i64 4] 23 (0, 0)) by rw [hW0, hg0]; exact heap_alloc_new w _)
  have HW0 := Lib.hid hW0
  have HG0 := Lib.hid hg0
  clear hW0 hg0 hb0 hT
  go_enter Try.func12, Try.ntmps12
  go_wp2_with fail
  rw [← HG0.out, ← HW0.out]
  clear HW0 HG0
  refine (HI.out _ _ K0.out HG.out).mono ?_
  rintro e w1 ⟨gl, ol, cl, rfl, hr, hb⟩
  have B1 := Lib.hid (B0.out.trans (hb.mono B0.out.size))
  have K1 := Lib.hid (HK.out _ _ K0.out hb)
  have R1 := Lib.hid hr
  clear hb hr B0 K0 HG
  have y0 : w1.cell? ⟨gl, ol, none⟩ = some (.int .i64 0) := R1.out.at_ (show exM15[0]? = some (⟨0, [97, 97], 0, 4⟩ : PcR) from rfl) (Below.refl _ _) 0 _ rfl
  have y1 : w1.cell? ⟨gl, ol + 1, none⟩ = some (.string ⟨#[97, 97]⟩) := R1.out.at_ (show exM15[0]? = some (⟨0, [97, 97], 0, 4⟩ : PcR) from rfl) (Below.refl _ _) 1 _ rfl
  have y2 : w1.cell? ⟨gl, ol + 2, none⟩ = some (.int .i64 0) := R1.out.at_ (show exM15[0]? = some (⟨0, [97, 97], 0, 4⟩ : PcR) from rfl) (Below.refl _ _) 2 _ rfl
  have y3 : w1.cell? ⟨gl, ol + 3, none⟩ = some (.int .i64 4) := R1.out.at_ (show exM15[0]? = some (⟨0, [97, 97], 0, 4⟩ : PcR) from rfl) (Below.refl _ _) 3 _ rfl
  have y4 : w1.cell? ⟨gl, ol + 4, none⟩ = some (.int .i64 2) := R1.out.at_ (show exM15[1]? = some ⟨2, [98, 98, 98, 98], 2, 6⟩ from rfl) (Below.refl _ _) 0 _ rfl
  have y5 : w1.cell? ⟨gl, ol + 5, none⟩ = some (.string ⟨#[98, 98, 98, 98]⟩) := R1.out.at_ (show exM15[1]? = some ⟨2, [98, 98, 98, 98], 2, 6⟩ from rfl) (Below.refl _ _) 1 _ rfl
  have y6 : w1.cell? ⟨gl, ol + 6, none⟩ = some (.int .i64 2) := R1.out.at_ (show exM15[1]? = some ⟨2, [98, 98, 98, 98], 2, 6⟩ from rfl) (Below.refl _ _) 2 _ rfl
  have y7 : w1.cell? ⟨gl, ol + 7, none⟩ = some (.int .i64 6) := R1.out.at_ (show exM15[1]? = some ⟨2, [98, 98, 98, 98], 2, 6⟩ from rfl) (Below.refl _ _) 3 _ rfl
  go_wp2_with fail
  refine (HTA.out _ K1.out _ _ _ R1.out).mono ?_
  rintro e w2 ⟨A5, c5, rfl, hb⟩
  have B2 := Lib.hid (B1.out.trans (hb.mono B1.out.size))
  have K2 := Lib.hid (HK.out _ _ K1.out hb)
  have R2 := Lib.hid (R1.out.kept hb)
  clear hb B1 K1 R1 y0 y1 y2 y3 y4 y5 y6 y7
  go_upto_region 5 with fail
  have HRV := Lib.hid (fun (W : World) (hb : Below w2.heap.size w2 W) (i : Nat) (x : PcR) (hx : exM15[i]? = some x) (j : Nat) (v : Value) (hv : (EPc.c x)[j]? = some v) => show W.cell? ⟨gl, ol + i * 4 + j, none⟩ = some v from R2.out.at_ hx hb j v hv)
  have HTT := Lib.hid (fun (W : World) (hb : Below w2.heap.size w2 W) => HK.out _ _ K2.out hb)
  have HSZx := Lib.hid (fun (W : World) (hb : Below w2.heap.size w2 W) => HSZ.out W (HTT.out W hb) gl ol cl (R2.out.kept hb))
  have HVAx := Lib.hid (fun (W : World) (hb : Below w2.heap.size w2 W) => HVA.out W (HTT.out W hb) gl ol cl (R2.out.kept hb))
  have HWAx := Lib.hid (fun (W : World) (hb : Below w2.heap.size w2 W) => HWA.out W (HTT.out W hb))
  have HWBx := Lib.hid (fun (W : World) (hb : Below w2.heap.size w2 W) => HWB.out W (HTT.out W hb))
  refine wp_region_specs_guard 5 [.val (Value.string ⟨#[97, 98, 98, 98, 98]⟩), .val (Value.bool true), .val (Value.bool true), .val (Value.slice A5 0 c5), .val (Value.int .i64 (0 : Int)), .val (Value.bool true), .val (Value.bool true), .val (Value.bool true), .val (Value.slice (some ⟨gl, ol, none⟩) 2 cl), .val (Value.int .i64 (6 : Int)), .val (Value.bool true), .val (Value.bool true), .val (Value.bool true), .val (Value.slice (some ⟨gl, ol, none⟩) 2 cl), .val (Value.bool true), .val (Value.bool true), .val (Value.bool true), .val (Value.slice (some ⟨gl, ol, none⟩) 2 cl), .val (Value.pointer (some ⟨gl, ol, none⟩)), .val (Value.agg #[.int .i64 0, .string ⟨#[97, 97]⟩, .int .i64 0, .int .i64 4]), .val (Value.slice (some ⟨gl, ol, none⟩) 2 cl), .val (Value.pointer (some ⟨gl, ol + 4, none⟩)), .val (Value.agg #[.int .i64 2, .string ⟨#[98, 98, 98, 98]⟩, .int .i64 2, .int .i64 6]), .val (Value.bool false), .val (Value.bool true), .val (Value.bool true), .val (Value.bool true), .val (Value.slice (some ⟨gl, ol, none⟩) 2 cl), .val (Value.pointer (some ⟨gl, ol + 4, none⟩)), .val (Value.agg #[.int .i64 2, .string ⟨#[98, 98, 98, 98]⟩, .int .i64 2, .int .i64 6]), .val (Value.slice (some ⟨gl, ol, none⟩) 2 cl), .val (Value.pointer (some ⟨gl, ol, none⟩)), .val (Value.agg #[.int .i64 0, .string ⟨#[97, 97]⟩, .int .i64 0, .int .i64 4]), .val (Value.bool true), .val (Value.bool true), .val (Value.bool true)] (by kernel_rfl) (by kernel_rfl) (by kernel_rfl) (by kernel_rfl) ?_ ?_
  · refine ⟨Or.inr ⟨by kernel_rfl, ?_⟩, Or.inr ⟨by kernel_rfl, ?_⟩, Or.inr ⟨by kernel_rfl, ?_⟩, Or.inr ⟨by kernel_rfl, ?_⟩, Or.inr ⟨by kernel_rfl, ?_⟩, Or.inr ⟨by kernel_rfl, ?_⟩, Or.inr ⟨by kernel_rfl, ?_⟩, Or.inr ⟨by kernel_rfl, ?_⟩, Or.inr ⟨by kernel_rfl, ?_⟩, Or.inr ⟨by kernel_rfl, ?_⟩, Or.inr ⟨by kernel_rfl, ?_⟩, Or.inr ⟨by kernel_rfl, ?_⟩, Or.inr ⟨by kernel_rfl, ?_⟩, Or.inr ⟨by kernel_rfl, ?_⟩, Or.inr ⟨by kernel_rfl, ?_⟩, Or.inr ⟨by kernel_rfl, ?_⟩, Or.inr ⟨by kernel_rfl, ?_⟩, Or.inr ⟨by kernel_rfl, ?_⟩, Or.inr ⟨by kernel_rfl, ?_⟩, Or.inr ⟨by kernel_rfl, ?_⟩, Or.inr ⟨by kernel_rfl, ?_⟩, Or.inr ⟨by kernel_rfl, ?_⟩, Or.inr ⟨by kernel_rfl, ?_⟩, Or.inr ⟨by kernel_rfl, ?_⟩, Or.inr ⟨by kernel_rfl, ?_⟩, Or.inr ⟨by kernel_rfl, ?_⟩, Or.inr ⟨by kernel_rfl, ?_⟩, Or.inr ⟨by kernel_rfl, ?_⟩, Or.inr ⟨by kernel_rfl, ?_⟩, Or.inr ⟨by kernel_rfl, ?_⟩, Or.inr ⟨by kernel_rfl, ?_⟩, Or.inr ⟨by kernel_rfl, ?_⟩, Or.inr ⟨by kernel_rfl, ?_⟩, Or.inr ⟨by kernel_rfl, ?_⟩, Or.inr ⟨by kernel_rfl, ?_⟩, Or.inr ⟨by kernel_rfl, ?_⟩, trivial⟩
    · intro a W hbW hk K hK
      have e4 := kvalG hk 4 (Value.string ⟨#[97, 98, 98, 98, 98]⟩) (by kernel_rfl)
      clear hk
      go_simp
      exact ⟨_, rfl, hK _ _ rfl (relB_below (Below.refl _ _))⟩
    · intro a W hbW hk K hK
      have e44 := kvalG hk 44 (Value.string ⟨#[97, 98, 98, 98, 98]⟩) (by kernel_rfl)
      clear hk
      go_simp
      exact ⟨_, rfl, hK _ _ rfl (relB_below (Below.refl _ _))⟩
    · intro a W hbW hk K hK
      have e45 := kvalG hk 45 (Value.bool true) (by kernel_rfl)
      clear hk
      go_simp
      exact ⟨_, rfl, hK _ _ rfl (relB_below (Below.refl _ _))⟩
    · intro a W hbW hk K hK
      have e5 := kvalG hk 5 (Value.slice A5 0 c5) (by kernel_rfl)
      clear hk
      go_simp
      exact ⟨_, rfl, hK _ _ rfl (relB_below (Below.refl _ _))⟩
    · intro a W hbW hk K hK
      have e47 := kvalG hk 47 (Value.slice A5 0 c5) (by kernel_rfl)
      clear hk
      go_simp
      exact ⟨_, rfl, hK _ _ rfl (relB_below (Below.refl _ _))⟩
    · intro a W hbW hk K hK
      have e48 := kvalG hk 48 (Value.int .i64 (0 : Int)) (by kernel_rfl)
      clear hk
      go_simp
      exact ⟨_, rfl, hK _ _ rfl (relB_below (Below.refl _ _))⟩
    · intro a W hbW hk K hK
      have e46 := kvalG hk 46 (Value.bool true) (by kernel_rfl)
      have e49 := kvalG hk 49 (Value.bool true) (by kernel_rfl)
      clear hk
      go_simp
      exact ⟨_, rfl, hK _ _ rfl (relB_below (Below.refl _ _))⟩
    · intro a W hbW hk K hK
      have e50 := kvalG hk 50 (Value.bool true) (by kernel_rfl)
      clear hk
      go_simp
      exact ⟨_, rfl, hK _ _ rfl (relB_below (Below.refl _ _))⟩
    · intro a W hbW hk K hK
      have e1 := kvalG hk 1 (Value.slice (some ⟨gl, ol, none⟩) 2 cl) (by kernel_rfl)
      clear hk
      go_simp
      exact ⟨_, rfl, hK _ _ rfl (relB_below (Below.refl _ _))⟩
    · intro a W hbW hk K hK
      have e52 := kvalG hk 52 (Value.slice (some ⟨gl, ol, none⟩) 2 cl) (by kernel_rfl)
      clear hk
      go_simp
      refine (HSZx.out W hbW).mono ?_
      rintro e w9 ⟨rfl, hb9⟩
      exact ⟨_, rfl, hK _ _ rfl (relB_below hb9)⟩
    · intro a W hbW hk K hK
      have e53 := kvalG hk 53 (Value.int .i64 (6 : Int)) (by kernel_rfl)
      clear hk
      go_simp
      exact ⟨_, rfl, hK _ _ rfl (relB_below (Below.refl _ _))⟩
    · intro a W hbW hk K hK
      have e51 := kvalG hk 51 (Value.bool true) (by kernel_rfl)
      have e54 := kvalG hk 54 (Value.bool true) (by kernel_rfl)
      clear hk
      go_simp
      exact ⟨_, rfl, hK _ _ rfl (relB_below (Below.refl _ _))⟩
    · intro a W hbW hk K hK
      have e55 := kvalG hk 55 (Value.bool true) (by kernel_rfl)
      clear hk
      go_simp
      exact ⟨_, rfl, hK _ _ rfl (relB_below (Below.refl _ _))⟩
    · intro a W hbW hk K hK
      have e1 := kvalG hk 1 (Value.slice (some ⟨gl, ol, none⟩) 2 cl) (by kernel_rfl)
      clear hk
      go_simp
      exact ⟨_, rfl, hK _ _ rfl (relB_below (Below.refl _ _))⟩
    · intro a W hbW hk K hK
      have e57 := kvalG hk 57 (Value.slice (some ⟨gl, ol, none⟩) 2 cl) (by kernel_rfl)
      clear hk
      go_simp
      refine (HVAx.out W hbW).mono ?_
      rintro e w9 ⟨rfl, hb9⟩
      exact ⟨_, rfl, hK _ _ rfl (relB_below hb9)⟩
    · intro a W hbW hk K hK
      have e56 := kvalG hk 56 (Value.bool true) (by kernel_rfl)
      have e58 := kvalG hk 58 (Value.bool true) (by kernel_rfl)
      clear hk
      go_simp
      exact ⟨_, rfl, hK _ _ rfl (relB_below (Below.refl _ _))⟩
    · intro a W hbW hk K hK
      have e59 := kvalG hk 59 (Value.bool true) (by kernel_rfl)
      clear hk
      go_simp
      exact ⟨_, rfl, hK _ _ rfl (relB_below (Below.refl _ _))⟩
    · intro a W hbW hk K hK
      have e1 := kvalG hk 1 (Value.slice (some ⟨gl, ol, none⟩) 2 cl) (by kernel_rfl)
      clear hk
      go_simp
      exact ⟨_, rfl, hK _ _ rfl (relB_below (Below.refl _ _))⟩
    · intro a W hbW hk K hK
      have e61 := kvalG hk 61 (Value.slice (some ⟨gl, ol, none⟩) 2 cl) (by kernel_rfl)
      clear hk
      go_simp
      exact ⟨_, rfl, hK _ _ rfl (relB_below (Below.refl _ _))⟩
    · intro a W hbW hk K hK
      have e62 := kvalG hk 62 (Value.pointer (some ⟨gl, ol, none⟩)) (by kernel_rfl)
      clear hk
      have z0 : W.cell? ⟨gl, ol, none⟩ = some (.int .i64 0) := HRV.out W hbW 0 (⟨0, [97, 97], 0, 4⟩ : PcR) rfl 0 _ rfl
      have z1 : W.cell? ⟨gl, ol + 1, none⟩ = some (.string ⟨#[97, 97]⟩) := HRV.out W hbW 0 (⟨0, [97, 97], 0, 4⟩ : PcR) rfl 1 _ rfl
      have z2 : W.cell? ⟨gl, ol + 2, none⟩ = some (.int .i64 0) := HRV.out W hbW 0 (⟨0, [97, 97], 0, 4⟩ : PcR) rfl 2 _ rfl
      have z3 : W.cell? ⟨gl, ol + 3, none⟩ = some (.int .i64 4) := HRV.out W hbW 0 (⟨0, [97, 97], 0, 4⟩ : PcR) rfl 3 _ rfl
      go_simp
      exact ⟨_, rfl, hK _ _ rfl (relB_below (Below.refl _ _))⟩
    · intro a W hbW hk K hK
      have e1 := kvalG hk 1 (Value.slice (some ⟨gl, ol, none⟩) 2 cl) (by kernel_rfl)
      clear hk
      go_simp
      exact ⟨_, rfl, hK _ _ rfl (relB_below (Below.refl _ _))⟩
    · intro a W hbW hk K hK
      have e64 := kvalG hk 64 (Value.slice (some ⟨gl, ol, none⟩) 2 cl) (by kernel_rfl)
      clear hk
      go_simp
      exact ⟨_, rfl, hK _ _ rfl (relB_below (Below.refl _ _))⟩
    · intro a W hbW hk K hK
      have e65 := kvalG hk 65 (Value.pointer (some ⟨gl, ol + 4, none⟩)) (by kernel_rfl)
      clear hk
      have z0 : W.cell? ⟨gl, ol + 4, none⟩ = some (.int .i64 2) := HRV.out W hbW 1 (⟨2, [98, 98, 98, 98], 2, 6⟩ : PcR) rfl 0 _ rfl
      have z1 : W.cell? ⟨gl, ol + 4 + 1, none⟩ = some (.string ⟨#[98, 98, 98, 98]⟩) := HRV.out W hbW 1 (⟨2, [98, 98, 98, 98], 2, 6⟩ : PcR) rfl 1 _ rfl
      have z2 : W.cell? ⟨gl, ol + 4 + 2, none⟩ = some (.int .i64 2) := HRV.out W hbW 1 (⟨2, [98, 98, 98, 98], 2, 6⟩ : PcR) rfl 2 _ rfl
      have z3 : W.cell? ⟨gl, ol + 4 + 3, none⟩ = some (.int .i64 6) := HRV.out W hbW 1 (⟨2, [98, 98, 98, 98], 2, 6⟩ : PcR) rfl 3 _ rfl
      go_simp
      exact ⟨_, rfl, hK _ _ rfl (relB_below (Below.refl _ _))⟩
    · intro a W hbW hk K hK
      have e63 := kvalG hk 63 (Value.agg #[.int .i64 0, .string ⟨#[97, 97]⟩, .int .i64 0, .int .i64 4]) (by kernel_rfl)
      have e66 := kvalG hk 66 (Value.agg #[.int .i64 2, .string ⟨#[98, 98, 98, 98]⟩, .int .i64 2, .int .i64 6]) (by kernel_rfl)
      clear hk
      go_simp
      refine (HWAx.out W hbW).mono ?_
      rintro e w9 ⟨rfl, hb9⟩
      exact ⟨_, rfl, hK _ _ rfl (relB_below hb9)⟩
    · intro a W hbW hk K hK
      have e67 := kvalG hk 67 (Value.bool false) (by kernel_rfl)
      clear hk
      go_simp
      exact ⟨_, rfl, hK _ _ rfl (relB_below (Below.refl _ _))⟩
    · intro a W hbW hk K hK
      have e60 := kvalG hk 60 (Value.bool true) (by kernel_rfl)
      have e68 := kvalG hk 68 (Value.bool true) (by kernel_rfl)
      clear hk
      go_simp
      exact ⟨_, rfl, hK _ _ rfl (relB_below (Below.refl _ _))⟩
    · intro a W hbW hk K hK
      have e69 := kvalG hk 69 (Value.bool true) (by kernel_rfl)
      clear hk
      go_simp
      exact ⟨_, rfl, hK _ _ rfl (relB_below (Below.refl _ _))⟩
    · intro a W hbW hk K hK
      have e1 := kvalG hk 1 (Value.slice (some ⟨gl, ol, none⟩) 2 cl) (by kernel_rfl)
      clear hk
      go_simp
      exact ⟨_, rfl, hK _ _ rfl (relB_below (Below.refl _ _))⟩
    · intro a W hbW hk K hK
      have e71 := kvalG hk 71 (Value.slice (some ⟨gl, ol, none⟩) 2 cl) (by kernel_rfl)
      clear hk
      go_simp
      exact ⟨_, rfl, hK _ _ rfl (relB_below (Below.refl _ _))⟩
    · intro a W hbW hk K hK
      have e72 := kvalG hk 72 (Value.pointer (some ⟨gl, ol + 4, none⟩)) (by kernel_rfl)
      clear hk
      have z0 : W.cell? ⟨gl, ol + 4, none⟩ = some (.int .i64 2) := HRV.out W hbW 1 (⟨2, [98, 98, 98, 98], 2, 6⟩ : PcR) rfl 0 _ rfl
      have z1 : W.cell? ⟨gl, ol + 4 + 1, none⟩ = some (.string ⟨#[98, 98, 98, 98]⟩) := HRV.out W hbW 1 (⟨2, [98, 98, 98, 98], 2, 6⟩ : PcR) rfl 1 _ rfl
      have z2 : W.cell? ⟨gl, ol + 4 + 2, none⟩ = some (.int .i64 2) := HRV.out W hbW 1 (⟨2, [98, 98, 98, 98], 2, 6⟩ : PcR) rfl 2 _ rfl
      have z3 : W.cell? ⟨gl, ol + 4 + 3, none⟩ = some (.int .i64 6) := HRV.out W hbW 1 (⟨2, [98, 98, 98, 98], 2, 6⟩ : PcR) rfl 3 _ rfl
      go_simp
      exact ⟨_, rfl, hK _ _ rfl (relB_below (Below.refl _ _))⟩
    · intro a W hbW hk K hK
      have e1 := kvalG hk 1 (Value.slice (some ⟨gl, ol, none⟩) 2 cl) (by kernel_rfl)
      clear hk
      go_simp
      exact ⟨_, rfl, hK _ _ rfl (relB_below (Below.refl _ _))⟩
    · intro a W hbW hk K hK
      have e74 := kvalG hk 74 (Value.slice (some ⟨gl, ol, none⟩) 2 cl) (by kernel_rfl)
      clear hk
      go_simp
      exact ⟨_, rfl, hK _ _ rfl (relB_below (Below.refl _ _))⟩
    · intro a W hbW hk K hK
      have e75 := kvalG hk 75 (Value.pointer (some ⟨gl, ol, none⟩)) (by kernel_rfl)
      clear hk
      have z0 : W.cell? ⟨gl, ol, none⟩ = some (.int .i64 0) := HRV.out W hbW 0 (⟨0, [97, 97], 0, 4⟩ : PcR) rfl 0 _ rfl
      have z1 : W.cell? ⟨gl, ol + 1, none⟩ = some (.string ⟨#[97, 97]⟩) := HRV.out W hbW 0 (⟨0, [97, 97], 0, 4⟩ : PcR) rfl 1 _ rfl
      have z2 : W.cell? ⟨gl, ol + 2, none⟩ = some (.int .i64 0) := HRV.out W hbW 0 (⟨0, [97, 97], 0, 4⟩ : PcR) rfl 2 _ rfl
      have z3 : W.cell? ⟨gl, ol + 3, none⟩ = some (.int .i64 4) := HRV.out W hbW 0 (⟨0, [97, 97], 0, 4⟩ : PcR) rfl 3 _ rfl
      go_simp
      exact ⟨_, rfl, hK _ _ rfl (relB_below (Below.refl _ _))⟩
    · intro a W hbW hk K hK
      have e73 := kvalG hk 73 (Value.agg #[.int .i64 2, .string ⟨#[98, 98, 98, 98]⟩, .int .i64 2, .int .i64 6]) (by kernel_rfl)
      have e76 := kvalG hk 76 (Value.agg #[.int .i64 0, .string ⟨#[97, 97]⟩, .int .i64 0, .int .i64 4]) (by kernel_rfl)
      clear hk
      go_simp
      refine (HWBx.out W hbW).mono ?_
      rintro e w9 ⟨rfl, hb9⟩
      exact ⟨_, rfl, hK _ _ rfl (relB_below hb9)⟩
    · intro a W hbW hk K hK
      have e70 := kvalG hk 70 (Value.bool true) (by kernel_rfl)
      have e77 := kvalG hk 77 (Value.bool true) (by kernel_rfl)
      clear hk
      go_simp
      exact ⟨_, rfl, hK _ _ rfl (relB_below (Below.refl _ _))⟩
    · intro a W hbW hk K hK
      have e78 := kvalG hk 78 (Value.bool true) (by kernel_rfl)
      clear hk
      go_simp
      exact ⟨_, rfl, hK _ _ rfl (relB_below (Below.refl _ _))⟩
  · intro w8 hb8
    simp only [endG, putG]
    go_simp
    have B8 := Lib.hid (B2.out.trans (hb8.mono B2.out.size))
    clear hb8
    go_wp2_with fail
    go_ret
    exact ⟨rfl, B8.out⟩
end Go.Proofs.Ytafpmlikocchpaa
