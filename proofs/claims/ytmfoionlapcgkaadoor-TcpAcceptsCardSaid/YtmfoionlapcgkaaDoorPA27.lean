/- Contracts of the functions, part 27: Awk14. -/
import Derived.Deep.Cut
import Derived.Deep.WholeRow
import Derived.Test.YtmfoionlapcgkaaDoorPA26
/- The law package of layer 14: awake, over the bundle P14. -/
namespace Go.Proofs.YtmfoionlapcgkaaDoor
open Go.ChangeShapes Go.WideShapes Go.ChangeAt Go.RowKit
set_option linter.unusedVariables false
set_option maxRecDepth 100000

theorem opt_row (W : World) (g : Nat) (k : Int) (d : List UInt8) (h : W.heap[g]? = some (.cells #[.int .i64 k, .string (str d)] 51 (0, 0))) : RowL EOpt W (some ⟨g, 0, none⟩) [⟨k, d⟩] := fun _ => by
  refine ⟨g, 0, rfl, (Array.getElem?_eq_some_iff.1 h).1, fun i x hx j v hv => ?_⟩
  match i, hx with
  | 0, hx =>
    obtain rfl := Option.some.inj hx
    have hc : W.cell? ⟨g, 0 + 0 * EOpt.k + j, none⟩ = some v := by
      show W.cell? ⟨g, 0 + 0 * 2 + j, none⟩ = some v
      match j, hv with
      | 0, hv => simpa [World.cell?, h, EOpt] using hv
      | 1, hv => simpa [World.cell?, h, EOpt] using hv
    exact hc
def lEx : List UInt8 := [0, 0, 0, 1, 0, 0, 0, 2]
set_option maxHeartbeats 8000000 in
set_option maxRecDepth 100000 in
theorem awk14 {T : World → Prop} (H : P14 T) (w : World) (hT : T w) :
    Calls Tryd.prog 9 #[] w fun e w' => e = .returned (.bool true) ∧ Below w.heap.size w w' := by
  obtain ⟨Q, hQ⟩ : ∃ Q, Q = (encT exA exA exT).1 := ⟨_, rfl⟩
  have hQd : decT exA exA Q = (exT, 0) := (dec_encT (t := exT) ⟨by decide, by decide⟩ (Prod.ext hQ.symm exT_err)).1
  have hQl : Q.length = 20 := by rw [hQ]; exact exT_len
  have hQm : (Q.drop 12).take 4 = [80, 2, 0, 4] := by rw [hQ]; exact exT_mid
  obtain ⟨q, hq⟩ : ∃ q, q = str Q := ⟨_, rfl⟩
  have hqs : q.size = 20 := by rw [hq, str_size, hQl]
  have hqm : q.extract 12 16 = ⟨#[80, 2, 0, 4]⟩ := by rw [extract_str11 q Q hq]; show str ((Q.drop 12).take 4) = _; rw [hQm]; rfl
  have HE := Lib.hid (fun (W : World) (hW : T W) => show Calls Tryd.prog 14 #[.agg #[.bool false, .int .u64 0, .int .u64 167772161], .agg #[.bool false, .int .u64 0, .int .u64 167772161], .agg #[.int .i64 1, .int .i64 2, .int .u32 3, .int .u32 0, .int .i64 2, .int .i64 4, .int .i64 0, .slice none 0 0, .string ⟨#[]⟩]] W fun e w' => e = .returned (.tuple #[.string q, .int .i64 0]) ∧ Below W.heap.size W w' from by
    have := H.enc false false 0 167772161 0 167772161 exT none 0 W hW (by unfold fits13; decide) (by unfold fits13; decide) ⟨⟨⟨by decide, by decide, by decide, by decide, by decide⟩, ⟨by decide, by decide⟩, by decide, by decide, fun y hy => (by cases hy)⟩, RowL.nil _ _, by decide, fun _ => rfl⟩ (by decide)
    rw [show (⟨false, 0, 167772161⟩ : AdR) = exA from rfl, exT_err, ← hQ, ← hq] at this
    exact this)
  have HD := Lib.hid (fun (W : World) (hW : T W) => show Calls Tryd.prog 10 #[.agg #[.bool false, .int .u64 0, .int .u64 167772161], .agg #[.bool false, .int .u64 0, .int .u64 167772161], .string q] W fun e w' => ∃ A c, e = .returned (.tuple #[.agg #[.int .i64 1, .int .i64 2, .int .u32 3, .int .u32 0, .int .i64 2, .int .i64 4, .int .i64 0, .slice A 0 c, .string ⟨#[]⟩], .int .i64 0]) ∧ Below W.heap.size W w' from by
    have := H.dec false false 0 167772161 0 167772161 Q W hW (by unfold fits13; decide) (by unfold fits13; decide) (by omega)
    rw [show (⟨false, 0, 167772161⟩ : AdR) = exA from rfl, hQd, ← hq] at this
    refine this.mono ?_
    rintro e w' ⟨A, c, he, -, -, hb⟩
    exact ⟨A, c, he, hb⟩)
  have HST := Lib.hid (fun (W : World) (g : Nat) (hW : T W) (hg : W.heap[g]? = some (.cells #[.int .i64 8, .string ⟨#[0, 0, 0, 1, 0, 0, 0, 2]⟩] 51 (0, 0))) => show Calls Tryd.prog 18 #[.agg #[.int .i64 0, .int .i64 0, .int .u32 0, .int .u32 0, .int .i64 0, .int .i64 0, .int .i64 0, .slice (some ⟨g, 0, none⟩) 1 1, .string ⟨#[]⟩]] W fun e w' => e = .returned (.tuple #[.int .u32 1, .int .u32 2, .bool true]) ∧ Below W.heap.size W w' from by
    have := H.sta exSt (some ⟨g, 0, none⟩) 1 W hW ⟨⟨⟨by decide, by decide, by decide, by decide, by decide⟩, ⟨by decide, by decide⟩, by decide, by decide, fun y hy => by obtain rfl := List.mem_singleton.1 hy; exact ⟨by decide, by decide⟩⟩, opt_row W g 8 [0, 0, 0, 1, 0, 0, 0, 2] hg, by decide, fun e => by cases e⟩
    rw [exSt_sta] at this
    exact this)
  have HSC := Lib.hid (fun (W : World) (g : Nat) (hW : T W) (hg : W.heap[g]? = some (.cells #[.int .i64 3, .string ⟨#[15]⟩] 51 (0, 0))) => show Calls Tryd.prog 16 #[.agg #[.int .i64 0, .int .i64 0, .int .u32 0, .int .u32 0, .int .i64 0, .int .i64 0, .int .i64 0, .slice (some ⟨g, 0, none⟩) 1 1, .string ⟨#[]⟩]] W fun e w' => e = .returned (.tuple #[.int .i64 14, .bool true]) ∧ Below W.heap.size W w' from by
    have := H.sca exSc (some ⟨g, 0, none⟩) 1 W hW ⟨⟨⟨by decide, by decide, by decide, by decide, by decide⟩, ⟨by decide, by decide⟩, by decide, by decide, fun y hy => by obtain rfl := List.mem_singleton.1 hy; exact ⟨by decide, by decide⟩⟩, opt_row W g 3 [15] hg, by decide, fun e => by cases e⟩
    rw [exSc_sca] at this
    exact this)
  have HLN := Lib.hid (fun (W : World) (hW : T W) => show Calls Tryd.prog 20 #[.agg #[.int .i64 0, .int .i64 0, .int .u32 0, .int .u32 0, .int .i64 3, .int .i64 0, .int .i64 0, .slice none 0 0, .string ⟨#[97, 98, 99]⟩]] W fun e w' => e = .returned (.int .i64 5) ∧ Below W.heap.size W w' from by
    have := H.len exL none 0 W hW ⟨⟨⟨by decide, by decide, by decide, by decide, by decide⟩, ⟨by decide, by decide⟩, by decide, by decide, fun y hy => (by cases hy)⟩, RowL.nil _ _, by decide, fun _ => rfl⟩
    rw [exL_len] at this
    exact this)
  have HDI := Lib.hid (fun (W : World) (hW : T W) => H.dif W hW)
  have HBE := Lib.hid (fun (W : World) (hW : T W) => H.bef W hW)
  have HSM := Lib.hid (fun (A : Option Addr) (c : Nat) (W : World) => show Calls Tryd.prog 12 #[.agg #[.int .i64 1, .int .i64 2, .int .u32 3, .int .u32 0, .int .i64 2, .int .i64 4, .int .i64 0, .slice none 0 0, .string ⟨#[]⟩], .agg #[.int .i64 1, .int .i64 2, .int .u32 3, .int .u32 0, .int .i64 2, .int .i64 4, .int .i64 0, .slice A 0 c, .string ⟨#[]⟩]] W fun e w' => e = .returned (.bool true) ∧ Below W.heap.size W w' from same14_any exT none A 0 c ⟨#[]⟩ W (RowL.nil _ _) (RowL.nil _ _) (by decide))
  have HK := Lib.hid H.keep
  clear hQ hQd hQl hQm hq
  obtain ⟨W0, hW0⟩ : ∃ W0, W0 = (w.alloc (.cells #[.bool false, .int .u64 0, .int .u64 167772161] 24)).alloc (.cells #[.int .i64 1, .int .i64 2, .int .u32 3, .int .u32 0, .int .i64 2, .int .i64 4, .int .i64 0, .slice none 0 0, .string ⟨#[]⟩] 31) := ⟨_, rfl⟩
  obtain ⟨ga, hga⟩ : ∃ g, g = w.heap.size := ⟨_, rfl⟩
  obtain ⟨gt, hgt⟩ : ∃ g, g = w.heap.size + 1 := ⟨_, rfl⟩
  have hB0 : Below w.heap.size w W0 := by rw [hW0]; exact twoT_below w _ _
  have HB0 := Lib.hid hB0
  have K0 := Lib.hid (H.keep w W0 hT hB0)
  have HA0 := Lib.hid (show Cells W0 ga 24 #[.bool false, .int .u64 0, .int .u64 167772161] by rw [hW0, hga]; exact (Cells.kept (heap_alloc_new w _) (below_alloc6 _ _) (by simp)))
  have HX0 := Lib.hid (show Cells W0 gt 31 #[.int .i64 1, .int .i64 2, .int .u32 3, .int .u32 0, .int .i64 2, .int .i64 4, .int .i64 0, .slice none 0 0, .string ⟨#[]⟩] by rw [hW0, hgt]; exact twoT_new w _ _)
  clear hB0 hT
  have HW0 := Lib.hid hW0
  have HGA := Lib.hid hga
  have HGT := Lib.hid hgt
  clear hW0 hga hgt
  go_enter Tryd.func9, Tryd.ntmps9
  go_upto_region 3 with fail
  rw [← HW0.out, ← HGT.out, ← HGA.out]
  clear HW0 HGT HGA
  have a0 := (Cells.cell HA0.out 0).trans (show _ = some (Value.bool false) from rfl)
  have a1 := (Cells.cell HA0.out 1).trans (show _ = some (Value.int .u64 0) from rfl)
  have a2 := (Cells.cell HA0.out 2).trans (show _ = some (Value.int .u64 167772161) from rfl)
  have x0 := (Cells.cell HX0.out 0).trans (show _ = some (Value.int .i64 1) from rfl)
  have x1 := (Cells.cell HX0.out 1).trans (show _ = some (Value.int .i64 2) from rfl)
  have x2 := (Cells.cell HX0.out 2).trans (show _ = some (Value.int .u32 3) from rfl)
  have x3 := (Cells.cell HX0.out 3).trans (show _ = some (Value.int .u32 0) from rfl)
  have x4 := (Cells.cell HX0.out 4).trans (show _ = some (Value.int .i64 2) from rfl)
  have x5 := (Cells.cell HX0.out 5).trans (show _ = some (Value.int .i64 4) from rfl)
  have x6 := (Cells.cell HX0.out 6).trans (show _ = some (Value.int .i64 0) from rfl)
  have x7 := (Cells.cell HX0.out 7).trans (show _ = some (Value.slice none 0 0) from rfl)
  have x8 := (Cells.cell HX0.out 8).trans (show _ = some (Value.string ⟨#[]⟩) from rfl)
  go_wp2_with fail
  refine (HE.out _ K0.out).mono ?_
  rintro e w1 ⟨rfl, hb⟩
  have HB1 := Lib.hid (HB0.out.trans (hb.mono HB0.out.size))
  have K1 := Lib.hid (HK.out _ _ K0.out hb)
  have HX1 := Lib.hid (Cells.kept HX0.out hb HX0.out.lt)
  have HA1 := Lib.hid (Cells.kept HA0.out hb HA0.out.lt)
  clear hb a0 a1 a2 x0 x1 x2 x3 x4 x5 x6 x7 x8 HA0 HX0 HB0 K0
  have a0 := (Cells.cell HA1.out 0).trans (show _ = some (Value.bool false) from rfl)
  have a1 := (Cells.cell HA1.out 1).trans (show _ = some (Value.int .u64 0) from rfl)
  have a2 := (Cells.cell HA1.out 2).trans (show _ = some (Value.int .u64 167772161) from rfl)
  go_wp2_with fail
  refine (HD.out _ K1.out).mono ?_
  rintro e w2 ⟨A5, c5, rfl, hb⟩
  have HB2 := Lib.hid (HB1.out.trans (hb.mono HB1.out.size))
  have K2 := Lib.hid (HK.out _ _ K1.out hb)
  have HX2 := Lib.hid (Cells.kept HX1.out hb HX1.out.lt)
  clear hb a0 a1 a2 HA1 HX1 HB1 K1
  -- the decoded segment, in a box of its own
  obtain ⟨W3, hW3⟩ : ∃ W, W = w2.alloc (.cells #[.int .i64 1, .int .i64 2, .int .u32 3, .int .u32 0, .int .i64 2, .int .i64 4, .int .i64 0, .slice A5 0 c5, .string ⟨#[]⟩] 31) := ⟨_, rfl⟩
  obtain ⟨gu, hgu⟩ : ∃ g, g = w2.heap.size := ⟨_, rfl⟩
  have hb3 : Below w2.heap.size w2 W3 := by rw [hW3]; exact below_alloc6 w2 _
  have HB3 := Lib.hid (HB2.out.trans (hb3.mono HB2.out.size))
  have K3 := Lib.hid (HK.out _ _ K2.out hb3)
  have HX3 := Lib.hid (Cells.kept HX2.out hb3 HX2.out.lt)
  have HU3 := Lib.hid (show Cells W3 gu 31 #[.int .i64 1, .int .i64 2, .int .u32 3, .int .u32 0, .int .i64 2, .int .i64 4, .int .i64 0, .slice A5 0 c5, .string ⟨#[]⟩] by rw [hW3, hgu]; exact heap_alloc_new w2 _)
  have HW3 := Lib.hid hW3
  have HGU := Lib.hid hgu
  clear hW3 hgu hb3 HX2 HB2 K2
  go_upto_region 5 with fail
  rw [← HGU.out, ← HW3.out]
  clear HW3 HGU
  obtain ⟨W4, hW4⟩ : ∃ W, W = W3.alloc (.cells #[.int .i64 8, .string ⟨#[0, 0, 0, 1, 0, 0, 0, 2]⟩] 51) := ⟨_, rfl⟩
  obtain ⟨g4, hg4⟩ : ∃ g, g = W3.heap.size := ⟨_, rfl⟩
  have hb4 : Below W3.heap.size W3 W4 := by rw [hW4]; exact below_alloc6 W3 _
  have HB4 := Lib.hid (HB3.out.trans (hb4.mono HB3.out.size))
  have K4 := Lib.hid (HK.out _ _ K3.out hb4)
  have HX4 := Lib.hid (Cells.kept HX3.out hb4 HX3.out.lt)
  have HU4 := Lib.hid (Cells.kept HU3.out hb4 HU3.out.lt)
  have HO4 := Lib.hid (show W4.heap[g4]? = some (.cells #[.int .i64 8, .string ⟨#[0, 0, 0, 1, 0, 0, 0, 2]⟩] 51 (0, 0)) by rw [hW4, hg4]; exact heap_alloc_new W3 _)
  clear hb4 HX3 HU3 HB3 K3
  have HW4 := Lib.hid hW4
  have HG4 := Lib.hid hg4
  clear hW4 hg4
  go_wp2_with fail
  rw [← HG4.out, ← HW4.out]
  clear HW4 HG4
  refine (HST.out _ _ K4.out HO4.out).mono ?_
  rintro e w5 ⟨rfl, hb⟩
  have HB5 := Lib.hid (HB4.out.trans (hb.mono HB4.out.size))
  have K5 := Lib.hid (HK.out _ _ K4.out hb)
  have HX5 := Lib.hid (Cells.kept HX4.out hb HX4.out.lt)
  have HU5 := Lib.hid (Cells.kept HU4.out hb HU4.out.lt)
  clear hb HX4 HU4 HB4 K4 HO4
  obtain ⟨W6, hW6⟩ : ∃ W, W = w5.alloc (.cells #[.int .i64 3, .string ⟨#[15]⟩] 51) := ⟨_, rfl⟩
  obtain ⟨g6, hg6⟩ : ∃ g, g = w5.heap.size := ⟨_, rfl⟩
  have hb6 : Below w5.heap.size w5 W6 := by rw [hW6]; exact below_alloc6 w5 _
  have HB6 := Lib.hid (HB5.out.trans (hb6.mono HB5.out.size))
  have K6 := Lib.hid (HK.out _ _ K5.out hb6)
  have HX6 := Lib.hid (Cells.kept HX5.out hb6 HX5.out.lt)
  have HU6 := Lib.hid (Cells.kept HU5.out hb6 HU5.out.lt)
  have HO6 := Lib.hid (show W6.heap[g6]? = some (.cells #[.int .i64 3, .string ⟨#[15]⟩] 51 (0, 0)) by rw [hW6, hg6]; exact heap_alloc_new w5 _)
  clear hb6 HX5 HU5 HB5 K5
  have HW6 := Lib.hid hW6
  have HG6 := Lib.hid hg6
  clear hW6 hg6
  go_wp2_with fail
  rw [← HG6.out, ← HW6.out]
  clear HW6 HG6
  refine (HSC.out _ _ K6.out HO6.out).mono ?_
  rintro e w7 ⟨rfl, hb⟩
  have HB7 := Lib.hid (HB6.out.trans (hb.mono HB6.out.size))
  have K7 := Lib.hid (HK.out _ _ K6.out hb)
  have HX7 := Lib.hid (Cells.kept HX6.out hb HX6.out.lt)
  have HU7 := Lib.hid (Cells.kept HU6.out hb HU6.out.lt)
  clear hb HX6 HU6 HB6 K6 HO6
  have x0 := (Cells.cell HX7.out 0).trans (show _ = some (Value.int .i64 1) from rfl)
  have x1 := (Cells.cell HX7.out 1).trans (show _ = some (Value.int .i64 2) from rfl)
  have x2 := (Cells.cell HX7.out 2).trans (show _ = some (Value.int .u32 3) from rfl)
  have x3 := (Cells.cell HX7.out 3).trans (show _ = some (Value.int .u32 0) from rfl)
  have x4 := (Cells.cell HX7.out 4).trans (show _ = some (Value.int .i64 2) from rfl)
  have x5 := (Cells.cell HX7.out 5).trans (show _ = some (Value.int .i64 4) from rfl)
  have x6 := (Cells.cell HX7.out 6).trans (show _ = some (Value.int .i64 0) from rfl)
  have x7 := (Cells.cell HX7.out 7).trans (show _ = some (Value.slice none 0 0) from rfl)
  have x8 := (Cells.cell HX7.out 8).trans (show _ = some (Value.string ⟨#[]⟩) from rfl)
  have y0 := (Cells.cell HU7.out 0).trans (show _ = some (Value.int .i64 1) from rfl)
  have y1 := (Cells.cell HU7.out 1).trans (show _ = some (Value.int .i64 2) from rfl)
  have y2 := (Cells.cell HU7.out 2).trans (show _ = some (Value.int .u32 3) from rfl)
  have y3 := (Cells.cell HU7.out 3).trans (show _ = some (Value.int .u32 0) from rfl)
  have y4 := (Cells.cell HU7.out 4).trans (show _ = some (Value.int .i64 2) from rfl)
  have y5 := (Cells.cell HU7.out 5).trans (show _ = some (Value.int .i64 4) from rfl)
  have y6 := (Cells.cell HU7.out 6).trans (show _ = some (Value.int .i64 0) from rfl)
  have y7 := (Cells.cell HU7.out 7).trans (show _ = some (Value.slice A5 0 c5) from rfl)
  have y8 := (Cells.cell HU7.out 8).trans (show _ = some (Value.string ⟨#[]⟩) from rfl)
  have i16 : (16 : Int) ≤ (q.size : Int) := by omega
  have i20 : ((q.size : Int) == 20) = true := by simp; omega
  clear hqs
  go_wp2_with fail
  refine (HSM.out _ _ _).mono ?_
  rintro e w8 ⟨rfl, hb⟩
  have HB8 := Lib.hid (HB7.out.trans (hb.mono HB7.out.size))
  have K8 := Lib.hid (HK.out _ _ K7.out hb)
  clear hb HX7 HU7 HB7 K7 x0 x1 x2 x3 x4 x5 x6 x7 x8 y0 y1 y2 y3 y4 y5 y6 y7 y8
  go_wp2_with fail
  refine (HDI.out _ K8.out).mono ?_
  rintro e w9 ⟨rfl, hb⟩
  have HB9 := Lib.hid (HB8.out.trans (hb.mono HB8.out.size))
  have K9 := Lib.hid (HK.out _ _ K8.out hb)
  clear hb HB8 K8
  go_wp2_with fail
  refine (HLN.out _ K9.out).mono ?_
  rintro e w10 ⟨rfl, hb⟩
  have HB10 := Lib.hid (HB9.out.trans (hb.mono HB9.out.size))
  have K10 := Lib.hid (HK.out _ _ K9.out hb)
  clear hb HB9 K9
  go_wp2_with fail
  refine (HBE.out _ K10.out).mono ?_
  rintro e w11 ⟨rfl, hb⟩
  have HB11 := Lib.hid (HB10.out.trans (hb.mono HB10.out.size))
  clear hb HB10 K10
  go_wp2_with fail
  go_ret
  exact ⟨rfl, HB11.out⟩
end Go.Proofs.YtmfoionlapcgkaaDoor
