/- Contracts of the functions, part 37: Ip6PEnc. -/
import Derived.Deep.Cut
import Derived.BigQuiet
import Derived.Test.YtjjldolafnfpoaaPE23
import Derived.Test.YtjjldolafnfpoaaPE36
/- Contract of the program of layer 12: Encode. -/
namespace Go.Proofs.Ytjjldolafnfpoaa
open Go.ChangeShapes Go.WideShapes Go.ChangeAt Go.RowKit
set_option linter.unusedVariables false

attribute [local go_sem] Oper.semAt_some
theorem or_low12 (a b k : Nat) (A : Int) (hA : (a : Int) = A) (ha : a % 2 ^ k = 0) (hb : b < 2 ^ k) (h : a + b < 9223372036854775808) : bits .or .i64 A (b : Int) = ((a + b : Nat) : Int) := by
  subst hA
  have e : a ||| b = a + b := by
    have := Nat.two_pow_add_eq_or_of_lt hb (a / 2 ^ k)
    rw [Nat.mul_div_cancel' (Nat.dvd_of_mod_eq_zero ha)] at this
    exact this.symm
  have ht : (2 : Nat) ^ IntKind.i64.bits = 18446744073709551616 := by decide
  show IntKind.i64.wrap (((((a : Int) % ((2 : Nat) ^ IntKind.i64.bits : Nat)).toNat ||| ((b : Int) % ((2 : Nat) ^ IntKind.i64.bits : Nat)).toNat) : Nat) : Int) = _
  rw [ht]
  have e1 : ((a : Int) % (18446744073709551616 : Nat)).toNat = a := by omega
  have e2 : ((b : Int) % (18446744073709551616 : Nat)).toNat = b := by omega
  rw [e1, e2, e]
  exact IntWalk.i64_in _ (by omega)
theorem wrX_split (l : List OpR) (nx : Nat) (b c : List UInt8) : (wrX l nx (b ++ c)).1 = (wrX l nx b).1 ∧ (wrX l nx (b ++ c)).2 = (wrX l nx b).2 ++ c := by
  induction l with
  | nil => exact ⟨rfl, rfl⟩
  | cons x r ih =>
    refine ⟨rfl, ?_⟩
    show UInt8.ofNat (wrX r nx (b ++ c)).1 :: UInt8.ofNat ((x.dat.length - 6) / 8) :: (x.dat ++ (wrX r nx (b ++ c)).2) = _
    rw [ih.1, ih.2]
    simp [wrX]
set_option maxHeartbeats 8000000 in
set_option maxRecDepth 100000 in
theorem penc12_bad (cls lab hops nxt id off : Int) (sv dv frg more : Bool) (sh sl dh dl : Nat) (n : Nat) (A : Option Addr) (c : Nat) (D : ByteArray) (E : Nat) (hE : E ≠ 0) (w : World)
    (hck : ∀ W, Below w.heap.size w W → Calls Try.prog 30 #[.agg #[.int .i64 cls, .int .i64 lab, .int .i64 hops, .int .i64 nxt, .bool sv, .int .u64 (sh : Int), .int .u64 (sl : Int), .bool dv, .int .u64 (dh : Int), .int .u64 (dl : Int), .slice A n c, .bool frg, .int .i64 id, .int .i64 off, .bool more, .string D]] W fun e w' => e = .returned (.int .i64 (E : Int)) ∧ Below W.heap.size W w') :
    Calls Try.prog 15 #[.agg #[.int .i64 cls, .int .i64 lab, .int .i64 hops, .int .i64 nxt, .bool sv, .int .u64 (sh : Int), .int .u64 (sl : Int), .bool dv, .int .u64 (dh : Int), .int .u64 (dl : Int), .slice A n c, .bool frg, .int .i64 id, .int .i64 off, .bool more, .string D]] w fun e w' => e = .returned (.tuple #[.string (str []), .int .i64 (E : Int)]) ∧ Below w.heap.size w w' := by
  have HCK := Lib.hid hck
  clear hck
  obtain ⟨W1, hW1⟩ : ∃ W, W = w.alloc (.cells #[.int .i64 cls, .int .i64 lab, .int .i64 hops, .int .i64 nxt, .bool sv, .int .u64 (sh : Int), .int .u64 (sl : Int), .bool dv, .int .u64 (dh : Int), .int .u64 (dl : Int), .slice A n c, .bool frg, .int .i64 id, .int .i64 off, .bool more, .string D] 28) := ⟨_, rfl⟩
  obtain ⟨g, hg⟩ : ∃ g, g = w.heap.size := ⟨_, rfl⟩
  have HX := Lib.hid (show Cells W1 g 28 #[.int .i64 cls, .int .i64 lab, .int .i64 hops, .int .i64 nxt, .bool sv, .int .u64 (sh : Int), .int .u64 (sl : Int), .bool dv, .int .u64 (dh : Int), .int .u64 (dl : Int), .slice A n c, .bool frg, .int .i64 id, .int .i64 off, .bool more, .string D] by rw [hW1, hg]; exact heap_alloc_new w _)
  have HB1 := Lib.hid (show Below w.heap.size w W1 by rw [hW1]; exact below_alloc6 w _)
  have HV := Lib.hid (fun (W : World) (hb : Below W1.heap.size W1 W) (i : Nat) (v : Value) (hv : (#[.int .i64 cls, .int .i64 lab, .int .i64 hops, .int .i64 nxt, .bool sv, .int .u64 (sh : Int), .int .u64 (sl : Int), .bool dv, .int .u64 (dh : Int), .int .u64 (dl : Int), .slice A n c, .bool frg, .int .i64 id, .int .i64 off, .bool more, .string D])[i]? = some v) => show W.cell? ⟨g, i, none⟩ = some v from box_cell HX.out hb i v hv)
  have HW := Lib.hid (fun (W : World) (hb : Below W1.heap.size W1 W) => HB1.out.trans (hb.mono HB1.out.size))
  have x0 := HV.out _ (Below.refl _ _) 0 (Value.int .i64 cls) rfl
  have x1 := HV.out _ (Below.refl _ _) 1 (Value.int .i64 lab) rfl
  have x2 := HV.out _ (Below.refl _ _) 2 (Value.int .i64 hops) rfl
  have x3 := HV.out _ (Below.refl _ _) 3 (Value.int .i64 nxt) rfl
  have x4 := HV.out _ (Below.refl _ _) 4 (Value.bool sv) rfl
  have x5 := HV.out _ (Below.refl _ _) 5 (Value.int .u64 (sh : Int)) rfl
  have x6 := HV.out _ (Below.refl _ _) 6 (Value.int .u64 (sl : Int)) rfl
  have x7 := HV.out _ (Below.refl _ _) 7 (Value.bool dv) rfl
  have x8 := HV.out _ (Below.refl _ _) 8 (Value.int .u64 (dh : Int)) rfl
  have x9 := HV.out _ (Below.refl _ _) 9 (Value.int .u64 (dl : Int)) rfl
  have x10 := HV.out _ (Below.refl _ _) 10 (Value.slice A n c) rfl
  have x11 := HV.out _ (Below.refl _ _) 11 (Value.bool frg) rfl
  have x12 := HV.out _ (Below.refl _ _) 12 (Value.int .i64 id) rfl
  have x13 := HV.out _ (Below.refl _ _) 13 (Value.int .i64 off) rfl
  have x14 := HV.out _ (Below.refl _ _) 14 (Value.bool more) rfl
  have x15 := HV.out _ (Below.refl _ _) 15 (Value.string D) rfl
  go_enter Try.func15, Try.ntmps15
  go_upto_region 1 with fail
  rw [← hW1, ← hg]
  clear hW1 hg
  go_wp2_with fail
  refine (HCK.out _ HB1.out).mono ?_
  rintro e w2 ⟨rfl, hb2⟩
  have HB2 := Lib.hid (HW.out _ hb2)
  have z1 : ((E : Int) != 0) = true := by rw [bne_iff_ne]; omega
  have z2 : ¬ (E : Int) = 0 := by omega
  clear hb2 hE x0 x1 x2 x3 x4 x5 x6 x7 x8 x9 x10 x11 x12 x13 x14 x15
  go_wp2_with fail
  go_ret2
  exact ⟨rfl, HB2.out⟩
set_option maxHeartbeats 8000000 in
set_option maxRecDepth 100000 in
theorem penc12_ok (C L H X I F : Nat) (frg more : Bool) (sh sl dh dl n : Nat) (l : List OpR) (pay : List UInt8) (A : Option Addr) (c : Nat) (D : ByteArray) (p : Ip6R) (w : World) (hpe : p = ⟨(C : Int), (L : Int), (H : Int), (X : Int), ⟨true, sh, sl⟩, ⟨true, dh, dl⟩, l, frg, (I : Int), (F : Int), more, pay⟩) (hD : D = str pay) (hnl : n = l.length)
    (hC : C ≤ 255) (hL : L ≤ 1048575) (hH : H ≤ 255) (hX : X ≤ 255) (hI : I ≤ 4294967295) (hF : F ≤ 65528) (hF8 : F % 8 = 0) (hsh : sh < 18446744073709551616) (hsl : sl < 18446744073709551616) (hdh : dh < 18446744073709551616) (hdl : dl < 18446744073709551616)
    (h8 : l.length ≤ 8) (hok : okE6 l) (hlen : (bodX p).2.length ≤ 65535) (h : RowL EOpt w A l)
    (hck : ∀ W, Below w.heap.size w W → Calls Try.prog 30 #[.agg #[.int .i64 (C : Int), .int .i64 (L : Int), .int .i64 (H : Int), .int .i64 (X : Int), .bool true, .int .u64 (sh : Int), .int .u64 (sl : Int), .bool true, .int .u64 (dh : Int), .int .u64 (dl : Int), .slice A n c, .bool frg, .int .i64 (I : Int), .int .i64 (F : Int), .bool more, .string D]] W fun e w' => e = .returned (.int .i64 0) ∧ Below W.heap.size W w') :
    Calls Try.prog 15 #[.agg #[.int .i64 (C : Int), .int .i64 (L : Int), .int .i64 (H : Int), .int .i64 (X : Int), .bool true, .int .u64 (sh : Int), .int .u64 (sl : Int), .bool true, .int .u64 (dh : Int), .int .u64 (dl : Int), .slice A n c, .bool frg, .int .i64 (I : Int), .int .i64 (F : Int), .bool more, .string D]] w fun e w' => e = .returned (.tuple #[.string (str (hdX p ++ (bodX p).2)), .int .i64 0]) ∧ Below w.heap.size w w' := by
  have HCK := Lib.hid hck
  have HNL := Lib.hid hnl
  have HPE := Lib.hid hpe
  have HDD := Lib.hid hD
  have HLEN := Lib.hid hlen
  have H8 := Lib.hid h8
  have HOK := Lib.hid hok
  have HROW := Lib.hid h
  obtain ⟨b0, hb0⟩ : ∃ b : List UInt8, b = if frg then UInt8.ofNat X :: 0 :: (beL 2 (F + (if more then 1 else 0)) ++ beL 4 I) else [] := ⟨_, rfl⟩
  obtain ⟨k0, hk0⟩ : ∃ k : Nat, k = if frg then 44 else X := ⟨_, rfl⟩
  have hb8 : b0.length ≤ 8 := by rw [hb0]; split <;> simp [beL_len]
  have hk8 : k0 < 256 := by rw [hk0]; split <;> omega
  have HB8 := Lib.hid (And.intro hk8 hb8)
  have htl : tlX p = (k0, b0 ++ pay) := by
    rw [hpe, hb0, hk0]
    unfold tlX frB
    cases frg <;> simp
  have hbod : bodX p = ((wrX l k0 b0).1, (wrX l k0 b0).2 ++ pay) := by
    unfold bodX
    rw [htl, hpe]
    have := wrX_split l k0 b0 pay
    exact Prod.ext this.1 this.2
  have HBOD := Lib.hid hbod
  have HFB := Lib.hid (fun (hf : frg = true) (W : World) => show Calls Try.prog 31 #[.agg #[.int .i64 (C : Int), .int .i64 (L : Int), .int .i64 (H : Int), .int .i64 (X : Int), .bool true, .int .u64 (sh : Int), .int .u64 (sl : Int), .bool true, .int .u64 (dh : Int), .int .u64 (dl : Int), .slice A n c, .bool frg, .int .i64 (I : Int), .int .i64 (F : Int), .bool more, .string D]] W fun e w' => e = .returned (.string (str b0)) ∧ Below W.heap.size W w' from by
    rw [hf]
    refine pfrgb12_any (C : Int) (L : Int) (H : Int) X I F true true true more sh sl dh dl n A c D b0 W (by omega) (by omega) (by omega) hF8 ?_
    rw [hb0, if_pos hf])
  have HB0 := Lib.hid (And.intro hb0 hk0)
  clear hck hnl hpe hD hlen h8 hok h hb0 hk0 hb8 hk8 htl hbod hF8
  obtain ⟨W1, hW1⟩ : ∃ W, W = w.alloc (.cells #[.int .i64 (C : Int), .int .i64 (L : Int), .int .i64 (H : Int), .int .i64 (X : Int), .bool true, .int .u64 (sh : Int), .int .u64 (sl : Int), .bool true, .int .u64 (dh : Int), .int .u64 (dl : Int), .slice A n c, .bool frg, .int .i64 (I : Int), .int .i64 (F : Int), .bool more, .string D] 28) := ⟨_, rfl⟩
  obtain ⟨g, hg⟩ : ∃ g, g = w.heap.size := ⟨_, rfl⟩
  have HX := Lib.hid (show Cells W1 g 28 #[.int .i64 (C : Int), .int .i64 (L : Int), .int .i64 (H : Int), .int .i64 (X : Int), .bool true, .int .u64 (sh : Int), .int .u64 (sl : Int), .bool true, .int .u64 (dh : Int), .int .u64 (dl : Int), .slice A n c, .bool frg, .int .i64 (I : Int), .int .i64 (F : Int), .bool more, .string D] by rw [hW1, hg]; exact heap_alloc_new w _)
  have HB1 := Lib.hid (show Below w.heap.size w W1 by rw [hW1]; exact below_alloc6 w _)
  have HV := Lib.hid (fun (W : World) (hb : Below W1.heap.size W1 W) (i : Nat) (v : Value) (hv : (#[.int .i64 (C : Int), .int .i64 (L : Int), .int .i64 (H : Int), .int .i64 (X : Int), .bool true, .int .u64 (sh : Int), .int .u64 (sl : Int), .bool true, .int .u64 (dh : Int), .int .u64 (dl : Int), .slice A n c, .bool frg, .int .i64 (I : Int), .int .i64 (F : Int), .bool more, .string D])[i]? = some v) => show W.cell? ⟨g, i, none⟩ = some v from box_cell HX.out hb i v hv)
  have HW := Lib.hid (fun (W : World) (hb : Below W1.heap.size W1 W) => HB1.out.trans (hb.mono HB1.out.size))
  have x0 := HV.out _ (Below.refl _ _) 0 (Value.int .i64 (C : Int)) rfl
  have x1 := HV.out _ (Below.refl _ _) 1 (Value.int .i64 (L : Int)) rfl
  have x2 := HV.out _ (Below.refl _ _) 2 (Value.int .i64 (H : Int)) rfl
  have x3 := HV.out _ (Below.refl _ _) 3 (Value.int .i64 (X : Int)) rfl
  have x4 := HV.out _ (Below.refl _ _) 4 (Value.bool true) rfl
  have x5 := HV.out _ (Below.refl _ _) 5 (Value.int .u64 (sh : Int)) rfl
  have x6 := HV.out _ (Below.refl _ _) 6 (Value.int .u64 (sl : Int)) rfl
  have x7 := HV.out _ (Below.refl _ _) 7 (Value.bool true) rfl
  have x8 := HV.out _ (Below.refl _ _) 8 (Value.int .u64 (dh : Int)) rfl
  have x9 := HV.out _ (Below.refl _ _) 9 (Value.int .u64 (dl : Int)) rfl
  have x10 := HV.out _ (Below.refl _ _) 10 (Value.slice A n c) rfl
  have x11 := HV.out _ (Below.refl _ _) 11 (Value.bool frg) rfl
  have x12 := HV.out _ (Below.refl _ _) 12 (Value.int .i64 (I : Int)) rfl
  have x13 := HV.out _ (Below.refl _ _) 13 (Value.int .i64 (F : Int)) rfl
  have x14 := HV.out _ (Below.refl _ _) 14 (Value.bool more) rfl
  have x15 := HV.out _ (Below.refl _ _) 15 (Value.string D) rfl
  refine callsIn_wide.1 (callsIn_of_wp_marks (n := 3) (F := Fence.wide) Try.func15 rfl trivial (wpIn_wide.2 ?_) rfl)
  simp only [Try.ntmps15, List.size_toArray, List.length_cons, List.length_nil, Nat.reduceAdd, Nat.reduceSub, Array.replicate_succ, Array.replicate_zero, List.push_toArray, List.append_toArray, List.nil_append, List.cons_append]
  go_upto_region 1 with fail
  rw [← hW1, ← hg]
  have HG := Lib.hid hg
  have HGL := Lib.hid HX.out.lt
  clear hW1 hg
  go_wp2_with fail
  refine (HCK.out _ HB1.out).mono ?_
  rintro e w2 ⟨rfl, hb2⟩
  have HB2 := Lib.hid (show Below W1.heap.size W1 w2 from hb2)
  clear hb2 HCK x0 x1 x2 x3 x4 x5 x6 x7 x8 x9 x10 x11 x12 x13 x14 x15
  have x3 := HV.out _ HB2.out 3 (Value.int .i64 (X : Int)) rfl
  have x11 := HV.out _ HB2.out 11 (.bool frg) rfl
  go_upto_region 5 with fail
  obtain ⟨gk, hgk⟩ : ∃ k, k = w2.heap.size := ⟨_, rfl⟩
  obtain ⟨gh, hgh⟩ : ∃ k, k = w2.heap.size + 1 := ⟨_, rfl⟩
  obtain ⟨WA, hWA⟩ : ∃ W, W = (w2.alloc (.cells #[.int .i64 (X : Int)] 3)).alloc (.cells #[.string { data := #[] }] 9) := ⟨_, rfl⟩
  rw [← hgk, ← hWA]
  rw [hgk, ← hgh, ← hgk]
  have hzA : WA.heap.size = gh + 1 := by rw [hWA, hgh]; simp
  have hkh1 : gh = gk + 1 := by omega
  have hAK : Cells WA gk 3 #[.int .i64 (X : Int)] := by rw [hWA, hgk]; exact (Cells.kept (heap_alloc_new w2 _) (below_alloc6 _ _) (by simp))
  have hAH : Cells WA gh 9 #[.string { data := #[] }] := by rw [hWA, hgh]; have := heap_alloc_new (w2.alloc (.cells #[.int .i64 (X : Int)] 3)) (.cells #[.string { data := #[] }] 9); rwa [World.size_alloc] at this
  have HAK := Lib.hid hAK
  have HAH := Lib.hid hAH
  have HBA := Lib.hid (show Below W1.heap.size W1 WA by rw [hWA]; exact (HB2.out.alloc HB2.out.size _).alloc (by have := HB2.out.size; simp; omega) _)
  have HSZ := Lib.hid (show W1.heap.size ≤ gk ∧ gh = gk + 1 ∧ WA.heap.size = gh + 1 from ⟨by rw [hgk]; exact HB2.out.size, hkh1, hzA⟩)
  clear hgk hgh hWA hzA hkh1 hAK hAH x3 x11
  have x11 := HV.out _ HBA.out 11 (.bool frg) rfl
  cases frg
  · have HZB := Lib.hid (show gh < WA.heap.size by have := HSZ.out; omega)
    have HBB := HBA
    have HBK := Lib.hid (show Boxed WA gk 3 (.int .i64 (k0 : Int)) by rw [HB0.out.2]; exact HAK.out)
    have HBH := Lib.hid (show Boxed WA gh 9 (.string (str b0)) by rw [HB0.out.1]; exact HAH.out)
    have x10 := HV.out _ HBB.out 10 (.slice A n c) rfl
    go_wp2_with fail
    refine (pbackward12_any A n c _).mono ?_
    rintro e w4 ⟨rfl, rfl⟩
    obtain ⟨gb, hgb⟩ : ∃ k, k = WA.heap.size := ⟨_, rfl⟩
    obtain ⟨WL, hWL⟩ : ∃ W, W = WA.alloc (.cells #[.slice A n c] 26) := ⟨_, rfl⟩
    rw [← hgb, ← hWL]
    have HLB := Lib.hid (show Cells WL gb 26 #[.slice A n c] by rw [hWL, hgb]; exact heap_alloc_new WA _)
    have HLBel := Lib.hid (show Below WA.heap.size WA WL by rw [hWL]; exact below_alloc6 WA _)
    have HLZ := Lib.hid (show gb = WA.heap.size from hgb)
    clear hWL hgb x10
    go_wp2_with fail
    clear x11
    have hz := HSZ.out
    have hzb := HZB.out
    refine range12 W1 gb gk gh gb k0 b0 A c l rfl H8.out HOK.out (HROW.out.kept HB1.out) (HBB.out.trans (HLBel.out.mono HBB.out.size)) (by rw [← HNL.out]; exact (Cells.cell HLB.out 0)) HB8.out.1 HB8.out.2 HLB.out.lt HLB.out.lt hz.1 (by omega) (by omega) (by have := HLZ.out; omega) (by have := HLZ.out; omega) (by have := HLZ.out; omega) (by have := HLZ.out; omega)
      ((HLBel.out.block gk (by omega)).trans HBK.out) ((HLBel.out.block gh (by omega)).trans HBH.out) ?assign ?body ?done
    case assign =>
      intro ls x W K hK
      unfold rndT at hK
      simp only [List.setIfInBounds_toArray, List.set_cons_succ, List.set_cons_zero] at hK
      simp only [List.setIfInBounds_toArray, List.set_cons_succ, List.set_cons_zero]
      gi_wp2
      exact hK
    case body =>
      intro ls x kd S Bx WR K hkd hS bk bh hXB hkB hhB hK
      unfold rndT
      simp only [List.setIfInBounds_toArray, List.set_cons_succ, List.set_cons_zero]
      obtain ⟨⟨xi, ⟨k, dat⟩⟩, hx1, hx2, hx3⟩ := x
      dsimp only at hx1 hx2 hx3 hXB hK ⊢
      obtain ⟨y, hy⟩ : ∃ y, y = dat.length := ⟨_, rfl⟩
      rw [← hy] at hx2 hx3
      obtain ⟨E, hE⟩ : ∃ E, E = str dat := ⟨_, rfl⟩
      have hEs : E.size = y := by rw [hE, str_size, hy]
      obtain ⟨z, hz6⟩ : ∃ z, z = y - 6 := ⟨_, rfl⟩
      have hzi : (y : Int) - 6 = (z : Int) := by omega
      obtain ⟨u, hu⟩ : ∃ u, u = z / 8 := ⟨_, rfl⟩
      have hui : (z : Int) / 8 = (u : Int) := by omega
      have hut : (z : Int).tdiv 8 = (u : Int) := by rw [Int.tdiv_eq_ediv_of_nonneg (by omega)]; exact hui
      have hul : u ≤ 255 := by omega
      have hzl : z ≤ 2040 := by omega
      have HU := Lib.hid (show u = (dat.length - 6) / 8 by rw [hu, hz6, hy])
      rw [← hE] at hXB ⊢
      have HE := Lib.hid hE
      obtain ⟨Sx, hSx⟩ : ∃ E, E = str S := ⟨_, rfl⟩
      have hSs : Sx.size ≤ 20000 := by rw [hSx, str_size]; exact hS
      rw [← hSx] at bh
      have HSX := Lib.hid hSx
      have HK := Lib.hid hK
      have HBK2 := Lib.hid bk
      have HBH2 := Lib.hid bh
      have HXB := Lib.hid hXB
      have HNE := Lib.hid (And.intro hkB hhB)
      have c0 := (Cells.cell hXB 0).trans (show _ = some (Value.int .i64 k) from rfl)
      have c1 := (Cells.cell hXB 1).trans (show _ = some (Value.string E) from rfl)
      clear hK hE hSx hS hu hz6 hy hx1 hx2 hkB hhB hz hzb
      refine wpIn_block ?_
      refine wpIn_seq_k (fun K2 hK2 => ?_)
      have HK2 := Lib.hid hK2
      clear hK2
      gi_wp2
      refine HK2.out _ _ ?_
      refine wpIn_seq_k (fun K3 hK3 => ?_)
      have HK3 := Lib.hid hK3
      clear hK3 HK2 c0 c1 bk bh hXB
      have HP0 := Lib.hid (fun (W : World) => pputB_any 1 kd (kd : Int) 1 rfl rfl (by decide) (by decide) (by omega) (by omega) W)
      have HP1 := Lib.hid (fun (W : World) => pputB_any 1 u (u : Int) 1 rfl rfl (by decide) (by decide) (by omega) (by omega) W)
      obtain ⟨A0, hA0⟩ : ∃ A, A = str (beL 1 kd) := ⟨_, rfl⟩
      rw [← hA0] at HP0
      have sA0 : A0.size = 1 := by rw [hA0, str_size, beL_len]
      have HA0 := Lib.hid hA0
      obtain ⟨A1, hA1⟩ : ∃ A, A = str (beL 1 u) := ⟨_, rfl⟩
      rw [← hA1] at HP1
      have sA1 : A1.size = 1 := by rw [hA1, str_size, beL_len]
      have HA1 := Lib.hid hA1
      clear hA0 hA1
      have hqn : ¬ LetsOut (Exit.then K3 (Exit.inBlock 1 (Exit.then K (fun _ _ _ => False)))) := fun ⟨_, _, h⟩ => h
      refine wpIn_round_specs_tail 10 [.val (Value.int .i64 (kd : Int)), .val (Value.string A0), .val (Value.int .i64 (u : Int)), .val (Value.string A1), .val (Value.string (A0 ++ A1)), .val (Value.pointer (some ⟨Bx, 1, none⟩)), .val (Value.string E), .val (Value.string (A0 ++ A1 ++ E)), .val (Value.string Sx), .val (Value.string (A0 ++ A1 ++ E ++ Sx))] hqn (by kernel_rfl) (by kernel_rfl) (by kernel_rfl) (by kernel_rfl) (by kernel_rfl) (by kernel_rfl) (by kernel_rfl) (by kernel_rfl) (by kernel_rfl) ?_ ?_
      · refine ⟨⟨rfl, ?_⟩, ⟨rfl, ?_⟩, ⟨rfl, ?_⟩, ⟨rfl, ?_⟩, ⟨rfl, ?_⟩, ⟨rfl, ?_⟩, ⟨rfl, ?_⟩, ⟨rfl, ?_⟩, ⟨rfl, ?_⟩, ⟨rfl, ?_⟩, trivial⟩
        · intro a W hbW hk K hK
          have e5 := kvalT hk 5 (Value.pointer (some ⟨gk, 0, none⟩)) (by kernel_rfl)
          clear hk
          have y0 := (hbW.cell (p := ⟨gk, 0, none⟩) HBK2.out.lt).trans HBK2.out.cell
          go_simp
          exact ⟨_, rfl, hK _ _ rfl (Below.refl _ _)⟩
        · intro a W hbW hk K hK
          have e32 := kvalT hk 32 (Value.int .i64 (kd : Int)) (by kernel_rfl)
          clear hk
          go_simp
          refine (HP0.out W).mono ?_
          rintro e w9 ⟨rfl, hb9⟩
          exact ⟨_, rfl, hK _ _ rfl hb9⟩
        · intro a W hbW hk K hK
          have e9 := kvalT hk 9 (Value.int .i64 (u : Int)) (by kernel_rfl)
          clear hk
          go_simp
          exact ⟨_, rfl, hK _ _ rfl (Below.refl _ _)⟩
        · intro a W hbW hk K hK
          have e34 := kvalT hk 34 (Value.int .i64 (u : Int)) (by kernel_rfl)
          clear hk
          go_simp
          refine (HP1.out W).mono ?_
          rintro e w9 ⟨rfl, hb9⟩
          exact ⟨_, rfl, hK _ _ rfl hb9⟩
        · intro a W hbW hk K hK
          have e33 := kvalT hk 33 (Value.string A0) (by kernel_rfl)
          have e35 := kvalT hk 35 (Value.string A1) (by kernel_rfl)
          clear hk
          have u1 : (9223372036854775807 < A0.size + A1.size) = False := by simp only [eq_iff_iff, iff_false]; omega
          go_simp
          exact ⟨_, rfl, hK _ _ rfl (Below.refl _ _)⟩
        · intro a W hbW hk K hK
          have e8 := kvalT hk 8 (Value.pointer (some ⟨Bx, 0, none⟩)) (by kernel_rfl)
          clear hk
          go_simp
          exact ⟨_, rfl, hK _ _ rfl (Below.refl _ _)⟩
        · intro a W hbW hk K hK
          have e37 := kvalT hk 37 (Value.pointer (some ⟨Bx, 1, none⟩)) (by kernel_rfl)
          clear hk
          have y0 := (hbW.cell (p := ⟨Bx, 1, none⟩) HXB.out.lt).trans ((Cells.cell HXB.out 1).trans (show _ = some (Value.string E) from rfl))
          go_simp
          exact ⟨_, rfl, hK _ _ rfl (Below.refl _ _)⟩
        · intro a W hbW hk K hK
          have e36 := kvalT hk 36 (Value.string (A0 ++ A1)) (by kernel_rfl)
          have e38 := kvalT hk 38 (Value.string E) (by kernel_rfl)
          clear hk
          have u3 : (9223372036854775807 < 2 + y) = False := by simp only [eq_iff_iff, iff_false]; omega
          have u1 : (9223372036854775807 < (A0 ++ A1).size + E.size) = False := by simp only [eq_iff_iff, iff_false, ByteArray.size_append]; omega
          have u2 : (9223372036854775807 < A0.size + A1.size + E.size) = False := by simp only [eq_iff_iff, iff_false]; omega
          go_simp
          exact ⟨_, rfl, hK _ _ rfl (Below.refl _ _)⟩
        · intro a W hbW hk K hK
          have e6 := kvalT hk 6 (Value.pointer (some ⟨gh, 0, none⟩)) (by kernel_rfl)
          clear hk
          have y0 := (hbW.cell (p := ⟨gh, 0, none⟩) HBH2.out.lt).trans HBH2.out.cell
          go_simp
          exact ⟨_, rfl, hK _ _ rfl (Below.refl _ _)⟩
        · intro a W hbW hk K hK
          have e39 := kvalT hk 39 (Value.string (A0 ++ A1 ++ E)) (by kernel_rfl)
          have e40 := kvalT hk 40 (Value.string Sx) (by kernel_rfl)
          clear hk
          have u3 : (9223372036854775807 < 2 + y + Sx.size) = False := by simp only [eq_iff_iff, iff_false]; omega
          have u1 : (9223372036854775807 < (A0 ++ A1 ++ E).size + Sx.size) = False := by simp only [eq_iff_iff, iff_false, ByteArray.size_append]; omega
          have u2 : (9223372036854775807 < A0.size + A1.size + E.size + Sx.size) = False := by simp only [eq_iff_iff, iff_false]; omega
          go_simp
          exact ⟨_, rfl, hK _ _ rfl (Below.refl _ _)⟩
      · intro w5 hb5
        simp only [List.take_succ_cons, List.take_zero, List.drop_succ_cons, List.drop_zero, endT]
        have hH5 := (hb5.block gh HBH2.out.lt).trans HBH2.out
        have hK5 := (hb5.block gk HBK2.out.lt).trans HBK2.out
        have y1 := Cells.cell hH5 0
        have z1 := Cells.frozen hH5 0
        have yl := Cells.lt hH5
        have HB5 := Lib.hid hb5
        have HH5 := Lib.hid hH5
        have HK5 := Lib.hid hK5
        clear hb5 hH5 hK5
        go_wp2_with fail
        refine HK3.out _ _ ?_
        have hne : gh ≠ gk := by have := HSZ.out; omega
        have HNE2 := Lib.hid hne
        have hX6 := Cells.far (Cells.kept HXB.out HB5.out HXB.out.lt) (fun e => HNE.out.2 e.symm) (i := 0) (.string (A0 ++ A1 ++ E ++ Sx))
        have hK6 := Cells.far HK5.out (fun e => HNE2.out e.symm) (i := 0) (.string (A0 ++ A1 ++ E ++ Sx))
        have c0 := (Cells.cell hX6 0).trans (show _ = some (Value.int .i64 k) from rfl)
        have c2 := Cells.cell hK6 0
        have z2 := Cells.frozen hK6 0
        have yl2 := Cells.lt hK6
        have HK6 := Lib.hid hK6
        clear y1 z1 yl hne hX6 hK6
        gi_wp2
        have hz := HSZ.out
        have hlk := HBK2.out.lt
        have hlh := HBH2.out.lt
        refine HK.out _ _ ((KeepsFrom.trans ⟨HB5.out.size, fun j o _ hj _ => (HB5.out.block j (Array.getElem?_eq_some_iff.1 hj).1).trans hj⟩ ((KeepsOthers.setCell _ _ _).from _)).trans ((KeepsOthers.setCell _ _ _).from _)) (fun j hj h1 h2 => ?_) (((HB5.out.mono (by omega)).setCell (p := ⟨gh, 0, none⟩) (by simp only; omega) _).setCell (p := ⟨gk, 0, none⟩) (by simp only; omega) _) (Boxed.set _ HK6.out) ?_
        · exact (Below.heap_setCell _ ⟨gk, 0, none⟩ _ j (by simp only; omega)).trans ((Below.heap_setCell _ ⟨gh, 0, none⟩ _ j (by simp only; omega)).trans (HB5.out.block j hj))
        · have e := (Boxed.set (.string (A0 ++ A1 ++ E ++ Sx)) HH5.out).other (B' := gk) (fun e => HNE2.out e) (.int .i64 k)
          rw [show str (hdr12 ⟨k, dat⟩ kd S) = A0 ++ A1 ++ E ++ Sx by
            rw [HA0.out, HA1.out, HE.out, HSX.out, beL_one12, beL_one12]
            unfold hdr12
            rw [← HU.out]
            simp only [str_append, List.cons_append, List.nil_append]]
          exact e
    case done =>
      intro Dm WD hDl bk bh hkp hKd
      obtain ⟨KN, hKN⟩ : ∃ k, k = (wrX l k0 b0).1 := ⟨_, rfl⟩
      have hKNl : KN < 256 := by rw [hKN]; exact wrX_nx l k0 b0 HOK.out HB8.out.1
      rw [← hKN] at bk
      obtain ⟨HT, hHT⟩ : ∃ b, b = str (wrX l k0 b0).2 := ⟨_, rfl⟩
      rw [← hHT] at bh
      obtain ⟨tt, htt⟩ : ∃ t, t = HT.size + D.size := ⟨_, rfl⟩
      have htl : (bodX p).2.length = tt := by rw [HBOD.out, htt, hHT, HDD.out, str_size, str_size, List.length_append]
      have htt16 : tt ≤ 65535 := by rw [← htl]; exact HLEN.out
      have ktt : (HT.size : Int) + (D.size : Int) = (tt : Int) := by omega
      have hHTs : HT.size ≤ 65535 := by omega
      have hDs : D.size ≤ 65535 := by omega
      have HKN := Lib.hid hKN
      have HHT := Lib.hid hHT
      have HTL := Lib.hid htl
      have HBD := Lib.hid ((HBB.out.trans (HLBel.out.mono HBB.out.size)).trans hkp.1.1)
      have HDW := Lib.hid (Below.refl WD.heap.size WD)
      have HBK3 := Lib.hid bk
      have HBH3 := Lib.hid bh
      have HKD := Lib.hid hKd
      have HDL := Lib.hid (show W1.heap.size ≤ Dm from Nat.le_trans (HBB.out.trans (HLBel.out.mono HBB.out.size)).size hDl)
      clear hDl hkp hKd bk bh hKN hHT htt htl hz hzb
      obtain ⟨C20, hC20⟩ : ∃ x, x = C * 1048576 := ⟨_, rfl⟩
      have kC : (C : Int) * 1048576 = (C20 : Int) := by omega
      obtain ⟨V1, hV1⟩ : ∃ x, x = 1610612736 + C20 := ⟨_, rfl⟩
      have kV1 : bits .or .i64 1610612736 (C20 : Int) = (V1 : Int) := by rw [hV1]; exact or_low12 1610612736 C20 28 1610612736 rfl (by decide) (by omega) (by omega)
      obtain ⟨V, hV⟩ : ∃ x, x = V1 + L := ⟨_, rfl⟩
      have kV : bits .or .i64 (V1 : Int) (L : Int) = (V : Int) := by rw [hV]; exact or_low12 V1 L 20 (V1 : Int) rfl (by omega) (by omega) (by omega)
      have hVl : V ≤ 1879048191 := by omega
      have hC20l : C20 ≤ 267386880 := by omega
      have HV3 := Lib.hid (show V = 6 * 268435456 + C * 1048576 + L by omega)
      clear hC20 hV1 hV
      have HPV := Lib.hid (fun (W : World) => pputB_any 4 V (V : Int) 4 rfl rfl (by decide) (by decide) (by omega) (by omega) W)
      obtain ⟨A0, hA0⟩ : ∃ A, A = str (beL 4 V) := ⟨_, rfl⟩
      rw [← hA0] at HPV
      have sA0 : A0.size = 4 := by rw [hA0, str_size, beL_len]
      have HA0 := Lib.hid hA0
      clear hA0
      have HPN := Lib.hid (fun (W : World) => pputB_any 2 tt (tt : Int) 2 rfl rfl (by decide) (by decide) (by omega) (by omega) W)
      obtain ⟨A1, hA1⟩ : ∃ A, A = str (beL 2 tt) := ⟨_, rfl⟩
      rw [← hA1] at HPN
      have sA1 : A1.size = 2 := by rw [hA1, str_size, beL_len]
      have HA1 := Lib.hid hA1
      clear hA1
      have HPK := Lib.hid (fun (W : World) => pputB_any 1 KN (KN : Int) 1 rfl rfl (by decide) (by decide) (by omega) (by omega) W)
      obtain ⟨B0, hB0⟩ : ∃ A, A = str (beL 1 KN) := ⟨_, rfl⟩
      rw [← hB0] at HPK
      have sB0 : B0.size = 1 := by rw [hB0, str_size, beL_len]
      have HB0' := Lib.hid hB0
      clear hB0
      have HPH := Lib.hid (fun (W : World) => pputB_any 1 H (H : Int) 1 rfl rfl (by decide) (by decide) (by omega) (by omega) W)
      obtain ⟨B1, hB1⟩ : ∃ A, A = str (beL 1 H) := ⟨_, rfl⟩
      rw [← hB1] at HPH
      have sB1 : B1.size = 1 := by rw [hB1, str_size, beL_len]
      have HB1' := Lib.hid hB1
      clear hB1
      have HPS := Lib.hid (fun (W : World) => show Calls Try.prog 34 #[.agg #[.bool true, .int .u64 (sh : Int), .int .u64 (sl : Int)]] W fun e w' => e = .returned (.string (str (beL 8 sh ++ beL 8 sl))) ∧ Below W.heap.size W w' from qbytes_any true sh sl W hsh hsl)
      obtain ⟨B2, hB2⟩ : ∃ A, A = str (beL 8 sh ++ beL 8 sl) := ⟨_, rfl⟩
      rw [← hB2] at HPS
      have sB2 : B2.size = 16 := by rw [hB2, str_size, List.length_append, beL_len, beL_len]
      have HB2' := Lib.hid hB2
      clear hB2
      have HPD := Lib.hid (fun (W : World) => show Calls Try.prog 34 #[.agg #[.bool true, .int .u64 (dh : Int), .int .u64 (dl : Int)]] W fun e w' => e = .returned (.string (str (beL 8 dh ++ beL 8 dl))) ∧ Below W.heap.size W w' from qbytes_any true dh dl W hdh hdl)
      obtain ⟨B3, hB3⟩ : ∃ A, A = str (beL 8 dh ++ beL 8 dl) := ⟨_, rfl⟩
      rw [← hB3] at HPD
      have sB3 : B3.size = 16 := by rw [hB3, str_size, List.length_append, beL_len, beL_len]
      have HB3' := Lib.hid hB3
      clear hB3
      simp only [Exit.inBlock, Exit.then]
      have u0 : (9223372036854775807 < A0.size + A1.size) = False := by simp only [eq_iff_iff, iff_false]; omega
      go_upto_region 13 with fail
      refine wp_region_pick (fun w' => Below WD.heap.size WD w') (by kernel_rfl) (by kernel_rfl) (Below.refl _ _) ⟨rfl, rfl, rfl, Nat.le_refl _, fun _ _ => rfl⟩ (fun pw hp hq => ?_)
      have y0 : ∀ u, (pw u).cell? ⟨g, 0, none⟩ = some (.int .i64 (C : Int)) := fun u => HV.out _ (HBD.out.trans ((hp u).mono HBD.out.size)) 0 _ rfl
      have y1 : ∀ u, (pw u).cell? ⟨g, 1, none⟩ = some (.int .i64 (L : Int)) := fun u => HV.out _ (HBD.out.trans ((hp u).mono HBD.out.size)) 1 _ rfl
      have y15 : ∀ u, (pw u).cell? ⟨g, 15, none⟩ = some (.string D) := fun u => HV.out _ (HBD.out.trans ((hp u).mono HBD.out.size)) 15 _ rfl
      have yh : ∀ u, (pw u).cell? ⟨gh, 0, none⟩ = some (.string HT) := fun u => ((HDW.out.trans ((hp u).mono HDW.out.size)).cell (p := ⟨gh, 0, none⟩) HBH3.out.lt).trans HBH3.out.cell
      have HP := Lib.hid hp
      have HQ := Lib.hid hq
      clear hp hq
      repeat (go_big_quiet_step ((first | with_reducible exact Calls.pick_of HQ.out (fun W' hb => (HP.out _).trans (hb.mono (HP.out _).size)) (HPV.out _) | with_reducible exact Calls.pick_of HQ.out (fun W' hb => (HP.out _).trans (hb.mono (HP.out _).size)) (HPN.out _))))
      refine wpQuiet_nil ?_
      rintro _ ⟨u, rfl⟩
      have HB5 := Lib.hid (HBD.out.trans ((HP.out u).mono HBD.out.size))
      have HD5 := Lib.hid (HDW.out.trans ((HP.out u).mono HDW.out.size))
      generalize pw u = w5 at *
      clear HP HQ y0 y1 y15 HBD HPV HPN u0 kC kV1 kV ktt yh
      obtain ⟨G1, hG1⟩ : ∃ G, G = A0 ++ A1 := ⟨_, rfl⟩
      have sG1 : G1.size = 6 := by rw [hG1, ByteArray.size_append]; omega
      rw [← hG1]
      have HG1 := Lib.hid hG1
      clear hG1
      have u0 : (9223372036854775807 < B0.size + B1.size) = False := by simp only [eq_iff_iff, iff_false]; omega
      have u1 : (9223372036854775807 < B0.size + B1.size + B2.size) = False := by simp only [eq_iff_iff, iff_false]; omega
      have u1a : (9223372036854775807 < (B0 ++ B1).size + B2.size) = False := by simp only [eq_iff_iff, iff_false, ByteArray.size_append]; omega
      have u2 : (9223372036854775807 < B0.size + B1.size + B2.size + B3.size) = False := by simp only [eq_iff_iff, iff_false]; omega
      have u2a : (9223372036854775807 < (B0 ++ B1 ++ B2).size + B3.size) = False := by simp only [eq_iff_iff, iff_false, ByteArray.size_append]; omega
      have u3 : (9223372036854775807 < G1.size + (B0.size + B1.size + B2.size + B3.size)) = False := by simp only [eq_iff_iff, iff_false]; omega
      have u3a : (9223372036854775807 < G1.size + (B0 ++ B1 ++ B2 ++ B3).size) = False := by simp only [eq_iff_iff, iff_false, ByteArray.size_append]; omega
      go_upto_region 14 with fail
      refine wp_region_pick (fun w' => Below w5.heap.size w5 w') (by kernel_rfl) (by kernel_rfl) (Below.refl _ _) ⟨rfl, rfl, rfl, Nat.le_refl _, fun _ _ => rfl⟩ (fun pw hp hq => ?_)
      have y2 : ∀ u, (pw u).cell? ⟨g, 2, none⟩ = some (.int .i64 (H : Int)) := fun u => HV.out _ (HB5.out.trans ((hp u).mono HB5.out.size)) 2 _ rfl
      have y4 : ∀ u, (pw u).cell? ⟨g, 4, none⟩ = some (.bool true) := fun u => HV.out _ (HB5.out.trans ((hp u).mono HB5.out.size)) 4 _ rfl
      have y5 : ∀ u, (pw u).cell? ⟨g, 5, none⟩ = some (.int .u64 (sh : Int)) := fun u => HV.out _ (HB5.out.trans ((hp u).mono HB5.out.size)) 5 _ rfl
      have y6 : ∀ u, (pw u).cell? ⟨g, 6, none⟩ = some (.int .u64 (sl : Int)) := fun u => HV.out _ (HB5.out.trans ((hp u).mono HB5.out.size)) 6 _ rfl
      have y7 : ∀ u, (pw u).cell? ⟨g, 7, none⟩ = some (.bool true) := fun u => HV.out _ (HB5.out.trans ((hp u).mono HB5.out.size)) 7 _ rfl
      have y8 : ∀ u, (pw u).cell? ⟨g, 8, none⟩ = some (.int .u64 (dh : Int)) := fun u => HV.out _ (HB5.out.trans ((hp u).mono HB5.out.size)) 8 _ rfl
      have y9 : ∀ u, (pw u).cell? ⟨g, 9, none⟩ = some (.int .u64 (dl : Int)) := fun u => HV.out _ (HB5.out.trans ((hp u).mono HB5.out.size)) 9 _ rfl
      have yk : ∀ u, (pw u).cell? ⟨gk, 0, none⟩ = some (.int .i64 (KN : Int)) := fun u => ((HD5.out.trans ((hp u).mono HD5.out.size)).cell (p := ⟨gk, 0, none⟩) HBK3.out.lt).trans HBK3.out.cell
      have HP := Lib.hid hp
      have HQ := Lib.hid hq
      clear hp hq
      repeat (go_big_quiet_step ((first | with_reducible exact Calls.pick_of HQ.out (fun W' hb => (HP.out _).trans (hb.mono (HP.out _).size)) (HPK.out _) | with_reducible exact Calls.pick_of HQ.out (fun W' hb => (HP.out _).trans (hb.mono (HP.out _).size)) (HPH.out _) | with_reducible exact Calls.pick_of HQ.out (fun W' hb => (HP.out _).trans (hb.mono (HP.out _).size)) (HPS.out _) | with_reducible exact Calls.pick_of HQ.out (fun W' hb => (HP.out _).trans (hb.mono (HP.out _).size)) (HPD.out _))))
      refine wpQuiet_nil ?_
      rintro _ ⟨u, rfl⟩
      have HB6 := Lib.hid (HB5.out.trans ((HP.out u).mono HB5.out.size))
      have HD6 := Lib.hid (HD5.out.trans ((HP.out u).mono HD5.out.size))
      generalize pw u = w6 at *
      clear HP HQ y2 y4 y5 y6 y7 y8 y9 HB5 HPK HPH HPS HPD u0 u1 u1a u2 u2a u3 u3a yk
      obtain ⟨G2, hG2⟩ : ∃ G, G = G1 ++ (B0 ++ B1 ++ B2 ++ B3) := ⟨_, rfl⟩
      have sG2 : G2.size = 40 := by rw [hG2]; simp only [ByteArray.size_append]; omega
      rw [← hG2]
      have HG2 := Lib.hid hG2
      clear hG2
      have x15 := HV.out _ HB6.out 15 (.string D) rfl
      have yh := (HD6.out.cell (p := ⟨gh, 0, none⟩) HBH3.out.lt).trans HBH3.out.cell
      have u0 : (9223372036854775807 < G2.size + HT.size) = False := by simp only [eq_iff_iff, iff_false]; omega
      have u1 : (9223372036854775807 < G2.size + HT.size + D.size) = False := by simp only [eq_iff_iff, iff_false]; omega
      have u1a : (9223372036854775807 < (G2 ++ HT).size + D.size) = False := by simp only [eq_iff_iff, iff_false, ByteArray.size_append]; omega
      have u3 : (9223372036854775807 < 40 + HT.size) = False := by simp only [eq_iff_iff, iff_false]; omega
      have u4 : (9223372036854775807 < 40 + HT.size + D.size) = False := by simp only [eq_iff_iff, iff_false]; omega
      go_wp2_with fail
      have hKd := (HD6.out.block Dm (Array.getElem?_eq_some_iff.1 HKD.out).1).trans HKD.out
      refine ⟨by simp, .inl ⟨_, _, rfl, run_takeDeferred hKd, ?_⟩⟩
      refine ⟨_, results_tmp2 rfl _ _ _, ?_, (HW.out _ HB6.out).trans (belowK_b (w := W1) HB1.out.size w6 Dm _ _ HDL.out hKd rfl rfl)⟩
      rw [show str (hdX p ++ (bodX p).2) = G2 ++ HT ++ D by
        rw [HG2.out, HG1.out, HA0.out, HA1.out, HB0'.out, HB1'.out, HB2'.out, HB3'.out, HHT.out, HDD.out, beL_one12, beL_one12]
        unfold hdX
        rw [HTL.out, HBOD.out, HPE.out, HV3.out, HKN.out]
        simp only [Int.toNat_natCast, str_append, List.append_assoc, List.cons_append, List.nil_append]]
      rfl
  · clear x11
    have x0 := HV.out _ HBA.out 0 (Value.int .i64 (C : Int)) rfl
    have x1 := HV.out _ HBA.out 1 (Value.int .i64 (L : Int)) rfl
    have x2 := HV.out _ HBA.out 2 (Value.int .i64 (H : Int)) rfl
    have x3 := HV.out _ HBA.out 3 (Value.int .i64 (X : Int)) rfl
    have x4 := HV.out _ HBA.out 4 (Value.bool true) rfl
    have x5 := HV.out _ HBA.out 5 (Value.int .u64 (sh : Int)) rfl
    have x6 := HV.out _ HBA.out 6 (Value.int .u64 (sl : Int)) rfl
    have x7 := HV.out _ HBA.out 7 (Value.bool true) rfl
    have x8 := HV.out _ HBA.out 8 (Value.int .u64 (dh : Int)) rfl
    have x9 := HV.out _ HBA.out 9 (Value.int .u64 (dl : Int)) rfl
    have x10 := HV.out _ HBA.out 10 (Value.slice A n c) rfl
    have x11 := HV.out _ HBA.out 11 (Value.bool true) rfl
    have x12 := HV.out _ HBA.out 12 (Value.int .i64 (I : Int)) rfl
    have x13 := HV.out _ HBA.out 13 (Value.int .i64 (F : Int)) rfl
    have x14 := HV.out _ HBA.out 14 (Value.bool more) rfl
    have x15 := HV.out _ HBA.out 15 (Value.string D) rfl
    go_wp2_with fail
    refine (HFB.out (by first | rfl | trivial) _).mono ?_
    rintro e w3 ⟨rfl, hb3⟩
    have hH3 := (hb3.block gh HAH.out.lt).trans HAH.out
    have hK3 := (hb3.block gk HAK.out.lt).trans HAK.out
    have y1 := Cells.cell hH3 0
    have z1 := Cells.frozen hH3 0
    have yl := Cells.lt hH3
    have y2 := Cells.cell hK3 0
    have z2 := Cells.frozen hK3 0
    have yl2 := Cells.lt hK3
    have HH3 := Lib.hid hH3
    have HK3 := Lib.hid hK3
    have HB3 := Lib.hid (HBA.out.trans (hb3.mono HBA.out.size))
    clear hb3 hH3 hK3 HFB x0 x1 x2 x3 x4 x5 x6 x7 x8 x9 x10 x11 x12 x13 x14 x15
    have hne : gh ≠ gk := by have := HSZ.out; omega
    have hne' : gk ≠ gh := fun e => hne e.symm
    go_upto_region 8 with fail
    obtain ⟨WT, hWT⟩ : ∃ W, W = (w3.setCell ⟨gh, 0, none⟩ (.string (str b0))).setCell ⟨gk, 0, none⟩ (.int .i64 44) := ⟨_, rfl⟩
    rw [← hWT]
    have HBK := Lib.hid (show Boxed WT gk 3 (.int .i64 (k0 : Int)) by
      rw [HB0.out.2, hWT]
      exact Boxed.set _ (Cells.far HK3.out (fun e => hne e.symm) (i := 0) _))
    have HBH := Lib.hid (show Boxed WT gh 9 (.string (str b0)) by
      rw [hWT]
      exact (Boxed.set (.string (str b0)) HH3.out).other hne _)
    have HBB := Lib.hid (show Below W1.heap.size W1 WT by
      rw [hWT]
      exact (HB3.out.setCell (p := ⟨gh, 0, none⟩) (by have := HSZ.out; simp only; omega) _).setCell (p := ⟨gk, 0, none⟩) (by have := HSZ.out; simp only; omega) _)
    have HZB := Lib.hid HBH.out.lt
    clear hWT hne hne' y1 z1 yl y2 z2 yl2
    have x11 := HV.out _ HBB.out 11 (.bool true) rfl
    have x10 := HV.out _ HBB.out 10 (.slice A n c) rfl
    go_wp2_with fail
    refine (pbackward12_any A n c _).mono ?_
    rintro e w4 ⟨rfl, rfl⟩
    obtain ⟨gb, hgb⟩ : ∃ k, k = WT.heap.size := ⟨_, rfl⟩
    obtain ⟨WL, hWL⟩ : ∃ W, W = WT.alloc (.cells #[.slice A n c] 26) := ⟨_, rfl⟩
    rw [← hgb, ← hWL]
    have HLB := Lib.hid (show Cells WL gb 26 #[.slice A n c] by rw [hWL, hgb]; exact heap_alloc_new WT _)
    have HLBel := Lib.hid (show Below WT.heap.size WT WL by rw [hWL]; exact below_alloc6 WT _)
    have HLZ := Lib.hid (show gb = WT.heap.size from hgb)
    clear hWL hgb x10
    go_wp2_with fail
    clear x11
    have hz := HSZ.out
    have hzb := HZB.out
    refine range12 W1 gb gk gh gb k0 b0 A c l rfl H8.out HOK.out (HROW.out.kept HB1.out) (HBB.out.trans (HLBel.out.mono HBB.out.size)) (by rw [← HNL.out]; exact (Cells.cell HLB.out 0)) HB8.out.1 HB8.out.2 HLB.out.lt HLB.out.lt hz.1 (by omega) (by omega) (by have := HLZ.out; omega) (by have := HLZ.out; omega) (by have := HLZ.out; omega) (by have := HLZ.out; omega)
      ((HLBel.out.block gk (by omega)).trans HBK.out) ((HLBel.out.block gh (by omega)).trans HBH.out) ?assign ?body ?done
    case assign =>
      intro ls x W K hK
      unfold rndT at hK
      simp only [List.setIfInBounds_toArray, List.set_cons_succ, List.set_cons_zero] at hK
      simp only [List.setIfInBounds_toArray, List.set_cons_succ, List.set_cons_zero]
      gi_wp2
      exact hK
    case body =>
      intro ls x kd S Bx WR K hkd hS bk bh hXB hkB hhB hK
      unfold rndT
      simp only [List.setIfInBounds_toArray, List.set_cons_succ, List.set_cons_zero]
      obtain ⟨⟨xi, ⟨k, dat⟩⟩, hx1, hx2, hx3⟩ := x
      dsimp only at hx1 hx2 hx3 hXB hK ⊢
      obtain ⟨y, hy⟩ : ∃ y, y = dat.length := ⟨_, rfl⟩
      rw [← hy] at hx2 hx3
      obtain ⟨E, hE⟩ : ∃ E, E = str dat := ⟨_, rfl⟩
      have hEs : E.size = y := by rw [hE, str_size, hy]
      obtain ⟨z, hz6⟩ : ∃ z, z = y - 6 := ⟨_, rfl⟩
      have hzi : (y : Int) - 6 = (z : Int) := by omega
      obtain ⟨u, hu⟩ : ∃ u, u = z / 8 := ⟨_, rfl⟩
      have hui : (z : Int) / 8 = (u : Int) := by omega
      have hut : (z : Int).tdiv 8 = (u : Int) := by rw [Int.tdiv_eq_ediv_of_nonneg (by omega)]; exact hui
      have hul : u ≤ 255 := by omega
      have hzl : z ≤ 2040 := by omega
      have HU := Lib.hid (show u = (dat.length - 6) / 8 by rw [hu, hz6, hy])
      rw [← hE] at hXB ⊢
      have HE := Lib.hid hE
      obtain ⟨Sx, hSx⟩ : ∃ E, E = str S := ⟨_, rfl⟩
      have hSs : Sx.size ≤ 20000 := by rw [hSx, str_size]; exact hS
      rw [← hSx] at bh
      have HSX := Lib.hid hSx
      have HK := Lib.hid hK
      have HBK2 := Lib.hid bk
      have HBH2 := Lib.hid bh
      have HXB := Lib.hid hXB
      have HNE := Lib.hid (And.intro hkB hhB)
      have c0 := (Cells.cell hXB 0).trans (show _ = some (Value.int .i64 k) from rfl)
      have c1 := (Cells.cell hXB 1).trans (show _ = some (Value.string E) from rfl)
      clear hK hE hSx hS hu hz6 hy hx1 hx2 hkB hhB hz hzb
      refine wpIn_block ?_
      refine wpIn_seq_k (fun K2 hK2 => ?_)
      have HK2 := Lib.hid hK2
      clear hK2
      gi_wp2
      refine HK2.out _ _ ?_
      refine wpIn_seq_k (fun K3 hK3 => ?_)
      have HK3 := Lib.hid hK3
      clear hK3 HK2 c0 c1 bk bh hXB
      have HP0 := Lib.hid (fun (W : World) => pputB_any 1 kd (kd : Int) 1 rfl rfl (by decide) (by decide) (by omega) (by omega) W)
      have HP1 := Lib.hid (fun (W : World) => pputB_any 1 u (u : Int) 1 rfl rfl (by decide) (by decide) (by omega) (by omega) W)
      obtain ⟨A0, hA0⟩ : ∃ A, A = str (beL 1 kd) := ⟨_, rfl⟩
      rw [← hA0] at HP0
      have sA0 : A0.size = 1 := by rw [hA0, str_size, beL_len]
      have HA0 := Lib.hid hA0
      obtain ⟨A1, hA1⟩ : ∃ A, A = str (beL 1 u) := ⟨_, rfl⟩
      rw [← hA1] at HP1
      have sA1 : A1.size = 1 := by rw [hA1, str_size, beL_len]
      have HA1 := Lib.hid hA1
      clear hA0 hA1
      have hqn : ¬ LetsOut (Exit.then K3 (Exit.inBlock 1 (Exit.then K (fun _ _ _ => False)))) := fun ⟨_, _, h⟩ => h
      refine wpIn_round_specs_tail 10 [.val (Value.int .i64 (kd : Int)), .val (Value.string A0), .val (Value.int .i64 (u : Int)), .val (Value.string A1), .val (Value.string (A0 ++ A1)), .val (Value.pointer (some ⟨Bx, 1, none⟩)), .val (Value.string E), .val (Value.string (A0 ++ A1 ++ E)), .val (Value.string Sx), .val (Value.string (A0 ++ A1 ++ E ++ Sx))] hqn (by kernel_rfl) (by kernel_rfl) (by kernel_rfl) (by kernel_rfl) (by kernel_rfl) (by kernel_rfl) (by kernel_rfl) (by kernel_rfl) (by kernel_rfl) ?_ ?_
      · refine ⟨⟨rfl, ?_⟩, ⟨rfl, ?_⟩, ⟨rfl, ?_⟩, ⟨rfl, ?_⟩, ⟨rfl, ?_⟩, ⟨rfl, ?_⟩, ⟨rfl, ?_⟩, ⟨rfl, ?_⟩, ⟨rfl, ?_⟩, ⟨rfl, ?_⟩, trivial⟩
        · intro a W hbW hk K hK
          have e5 := kvalT hk 5 (Value.pointer (some ⟨gk, 0, none⟩)) (by kernel_rfl)
          clear hk
          have y0 := (hbW.cell (p := ⟨gk, 0, none⟩) HBK2.out.lt).trans HBK2.out.cell
          go_simp
          exact ⟨_, rfl, hK _ _ rfl (Below.refl _ _)⟩
        · intro a W hbW hk K hK
          have e32 := kvalT hk 32 (Value.int .i64 (kd : Int)) (by kernel_rfl)
          clear hk
          go_simp
          refine (HP0.out W).mono ?_
          rintro e w9 ⟨rfl, hb9⟩
          exact ⟨_, rfl, hK _ _ rfl hb9⟩
        · intro a W hbW hk K hK
          have e9 := kvalT hk 9 (Value.int .i64 (u : Int)) (by kernel_rfl)
          clear hk
          go_simp
          exact ⟨_, rfl, hK _ _ rfl (Below.refl _ _)⟩
        · intro a W hbW hk K hK
          have e34 := kvalT hk 34 (Value.int .i64 (u : Int)) (by kernel_rfl)
          clear hk
          go_simp
          refine (HP1.out W).mono ?_
          rintro e w9 ⟨rfl, hb9⟩
          exact ⟨_, rfl, hK _ _ rfl hb9⟩
        · intro a W hbW hk K hK
          have e33 := kvalT hk 33 (Value.string A0) (by kernel_rfl)
          have e35 := kvalT hk 35 (Value.string A1) (by kernel_rfl)
          clear hk
          have u1 : (9223372036854775807 < A0.size + A1.size) = False := by simp only [eq_iff_iff, iff_false]; omega
          go_simp
          exact ⟨_, rfl, hK _ _ rfl (Below.refl _ _)⟩
        · intro a W hbW hk K hK
          have e8 := kvalT hk 8 (Value.pointer (some ⟨Bx, 0, none⟩)) (by kernel_rfl)
          clear hk
          go_simp
          exact ⟨_, rfl, hK _ _ rfl (Below.refl _ _)⟩
        · intro a W hbW hk K hK
          have e37 := kvalT hk 37 (Value.pointer (some ⟨Bx, 1, none⟩)) (by kernel_rfl)
          clear hk
          have y0 := (hbW.cell (p := ⟨Bx, 1, none⟩) HXB.out.lt).trans ((Cells.cell HXB.out 1).trans (show _ = some (Value.string E) from rfl))
          go_simp
          exact ⟨_, rfl, hK _ _ rfl (Below.refl _ _)⟩
        · intro a W hbW hk K hK
          have e36 := kvalT hk 36 (Value.string (A0 ++ A1)) (by kernel_rfl)
          have e38 := kvalT hk 38 (Value.string E) (by kernel_rfl)
          clear hk
          have u3 : (9223372036854775807 < 2 + y) = False := by simp only [eq_iff_iff, iff_false]; omega
          have u1 : (9223372036854775807 < (A0 ++ A1).size + E.size) = False := by simp only [eq_iff_iff, iff_false, ByteArray.size_append]; omega
          have u2 : (9223372036854775807 < A0.size + A1.size + E.size) = False := by simp only [eq_iff_iff, iff_false]; omega
          go_simp
          exact ⟨_, rfl, hK _ _ rfl (Below.refl _ _)⟩
        · intro a W hbW hk K hK
          have e6 := kvalT hk 6 (Value.pointer (some ⟨gh, 0, none⟩)) (by kernel_rfl)
          clear hk
          have y0 := (hbW.cell (p := ⟨gh, 0, none⟩) HBH2.out.lt).trans HBH2.out.cell
          go_simp
          exact ⟨_, rfl, hK _ _ rfl (Below.refl _ _)⟩
        · intro a W hbW hk K hK
          have e39 := kvalT hk 39 (Value.string (A0 ++ A1 ++ E)) (by kernel_rfl)
          have e40 := kvalT hk 40 (Value.string Sx) (by kernel_rfl)
          clear hk
          have u3 : (9223372036854775807 < 2 + y + Sx.size) = False := by simp only [eq_iff_iff, iff_false]; omega
          have u1 : (9223372036854775807 < (A0 ++ A1 ++ E).size + Sx.size) = False := by simp only [eq_iff_iff, iff_false, ByteArray.size_append]; omega
          have u2 : (9223372036854775807 < A0.size + A1.size + E.size + Sx.size) = False := by simp only [eq_iff_iff, iff_false]; omega
          go_simp
          exact ⟨_, rfl, hK _ _ rfl (Below.refl _ _)⟩
      · intro w5 hb5
        simp only [List.take_succ_cons, List.take_zero, List.drop_succ_cons, List.drop_zero, endT]
        have hH5 := (hb5.block gh HBH2.out.lt).trans HBH2.out
        have hK5 := (hb5.block gk HBK2.out.lt).trans HBK2.out
        have y1 := Cells.cell hH5 0
        have z1 := Cells.frozen hH5 0
        have yl := Cells.lt hH5
        have HB5 := Lib.hid hb5
        have HH5 := Lib.hid hH5
        have HK5 := Lib.hid hK5
        clear hb5 hH5 hK5
        go_wp2_with fail
        refine HK3.out _ _ ?_
        have hne : gh ≠ gk := by have := HSZ.out; omega
        have HNE2 := Lib.hid hne
        have hX6 := Cells.far (Cells.kept HXB.out HB5.out HXB.out.lt) (fun e => HNE.out.2 e.symm) (i := 0) (.string (A0 ++ A1 ++ E ++ Sx))
        have hK6 := Cells.far HK5.out (fun e => HNE2.out e.symm) (i := 0) (.string (A0 ++ A1 ++ E ++ Sx))
        have c0 := (Cells.cell hX6 0).trans (show _ = some (Value.int .i64 k) from rfl)
        have c2 := Cells.cell hK6 0
        have z2 := Cells.frozen hK6 0
        have yl2 := Cells.lt hK6
        have HK6 := Lib.hid hK6
        clear y1 z1 yl hne hX6 hK6
        gi_wp2
        have hz := HSZ.out
        have hlk := HBK2.out.lt
        have hlh := HBH2.out.lt
        refine HK.out _ _ ((KeepsFrom.trans ⟨HB5.out.size, fun j o _ hj _ => (HB5.out.block j (Array.getElem?_eq_some_iff.1 hj).1).trans hj⟩ ((KeepsOthers.setCell _ _ _).from _)).trans ((KeepsOthers.setCell _ _ _).from _)) (fun j hj h1 h2 => ?_) (((HB5.out.mono (by omega)).setCell (p := ⟨gh, 0, none⟩) (by simp only; omega) _).setCell (p := ⟨gk, 0, none⟩) (by simp only; omega) _) (Boxed.set _ HK6.out) ?_
        · exact (Below.heap_setCell _ ⟨gk, 0, none⟩ _ j (by simp only; omega)).trans ((Below.heap_setCell _ ⟨gh, 0, none⟩ _ j (by simp only; omega)).trans (HB5.out.block j hj))
        · have e := (Boxed.set (.string (A0 ++ A1 ++ E ++ Sx)) HH5.out).other (B' := gk) (fun e => HNE2.out e) (.int .i64 k)
          rw [show str (hdr12 ⟨k, dat⟩ kd S) = A0 ++ A1 ++ E ++ Sx by
            rw [HA0.out, HA1.out, HE.out, HSX.out, beL_one12, beL_one12]
            unfold hdr12
            rw [← HU.out]
            simp only [str_append, List.cons_append, List.nil_append]]
          exact e
    case done =>
      intro Dm WD hDl bk bh hkp hKd
      obtain ⟨KN, hKN⟩ : ∃ k, k = (wrX l k0 b0).1 := ⟨_, rfl⟩
      have hKNl : KN < 256 := by rw [hKN]; exact wrX_nx l k0 b0 HOK.out HB8.out.1
      rw [← hKN] at bk
      obtain ⟨HT, hHT⟩ : ∃ b, b = str (wrX l k0 b0).2 := ⟨_, rfl⟩
      rw [← hHT] at bh
      obtain ⟨tt, htt⟩ : ∃ t, t = HT.size + D.size := ⟨_, rfl⟩
      have htl : (bodX p).2.length = tt := by rw [HBOD.out, htt, hHT, HDD.out, str_size, str_size, List.length_append]
      have htt16 : tt ≤ 65535 := by rw [← htl]; exact HLEN.out
      have ktt : (HT.size : Int) + (D.size : Int) = (tt : Int) := by omega
      have hHTs : HT.size ≤ 65535 := by omega
      have hDs : D.size ≤ 65535 := by omega
      have HKN := Lib.hid hKN
      have HHT := Lib.hid hHT
      have HTL := Lib.hid htl
      have HBD := Lib.hid ((HBB.out.trans (HLBel.out.mono HBB.out.size)).trans hkp.1.1)
      have HDW := Lib.hid (Below.refl WD.heap.size WD)
      have HBK3 := Lib.hid bk
      have HBH3 := Lib.hid bh
      have HKD := Lib.hid hKd
      have HDL := Lib.hid (show W1.heap.size ≤ Dm from Nat.le_trans (HBB.out.trans (HLBel.out.mono HBB.out.size)).size hDl)
      clear hDl hkp hKd bk bh hKN hHT htt htl hz hzb
      obtain ⟨C20, hC20⟩ : ∃ x, x = C * 1048576 := ⟨_, rfl⟩
      have kC : (C : Int) * 1048576 = (C20 : Int) := by omega
      obtain ⟨V1, hV1⟩ : ∃ x, x = 1610612736 + C20 := ⟨_, rfl⟩
      have kV1 : bits .or .i64 1610612736 (C20 : Int) = (V1 : Int) := by rw [hV1]; exact or_low12 1610612736 C20 28 1610612736 rfl (by decide) (by omega) (by omega)
      obtain ⟨V, hV⟩ : ∃ x, x = V1 + L := ⟨_, rfl⟩
      have kV : bits .or .i64 (V1 : Int) (L : Int) = (V : Int) := by rw [hV]; exact or_low12 V1 L 20 (V1 : Int) rfl (by omega) (by omega) (by omega)
      have hVl : V ≤ 1879048191 := by omega
      have hC20l : C20 ≤ 267386880 := by omega
      have HV3 := Lib.hid (show V = 6 * 268435456 + C * 1048576 + L by omega)
      clear hC20 hV1 hV
      have HPV := Lib.hid (fun (W : World) => pputB_any 4 V (V : Int) 4 rfl rfl (by decide) (by decide) (by omega) (by omega) W)
      obtain ⟨A0, hA0⟩ : ∃ A, A = str (beL 4 V) := ⟨_, rfl⟩
      rw [← hA0] at HPV
      have sA0 : A0.size = 4 := by rw [hA0, str_size, beL_len]
      have HA0 := Lib.hid hA0
      clear hA0
      have HPN := Lib.hid (fun (W : World) => pputB_any 2 tt (tt : Int) 2 rfl rfl (by decide) (by decide) (by omega) (by omega) W)
      obtain ⟨A1, hA1⟩ : ∃ A, A = str (beL 2 tt) := ⟨_, rfl⟩
      rw [← hA1] at HPN
      have sA1 : A1.size = 2 := by rw [hA1, str_size, beL_len]
      have HA1 := Lib.hid hA1
      clear hA1
      have HPK := Lib.hid (fun (W : World) => pputB_any 1 KN (KN : Int) 1 rfl rfl (by decide) (by decide) (by omega) (by omega) W)
      obtain ⟨B0, hB0⟩ : ∃ A, A = str (beL 1 KN) := ⟨_, rfl⟩
      rw [← hB0] at HPK
      have sB0 : B0.size = 1 := by rw [hB0, str_size, beL_len]
      have HB0' := Lib.hid hB0
      clear hB0
      have HPH := Lib.hid (fun (W : World) => pputB_any 1 H (H : Int) 1 rfl rfl (by decide) (by decide) (by omega) (by omega) W)
      obtain ⟨B1, hB1⟩ : ∃ A, A = str (beL 1 H) := ⟨_, rfl⟩
      rw [← hB1] at HPH
      have sB1 : B1.size = 1 := by rw [hB1, str_size, beL_len]
      have HB1' := Lib.hid hB1
      clear hB1
      have HPS := Lib.hid (fun (W : World) => show Calls Try.prog 34 #[.agg #[.bool true, .int .u64 (sh : Int), .int .u64 (sl : Int)]] W fun e w' => e = .returned (.string (str (beL 8 sh ++ beL 8 sl))) ∧ Below W.heap.size W w' from qbytes_any true sh sl W hsh hsl)
      obtain ⟨B2, hB2⟩ : ∃ A, A = str (beL 8 sh ++ beL 8 sl) := ⟨_, rfl⟩
      rw [← hB2] at HPS
      have sB2 : B2.size = 16 := by rw [hB2, str_size, List.length_append, beL_len, beL_len]
      have HB2' := Lib.hid hB2
      clear hB2
      have HPD := Lib.hid (fun (W : World) => show Calls Try.prog 34 #[.agg #[.bool true, .int .u64 (dh : Int), .int .u64 (dl : Int)]] W fun e w' => e = .returned (.string (str (beL 8 dh ++ beL 8 dl))) ∧ Below W.heap.size W w' from qbytes_any true dh dl W hdh hdl)
      obtain ⟨B3, hB3⟩ : ∃ A, A = str (beL 8 dh ++ beL 8 dl) := ⟨_, rfl⟩
      rw [← hB3] at HPD
      have sB3 : B3.size = 16 := by rw [hB3, str_size, List.length_append, beL_len, beL_len]
      have HB3' := Lib.hid hB3
      clear hB3
      simp only [Exit.inBlock, Exit.then]
      have u0 : (9223372036854775807 < A0.size + A1.size) = False := by simp only [eq_iff_iff, iff_false]; omega
      go_upto_region 13 with fail
      refine wp_region_pick (fun w' => Below WD.heap.size WD w') (by kernel_rfl) (by kernel_rfl) (Below.refl _ _) ⟨rfl, rfl, rfl, Nat.le_refl _, fun _ _ => rfl⟩ (fun pw hp hq => ?_)
      have y0 : ∀ u, (pw u).cell? ⟨g, 0, none⟩ = some (.int .i64 (C : Int)) := fun u => HV.out _ (HBD.out.trans ((hp u).mono HBD.out.size)) 0 _ rfl
      have y1 : ∀ u, (pw u).cell? ⟨g, 1, none⟩ = some (.int .i64 (L : Int)) := fun u => HV.out _ (HBD.out.trans ((hp u).mono HBD.out.size)) 1 _ rfl
      have y15 : ∀ u, (pw u).cell? ⟨g, 15, none⟩ = some (.string D) := fun u => HV.out _ (HBD.out.trans ((hp u).mono HBD.out.size)) 15 _ rfl
      have yh : ∀ u, (pw u).cell? ⟨gh, 0, none⟩ = some (.string HT) := fun u => ((HDW.out.trans ((hp u).mono HDW.out.size)).cell (p := ⟨gh, 0, none⟩) HBH3.out.lt).trans HBH3.out.cell
      have HP := Lib.hid hp
      have HQ := Lib.hid hq
      clear hp hq
      repeat (go_big_quiet_step ((first | with_reducible exact Calls.pick_of HQ.out (fun W' hb => (HP.out _).trans (hb.mono (HP.out _).size)) (HPV.out _) | with_reducible exact Calls.pick_of HQ.out (fun W' hb => (HP.out _).trans (hb.mono (HP.out _).size)) (HPN.out _))))
      refine wpQuiet_nil ?_
      rintro _ ⟨u, rfl⟩
      have HB5 := Lib.hid (HBD.out.trans ((HP.out u).mono HBD.out.size))
      have HD5 := Lib.hid (HDW.out.trans ((HP.out u).mono HDW.out.size))
      generalize pw u = w5 at *
      clear HP HQ y0 y1 y15 HBD HPV HPN u0 kC kV1 kV ktt yh
      obtain ⟨G1, hG1⟩ : ∃ G, G = A0 ++ A1 := ⟨_, rfl⟩
      have sG1 : G1.size = 6 := by rw [hG1, ByteArray.size_append]; omega
      rw [← hG1]
      have HG1 := Lib.hid hG1
      clear hG1
      have u0 : (9223372036854775807 < B0.size + B1.size) = False := by simp only [eq_iff_iff, iff_false]; omega
      have u1 : (9223372036854775807 < B0.size + B1.size + B2.size) = False := by simp only [eq_iff_iff, iff_false]; omega
      have u1a : (9223372036854775807 < (B0 ++ B1).size + B2.size) = False := by simp only [eq_iff_iff, iff_false, ByteArray.size_append]; omega
      have u2 : (9223372036854775807 < B0.size + B1.size + B2.size + B3.size) = False := by simp only [eq_iff_iff, iff_false]; omega
      have u2a : (9223372036854775807 < (B0 ++ B1 ++ B2).size + B3.size) = False := by simp only [eq_iff_iff, iff_false, ByteArray.size_append]; omega
      have u3 : (9223372036854775807 < G1.size + (B0.size + B1.size + B2.size + B3.size)) = False := by simp only [eq_iff_iff, iff_false]; omega
      have u3a : (9223372036854775807 < G1.size + (B0 ++ B1 ++ B2 ++ B3).size) = False := by simp only [eq_iff_iff, iff_false, ByteArray.size_append]; omega
      go_upto_region 14 with fail
      refine wp_region_pick (fun w' => Below w5.heap.size w5 w') (by kernel_rfl) (by kernel_rfl) (Below.refl _ _) ⟨rfl, rfl, rfl, Nat.le_refl _, fun _ _ => rfl⟩ (fun pw hp hq => ?_)
      have y2 : ∀ u, (pw u).cell? ⟨g, 2, none⟩ = some (.int .i64 (H : Int)) := fun u => HV.out _ (HB5.out.trans ((hp u).mono HB5.out.size)) 2 _ rfl
      have y4 : ∀ u, (pw u).cell? ⟨g, 4, none⟩ = some (.bool true) := fun u => HV.out _ (HB5.out.trans ((hp u).mono HB5.out.size)) 4 _ rfl
      have y5 : ∀ u, (pw u).cell? ⟨g, 5, none⟩ = some (.int .u64 (sh : Int)) := fun u => HV.out _ (HB5.out.trans ((hp u).mono HB5.out.size)) 5 _ rfl
      have y6 : ∀ u, (pw u).cell? ⟨g, 6, none⟩ = some (.int .u64 (sl : Int)) := fun u => HV.out _ (HB5.out.trans ((hp u).mono HB5.out.size)) 6 _ rfl
      have y7 : ∀ u, (pw u).cell? ⟨g, 7, none⟩ = some (.bool true) := fun u => HV.out _ (HB5.out.trans ((hp u).mono HB5.out.size)) 7 _ rfl
      have y8 : ∀ u, (pw u).cell? ⟨g, 8, none⟩ = some (.int .u64 (dh : Int)) := fun u => HV.out _ (HB5.out.trans ((hp u).mono HB5.out.size)) 8 _ rfl
      have y9 : ∀ u, (pw u).cell? ⟨g, 9, none⟩ = some (.int .u64 (dl : Int)) := fun u => HV.out _ (HB5.out.trans ((hp u).mono HB5.out.size)) 9 _ rfl
      have yk : ∀ u, (pw u).cell? ⟨gk, 0, none⟩ = some (.int .i64 (KN : Int)) := fun u => ((HD5.out.trans ((hp u).mono HD5.out.size)).cell (p := ⟨gk, 0, none⟩) HBK3.out.lt).trans HBK3.out.cell
      have HP := Lib.hid hp
      have HQ := Lib.hid hq
      clear hp hq
      repeat (go_big_quiet_step ((first | with_reducible exact Calls.pick_of HQ.out (fun W' hb => (HP.out _).trans (hb.mono (HP.out _).size)) (HPK.out _) | with_reducible exact Calls.pick_of HQ.out (fun W' hb => (HP.out _).trans (hb.mono (HP.out _).size)) (HPH.out _) | with_reducible exact Calls.pick_of HQ.out (fun W' hb => (HP.out _).trans (hb.mono (HP.out _).size)) (HPS.out _) | with_reducible exact Calls.pick_of HQ.out (fun W' hb => (HP.out _).trans (hb.mono (HP.out _).size)) (HPD.out _))))
      refine wpQuiet_nil ?_
      rintro _ ⟨u, rfl⟩
      have HB6 := Lib.hid (HB5.out.trans ((HP.out u).mono HB5.out.size))
      have HD6 := Lib.hid (HD5.out.trans ((HP.out u).mono HD5.out.size))
      generalize pw u = w6 at *
      clear HP HQ y2 y4 y5 y6 y7 y8 y9 HB5 HPK HPH HPS HPD u0 u1 u1a u2 u2a u3 u3a yk
      obtain ⟨G2, hG2⟩ : ∃ G, G = G1 ++ (B0 ++ B1 ++ B2 ++ B3) := ⟨_, rfl⟩
      have sG2 : G2.size = 40 := by rw [hG2]; simp only [ByteArray.size_append]; omega
      rw [← hG2]
      have HG2 := Lib.hid hG2
      clear hG2
      have x15 := HV.out _ HB6.out 15 (.string D) rfl
      have yh := (HD6.out.cell (p := ⟨gh, 0, none⟩) HBH3.out.lt).trans HBH3.out.cell
      have u0 : (9223372036854775807 < G2.size + HT.size) = False := by simp only [eq_iff_iff, iff_false]; omega
      have u1 : (9223372036854775807 < G2.size + HT.size + D.size) = False := by simp only [eq_iff_iff, iff_false]; omega
      have u1a : (9223372036854775807 < (G2 ++ HT).size + D.size) = False := by simp only [eq_iff_iff, iff_false, ByteArray.size_append]; omega
      have u3 : (9223372036854775807 < 40 + HT.size) = False := by simp only [eq_iff_iff, iff_false]; omega
      have u4 : (9223372036854775807 < 40 + HT.size + D.size) = False := by simp only [eq_iff_iff, iff_false]; omega
      go_wp2_with fail
      have hKd := (HD6.out.block Dm (Array.getElem?_eq_some_iff.1 HKD.out).1).trans HKD.out
      refine ⟨by simp, .inl ⟨_, _, rfl, run_takeDeferred hKd, ?_⟩⟩
      refine ⟨_, results_tmp2 rfl _ _ _, ?_, (HW.out _ HB6.out).trans (belowK_b (w := W1) HB1.out.size w6 Dm _ _ HDL.out hKd rfl rfl)⟩
      rw [show str (hdX p ++ (bodX p).2) = G2 ++ HT ++ D by
        rw [HG2.out, HG1.out, HA0.out, HA1.out, HB0'.out, HB1'.out, HB2'.out, HB3'.out, HHT.out, HDD.out, beL_one12, beL_one12]
        unfold hdX
        rw [HTL.out, HBOD.out, HPE.out, HV3.out, HKN.out]
        simp only [Int.toNat_natCast, str_append, List.append_assoc, List.cons_append, List.nil_append]]
      rfl
end Go.Proofs.Ytjjldolafnfpoaa
