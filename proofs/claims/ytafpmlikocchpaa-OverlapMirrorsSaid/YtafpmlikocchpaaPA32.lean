/- Contracts of the functions, part 32: OvPComb. -/
import Derived.Deep.Cut
import Derived.Test.YtafpmlikocchpaaPA13
import Derived.Test.YtafpmlikocchpaaPA27
/- Contract of the program of layer 15: combined. -/
namespace Go.Proofs.Ytafpmlikocchpaa
open Go.ChangeShapes Go.WideShapes Go.ChangeAt Go.RowKit
set_option linter.unusedVariables false
set_option maxRecDepth 100000

theorem putB_grown {g : Nat} : ∀ (vs : List Value) (k : Nat) (w : World), w.grownBy (putB w g k vs) (some g)
  | [], k, w => ⟨rfl, rfl, rfl, Nat.le_refl _, fun _ _ _ => rfl⟩
  | v :: r, k, w => by
    obtain ⟨a1, a2, a3, a4, a5⟩ := putB_grown (g := g) r (k + 1) (w.setCell ⟨g, k, none⟩ v)
    exact ⟨a1, a2, a3, by rw [putB_size]; exact Nat.le_refl _, fun j _ hj => putB_far (fun e => hj (by rw [e])) (v :: r) k w⟩
/-- The parts that come back: a row that the caller owns. -/
def CombP (w : World) (R : List PcR) (e : Ending) (w' : World) : Prop :=
  ∃ A m c, e = .returned (.slice A m c) ∧ OwnE EPc 23 w' w.heap.size A m c R ∧ Below w.heap.size w w'
theorem comb_nil (pol : Int) (nx : PcR) (done : Int) : combL pol nx done [] = [clipP nx done nx.to_] := rfl
theorem comb_cons (pol : Int) (nx : PcR) (done : Int) (x : PcR) (r : List PcR) : combL pol nx done (x :: r) = combP pol nx done x ++ combL pol nx (endQ x) r := rfl
set_option maxHeartbeats 32000000 in
theorem pcomb15_any (l : List PcR) (A : Option Addr) (c : Nat) (a e pol : Int) (b : List UInt8) (B : ByteArray) (w : World) (h : RowL EPc w A l) (hl : l.length ≤ 100000) (hv : vldL l) (hB : B = str b) (hb : b.length ≤ 1000000000) (h0 : 0 ≤ a) (ha : a ≤ 2147483648) (he : e = a + b.length) :
    Calls Try.prog 31 #[.slice A l.length c, .agg #[.int .i64 a, .string B, .int .i64 a, .int .i64 e], .int .i64 pol] w (CombP w (combL pol ⟨a, b, a, e⟩ a l)) := by
  obtain ⟨n, hnl⟩ : ∃ n, n = l.length := ⟨_, rfl⟩
  rw [← hnl] at hl ⊢
  obtain ⟨T, hT⟩ : ∃ T, T = combL pol ⟨a, b, a, e⟩ a l := ⟨_, rfl⟩
  rw [← hT]
  have HI0 := Lib.hid (show [] ++ combL pol ⟨a, b, a, e⟩ a (l.drop 0) = T by rw [hT, List.drop_zero, List.nil_append])
  have HN := Lib.hid hnl
  have HS := Lib.hid h
  have HV := Lib.hid hv
  have HBB := Lib.hid (And.intro hB he)
  have hB1 := hB
  obtain ⟨W1, hW1⟩ : ∃ W, W = w.alloc (.cells #[.int .i64 a, .string B, .int .i64 a, .int .i64 e] 23) := ⟨_, rfl⟩
  obtain ⟨g, hg⟩ : ∃ g, g = w.heap.size := ⟨_, rfl⟩
  obtain ⟨bs, hbs⟩ : ∃ g, g = w.heap.size + 1 := ⟨_, rfl⟩
  have HX0 := Lib.hid (show Cells W1 g 23 #[.int .i64 a, .string B, .int .i64 a, .int .i64 e] by rw [hW1, hg]; exact heap_alloc_new w _)
  have HB0 := Lib.hid (show Below w.heap.size w W1 by rw [hW1]; exact below_alloc6 w _)
  have HBS := Lib.hid (show bs = g + 1 ∧ g = w.heap.size by omega)
  have HWB := Lib.hid (show w.heap.size ≤ bs by omega)
  have HO0 := Lib.hid (OwnE.nil (E := EPc) (e := 23) W1 bs)
  have HW1 := Lib.hid hW1
  have HG := Lib.hid hg
  clear hnl h hv hW1 hg hbs hT hB hB1 he
  go_enter Try.func31, Try.ntmps31
  go_upto_region 1 with fail
  rw [← HW1.out, ← HG.out]
  clear HW1 HG
  have x0 := (Cells.cell HX0.out 0).trans (show _ = some (Value.int .i64 a) from rfl)
  go_wp2_with fail
  clear x0
  go_loopw [7, 8, 16] (fun s7 s8 s16 wr => ∃ (k m c2 : Nat) (A2 : Option Addr) (out : List PcR) (done : Int), s7 = .slice A2 m c2 ∧ s8 = .int .i64 done ∧ s16 = .int .i64 (k : Int) ∧ k ≤ n ∧ m ≤ 4 * k ∧ Hid (out ++ combL pol ⟨a, b, a, e⟩ done (l.drop k) = T) ∧ Hid (OwnE EPc 23 wr bs A2 m c2 out) ∧ Hid (Cells wr g 23 #[.int .i64 a, .string B, .int .i64 a, .int .i64 e]) ∧ Hid (Below w.heap.size w wr)) (fun _ _ i _ => n - (intOf i).toNat)
  case atStart => exact ⟨0, 0, 0, none, [], a, rfl, rfl, rfl, Nat.zero_le _, Nat.zero_le _, HI0, HO0, HX0, HB0⟩
  case round =>
    clear HO0 HX0 HB0 HI0
    obtain ⟨k, m, c2, A2, out, done, rfl, rfl, rfl, hk, hmk, HI, RO0, Pn0, B0⟩ := hrel
    by_cases hlt : k < n
    · obtain ⟨x, hget⟩ : ∃ x, l[k]? = some x := ⟨l[k]'(by have := HN.out; omega), List.getElem?_eq_getElem _⟩
      obtain ⟨ga, oa, rfl, hga⟩ := HS.out.shapeA (by have := HN.out; omega)
      obtain ⟨a0, a1, a2, a3⟩ := pc_at HS.out hget B0.out
      have hki : (k : Int) < (n : Int) := by omega
      have dlt : decide ((k : Int) < (n : Int)) = true := by simp; omega
      have hki0 : (0 : Int) ≤ (k : Int) := by omega
      obtain ⟨v1, v2, v3, v4, v5⟩ := vldF_mem HV.out x (List.mem_of_getElem? hget)
      have hdr : l.drop k = x :: l.drop (k + 1) := by
        obtain ⟨hk', e⟩ := List.getElem?_eq_some_iff.1 hget
        rw [List.drop_eq_getElem_cons hk', e]
      have HIX := Lib.hid (show out ++ (combP pol ⟨a, b, a, e⟩ done x ++ combL pol ⟨a, b, a, e⟩ (endQ x) (l.drop (k + 1))) = T by
        have := HI.out
        rwa [hdr, comb_cons] at this)
      obtain ⟨p, dat, xf, xt⟩ := x
      dsimp only at a0 a1 a2 a3 v1 v2 v3 v4 v5
      obtain ⟨D, hD⟩ : ∃ D, D = str dat := ⟨_, rfl⟩
      have hDs : D.size = dat.length := by rw [hD, str_size]
      rw [← hD] at a1
      obtain ⟨z, hz⟩ : ∃ z, z = p + (D.size : Int) := ⟨_, rfl⟩
      have wz : IntKind.i64.wrap z = z := by rw [IntKind.wrap_i64]; omega
      have hez : endQ ⟨p, dat, xf, xt⟩ = z := by unfold endQ; rw [hz, hDs]
      have HEND := Lib.hid (fun W => pend15 p xf xt z D W hz.symm wz)
      obtain ⟨⟨r1a, r1e, r1f, r1t⟩, hR1⟩ : ∃ R, R = clipP (⟨a, b, a, e⟩ : PcR) done p := ⟨_, rfl⟩
      have HC1 := Lib.hid (fun W => show Calls Try.prog 38 #[.agg #[.int .i64 a, .string B, .int .i64 a, .int .i64 e], .int .i64 done, .int .i64 p] W fun en w' => en = .returned (.agg #[.int .i64 r1a, .string (str r1e), .int .i64 r1f, .int .i64 r1t]) ∧ Below W.heap.size W w' from pclip15 _ _ _ done p b _ ⟨r1a, r1e, r1f, r1t⟩ W HBB.out.1 (by omega) (by omega) (by omega) hR1)
      obtain ⟨⟨r2a, r2e, r2f, r2t⟩, hR2⟩ : ∃ R, R = clipP (⟨p, dat, xf, xt⟩ : PcR) p a := ⟨_, rfl⟩
      have HC2 := Lib.hid (fun W => show Calls Try.prog 38 #[.agg #[.int .i64 p, .string D, .int .i64 xf, .int .i64 xt], .int .i64 p, .int .i64 a] W fun en w' => en = .returned (.agg #[.int .i64 r2a, .string (str r2e), .int .i64 r2f, .int .i64 r2t]) ∧ Below W.heap.size W w' from pclip15 _ _ _ p a dat _ ⟨r2a, r2e, r2f, r2t⟩ W hD (by omega) (by omega) (by omega) hR2)
      obtain ⟨⟨r30a, r30e, r30f, r30t⟩, hR30⟩ : ∃ R, R = clipP (⟨p, dat, xf, xt⟩ : PcR) a e := ⟨_, rfl⟩
      have HC30 := Lib.hid (fun W => show Calls Try.prog 38 #[.agg #[.int .i64 p, .string D, .int .i64 xf, .int .i64 xt], .int .i64 a, .int .i64 e] W fun en w' => en = .returned (.agg #[.int .i64 r30a, .string (str r30e), .int .i64 r30f, .int .i64 r30t]) ∧ Below W.heap.size W w' from pclip15 _ _ _ a e dat _ ⟨r30a, r30e, r30f, r30t⟩ W hD (by omega) (by omega) (by omega) hR30)
      obtain ⟨⟨r31a, r31e, r31f, r31t⟩, hR31⟩ : ∃ R, R = clipP (⟨a, b, a, e⟩ : PcR) p z := ⟨_, rfl⟩
      have HC31 := Lib.hid (fun W => show Calls Try.prog 38 #[.agg #[.int .i64 a, .string B, .int .i64 a, .int .i64 e], .int .i64 p, .int .i64 z] W fun en w' => en = .returned (.agg #[.int .i64 r31a, .string (str r31e), .int .i64 r31f, .int .i64 r31t]) ∧ Below W.heap.size W w' from pclip15 _ _ _ p z b _ ⟨r31a, r31e, r31f, r31t⟩ W HBB.out.1 (by omega) (by omega) (by omega) hR31)
      obtain ⟨⟨r4a, r4e, r4f, r4t⟩, hR4⟩ : ∃ R, R = clipP (⟨p, dat, xf, xt⟩ : PcR) e z := ⟨_, rfl⟩
      have HC4 := Lib.hid (fun W => show Calls Try.prog 38 #[.agg #[.int .i64 p, .string D, .int .i64 xf, .int .i64 xt], .int .i64 e, .int .i64 z] W fun en w' => en = .returned (.agg #[.int .i64 r4a, .string (str r4e), .int .i64 r4f, .int .i64 r4t]) ∧ Below W.heap.size W w' from pclip15 _ _ _ e z dat _ ⟨r4a, r4e, r4f, r4t⟩ W hD (by omega) (by omega) (by omega) hR4)
      obtain ⟨q, hq⟩ : ∃ q, q = winsB pol xf xt a e := ⟨_, rfl⟩
      have HWIN := Lib.hid (fun W => show Calls Try.prog 10 #[.int .i64 pol, .agg #[.int .i64 p, .string D, .int .i64 xf, .int .i64 xt], .agg #[.int .i64 a, .string B, .int .i64 a, .int .i64 e]] W fun en w' => en = .returned (.bool q) ∧ Below W.heap.size W w' from by rw [hq]; exact pwins15_any pol p xf xt a a e D B W)
      have HI30 := Lib.hid (show q = false → (out ++ [⟨r1a, r1e, r1f, r1t⟩, ⟨r2a, r2e, r2f, r2t⟩, ⟨r30a, r30e, r30f, r30t⟩, ⟨r4a, r4e, r4f, r4t⟩]) ++ combL pol ⟨a, b, a, e⟩ z (l.drop (k + 1)) = T from fun hf => by
        have h := HIX.out
        unfold combP at h
        dsimp only at h
        rw [hez] at h
        rw [if_neg (by rw [← hq, hf]; exact Bool.false_ne_true), ← hR1, ← hR2, ← hR30, ← hR4] at h
        rw [List.append_assoc]
        exact h)
      have HI31 := Lib.hid (show q = true → (out ++ [⟨r1a, r1e, r1f, r1t⟩, ⟨r2a, r2e, r2f, r2t⟩, ⟨r31a, r31e, r31f, r31t⟩, ⟨r4a, r4e, r4f, r4t⟩]) ++ combL pol ⟨a, b, a, e⟩ z (l.drop (k + 1)) = T from fun hf => by
        have h := HIX.out
        unfold combP at h
        dsimp only at h
        rw [hez] at h
        rw [if_pos (by rw [← hq, hf]), ← hR1, ← hR2, ← hR31, ← hR4] at h
        rw [List.append_assoc]
        exact h)
      have HQ := Lib.hid (own_blk_in RO0.out.2)
      have B0S := Lib.hid B0.out.size
      clear hget hdr hD hDs hz hez wz v1 v2 v3 v4 v5 HI HIX hq hR1 hR2 hR30 hR31 hR4
      go_upto_region 6 with fail
      obtain ⟨W2, hW⟩ : ∃ W, W = wr.alloc (.cells #[.int .i64 p, .string D, .int .i64 xf, .int .i64 xt] 23) := ⟨_, rfl⟩
      obtain ⟨gx, hg⟩ : ∃ g, g = wr.heap.size := ⟨_, rfl⟩
      have Nx := Lib.hid (show Cells W2 gx 23 #[.int .i64 p, .string D, .int .i64 xf, .int .i64 xt] by rw [hW, hg]; exact heap_alloc_new wr _)
      have hb : Below wr.heap.size wr W2 := by rw [hW]; exact below_alloc6 wr _
      rw [← hW, ← hg]
      have HEx := Lib.hid hg
      clear hW hg
      have Pn1 := Lib.hid (Cells.kept Pn0.out hb Pn0.out.lt)
      have RO1 := Lib.hid (RO0.out.kept hb)
      have B1 := Lib.hid (B0.out.trans (hb.mono B0.out.size))
      clear hb Pn0 RO0 B0
      have Px1 := Nx
      clear Nx
      clear a0 a1 a2 a3
      have xn0 := (Cells.cell Pn1.out 0).trans (show _ = some (Value.int .i64 a) from rfl)
      have xn1 := (Cells.cell Pn1.out 1).trans (show _ = some (Value.string B) from rfl)
      have xn2 := (Cells.cell Pn1.out 2).trans (show _ = some (Value.int .i64 a) from rfl)
      have xn3 := (Cells.cell Pn1.out 3).trans (show _ = some (Value.int .i64 e) from rfl)
      have xx0 := (Cells.cell Px1.out 0).trans (show _ = some (Value.int .i64 p) from rfl)
      have xx1 := (Cells.cell Px1.out 1).trans (show _ = some (Value.string D) from rfl)
      have xx2 := (Cells.cell Px1.out 2).trans (show _ = some (Value.int .i64 xf) from rfl)
      have xx3 := (Cells.cell Px1.out 3).trans (show _ = some (Value.int .i64 xt) from rfl)
      go_wp2_with fail
      refine (HC30.out _).mono ?_
      rintro e w3 ⟨rfl, hb⟩
      clear xn0 xn1 xn2 xn3 xx0 xx1 xx2 xx3
      have Pn2 := Lib.hid (Cells.kept Pn1.out hb Pn1.out.lt)
      have Px2 := Lib.hid (Cells.kept Px1.out hb Px1.out.lt)
      have RO2 := Lib.hid (RO1.out.kept hb)
      have B2 := Lib.hid (B1.out.trans (hb.mono B1.out.size))
      clear hb Pn1 Px1 RO1 B1
      have HXL := Lib.hid Px2.out.lt
      go_upto_region 7 with fail
      obtain ⟨W4, hW⟩ : ∃ W, W = w3.alloc (.cells #[.int .i64 r30a, .string (str r30e), .int .i64 r30f, .int .i64 r30t] 23) := ⟨_, rfl⟩
      obtain ⟨gb, hg⟩ : ∃ g, g = w3.heap.size := ⟨_, rfl⟩
      have Nb := Lib.hid (show Cells W4 gb 23 #[.int .i64 r30a, .string (str r30e), .int .i64 r30f, .int .i64 r30t] by rw [hW, hg]; exact heap_alloc_new w3 _)
      have hb : Below w3.heap.size w3 W4 := by rw [hW]; exact below_alloc6 w3 _
      rw [← hW, ← hg]
      have HEb := Lib.hid hg
      clear hW hg
      have Pn3 := Lib.hid (Cells.kept Pn2.out hb Pn2.out.lt)
      have Px3 := Lib.hid (Cells.kept Px2.out hb Px2.out.lt)
      have RO3 := Lib.hid (RO2.out.kept hb)
      have B3 := Lib.hid (B2.out.trans (hb.mono B2.out.size))
      clear hb Pn2 Px2 RO2 B2
      have Pb3 := Nb
      clear Nb
      have HNB := Lib.hid (show ∀ q : Nat, (Value.slice A2 m c2).ownBlock = some q → q ≠ g ∧ q ≠ gx ∧ q ≠ gb from fun q hq => by
        obtain ⟨q1, q2⟩ := HQ.out q hq
        have q3 := HEx.out
        have q4 := HEb.out
        have q5 := HXL.out
        have q6 := HBS.out
        omega)
      have HNG := Lib.hid (show g ≠ gb ∧ gx ≠ gb ∧ w.heap.size ≤ gb by
        have q3 := HEx.out
        have q4 := HEb.out
        have q5 := HXL.out
        have q6 := HBS.out
        have q7 := B0S.out
        omega)
      clear HQ HEx HEb HXL B0S
      have xn0 := (Cells.cell Pn3.out 0).trans (show _ = some (Value.int .i64 a) from rfl)
      have xn1 := (Cells.cell Pn3.out 1).trans (show _ = some (Value.string B) from rfl)
      have xn2 := (Cells.cell Pn3.out 2).trans (show _ = some (Value.int .i64 a) from rfl)
      have xn3 := (Cells.cell Pn3.out 3).trans (show _ = some (Value.int .i64 e) from rfl)
      have xx0 := (Cells.cell Px3.out 0).trans (show _ = some (Value.int .i64 p) from rfl)
      have xx1 := (Cells.cell Px3.out 1).trans (show _ = some (Value.string D) from rfl)
      have xx2 := (Cells.cell Px3.out 2).trans (show _ = some (Value.int .i64 xf) from rfl)
      have xx3 := (Cells.cell Px3.out 3).trans (show _ = some (Value.int .i64 xt) from rfl)
      have xb0 := (Cells.cell Pb3.out 0).trans (show _ = some (Value.int .i64 r30a) from rfl)
      have xb1 := (Cells.cell Pb3.out 1).trans (show _ = some (Value.string (str r30e)) from rfl)
      have xb2 := (Cells.cell Pb3.out 2).trans (show _ = some (Value.int .i64 r30f) from rfl)
      have xb3 := (Cells.cell Pb3.out 3).trans (show _ = some (Value.int .i64 r30t) from rfl)
      go_wp2_with fail
      refine (HWIN.out _).mono ?_
      rintro e w5 ⟨rfl, hb⟩
      clear xn0 xn1 xn2 xn3 xx0 xx1 xx2 xx3 xb0 xb1 xb2 xb3
      have Pn4 := Lib.hid (Cells.kept Pn3.out hb Pn3.out.lt)
      have Px4 := Lib.hid (Cells.kept Px3.out hb Px3.out.lt)
      have Pb4 := Lib.hid (Cells.kept Pb3.out hb Pb3.out.lt)
      have RO4 := Lib.hid (RO3.out.kept hb)
      have B4 := Lib.hid (B3.out.trans (hb.mono B3.out.size))
      clear hb Pn3 Px3 Pb3 RO3 B3
      cases q
      · have HCI := Lib.hid (HI30.out rfl)
        clear HI30 HI31 HC31 HC30 HWIN
        go_upto_region 9 with fail
        refine wp_region_specs_tail 20 [.val (Value.slice A2 m c2), .val (Value.agg #[.int .i64 a, .string B, .int .i64 a, .int .i64 e]), .val (Value.int .i64 done), .val (Value.pointer (some ⟨gx, 0, none⟩)), .val (Value.int .i64 p), .val (Value.agg #[.int .i64 r1a, .string (str r1e), .int .i64 r1f, .int .i64 r1t]), .val (Value.agg #[.int .i64 p, .string D, .int .i64 xf, .int .i64 xt]), .val (Value.pointer (some ⟨gx, 0, none⟩)), .val (Value.int .i64 p), .val (Value.pointer (some ⟨g, 0, none⟩)), .val (Value.int .i64 a), .val (Value.agg #[.int .i64 r2a, .string (str r2e), .int .i64 r2f, .int .i64 r2t]), .val (Value.agg #[.int .i64 r30a, .string (str r30e), .int .i64 r30f, .int .i64 r30t]), .val (Value.agg #[.int .i64 p, .string D, .int .i64 xf, .int .i64 xt]), .val (Value.pointer (some ⟨g, 3, none⟩)), .val (Value.int .i64 e), .val (Value.agg #[.int .i64 p, .string D, .int .i64 xf, .int .i64 xt]), .val (Value.int .i64 z), .val (Value.agg #[.int .i64 r4a, .string (str r4e), .int .i64 r4f, .int .i64 r4t]), .row #[.int .i64 r1a, .string (str r1e), .int .i64 r1f, .int .i64 r1t, .int .i64 r2a, .string (str r2e), .int .i64 r2f, .int .i64 r2t, .int .i64 r30a, .string (str r30e), .int .i64 r30f, .int .i64 r30t, .int .i64 r4a, .string (str r4e), .int .i64 r4f, .int .i64 r4t] 23 4] (by kernel_rfl) (by kernel_rfl) (by kernel_rfl) (by kernel_rfl) (by kernel_rfl) (by kernel_rfl) (by kernel_rfl) (by kernel_rfl) ?_ ?_
        · refine ⟨⟨rfl, ?_⟩, ⟨rfl, ?_⟩, ⟨rfl, ?_⟩, ⟨rfl, ?_⟩, ⟨rfl, ?_⟩, ⟨rfl, ?_⟩, ⟨rfl, ?_⟩, ⟨rfl, ?_⟩, ⟨rfl, ?_⟩, ⟨rfl, ?_⟩, ⟨rfl, ?_⟩, ⟨rfl, ?_⟩, ⟨rfl, ?_⟩, ⟨rfl, ?_⟩, ⟨rfl, ?_⟩, ⟨rfl, ?_⟩, ⟨rfl, ?_⟩, ⟨rfl, ?_⟩, ⟨rfl, ?_⟩, ⟨rfl, ?_⟩, trivial⟩
          · intro ac W hbW hk K hK
            have e7 := kvalT hk 7 (Value.slice A2 m c2) (by kernel_rfl)
            clear hk
            go_simp
            exact ⟨_, rfl, hK _ _ rfl (Below.refl _ _)⟩
          · intro ac W hbW hk K hK
            have e4 := kvalT hk 4 (Value.pointer (some ⟨g, 0, none⟩)) (by kernel_rfl)
            clear hk
            have y0 := (Cells.cell (Cells.kept Pn4.out hbW Pn4.out.lt) 0).trans (show _ = some (Value.int .i64 a) from rfl)
            have y1 := (Cells.cell (Cells.kept Pn4.out hbW Pn4.out.lt) 1).trans (show _ = some (Value.string B) from rfl)
            have y2 := (Cells.cell (Cells.kept Pn4.out hbW Pn4.out.lt) 2).trans (show _ = some (Value.int .i64 a) from rfl)
            have y3 := (Cells.cell (Cells.kept Pn4.out hbW Pn4.out.lt) 3).trans (show _ = some (Value.int .i64 e) from rfl)
            go_simp
            exact ⟨_, rfl, hK _ _ rfl (Below.refl _ _)⟩
          · intro ac W hbW hk K hK
            have e8 := kvalT hk 8 (Value.int .i64 done) (by kernel_rfl)
            clear hk
            go_simp
            exact ⟨_, rfl, hK _ _ rfl (Below.refl _ _)⟩
          · intro ac W hbW hk K hK
            have e10 := kvalT hk 10 (Value.pointer (some ⟨gx, 0, none⟩)) (by kernel_rfl)
            clear hk
            go_simp
            exact ⟨_, rfl, hK _ _ rfl (Below.refl _ _)⟩
          · intro ac W hbW hk K hK
            have e39 := kvalT hk 39 (Value.pointer (some ⟨gx, 0, none⟩)) (by kernel_rfl)
            clear hk
            have y0 := (Cells.cell (Cells.kept Px4.out hbW Px4.out.lt) 0).trans (show _ = some (Value.int .i64 p) from rfl)
            have y1 := (Cells.cell (Cells.kept Px4.out hbW Px4.out.lt) 1).trans (show _ = some (Value.string D) from rfl)
            have y2 := (Cells.cell (Cells.kept Px4.out hbW Px4.out.lt) 2).trans (show _ = some (Value.int .i64 xf) from rfl)
            have y3 := (Cells.cell (Cells.kept Px4.out hbW Px4.out.lt) 3).trans (show _ = some (Value.int .i64 xt) from rfl)
            go_simp
            exact ⟨_, rfl, hK _ _ rfl (Below.refl _ _)⟩
          · intro ac W hbW hk K hK
            have e37 := kvalT hk 37 (Value.agg #[.int .i64 a, .string B, .int .i64 a, .int .i64 e]) (by kernel_rfl)
            have e38 := kvalT hk 38 (Value.int .i64 done) (by kernel_rfl)
            have e40 := kvalT hk 40 (Value.int .i64 p) (by kernel_rfl)
            clear hk
            go_simp
            refine (HC1.out W).mono ?_
            rintro e w9 ⟨rfl, hb9⟩
            exact ⟨_, rfl, hK _ _ rfl hb9⟩
          · intro ac W hbW hk K hK
            have e10 := kvalT hk 10 (Value.pointer (some ⟨gx, 0, none⟩)) (by kernel_rfl)
            clear hk
            have y0 := (Cells.cell (Cells.kept Px4.out hbW Px4.out.lt) 0).trans (show _ = some (Value.int .i64 p) from rfl)
            have y1 := (Cells.cell (Cells.kept Px4.out hbW Px4.out.lt) 1).trans (show _ = some (Value.string D) from rfl)
            have y2 := (Cells.cell (Cells.kept Px4.out hbW Px4.out.lt) 2).trans (show _ = some (Value.int .i64 xf) from rfl)
            have y3 := (Cells.cell (Cells.kept Px4.out hbW Px4.out.lt) 3).trans (show _ = some (Value.int .i64 xt) from rfl)
            go_simp
            exact ⟨_, rfl, hK _ _ rfl (Below.refl _ _)⟩
          · intro ac W hbW hk K hK
            have e10 := kvalT hk 10 (Value.pointer (some ⟨gx, 0, none⟩)) (by kernel_rfl)
            clear hk
            go_simp
            exact ⟨_, rfl, hK _ _ rfl (Below.refl _ _)⟩
          · intro ac W hbW hk K hK
            have e43 := kvalT hk 43 (Value.pointer (some ⟨gx, 0, none⟩)) (by kernel_rfl)
            clear hk
            have y0 := (Cells.cell (Cells.kept Px4.out hbW Px4.out.lt) 0).trans (show _ = some (Value.int .i64 p) from rfl)
            have y1 := (Cells.cell (Cells.kept Px4.out hbW Px4.out.lt) 1).trans (show _ = some (Value.string D) from rfl)
            have y2 := (Cells.cell (Cells.kept Px4.out hbW Px4.out.lt) 2).trans (show _ = some (Value.int .i64 xf) from rfl)
            have y3 := (Cells.cell (Cells.kept Px4.out hbW Px4.out.lt) 3).trans (show _ = some (Value.int .i64 xt) from rfl)
            go_simp
            exact ⟨_, rfl, hK _ _ rfl (Below.refl _ _)⟩
          · intro ac W hbW hk K hK
            have e4 := kvalT hk 4 (Value.pointer (some ⟨g, 0, none⟩)) (by kernel_rfl)
            clear hk
            go_simp
            exact ⟨_, rfl, hK _ _ rfl (Below.refl _ _)⟩
          · intro ac W hbW hk K hK
            have e45 := kvalT hk 45 (Value.pointer (some ⟨g, 0, none⟩)) (by kernel_rfl)
            clear hk
            have y0 := (Cells.cell (Cells.kept Pn4.out hbW Pn4.out.lt) 0).trans (show _ = some (Value.int .i64 a) from rfl)
            have y1 := (Cells.cell (Cells.kept Pn4.out hbW Pn4.out.lt) 1).trans (show _ = some (Value.string B) from rfl)
            have y2 := (Cells.cell (Cells.kept Pn4.out hbW Pn4.out.lt) 2).trans (show _ = some (Value.int .i64 a) from rfl)
            have y3 := (Cells.cell (Cells.kept Pn4.out hbW Pn4.out.lt) 3).trans (show _ = some (Value.int .i64 e) from rfl)
            go_simp
            exact ⟨_, rfl, hK _ _ rfl (Below.refl _ _)⟩
          · intro ac W hbW hk K hK
            have e42 := kvalT hk 42 (Value.agg #[.int .i64 p, .string D, .int .i64 xf, .int .i64 xt]) (by kernel_rfl)
            have e44 := kvalT hk 44 (Value.int .i64 p) (by kernel_rfl)
            have e46 := kvalT hk 46 (Value.int .i64 a) (by kernel_rfl)
            clear hk
            go_simp
            refine (HC2.out W).mono ?_
            rintro e w9 ⟨rfl, hb9⟩
            exact ⟨_, rfl, hK _ _ rfl hb9⟩
          · intro ac W hbW hk K hK
            have e11 := kvalT hk 11 (Value.pointer (some ⟨gb, 0, none⟩)) (by kernel_rfl)
            clear hk
            have y0 := (Cells.cell (Cells.kept Pb4.out hbW Pb4.out.lt) 0).trans (show _ = some (Value.int .i64 r30a) from rfl)
            have y1 := (Cells.cell (Cells.kept Pb4.out hbW Pb4.out.lt) 1).trans (show _ = some (Value.string (str r30e)) from rfl)
            have y2 := (Cells.cell (Cells.kept Pb4.out hbW Pb4.out.lt) 2).trans (show _ = some (Value.int .i64 r30f) from rfl)
            have y3 := (Cells.cell (Cells.kept Pb4.out hbW Pb4.out.lt) 3).trans (show _ = some (Value.int .i64 r30t) from rfl)
            go_simp
            exact ⟨_, rfl, hK _ _ rfl (Below.refl _ _)⟩
          · intro ac W hbW hk K hK
            have e10 := kvalT hk 10 (Value.pointer (some ⟨gx, 0, none⟩)) (by kernel_rfl)
            clear hk
            have y0 := (Cells.cell (Cells.kept Px4.out hbW Px4.out.lt) 0).trans (show _ = some (Value.int .i64 p) from rfl)
            have y1 := (Cells.cell (Cells.kept Px4.out hbW Px4.out.lt) 1).trans (show _ = some (Value.string D) from rfl)
            have y2 := (Cells.cell (Cells.kept Px4.out hbW Px4.out.lt) 2).trans (show _ = some (Value.int .i64 xf) from rfl)
            have y3 := (Cells.cell (Cells.kept Px4.out hbW Px4.out.lt) 3).trans (show _ = some (Value.int .i64 xt) from rfl)
            go_simp
            exact ⟨_, rfl, hK _ _ rfl (Below.refl _ _)⟩
          · intro ac W hbW hk K hK
            have e4 := kvalT hk 4 (Value.pointer (some ⟨g, 0, none⟩)) (by kernel_rfl)
            clear hk
            go_simp
            exact ⟨_, rfl, hK _ _ rfl (Below.refl _ _)⟩
          · intro ac W hbW hk K hK
            have e50 := kvalT hk 50 (Value.pointer (some ⟨g, 3, none⟩)) (by kernel_rfl)
            clear hk
            have y0 := (Cells.cell (Cells.kept Pn4.out hbW Pn4.out.lt) 0).trans (show _ = some (Value.int .i64 a) from rfl)
            have y1 := (Cells.cell (Cells.kept Pn4.out hbW Pn4.out.lt) 1).trans (show _ = some (Value.string B) from rfl)
            have y2 := (Cells.cell (Cells.kept Pn4.out hbW Pn4.out.lt) 2).trans (show _ = some (Value.int .i64 a) from rfl)
            have y3 := (Cells.cell (Cells.kept Pn4.out hbW Pn4.out.lt) 3).trans (show _ = some (Value.int .i64 e) from rfl)
            go_simp
            exact ⟨_, rfl, hK _ _ rfl (Below.refl _ _)⟩
          · intro ac W hbW hk K hK
            have e10 := kvalT hk 10 (Value.pointer (some ⟨gx, 0, none⟩)) (by kernel_rfl)
            clear hk
            have y0 := (Cells.cell (Cells.kept Px4.out hbW Px4.out.lt) 0).trans (show _ = some (Value.int .i64 p) from rfl)
            have y1 := (Cells.cell (Cells.kept Px4.out hbW Px4.out.lt) 1).trans (show _ = some (Value.string D) from rfl)
            have y2 := (Cells.cell (Cells.kept Px4.out hbW Px4.out.lt) 2).trans (show _ = some (Value.int .i64 xf) from rfl)
            have y3 := (Cells.cell (Cells.kept Px4.out hbW Px4.out.lt) 3).trans (show _ = some (Value.int .i64 xt) from rfl)
            go_simp
            exact ⟨_, rfl, hK _ _ rfl (Below.refl _ _)⟩
          · intro ac W hbW hk K hK
            have e52 := kvalT hk 52 (Value.agg #[.int .i64 p, .string D, .int .i64 xf, .int .i64 xt]) (by kernel_rfl)
            clear hk
            go_simp
            refine (HEND.out W).mono ?_
            rintro e w9 ⟨rfl, hb9⟩
            exact ⟨_, rfl, hK _ _ rfl hb9⟩
          · intro ac W hbW hk K hK
            have e49 := kvalT hk 49 (Value.agg #[.int .i64 p, .string D, .int .i64 xf, .int .i64 xt]) (by kernel_rfl)
            have e51 := kvalT hk 51 (Value.int .i64 e) (by kernel_rfl)
            have e53 := kvalT hk 53 (Value.int .i64 z) (by kernel_rfl)
            clear hk
            go_simp
            refine (HC4.out W).mono ?_
            rintro e w9 ⟨rfl, hb9⟩
            exact ⟨_, rfl, hK _ _ rfl hb9⟩
          · intro ac W hbW hk K hK
            have e41 := kvalT hk 41 (Value.agg #[.int .i64 r1a, .string (str r1e), .int .i64 r1f, .int .i64 r1t]) (by kernel_rfl)
            have e47 := kvalT hk 47 (Value.agg #[.int .i64 r2a, .string (str r2e), .int .i64 r2f, .int .i64 r2t]) (by kernel_rfl)
            have e48 := kvalT hk 48 (Value.agg #[.int .i64 r30a, .string (str r30e), .int .i64 r30f, .int .i64 r30t]) (by kernel_rfl)
            have e54 := kvalT hk 54 (Value.agg #[.int .i64 r4a, .string (str r4e), .int .i64 r4f, .int .i64 r4t]) (by kernel_rfl)
            clear hk
            go_simp
            exact ⟨_, rfl, hK _ _ ⟨W.heap.size, rfl, hbW.size, heap_alloc_new W _⟩ (below_alloc6 W _)⟩
        · intro W9 hb9
          simp only [List.take_succ_cons, List.take_zero, List.drop_succ_cons, List.drop_zero, endT]
          intro gr hgr hcr
          have HO9 := RO4.out.kept hb9
          have hB9 := B4.out.trans (hb9.mono B4.out.size)
          have HN9 := Lib.hid (Cells.kept Pn4.out hb9 Pn4.out.lt)
          have HX9 := Lib.hid (Cells.kept Px4.out hb9 Px4.out.lt)
          have hs9 : bs ≤ W9.heap.size := by
            have h1 := HN9.out.lt
            have h2 := HBS.out
            omega
          go_simp
          refine wpList_push (E := EPc) pcTy (by rfl) _ _ (by rfl) bs _ m out [⟨r1a, r1e, r1f, r1t⟩, ⟨r2a, r2e, r2f, r2t⟩, ⟨r30a, r30e, r30f, r30t⟩, ⟨r4a, r4e, r4f, r4t⟩] (by rfl) HO9.2 gr 4 4 #[.int .i64 r1a, .string (str r1e), .int .i64 r1f, .int .i64 r1t, .int .i64 r2a, .string (str r2e), .int .i64 r2f, .int .i64 r2t, .int .i64 r30a, .string (str r30e), .int .i64 r30f, .int .i64 r30t, .int .i64 r4a, .string (str r4e), .int .i64 r4f, .int .i64 r4t] (0, 0) (by rfl) hcr (by rfl) rfl (by omega) (by omega) (by decide) hs9 ?_
          intro g2 cap2 wz hown hgrow hat hlt2
          have HOz := Lib.hid (HO9.push (ys := [⟨r1a, r1e, r1f, r1t⟩, ⟨r2a, r2e, r2f, r2t⟩, ⟨r30a, r30e, r30f, r30t⟩, ⟨r4a, r4e, r4f, r4t⟩]) rfl hown)
          have HBz := Lib.hid (HO9.below0 hB9 hB9.size HWB.out hgrow)
          have HNz := Lib.hid (show Cells wz g 23 #[.int .i64 a, .string B, .int .i64 a, .int .i64 e] from (hgrow.block g HN9.out.lt (fun e => (HNB.out g e.symm).1 rfl)).trans HN9.out)
          have HXz := Lib.hid (show Cells wz gx 23 #[.int .i64 p, .string D, .int .i64 xf, .int .i64 xt] from (hgrow.block gx HX9.out.lt (fun e => (HNB.out gx e.symm).2.1 rfl)).trans HX9.out)
          clear hown hgrow hat hlt2 HO9 hB9 hs9 hcr hgr hb9 HN9 HX9 RO4 B4 Pn4 Px4 Pb4
          have y0 := (Cells.cell HXz.out 0).trans (show _ = some (Value.int .i64 p) from rfl)
          have y1 := (Cells.cell HXz.out 1).trans (show _ = some (Value.string D) from rfl)
          have y2 := (Cells.cell HXz.out 2).trans (show _ = some (Value.int .i64 xf) from rfl)
          have y3 := (Cells.cell HXz.out 3).trans (show _ = some (Value.int .i64 xt) from rfl)
          go_wp2_with fail
          refine (HEND.out _).mono ?_
          rintro en w8 ⟨rfl, hb8⟩
          have HN8 := Lib.hid (Cells.kept HNz.out hb8 HNz.out.lt)
          have HO8 := Lib.hid (HOz.out.kept hb8)
          have HB8 := Lib.hid (HBz.out.trans (hb8.mono HBz.out.size))
          clear hb8 y0 y1 y2 y3 HNz HOz HBz HXz HEND HC1 HC2 HC4 HNB
          go_wp2_with fail
          go_roundw
          case rel => exact ⟨k + 1, m + 4, cap2, some ⟨g2, 0, none⟩, out ++ [⟨r1a, r1e, r1f, r1t⟩, ⟨r2a, r2e, r2f, r2t⟩, ⟨r30a, r30e, r30f, r30t⟩, ⟨r4a, r4e, r4f, r4t⟩], z, rfl, rfl, by go_num, by omega, by omega, HCI, HO8, HN8, HB8⟩
          case measure => simp [intOf]; omega
      · have HCI := Lib.hid (HI31.out rfl)
        clear HI30 HI31 HC30 HWIN
        go_upto_region 8 with fail
        refine wp_region_specs_tail 6 [.val (Value.agg #[.int .i64 a, .string B, .int .i64 a, .int .i64 e]), .val (Value.pointer (some ⟨gx, 0, none⟩)), .val (Value.int .i64 p), .val (Value.agg #[.int .i64 p, .string D, .int .i64 xf, .int .i64 xt]), .val (Value.int .i64 z), .val (Value.agg #[.int .i64 r31a, .string (str r31e), .int .i64 r31f, .int .i64 r31t])] (by kernel_rfl) (by kernel_rfl) (by kernel_rfl) (by kernel_rfl) (by kernel_rfl) (by kernel_rfl) (by kernel_rfl) (by kernel_rfl) ?_ ?_
        · refine ⟨⟨rfl, ?_⟩, ⟨rfl, ?_⟩, ⟨rfl, ?_⟩, ⟨rfl, ?_⟩, ⟨rfl, ?_⟩, ⟨rfl, ?_⟩, trivial⟩
          · intro ac W hbW hk K hK
            have e4 := kvalT hk 4 (Value.pointer (some ⟨g, 0, none⟩)) (by kernel_rfl)
            clear hk
            have y0 := (Cells.cell (Cells.kept Pn4.out hbW Pn4.out.lt) 0).trans (show _ = some (Value.int .i64 a) from rfl)
            have y1 := (Cells.cell (Cells.kept Pn4.out hbW Pn4.out.lt) 1).trans (show _ = some (Value.string B) from rfl)
            have y2 := (Cells.cell (Cells.kept Pn4.out hbW Pn4.out.lt) 2).trans (show _ = some (Value.int .i64 a) from rfl)
            have y3 := (Cells.cell (Cells.kept Pn4.out hbW Pn4.out.lt) 3).trans (show _ = some (Value.int .i64 e) from rfl)
            go_simp
            exact ⟨_, rfl, hK _ _ rfl (Below.refl _ _)⟩
          · intro ac W hbW hk K hK
            have e10 := kvalT hk 10 (Value.pointer (some ⟨gx, 0, none⟩)) (by kernel_rfl)
            clear hk
            go_simp
            exact ⟨_, rfl, hK _ _ rfl (Below.refl _ _)⟩
          · intro ac W hbW hk K hK
            have e31 := kvalT hk 31 (Value.pointer (some ⟨gx, 0, none⟩)) (by kernel_rfl)
            clear hk
            have y0 := (Cells.cell (Cells.kept Px4.out hbW Px4.out.lt) 0).trans (show _ = some (Value.int .i64 p) from rfl)
            have y1 := (Cells.cell (Cells.kept Px4.out hbW Px4.out.lt) 1).trans (show _ = some (Value.string D) from rfl)
            have y2 := (Cells.cell (Cells.kept Px4.out hbW Px4.out.lt) 2).trans (show _ = some (Value.int .i64 xf) from rfl)
            have y3 := (Cells.cell (Cells.kept Px4.out hbW Px4.out.lt) 3).trans (show _ = some (Value.int .i64 xt) from rfl)
            go_simp
            exact ⟨_, rfl, hK _ _ rfl (Below.refl _ _)⟩
          · intro ac W hbW hk K hK
            have e10 := kvalT hk 10 (Value.pointer (some ⟨gx, 0, none⟩)) (by kernel_rfl)
            clear hk
            have y0 := (Cells.cell (Cells.kept Px4.out hbW Px4.out.lt) 0).trans (show _ = some (Value.int .i64 p) from rfl)
            have y1 := (Cells.cell (Cells.kept Px4.out hbW Px4.out.lt) 1).trans (show _ = some (Value.string D) from rfl)
            have y2 := (Cells.cell (Cells.kept Px4.out hbW Px4.out.lt) 2).trans (show _ = some (Value.int .i64 xf) from rfl)
            have y3 := (Cells.cell (Cells.kept Px4.out hbW Px4.out.lt) 3).trans (show _ = some (Value.int .i64 xt) from rfl)
            go_simp
            exact ⟨_, rfl, hK _ _ rfl (Below.refl _ _)⟩
          · intro ac W hbW hk K hK
            have e33 := kvalT hk 33 (Value.agg #[.int .i64 p, .string D, .int .i64 xf, .int .i64 xt]) (by kernel_rfl)
            clear hk
            go_simp
            refine (HEND.out W).mono ?_
            rintro e w9 ⟨rfl, hb9⟩
            exact ⟨_, rfl, hK _ _ rfl hb9⟩
          · intro ac W hbW hk K hK
            have e30 := kvalT hk 30 (Value.agg #[.int .i64 a, .string B, .int .i64 a, .int .i64 e]) (by kernel_rfl)
            have e32 := kvalT hk 32 (Value.int .i64 p) (by kernel_rfl)
            have e34 := kvalT hk 34 (Value.int .i64 z) (by kernel_rfl)
            clear hk
            go_simp
            refine (HC31.out W).mono ?_
            rintro e w9 ⟨rfl, hb9⟩
            exact ⟨_, rfl, hK _ _ rfl hb9⟩
        · intro W9 hb9
          simp only [List.take_succ_cons, List.take_zero, List.drop_succ_cons, List.drop_zero, endT]
          have HO9 := RO4.out.kept hb9
          have hB9 := B4.out.trans (hb9.mono B4.out.size)
          have HN9 := Cells.kept Pn4.out hb9 Pn4.out.lt
          have HX9 := Cells.kept Px4.out hb9 Px4.out.lt
          have HB9 := Lib.hid (Cells.kept Pb4.out hb9 Pb4.out.lt)
          have hgr : W9.grownBy ((((W9.setCell ⟨gb, 0, none⟩ (.int .i64 r31a)).setCell ⟨gb, 1, none⟩ (.string (str r31e))).setCell ⟨gb, 2, none⟩ (.int .i64 r31f)).setCell ⟨gb, 3, none⟩ (.int .i64 r31t)) (some gb) := putB_grown (g := gb) [.int .i64 r31a, .string (str r31e), .int .i64 r31f, .int .i64 r31t] 0 W9
          have HNz := Lib.hid (show Cells ((((W9.setCell ⟨gb, 0, none⟩ (.int .i64 r31a)).setCell ⟨gb, 1, none⟩ (.string (str r31e))).setCell ⟨gb, 2, none⟩ (.int .i64 r31f)).setCell ⟨gb, 3, none⟩ (.int .i64 r31t)) g 23 #[.int .i64 a, .string B, .int .i64 a, .int .i64 e] from (hgr.block g HN9.lt (fun e => HNG.out.1 (Option.some.inj e))).trans HN9)
          have HXz := Lib.hid (show Cells ((((W9.setCell ⟨gb, 0, none⟩ (.int .i64 r31a)).setCell ⟨gb, 1, none⟩ (.string (str r31e))).setCell ⟨gb, 2, none⟩ (.int .i64 r31f)).setCell ⟨gb, 3, none⟩ (.int .i64 r31t)) gx 23 #[.int .i64 p, .string D, .int .i64 xf, .int .i64 xt] from (hgr.block gx HX9.lt (fun e => HNG.out.2.1 (Option.some.inj e))).trans HX9)
          have HBz := Lib.hid (show Cells ((((W9.setCell ⟨gb, 0, none⟩ (.int .i64 r31a)).setCell ⟨gb, 1, none⟩ (.string (str r31e))).setCell ⟨gb, 2, none⟩ (.int .i64 r31f)).setCell ⟨gb, 3, none⟩ (.int .i64 r31t)) gb 23 #[.int .i64 r31a, .string (str r31e), .int .i64 r31f, .int .i64 r31t] from HB9.out.put [.int .i64 r31a, .string (str r31e), .int .i64 r31f, .int .i64 r31t] rfl)
          have HOz := Lib.hid (show OwnE EPc 23 ((((W9.setCell ⟨gb, 0, none⟩ (.int .i64 r31a)).setCell ⟨gb, 1, none⟩ (.string (str r31e))).setCell ⟨gb, 2, none⟩ (.int .i64 r31f)).setCell ⟨gb, 3, none⟩ (.int .i64 r31t)) bs A2 m c2 out from ⟨HO9.1, own_only HO9.2 hgr (fun q hq e => (HNB.out q hq).2.2 (Option.some.inj e))⟩)
          have HLz := Lib.hid (show Below w.heap.size w ((((W9.setCell ⟨gb, 0, none⟩ (.int .i64 r31a)).setCell ⟨gb, 1, none⟩ (.string (str r31e))).setCell ⟨gb, 2, none⟩ (.int .i64 r31f)).setCell ⟨gb, 3, none⟩ (.int .i64 r31t)) from putB_below HNG.out.2.2 [.int .i64 r31a, .string (str r31e), .int .i64 r31f, .int .i64 r31t] 0 W9 hB9)
          have x0 := (Cells.cell HB9.out 0).trans (show _ = some (Value.int .i64 r30a) from rfl)
          have z0 := Cells.frozen HB9.out 0
          have x1 := (Cells.cell HB9.out 1).trans (show _ = some (Value.string (str r30e)) from rfl)
          have z1 := Cells.frozen HB9.out 1
          have x2 := (Cells.cell HB9.out 2).trans (show _ = some (Value.int .i64 r30f) from rfl)
          have z2 := Cells.frozen HB9.out 2
          have x3 := (Cells.cell HB9.out 3).trans (show _ = some (Value.int .i64 r30t) from rfl)
          have z3 := Cells.frozen HB9.out 3
          have hgl := HB9.out.lt
          clear HO9 hB9 HN9 HX9 hgr hb9 RO4 B4 Pn4 Px4 Pb4
          go_upto_region 9 with fail
          clear x0 x1 x2 x3 z0 z1 z2 z3 hgl HB9
          generalize (((W9.setCell ⟨gb, 0, none⟩ (.int .i64 r31a)).setCell ⟨gb, 1, none⟩ (.string (str r31e))).setCell ⟨gb, 2, none⟩ (.int .i64 r31f)).setCell ⟨gb, 3, none⟩ (.int .i64 r31t) = W7 at *
          have Pn5 := HNz
          have Px5 := HXz
          have Pb5 := HBz
          have RO5 := HOz
          have B5 := HLz
          clear HNz HXz HBz HOz HLz HC31
          refine wp_region_specs_tail 20 [.val (Value.slice A2 m c2), .val (Value.agg #[.int .i64 a, .string B, .int .i64 a, .int .i64 e]), .val (Value.int .i64 done), .val (Value.pointer (some ⟨gx, 0, none⟩)), .val (Value.int .i64 p), .val (Value.agg #[.int .i64 r1a, .string (str r1e), .int .i64 r1f, .int .i64 r1t]), .val (Value.agg #[.int .i64 p, .string D, .int .i64 xf, .int .i64 xt]), .val (Value.pointer (some ⟨gx, 0, none⟩)), .val (Value.int .i64 p), .val (Value.pointer (some ⟨g, 0, none⟩)), .val (Value.int .i64 a), .val (Value.agg #[.int .i64 r2a, .string (str r2e), .int .i64 r2f, .int .i64 r2t]), .val (Value.agg #[.int .i64 r31a, .string (str r31e), .int .i64 r31f, .int .i64 r31t]), .val (Value.agg #[.int .i64 p, .string D, .int .i64 xf, .int .i64 xt]), .val (Value.pointer (some ⟨g, 3, none⟩)), .val (Value.int .i64 e), .val (Value.agg #[.int .i64 p, .string D, .int .i64 xf, .int .i64 xt]), .val (Value.int .i64 z), .val (Value.agg #[.int .i64 r4a, .string (str r4e), .int .i64 r4f, .int .i64 r4t]), .row #[.int .i64 r1a, .string (str r1e), .int .i64 r1f, .int .i64 r1t, .int .i64 r2a, .string (str r2e), .int .i64 r2f, .int .i64 r2t, .int .i64 r31a, .string (str r31e), .int .i64 r31f, .int .i64 r31t, .int .i64 r4a, .string (str r4e), .int .i64 r4f, .int .i64 r4t] 23 4] (by kernel_rfl) (by kernel_rfl) (by kernel_rfl) (by kernel_rfl) (by kernel_rfl) (by kernel_rfl) (by kernel_rfl) (by kernel_rfl) ?_ ?_
          · refine ⟨⟨rfl, ?_⟩, ⟨rfl, ?_⟩, ⟨rfl, ?_⟩, ⟨rfl, ?_⟩, ⟨rfl, ?_⟩, ⟨rfl, ?_⟩, ⟨rfl, ?_⟩, ⟨rfl, ?_⟩, ⟨rfl, ?_⟩, ⟨rfl, ?_⟩, ⟨rfl, ?_⟩, ⟨rfl, ?_⟩, ⟨rfl, ?_⟩, ⟨rfl, ?_⟩, ⟨rfl, ?_⟩, ⟨rfl, ?_⟩, ⟨rfl, ?_⟩, ⟨rfl, ?_⟩, ⟨rfl, ?_⟩, ⟨rfl, ?_⟩, trivial⟩
            · intro ac W hbW hk K hK
              have e7 := kvalT hk 7 (Value.slice A2 m c2) (by kernel_rfl)
              clear hk
              go_simp
              exact ⟨_, rfl, hK _ _ rfl (Below.refl _ _)⟩
            · intro ac W hbW hk K hK
              have e4 := kvalT hk 4 (Value.pointer (some ⟨g, 0, none⟩)) (by kernel_rfl)
              clear hk
              have y0 := (Cells.cell (Cells.kept Pn5.out hbW Pn5.out.lt) 0).trans (show _ = some (Value.int .i64 a) from rfl)
              have y1 := (Cells.cell (Cells.kept Pn5.out hbW Pn5.out.lt) 1).trans (show _ = some (Value.string B) from rfl)
              have y2 := (Cells.cell (Cells.kept Pn5.out hbW Pn5.out.lt) 2).trans (show _ = some (Value.int .i64 a) from rfl)
              have y3 := (Cells.cell (Cells.kept Pn5.out hbW Pn5.out.lt) 3).trans (show _ = some (Value.int .i64 e) from rfl)
              go_simp
              exact ⟨_, rfl, hK _ _ rfl (Below.refl _ _)⟩
            · intro ac W hbW hk K hK
              have e8 := kvalT hk 8 (Value.int .i64 done) (by kernel_rfl)
              clear hk
              go_simp
              exact ⟨_, rfl, hK _ _ rfl (Below.refl _ _)⟩
            · intro ac W hbW hk K hK
              have e10 := kvalT hk 10 (Value.pointer (some ⟨gx, 0, none⟩)) (by kernel_rfl)
              clear hk
              go_simp
              exact ⟨_, rfl, hK _ _ rfl (Below.refl _ _)⟩
            · intro ac W hbW hk K hK
              have e39 := kvalT hk 39 (Value.pointer (some ⟨gx, 0, none⟩)) (by kernel_rfl)
              clear hk
              have y0 := (Cells.cell (Cells.kept Px5.out hbW Px5.out.lt) 0).trans (show _ = some (Value.int .i64 p) from rfl)
              have y1 := (Cells.cell (Cells.kept Px5.out hbW Px5.out.lt) 1).trans (show _ = some (Value.string D) from rfl)
              have y2 := (Cells.cell (Cells.kept Px5.out hbW Px5.out.lt) 2).trans (show _ = some (Value.int .i64 xf) from rfl)
              have y3 := (Cells.cell (Cells.kept Px5.out hbW Px5.out.lt) 3).trans (show _ = some (Value.int .i64 xt) from rfl)
              go_simp
              exact ⟨_, rfl, hK _ _ rfl (Below.refl _ _)⟩
            · intro ac W hbW hk K hK
              have e37 := kvalT hk 37 (Value.agg #[.int .i64 a, .string B, .int .i64 a, .int .i64 e]) (by kernel_rfl)
              have e38 := kvalT hk 38 (Value.int .i64 done) (by kernel_rfl)
              have e40 := kvalT hk 40 (Value.int .i64 p) (by kernel_rfl)
              clear hk
              go_simp
              refine (HC1.out W).mono ?_
              rintro e w9 ⟨rfl, hb9⟩
              exact ⟨_, rfl, hK _ _ rfl hb9⟩
            · intro ac W hbW hk K hK
              have e10 := kvalT hk 10 (Value.pointer (some ⟨gx, 0, none⟩)) (by kernel_rfl)
              clear hk
              have y0 := (Cells.cell (Cells.kept Px5.out hbW Px5.out.lt) 0).trans (show _ = some (Value.int .i64 p) from rfl)
              have y1 := (Cells.cell (Cells.kept Px5.out hbW Px5.out.lt) 1).trans (show _ = some (Value.string D) from rfl)
              have y2 := (Cells.cell (Cells.kept Px5.out hbW Px5.out.lt) 2).trans (show _ = some (Value.int .i64 xf) from rfl)
              have y3 := (Cells.cell (Cells.kept Px5.out hbW Px5.out.lt) 3).trans (show _ = some (Value.int .i64 xt) from rfl)
              go_simp
              exact ⟨_, rfl, hK _ _ rfl (Below.refl _ _)⟩
            · intro ac W hbW hk K hK
              have e10 := kvalT hk 10 (Value.pointer (some ⟨gx, 0, none⟩)) (by kernel_rfl)
              clear hk
              go_simp
              exact ⟨_, rfl, hK _ _ rfl (Below.refl _ _)⟩
            · intro ac W hbW hk K hK
              have e43 := kvalT hk 43 (Value.pointer (some ⟨gx, 0, none⟩)) (by kernel_rfl)
              clear hk
              have y0 := (Cells.cell (Cells.kept Px5.out hbW Px5.out.lt) 0).trans (show _ = some (Value.int .i64 p) from rfl)
              have y1 := (Cells.cell (Cells.kept Px5.out hbW Px5.out.lt) 1).trans (show _ = some (Value.string D) from rfl)
              have y2 := (Cells.cell (Cells.kept Px5.out hbW Px5.out.lt) 2).trans (show _ = some (Value.int .i64 xf) from rfl)
              have y3 := (Cells.cell (Cells.kept Px5.out hbW Px5.out.lt) 3).trans (show _ = some (Value.int .i64 xt) from rfl)
              go_simp
              exact ⟨_, rfl, hK _ _ rfl (Below.refl _ _)⟩
            · intro ac W hbW hk K hK
              have e4 := kvalT hk 4 (Value.pointer (some ⟨g, 0, none⟩)) (by kernel_rfl)
              clear hk
              go_simp
              exact ⟨_, rfl, hK _ _ rfl (Below.refl _ _)⟩
            · intro ac W hbW hk K hK
              have e45 := kvalT hk 45 (Value.pointer (some ⟨g, 0, none⟩)) (by kernel_rfl)
              clear hk
              have y0 := (Cells.cell (Cells.kept Pn5.out hbW Pn5.out.lt) 0).trans (show _ = some (Value.int .i64 a) from rfl)
              have y1 := (Cells.cell (Cells.kept Pn5.out hbW Pn5.out.lt) 1).trans (show _ = some (Value.string B) from rfl)
              have y2 := (Cells.cell (Cells.kept Pn5.out hbW Pn5.out.lt) 2).trans (show _ = some (Value.int .i64 a) from rfl)
              have y3 := (Cells.cell (Cells.kept Pn5.out hbW Pn5.out.lt) 3).trans (show _ = some (Value.int .i64 e) from rfl)
              go_simp
              exact ⟨_, rfl, hK _ _ rfl (Below.refl _ _)⟩
            · intro ac W hbW hk K hK
              have e42 := kvalT hk 42 (Value.agg #[.int .i64 p, .string D, .int .i64 xf, .int .i64 xt]) (by kernel_rfl)
              have e44 := kvalT hk 44 (Value.int .i64 p) (by kernel_rfl)
              have e46 := kvalT hk 46 (Value.int .i64 a) (by kernel_rfl)
              clear hk
              go_simp
              refine (HC2.out W).mono ?_
              rintro e w9 ⟨rfl, hb9⟩
              exact ⟨_, rfl, hK _ _ rfl hb9⟩
            · intro ac W hbW hk K hK
              have e11 := kvalT hk 11 (Value.pointer (some ⟨gb, 0, none⟩)) (by kernel_rfl)
              clear hk
              have y0 := (Cells.cell (Cells.kept Pb5.out hbW Pb5.out.lt) 0).trans (show _ = some (Value.int .i64 r31a) from rfl)
              have y1 := (Cells.cell (Cells.kept Pb5.out hbW Pb5.out.lt) 1).trans (show _ = some (Value.string (str r31e)) from rfl)
              have y2 := (Cells.cell (Cells.kept Pb5.out hbW Pb5.out.lt) 2).trans (show _ = some (Value.int .i64 r31f) from rfl)
              have y3 := (Cells.cell (Cells.kept Pb5.out hbW Pb5.out.lt) 3).trans (show _ = some (Value.int .i64 r31t) from rfl)
              go_simp
              exact ⟨_, rfl, hK _ _ rfl (Below.refl _ _)⟩
            · intro ac W hbW hk K hK
              have e10 := kvalT hk 10 (Value.pointer (some ⟨gx, 0, none⟩)) (by kernel_rfl)
              clear hk
              have y0 := (Cells.cell (Cells.kept Px5.out hbW Px5.out.lt) 0).trans (show _ = some (Value.int .i64 p) from rfl)
              have y1 := (Cells.cell (Cells.kept Px5.out hbW Px5.out.lt) 1).trans (show _ = some (Value.string D) from rfl)
              have y2 := (Cells.cell (Cells.kept Px5.out hbW Px5.out.lt) 2).trans (show _ = some (Value.int .i64 xf) from rfl)
              have y3 := (Cells.cell (Cells.kept Px5.out hbW Px5.out.lt) 3).trans (show _ = some (Value.int .i64 xt) from rfl)
              go_simp
              exact ⟨_, rfl, hK _ _ rfl (Below.refl _ _)⟩
            · intro ac W hbW hk K hK
              have e4 := kvalT hk 4 (Value.pointer (some ⟨g, 0, none⟩)) (by kernel_rfl)
              clear hk
              go_simp
              exact ⟨_, rfl, hK _ _ rfl (Below.refl _ _)⟩
            · intro ac W hbW hk K hK
              have e50 := kvalT hk 50 (Value.pointer (some ⟨g, 3, none⟩)) (by kernel_rfl)
              clear hk
              have y0 := (Cells.cell (Cells.kept Pn5.out hbW Pn5.out.lt) 0).trans (show _ = some (Value.int .i64 a) from rfl)
              have y1 := (Cells.cell (Cells.kept Pn5.out hbW Pn5.out.lt) 1).trans (show _ = some (Value.string B) from rfl)
              have y2 := (Cells.cell (Cells.kept Pn5.out hbW Pn5.out.lt) 2).trans (show _ = some (Value.int .i64 a) from rfl)
              have y3 := (Cells.cell (Cells.kept Pn5.out hbW Pn5.out.lt) 3).trans (show _ = some (Value.int .i64 e) from rfl)
              go_simp
              exact ⟨_, rfl, hK _ _ rfl (Below.refl _ _)⟩
            · intro ac W hbW hk K hK
              have e10 := kvalT hk 10 (Value.pointer (some ⟨gx, 0, none⟩)) (by kernel_rfl)
              clear hk
              have y0 := (Cells.cell (Cells.kept Px5.out hbW Px5.out.lt) 0).trans (show _ = some (Value.int .i64 p) from rfl)
              have y1 := (Cells.cell (Cells.kept Px5.out hbW Px5.out.lt) 1).trans (show _ = some (Value.string D) from rfl)
              have y2 := (Cells.cell (Cells.kept Px5.out hbW Px5.out.lt) 2).trans (show _ = some (Value.int .i64 xf) from rfl)
              have y3 := (Cells.cell (Cells.kept Px5.out hbW Px5.out.lt) 3).trans (show _ = some (Value.int .i64 xt) from rfl)
              go_simp
              exact ⟨_, rfl, hK _ _ rfl (Below.refl _ _)⟩
            · intro ac W hbW hk K hK
              have e52 := kvalT hk 52 (Value.agg #[.int .i64 p, .string D, .int .i64 xf, .int .i64 xt]) (by kernel_rfl)
              clear hk
              go_simp
              refine (HEND.out W).mono ?_
              rintro e w9 ⟨rfl, hb9⟩
              exact ⟨_, rfl, hK _ _ rfl hb9⟩
            · intro ac W hbW hk K hK
              have e49 := kvalT hk 49 (Value.agg #[.int .i64 p, .string D, .int .i64 xf, .int .i64 xt]) (by kernel_rfl)
              have e51 := kvalT hk 51 (Value.int .i64 e) (by kernel_rfl)
              have e53 := kvalT hk 53 (Value.int .i64 z) (by kernel_rfl)
              clear hk
              go_simp
              refine (HC4.out W).mono ?_
              rintro e w9 ⟨rfl, hb9⟩
              exact ⟨_, rfl, hK _ _ rfl hb9⟩
            · intro ac W hbW hk K hK
              have e41 := kvalT hk 41 (Value.agg #[.int .i64 r1a, .string (str r1e), .int .i64 r1f, .int .i64 r1t]) (by kernel_rfl)
              have e47 := kvalT hk 47 (Value.agg #[.int .i64 r2a, .string (str r2e), .int .i64 r2f, .int .i64 r2t]) (by kernel_rfl)
              have e48 := kvalT hk 48 (Value.agg #[.int .i64 r31a, .string (str r31e), .int .i64 r31f, .int .i64 r31t]) (by kernel_rfl)
              have e54 := kvalT hk 54 (Value.agg #[.int .i64 r4a, .string (str r4e), .int .i64 r4f, .int .i64 r4t]) (by kernel_rfl)
              clear hk
              go_simp
              exact ⟨_, rfl, hK _ _ ⟨W.heap.size, rfl, hbW.size, heap_alloc_new W _⟩ (below_alloc6 W _)⟩
          · intro W9 hb9
            simp only [List.take_succ_cons, List.take_zero, List.drop_succ_cons, List.drop_zero, endT]
            intro gr hgr hcr
            have HO9 := RO5.out.kept hb9
            have hB9 := B5.out.trans (hb9.mono B5.out.size)
            have HN9 := Lib.hid (Cells.kept Pn5.out hb9 Pn5.out.lt)
            have HX9 := Lib.hid (Cells.kept Px5.out hb9 Px5.out.lt)
            have hs9 : bs ≤ W9.heap.size := by
              have h1 := HN9.out.lt
              have h2 := HBS.out
              omega
            go_simp
            refine wpList_push (E := EPc) pcTy (by rfl) _ _ (by rfl) bs _ m out [⟨r1a, r1e, r1f, r1t⟩, ⟨r2a, r2e, r2f, r2t⟩, ⟨r31a, r31e, r31f, r31t⟩, ⟨r4a, r4e, r4f, r4t⟩] (by rfl) HO9.2 gr 4 4 #[.int .i64 r1a, .string (str r1e), .int .i64 r1f, .int .i64 r1t, .int .i64 r2a, .string (str r2e), .int .i64 r2f, .int .i64 r2t, .int .i64 r31a, .string (str r31e), .int .i64 r31f, .int .i64 r31t, .int .i64 r4a, .string (str r4e), .int .i64 r4f, .int .i64 r4t] (0, 0) (by rfl) hcr (by rfl) rfl (by omega) (by omega) (by decide) hs9 ?_
            intro g2 cap2 wz hown hgrow hat hlt2
            have HOz := Lib.hid (HO9.push (ys := [⟨r1a, r1e, r1f, r1t⟩, ⟨r2a, r2e, r2f, r2t⟩, ⟨r31a, r31e, r31f, r31t⟩, ⟨r4a, r4e, r4f, r4t⟩]) rfl hown)
            have HBz := Lib.hid (HO9.below0 hB9 hB9.size HWB.out hgrow)
            have HNz := Lib.hid (show Cells wz g 23 #[.int .i64 a, .string B, .int .i64 a, .int .i64 e] from (hgrow.block g HN9.out.lt (fun e => (HNB.out g e.symm).1 rfl)).trans HN9.out)
            have HXz := Lib.hid (show Cells wz gx 23 #[.int .i64 p, .string D, .int .i64 xf, .int .i64 xt] from (hgrow.block gx HX9.out.lt (fun e => (HNB.out gx e.symm).2.1 rfl)).trans HX9.out)
            clear hown hgrow hat hlt2 HO9 hB9 hs9 hcr hgr hb9 HN9 HX9 RO5 B5 Pn5 Px5 Pb5
            have y0 := (Cells.cell HXz.out 0).trans (show _ = some (Value.int .i64 p) from rfl)
            have y1 := (Cells.cell HXz.out 1).trans (show _ = some (Value.string D) from rfl)
            have y2 := (Cells.cell HXz.out 2).trans (show _ = some (Value.int .i64 xf) from rfl)
            have y3 := (Cells.cell HXz.out 3).trans (show _ = some (Value.int .i64 xt) from rfl)
            go_wp2_with fail
            refine (HEND.out _).mono ?_
            rintro en w8 ⟨rfl, hb8⟩
            have HN8 := Lib.hid (Cells.kept HNz.out hb8 HNz.out.lt)
            have HO8 := Lib.hid (HOz.out.kept hb8)
            have HB8 := Lib.hid (HBz.out.trans (hb8.mono HBz.out.size))
            clear hb8 y0 y1 y2 y3 HNz HOz HBz HXz HEND HC1 HC2 HC4 HNB
            go_wp2_with fail
            go_roundw
            case rel => exact ⟨k + 1, m + 4, cap2, some ⟨g2, 0, none⟩, out ++ [⟨r1a, r1e, r1f, r1t⟩, ⟨r2a, r2e, r2f, r2t⟩, ⟨r31a, r31e, r31f, r31t⟩, ⟨r4a, r4e, r4f, r4t⟩], z, rfl, rfl, by go_num, by omega, by omega, HCI, HO8, HN8, HB8⟩
            case measure => simp [intOf]; omega
    · obtain rfl : k = n := by omega
      have hd : decide ((k : Int) < (k : Int)) = false := by simp
      have hbl : b.length ≤ 1000000000 := hb
      obtain ⟨⟨r5a, r5e, r5f, r5t⟩, hR5⟩ : ∃ R, R = clipP (⟨a, b, a, e⟩ : PcR) done e := ⟨_, rfl⟩
      have HC5 := Lib.hid (fun W => show Calls Try.prog 38 #[.agg #[.int .i64 a, .string B, .int .i64 a, .int .i64 e], .int .i64 done, .int .i64 e] W fun en w' => en = .returned (.agg #[.int .i64 r5a, .string (str r5e), .int .i64 r5f, .int .i64 r5t]) ∧ Below W.heap.size W w' from pclip15 _ _ _ done e b _ ⟨r5a, r5e, r5f, r5t⟩ W HBB.out.1 (by omega) (by omega) (by omega) hR5)
      have HE := Lib.hid (show out ++ [⟨r5a, r5e, r5f, r5t⟩] = T by
        have h := HI.out
        rw [HN.out, List.drop_length, comb_nil] at h
        rw [hR5]
        exact h)
      have hsz : w.heap.size ≤ wr.heap.size := B0.out.size
      have hsb : bs ≤ wr.heap.size := by
        have h1 := Pn0.out.lt
        have h2 := HBS.out
        omega
      clear hR5 HI
      have x0 := (Cells.cell Pn0.out 0).trans (show _ = some (Value.int .i64 a) from rfl)
      have x1 := (Cells.cell Pn0.out 1).trans (show _ = some (Value.string B) from rfl)
      have x2 := (Cells.cell Pn0.out 2).trans (show _ = some (Value.int .i64 a) from rfl)
      have x3 := (Cells.cell Pn0.out 3).trans (show _ = some (Value.int .i64 e) from rfl)
      go_wp2_with fail
      refine (HC5.out _).mono ?_
      rintro en w3 ⟨rfl, hb3⟩
      have HO3 := Lib.hid (RO0.out.kept hb3)
      have HB3 := Lib.hid (B0.out.trans (hb3.mono hsz))
      have hs3 : bs ≤ w3.heap.size := Nat.le_trans hsb hb3.size
      clear hb3 RO0 B0 x0 x1 x2 x3 Pn0 hsz hsb HC5
      go_wp2_with (at_builtin; refine wpList_push (E := EPc) pcTy (by rfl) _ _ (by rfl) bs _ m out [⟨r5a, r5e, r5f, r5t⟩] (by rfl) (HO3.out.al _).2 _ 1 1 #[.int .i64 r5a, .string (str r5e), .int .i64 r5f, .int .i64 r5t] (0, 0) (by rfl) (heap_alloc_new w3 _) (by rfl) rfl (by omega) (by omega) (by decide) ?hb ?_)
      case hb => first | (simp; omega) | omega | exact Nat.le_trans hs3 (by simp)
      intro g2 cap2 wz hown hgrow hat hlt2
      have HO9 := Lib.hid (show OwnE EPc 23 wz bs (some ⟨g2, 0, none⟩) (m + 1) cap2 T by rw [← HE.out]; exact HO3.out.push rfl hown)
      have HB9 := Lib.hid (HO3.out.below HB3.out HB3.out.size HWB.out hgrow)
      clear hown hgrow hat hlt2 HO3 HB3
      go_wp2_with fail
      go_ret
      exact ⟨some ⟨g2, 0, none⟩, m + 1, cap2, by rfl, ⟨HO9.out.1, own_mono HO9.out.2 HWB.out⟩, HB9.out⟩
end Go.Proofs.Ytafpmlikocchpaa
