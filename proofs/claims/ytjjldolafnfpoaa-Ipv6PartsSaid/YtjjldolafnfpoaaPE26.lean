/- Contracts of the functions, part 26: Ip6RSpl. -/
import Derived.Deep.Cut
import Derived.Deep.WholeRow
import Derived.BigQuiet
import Derived.Test.YtjjldolafnfpoaaPE20
import Derived.Test.YtjjldolafnfpoaaPE25
/- Contract of the reference of layer 12: Split. -/
namespace Go.Proofs.Ytjjldolafnfpoaa
open Go.ChangeShapes Go.WideShapes Go.ChangeAt Go.RowKit
set_option linter.unusedVariables false

theorem box_row {w0 w : World} {g : Nat} {t : TypeId} {cs : Array Value} (h : Cells w0 g t cs) (hb : Below w0.heap.size w0 w) : Cells w g t cs := Cells.kept h hb h.lt
set_option maxHeartbeats 16000000 in
set_option maxRecDepth 100000 in
theorem rsplit12_any (cls lab hops nxt id off : Int) (sv dv frg more : Bool) (sh sl dh dl : Nat) (l : List OpR) (pay : List UInt8) (size id2 : Int) (A : Option Addr) (c : Nat) (w : World) (h : RowL EOpt w A l) (hc : A = none → c = 0) (h1 : sh < 18446744073709551616) (h2 : sl < 18446744073709551616) (h3 : dh < 18446744073709551616) (h4 : dl < 18446744073709551616) (hl : l.length ≤ 1000000) (hd : ∀ x ∈ l, x.dat.length ≤ 4611686018427387904) (hp : pay.length ≤ 900000) (hs1 : size ≤ 9223372036854775807) :
    Calls Try.prog 18 #[.agg #[.int .i64 cls, .int .i64 lab, .int .i64 hops, .int .i64 nxt, .bool sv, .int .u64 (sh : Int), .int .u64 (sl : Int), .bool dv, .int .u64 (dh : Int), .int .u64 (dl : Int), .slice A l.length c, .bool frg, .int .i64 id, .int .i64 off, .bool more, .string (str pay)], .int .i64 size, .int .i64 id2] w (SplP6 w (splitX (⟨cls, lab, hops, nxt, ⟨sv, sh, sl⟩, ⟨dv, dh, dl⟩, l, frg, id, off, more, pay⟩ : Ip6R) size id2)) := by
  obtain ⟨p, hpe⟩ : ∃ p, p = (⟨cls, lab, hops, nxt, ⟨sv, sh, sl⟩, ⟨dv, dh, dl⟩, l, frg, id, off, more, pay⟩ : Ip6R) := ⟨_, rfl⟩
  rw [← hpe]
  obtain ⟨Q, hR⟩ : ∃ Q, Q = splitX p size id2 := ⟨_, rfl⟩
  rw [← hR]
  have HRR := Lib.hid hR
  have HPE := Lib.hid hpe
  have HS := Lib.hid h
  have HC0 := Lib.hid hc
  have HENC := Lib.hid (fun (W : World) (hb : Below w.heap.size w W) => by
    have := renc12_any cls lab hops nxt id off sv dv frg more sh sl dh dl l pay A c W (h.kept hb) h1 h2 h3 h4 hl hd (by omega)
    rwa [← hpe] at this)
  have HENX := Lib.hid (fun (o : Int) (m : Bool) (E : List UInt8) (hE : E.length ≤ 1000000) (W : World) (hb : Below w.heap.size w W) => renc12_any cls lab hops nxt id2 o sv dv true m sh sl dh dl l E A c W (h.kept hb) h1 h2 h3 h4 hl hd hE)
  obtain ⟨n, hnl⟩ : ∃ n, n = l.length := ⟨_, rfl⟩
  rw [← hnl] at hl ⊢ HENC HENX
  have HN := Lib.hid hnl
  obtain ⟨P, hP⟩ : ∃ P, P = str pay := ⟨_, rfl⟩
  have hPs : P.size = pay.length := by rw [hP, str_size]
  rw [← hP] at HENC ⊢
  have hP6 : P.size ≤ 900000 := by omega
  have HPP := Lib.hid (show P = str pay ∧ P.size = p.pay.length ∧ p.pay = pay from ⟨hP, by rw [hPs, hpe], by rw [hpe]⟩)
  obtain ⟨er, her⟩ : ∃ er, er = (encX p).2 := ⟨_, rfl⟩
  obtain ⟨ES, hes⟩ : ∃ es, es = str (encX p).1 := ⟨_, rfl⟩
  rw [← her, ← hes] at HENC
  have HER := Lib.hid her
  clear hpe hR h hc h1 h2 h3 h4 hnl hP hPs hp hd hes her
  obtain ⟨W1, hW1⟩ : ∃ W, W = w.alloc (.cells #[.int .i64 cls, .int .i64 lab, .int .i64 hops, .int .i64 nxt, .bool sv, .int .u64 (sh : Int), .int .u64 (sl : Int), .bool dv, .int .u64 (dh : Int), .int .u64 (dl : Int), .slice A n c, .bool frg, .int .i64 id, .int .i64 off, .bool more, .string P] 28) := ⟨_, rfl⟩
  obtain ⟨g, hg⟩ : ∃ g, g = w.heap.size := ⟨_, rfl⟩
  have HX := Lib.hid (show Cells W1 g 28 #[.int .i64 cls, .int .i64 lab, .int .i64 hops, .int .i64 nxt, .bool sv, .int .u64 (sh : Int), .int .u64 (sl : Int), .bool dv, .int .u64 (dh : Int), .int .u64 (dl : Int), .slice A n c, .bool frg, .int .i64 id, .int .i64 off, .bool more, .string P] by rw [hW1, hg]; exact heap_alloc_new w _)
  have HB1 := Lib.hid (show Below w.heap.size w W1 by rw [hW1]; exact below_alloc6 w _)
  have HV := Lib.hid (fun (W : World) (hb : Below W1.heap.size W1 W) (i : Nat) (v : Value) (hv : (#[.int .i64 cls, .int .i64 lab, .int .i64 hops, .int .i64 nxt, .bool sv, .int .u64 (sh : Int), .int .u64 (sl : Int), .bool dv, .int .u64 (dh : Int), .int .u64 (dl : Int), .slice A n c, .bool frg, .int .i64 id, .int .i64 off, .bool more, .string P])[i]? = some v) => show W.cell? ⟨g, i, none⟩ = some v from box_cell HX.out hb i v hv)
  have HW := Lib.hid (fun (W : World) (hb : Below W1.heap.size W1 W) => HB1.out.trans (hb.mono HB1.out.size))
  go_enter Try.func18, Try.ntmps18
  go_upto_region 1 with fail
  rw [← hW1, ← hg]
  clear hW1 hg
  go_wp2_with (refine wpList_load_row (by rfl) 28 _ (by rfl) g (by rfl) 28 #[.int .i64 cls, .int .i64 lab, .int .i64 hops, .int .i64 nxt, .bool sv, .int .u64 (sh : Int), .int .u64 (sl : Int), .bool dv, .int .u64 (dh : Int), .int .u64 (dl : Int), .slice A n c, .bool frg, .int .i64 id, .int .i64 off, .bool more, .string P] (0, 0) _ HX.out Try.underlying28 (by rfl) (by kernel_rfl) ?_)
  refine (HENC.out _ HB1.out).mono ?_
  rintro e w2 ⟨rfl, hb2⟩
  have HB2 := Lib.hid hb2
  have HBW := Lib.hid (HW.out _ hb2)
  clear hb2 HENC
  by_cases c2 : er ≠ 0
  · have HR := Lib.hid (show Q = ([], er) by rw [HRR.out]; unfold splitX; rw [← HER.out, if_pos c2])
    have m3 : ((er : Int) != 0) = true := by rw [bne_iff_ne]; omega
    clear c2
    go_wp2_with fail
    go_ret2
    exact SplP6.err HR.out rfl HBW.out
  have he0 : er = 0 := by omega
  subst he0
  clear c2
  have HSP := Lib.hid (show Q = if size < 1 ∨ size % 8 ≠ 0 ∨ id2 < 0 ∨ 4294967296 ≤ id2 then ([], 4) else if p.frg = true then ([], 10) else partsX p size.toNat id2 (p.pay.length + 1) 0 by rw [HRR.out]; unfold splitX; rw [← HER.out, if_neg (by simp)])
  by_cases c3 : size < 1
  · have HR := Lib.hid (show Q = ([], 4) by rw [HSP.out, if_pos (.inl c3)])
    have d3 : decide (size < 1) = true := by simp; omega
    clear c3
    go_wp2_with fail
    go_ret2
    exact SplP6.err HR.out rfl HBW.out
  have d3 : decide (size < 1) = false := by simp; omega
  have htm : size.tmod 8 = size % 8 := Int.tmod_eq_emod_of_nonneg (by omega)
  by_cases c4 : size % 8 ≠ 0
  · have HR := Lib.hid (show Q = ([], 4) by rw [HSP.out, if_pos (.inr (.inl c4))])
    have m1 : (size % 8 != 0) = true := by rw [bne_iff_ne]; exact c4
    have m2 : (size.tmod 8 != 0) = true := by rw [htm]; exact m1
    clear c4 htm c3
    go_wp2_with fail
    go_ret2
    exact SplP6.err HR.out rfl HBW.out
  have c4' : size % 8 = 0 := by omega
  have m1 : (size % 8 != 0) = false := by rw [bne_eq_false_iff_eq]; exact c4'
  have m2 : (size.tmod 8 != 0) = false := by rw [htm]; exact m1
  by_cases c5 : id2 < 0
  · have HR := Lib.hid (show Q = ([], 4) by rw [HSP.out, if_pos (.inr (.inr (.inl c5)))])
    have d5 : decide (id2 < 0) = true := by simp; omega
    clear c4 c4' htm c3 c5
    go_wp2_with fail
    go_ret2
    exact SplP6.err HR.out rfl HBW.out
  have d5 : decide (id2 < 0) = false := by simp; omega
  by_cases c6 : 4294967296 ≤ id2
  · have HR := Lib.hid (show Q = ([], 4) by rw [HSP.out, if_pos (.inr (.inr (.inr c6)))])
    have d6 : decide (4294967296 ≤ id2) = true := by simp; omega
    clear c4 c4' htm c3 c5 c6
    go_wp2_with fail
    go_ret2
    exact SplP6.err HR.out rfl HBW.out
  have d6 : decide (4294967296 ≤ id2) = false := by simp; omega
  have hno : ¬ (size < 1 ∨ size % 8 ≠ 0 ∨ id2 < 0 ∨ 4294967296 ≤ id2) := by omega
  have hfrg : p.frg = frg := by rw [HPE.out]
  cases frg
  rotate_left
  · have HR := Lib.hid (show Q = ([], 10) by rw [HSP.out, if_neg hno, hfrg]; rfl)
    have x11 := HV.out w2 HB2.out 11 (.bool true) rfl
    clear c4 c4' htm c3 c5 c6 hno hfrg
    go_wp2_with fail
    go_ret2
    exact SplP6.err HR.out rfl HBW.out
  have HT0 := Lib.hid (show SplT p size.toNat id2 Q [] 0 from by rw [HRR.out]; exact SplT.start HER.out.symm hno hfrg)
  have x11 := HV.out w2 HB2.out 11 (.bool false) rfl
  obtain ⟨N, rfl⟩ : ∃ N : Nat, size = (N : Int) := ⟨size.toNat, by omega⟩
  have HT1 := Lib.hid (show SplT p N id2 Q [] 0 by have := HT0.out; rwa [Int.toNat_natCast] at this)
  have hN1 : 1 ≤ N := by omega
  obtain ⟨B, hB⟩ : ∃ B, B = w2.heap.size := ⟨_, rfl⟩
  have HB := Lib.hid hB
  have HO0 := Lib.hid (show w2.ownsRow B 28 16 (.slice none 0 0) 0 (EIp6.cells []) from World.ownsRow_nil _ _ _ _)
  have HI := Lib.hid (show 0 ≤ id2 ∧ id2 < 4294967296 by omega)
  clear c4 c4' htm c3 c5 c6 hno hfrg HT0 hB
  go_wp2_with fail
  go_loopw [10, 11] (fun v10 v11 wr => ∃ (a m co : Nat) (Ao : Option Addr) (es : List Ip6E), v10 = .slice Ao m co ∧ v11 = .int .i64 (a : Int) ∧ a ≤ 900001 ∧ m ≤ a ∧ Hid (m = es.length) ∧ Hid (∀ x ∈ es, x.2 = (A, c) ∧ x.1.exts = l) ∧ Hid (wr.ownsRow B 28 16 (.slice Ao m co) m (EIp6.cells es)) ∧ Hid (Below B w2 wr) ∧ Hid (SplT p N id2 Q es a)) (fun _ v11 _ => 900002 - (intOf v11).toNat)
  case atStart => exact ⟨0, 0, 0, none, [], rfl, rfl, by omega, Nat.le_refl _, Lib.hid rfl, Lib.hid (fun x hx => by cases hx), HO0, Lib.hid (Below.refl _ _), HT1⟩
  case round =>
    clear HT1 HO0 x11
    obtain ⟨a, m, co, Ao, es, rfl, rfl, ha, hma, HM, HES, HO, HBR, HT⟩ := hrel
    have HBX := Lib.hid (show Below W1.heap.size W1 wr from HB2.out.trans ((HB.out ▸ HBR.out : Below w2.heap.size w2 wr).mono HB2.out.size))
    by_cases hrun : a = 0 ∨ a < P.size
    · obtain ⟨q, hq⟩ : ∃ q, q = P.size - a := ⟨_, rfl⟩
      obtain ⟨nn, hnn⟩ : ∃ x, x = min N q := ⟨_, rfl⟩
      obtain ⟨t, ht⟩ : ∃ t, t = a + nn := ⟨_, rfl⟩
      obtain ⟨m2, hm2⟩ : ∃ b : Bool, b = decide (t < P.size) := ⟨_, rfl⟩
      obtain ⟨mx, hmx⟩ : ∃ x, x = max nn 1 := ⟨_, rfl⟩
      obtain ⟨a2, ha2⟩ : ∃ x, x = a + mx := ⟨_, rfl⟩
      have haP : a ≤ P.size := by omega
      have kq : (P.size : Int) - (a : Int) = (q : Int) := by omega
      have knn : min (N : Int) (q : Int) = (nn : Int) := by omega
      have kt : (a : Int) + (nn : Int) = (t : Int) := by omega
      have kmx : max (nn : Int) 1 = (mx : Int) := by omega
      have ka2 : (a : Int) + (mx : Int) = (a2 : Int) := by omega
      have htP : t ≤ P.size := by omega
      have kat : (a : Int) ≤ (t : Int) := by omega
      have ktP : (t : Int) ≤ (P.size : Int) := by omega
      have ka0 : (0 : Int) ≤ (a : Int) := by omega
      have dm : decide (t < P.size) = m2 := hm2.symm
      have hE : P.extract a t = str ((pay.drop a).take (t - a)) := extract_str11 P pay HPP.out.1 a t
      obtain ⟨E, hEe⟩ : ∃ E, E = str ((pay.drop a).take (t - a)) := ⟨_, rfl⟩
      rw [← hEe] at hE
      obtain ⟨y, hy⟩ : ∃ y, y = partA p N id2 a := ⟨_, rfl⟩
      have hya : y = ⟨cls, lab, hops, nxt, ⟨sv, sh, sl⟩, ⟨dv, dh, dl⟩, l, true, id2, (a : Int), m2, (pay.drop a).take (t - a)⟩ := by
        rw [hy]
        unfold partA partX
        have e1 : decide (a + N < p.pay.length) = m2 := by
          rw [hm2, ← HPP.out.2.1]
          by_cases hx : a + N < P.size
          · rw [decide_eq_true hx, decide_eq_true (by omega)]
          · rw [decide_eq_false hx, decide_eq_false (by omega)]
        have e2 : (p.pay.drop a).take N = (pay.drop a).take (t - a) := by
          rw [HPP.out.2.2]
          have hpl : pay.length = P.size := by rw [← HPP.out.2.2, HPP.out.2.1]
          by_cases hx : N ≤ q
          · rw [show t - a = N by omega]
          · rw [List.take_of_length_le (by rw [List.length_drop]; omega), List.take_of_length_le (by rw [List.length_drop]; omega)]
        rw [e1, e2, HPE.out]
      have HEN := Lib.hid (fun (W : World) (hb : Below w.heap.size w W) => by
        have := HENX.out (a : Int) m2 ((pay.drop a).take (t - a)) (by rw [List.length_take, List.length_drop]; have h1 := HPP.out.2.1; have h2 := HPP.out.2.2; rw [h2] at h1; omega) W hb
        rwa [← hya, ← hEe] at this)
      obtain ⟨e2, he2⟩ : ∃ x, x = (encX y).2 := ⟨_, rfl⟩
      obtain ⟨E2, hE2⟩ : ∃ x, x = str (encX y).1 := ⟨_, rfl⟩
      rw [← he2, ← hE2] at HEN
      have HRUN := Lib.hid (show a = 0 ∨ a < p.pay.length by rw [← HPP.out.2.1]; exact hrun)
      have HY := Lib.hid hya
      have HYP := Lib.hid hy
      have HE2 := Lib.hid he2
      have HEE := Lib.hid hEe
      have HA2 := Lib.hid (show a2 = a + max (min N (p.pay.length - a)) 1 by rw [← HPP.out.2.1, ← hq, ← hnn, ← hmx, ha2])
      have HMX := Lib.hid (show 1 ≤ mx ∧ a2 = a + mx ∧ a2 ≤ 900001 from ⟨by omega, ha2, by omega⟩)
      have hcond : ((a : Int) == 0) = true ∨ (((a : Int) == 0) = false ∧ decide ((a : Int) < (P.size : Int)) = true ∧ (a : Int) < (P.size : Int)) := by
        by_cases h0 : a = 0
        · left; simp; omega
        · right; exact ⟨by rw [beq_eq_false_iff_ne]; omega, by simp; omega, by omega⟩
      have HCD := Lib.hid hcond
      have x15 := HV.out wr HBX.out 15 (.string P) rfl
      clear hq hnn ht hm2 hmx ha2 hrun hEe hy hya he2 hE2 hcond htP
      rcases HCD.out with z0 | ⟨z0, dla, nla⟩
      all_goals
        go_upto_region 13 with (first | (refine wpList_load_row (by rfl) 28 _ (by rfl) g (by rfl) 28 #[.int .i64 cls, .int .i64 lab, .int .i64 hops, .int .i64 nxt, .bool sv, .int .u64 (sh : Int), .int .u64 (sl : Int), .bool dv, .int .u64 (dh : Int), .int .u64 (dl : Int), .slice A n c, .bool false, .int .i64 id, .int .i64 off, .bool more, .string P] (0, 0) _ (box_row HX.out HBX.out) Try.underlying28 (by rfl) (by kernel_rfl) ?_) | (refine wpList_store_row (by rfl) 28 _ _ (by rfl) wr.heap.size #[.int .i64 cls, .int .i64 lab, .int .i64 hops, .int .i64 nxt, .bool sv, .int .u64 (sh : Int), .int .u64 (sl : Int), .bool dv, .int .u64 (dh : Int), .int .u64 (dl : Int), .slice A n c, .bool false, .int .i64 id, .int .i64 off, .bool more, .string P] (by rfl) (by rfl) 28 #[.int .i64 0, .int .i64 0, .int .i64 0, .int .i64 0, .bool false, .int .u64 0, .int .u64 0, .bool false, .int .u64 0, .int .u64 0, .slice none 0 0, .bool false, .int .i64 0, .int .i64 0, .bool false, .string ⟨#[]⟩] (heap_alloc_new _ _) (by kernel_rfl) (by rfl) (by simp [Value.oneCell']) ?_; rw [World.setRow_alloc_new]))
        obtain ⟨W3, hW3⟩ : ∃ W, W = wr.alloc (.cells #[.int .i64 cls, .int .i64 lab, .int .i64 hops, .int .i64 nxt, .bool sv, .int .u64 (sh : Int), .int .u64 (sl : Int), .bool dv, .int .u64 (dh : Int), .int .u64 (dl : Int), .slice A n c, .bool false, .int .i64 id, .int .i64 off, .bool more, .string P] 28) := ⟨_, rfl⟩
        obtain ⟨gx, hgx⟩ : ∃ g, g = wr.heap.size := ⟨_, rfl⟩
        have hX3 : Cells W3 gx 28 #[.int .i64 cls, .int .i64 lab, .int .i64 hops, .int .i64 nxt, .bool sv, .int .u64 (sh : Int), .int .u64 (sl : Int), .bool dv, .int .u64 (dh : Int), .int .u64 (dl : Int), .slice A n c, .bool false, .int .i64 id, .int .i64 off, .bool more, .string P] := by rw [hW3, hgx]; exact heap_alloc_new wr _
        have hB3 : Below wr.heap.size wr W3 := by rw [hW3]; exact below_alloc6 wr _
        rw [← hW3, ← hgx]
        have HGX := Lib.hid (show wr.heap.size ≤ gx by omega)
        clear hW3 hgx x15
        have hne : g ≠ gx := by have h1 := HX.out.lt; have h2 := HBX.out.size; have h3 := HGX.out; omega
        have hne' : gx ≠ g := hne.symm
        have hgl := hX3.lt
        have x15 := HV.out W3 (HBX.out.trans (hB3.mono HBX.out.size)) 15 (.string P) rfl
        have y11 := (Cells.cell hX3 11).trans (show _ = some (Value.bool false) from rfl)
        have v11 := Cells.frozen hX3 11
        have y12 := (Cells.cell hX3 12).trans (show _ = some (Value.int .i64 id) from rfl)
        have v12 := Cells.frozen hX3 12
        have y13 := (Cells.cell hX3 13).trans (show _ = some (Value.int .i64 off) from rfl)
        have v13 := Cells.frozen hX3 13
        have y14 := (Cells.cell hX3 14).trans (show _ = some (Value.bool more) from rfl)
        have v14 := Cells.frozen hX3 14
        have y15 := (Cells.cell hX3 15).trans (show _ = some (Value.string P) from rfl)
        have v15 := Cells.frozen hX3 15
        have HX8 := Lib.hid (((((hX3.set 11 (.bool true)).set 12 (.int .i64 id2)).set 13 (.int .i64 (a : Int))).set 14 (.bool m2)).set 15 (.string E))
        have HB8 := Lib.hid (((((hB3.setCell (p := ⟨gx, 11, none⟩) HGX.out (.bool true)).setCell (p := ⟨gx, 12, none⟩) HGX.out (.int .i64 id2)).setCell (p := ⟨gx, 13, none⟩) HGX.out (.int .i64 (a : Int))).setCell (p := ⟨gx, 14, none⟩) HGX.out (.bool m2)).setCell (p := ⟨gx, 15, none⟩) HGX.out (.string E))
        clear hX3 hB3
        go_upto_region 18 with fail
        obtain ⟨W8, hW8⟩ : ∃ W, W = (((((W3.setCell ⟨gx, 11, none⟩ (.bool true)).setCell ⟨gx, 12, none⟩ (.int .i64 id2)).setCell ⟨gx, 13, none⟩ (.int .i64 (a : Int))).setCell ⟨gx, 14, none⟩ (.bool m2)).setCell ⟨gx, 15, none⟩ (.string E)) := ⟨_, rfl⟩
        rw [← hW8] at HX8 HB8
        rw [← hW8]
        clear hW8 hgl hne hne' x15 y11 v11 y12 v12 y13 v13 y14 v14 y15 v15
        have HP8 := Lib.hid (show Cells W8 gx 28 #[.int .i64 cls, .int .i64 lab, .int .i64 hops, .int .i64 nxt, .bool sv, .int .u64 (sh : Int), .int .u64 (sl : Int), .bool dv, .int .u64 (dh : Int), .int .u64 (dl : Int), .slice A n c, .bool true, .int .i64 id2, .int .i64 (a : Int), .bool m2, .string E] from HX8.out)
        have HBY := Lib.hid (HW.out _ (HBX.out.trans (HB8.out.mono HBX.out.size)))
        clear HX8
        go_wp2_with (refine wpList_load_row (by rfl) 28 _ (by rfl) gx (by rfl) 28 #[.int .i64 cls, .int .i64 lab, .int .i64 hops, .int .i64 nxt, .bool sv, .int .u64 (sh : Int), .int .u64 (sl : Int), .bool dv, .int .u64 (dh : Int), .int .u64 (dl : Int), .slice A n c, .bool true, .int .i64 id2, .int .i64 (a : Int), .bool m2, .string E] (0, 0) _ HP8.out Try.underlying28 (by rfl) (by kernel_rfl) ?_)
        refine (HEN.out _ HBY.out).mono ?_
        rintro e w9 ⟨rfl, hb9⟩
        have HP9 := Lib.hid (Cells.kept HP8.out hb9 HP8.out.lt)
        have HB9 := Lib.hid (HB8.out.trans (hb9.mono HB8.out.size))
        clear hb9 HP8 HB8 HBY HEN
        have HBZ := Lib.hid (HBX.out.trans (HB9.out.mono HBX.out.size))
        by_cases h0 : e2 ≠ 0
        · have HR := Lib.hid (show Q = ([], e2) by
            have h1 := HT.out.err HRUN.out (by rw [← HYP.out, ← HE2.out]; exact h0)
            rw [h1, ← HYP.out, ← HE2.out])
          have HBW2 := Lib.hid (HW.out _ HBZ.out)
          have m3 : ((e2 : Int) != 0) = true := by rw [bne_iff_ne]; omega
          clear h0
          go_wp2_with fail
          go_ret2
          exact SplP6.err HR.out rfl HBW2.out
        have he0 : e2 = 0 := by omega
        subst he0
        clear h0
        have HT2 := Lib.hid (HT.out.next (x := (y, A, c)) HRUN.out (by rw [← HYP.out, ← HE2.out]) hN1 HYP.out)
        rw [← HA2.out] at HT2
        have HXY := Lib.hid (show EIp6.cells [(y, A, c)] = [.int .i64 cls, .int .i64 lab, .int .i64 hops, .int .i64 nxt, .bool sv, .int .u64 (sh : Int), .int .u64 (sl : Int), .bool dv, .int .u64 (dh : Int), .int .u64 (dl : Int), .slice A n c, .bool true, .int .i64 id2, .int .i64 (a : Int), .bool m2, .string E] from by
          rw [HY.out, HEE.out, HN.out, EIp6.cells_one]
          rfl)
        have HYE := Lib.hid (show y.exts = l by rw [HY.out])
        have HO9 := Lib.hid (own_kept HO.out HB9.out (Nat.le_refl _))
        have HBB := Lib.hid (HBR.out.trans (HB9.out.mono (show B ≤ wr.heap.size by rw [HB.out]; exact HBR.out.size)))
        have hBs : B ≤ w9.heap.size := by rw [HB.out]; exact HBB.out.size
        have hmx9 := HMX.out.1
        clear HT HO HBR HB9 HE2
        go_wp2_with (first | (refine wpList_load_row (by rfl) 28 _ (by rfl) gx (by rfl) 28 #[.int .i64 cls, .int .i64 lab, .int .i64 hops, .int .i64 nxt, .bool sv, .int .u64 (sh : Int), .int .u64 (sl : Int), .bool dv, .int .u64 (dh : Int), .int .u64 (dl : Int), .slice A n c, .bool true, .int .i64 id2, .int .i64 (a : Int), .bool m2, .string E] (0, 0) _ HP9.out Try.underlying28 (by rfl) (by kernel_rfl) ?_) | (refine wpList_push (E := EIp6) ips6Ty (by rfl) _ _ (by rfl) B _ m es [(y, A, c)] (by rfl) (HO9.out.alloc _) _ 1 1 #[.int .i64 cls, .int .i64 lab, .int .i64 hops, .int .i64 nxt, .bool sv, .int .u64 (sh : Int), .int .u64 (sl : Int), .bool dv, .int .u64 (dh : Int), .int .u64 (dl : Int), .slice A n c, .bool true, .int .i64 id2, .int .i64 (a : Int), .bool m2, .string E] (0, 0) (by rfl) (heap_alloc_new _ _) HXY.out.symm rfl (by omega) (by omega) (by decide) (by simp; omega) ?_; intro g2 cap2 w11 hown hgrow hat hlt2; have HB11 := Lib.hid ((HBB.out.alloc hBs (.cells #[.int .i64 cls, .int .i64 lab, .int .i64 hops, .int .i64 nxt, .bool sv, .int .u64 (sh : Int), .int .u64 (sl : Int), .bool dv, .int .u64 (dh : Int), .int .u64 (dl : Int), .slice A n c, .bool true, .int .i64 id2, .int .i64 (a : Int), .bool m2, .string E] 28)).grown hgrow (by simp; omega) (fun j hj => (own_blk_in HO9.out _ hj).1)); have HO11 := Lib.hid hown; clear hown hgrow hat hlt2))
        go_roundw
        case rel => exact ⟨a2, m + 1, cap2, some ⟨g2, 0, none⟩, es ++ [(y, A, c)], rfl, rfl, HMX.out.2.2, by have := HMX.out; omega, Lib.hid (by rw [List.length_append, HM.out]; rfl), Lib.hid (fun x hx => by
          rcases List.mem_append.1 hx with h | h
          · exact HES.out x h
          · obtain rfl := List.mem_singleton.1 h
            exact ⟨rfl, HYE.out⟩), HO11, HB11, HT2⟩
        case measure => have := HMX.out; simp [intOf]; omega
    · have HFQ := Lib.hid (show Q = (es.map (·.1), 0) from HT.out.2 (by rw [← HPP.out.2.1]; exact hrun))
      have z0 : ((a : Int) == 0) = false := by rw [beq_eq_false_iff_ne]; omega
      have dla : decide ((a : Int) < (P.size : Int)) = false := by simp; omega
      have nla : ¬ (a : Int) < (P.size : Int) := by omega
      have x15 := HV.out wr HBX.out 15 (.string P) rfl
      clear hrun
      go_wp2_with fail
      go_ret2
      refine ⟨Ao, co, es, by rw [HFQ.out, List.length_map, ← HM.out]; rfl, by rw [HFQ.out], rowl_of_own HO.out HM.out, (fun x hx => ?_), (fun e => ?_), HW.out _ HBX.out⟩
      · obtain ⟨h1, h2⟩ := HES.out x hx
        rw [h1, h2]
        exact ⟨HC0.out, HS.out.kept (HW.out _ HBX.out)⟩
      · have ho := HO.out
        subst e
        exact (own_none ho).2
end Go.Proofs.Ytjjldolafnfpoaa
