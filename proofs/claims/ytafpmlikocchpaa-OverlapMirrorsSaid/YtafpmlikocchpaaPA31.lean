/- Contracts of the functions, part 31: OvPCmp. -/
import Derived.BigQuiet
import Derived.Test.YtafpmlikocchpaaPA13
import Derived.Test.YtafpmlikocchpaaPA24
/- Contract of the program of layer 15: compare. -/
namespace Go.Proofs.Ytafpmlikocchpaa
open Go.ChangeShapes Go.WideShapes Go.ChangeAt Go.RowKit
set_option linter.unusedVariables false
set_option maxRecDepth 100000

/-! ### Plain: the bytes counted -/
theorem cnt_append (p : CeR → Bool) (x y : List CeR) : (x ++ y).countP p = x.countP p + y.countP p := List.countP_append
theorem cnt_zero {p : CeR → Bool} {c : List CeR} (h : ∀ y ∈ c, p y = false) : c.countP p = 0 := by
  rw [List.countP_eq_zero]
  intro y hy
  rw [h y hy]
  exact Bool.false_ne_true
theorem inB_low {a : Int} {b : List UInt8} {y : CeR} (h : y.at_ < a) : inB a b y = false := by unfold inB; rw [show decide (a ≤ y.at_) = false by simpa using h]; rfl
theorem inB_high {a : Int} {b : List UInt8} {y : CeR} (h : a + b.length ≤ y.at_) : inB a b y = false := by unfold inB; rw [show decide (y.at_ < a + (b.length : Int)) = false by simpa using h, Bool.and_false]
theorem otherB_out {a : Int} {b : List UInt8} {y : CeR} (h : inB a b y = false) : otherB a b y = false := by unfold otherB; rw [h]; rfl
theorem celP_take_get {x : PcR} {j : Nat} {c : UInt8} (h : x.dat[j]? = some c) : (celP x).take (j + 1) = (celP x).take j ++ [⟨x.at_ + j, c, x.fr, x.to_⟩] := by
  have e : (celP x)[j]? = some ⟨x.at_ + j, c, x.fr, x.to_⟩ := by unfold celP; rw [celF_get, h]; rfl
  obtain ⟨hk, e⟩ := List.getElem?_eq_some_iff.1 e
  rw [List.take_succ_eq_append_getElem hk, e]
theorem celP_mem {x : PcR} {y : CeR} (h : y ∈ celP x) : x.at_ ≤ y.at_ ∧ y.at_ < x.at_ + x.dat.length := (celF_mem h).2.2
theorem celP_take_lt {x : PcR} {j : Nat} {y : CeR} (h : y ∈ (celP x).take j) : y.at_ < x.at_ + j := by
  obtain ⟨i, hi, e⟩ := List.mem_take_iff_getElem.1 h
  have e2 : (celP x)[i]? = some y := by rw [List.getElem?_eq_getElem (by omega), e]
  unfold celP at e2
  rw [celF_get] at e2
  cases hq : x.dat[i]? with
  | none => rw [hq] at e2; cases e2
  | some c =>
    rw [hq] at e2
    have := Option.some.inj e2
    rw [← this]
    show x.at_ + (i : Int) < x.at_ + (j : Int)
    omega
theorem celP_drop_ge {x : PcR} {j : Nat} {y : CeR} (h : y ∈ (celP x).drop j) : x.at_ + j ≤ y.at_ := by
  obtain ⟨i, hi, e⟩ := List.mem_drop_iff_getElem.1 h
  have e2 : (celP x)[j + i]? = some y := by rw [List.getElem?_eq_getElem (by omega), e]
  unfold celP at e2
  rw [celF_get] at e2
  cases hq : x.dat[j + i]? with
  | none => rw [hq] at e2; cases e2
  | some c =>
    rw [hq] at e2
    have := Option.some.inj e2
    rw [← this]
    show x.at_ + (j : Int) ≤ x.at_ + ((j + i : Nat) : Int)
    omega
theorem vldF_drop : ∀ {l : List PcR} {e : Int} (k : Nat) {x : PcR}, vldF e l → l[k]? = some x → vldF (x.at_ + x.dat.length) (l.drop (k + 1))
  | y :: r, e, 0, x, ⟨h1, h2, h3⟩, hx => by obtain rfl := Option.some.inj hx; exact h3
  | y :: r, e, k + 1, x, ⟨h1, h2, h3⟩, hx => vldF_drop k h3 (by simpa using hx)
/-- What is counted so far: the pieces before the k-th, and of that one the bytes before an offset. -/
def cntAt (p : CeR → Bool) (l : List PcR) (k : Nat) (x : PcR) (o : Int) : Nat := (cels (l.take k) ++ (celP x).take (o - x.at_).toNat).countP p
theorem cntAt_start {a : Int} {b : List UInt8} {l : List PcR} {k : Nat} {x : PcR} {p : CeR → Bool} (hp : ∀ y, inB a b y = false → p y = false) : cntAt p l k x (max x.at_ a) = (cels (l.take k)).countP p := by
  unfold cntAt
  rw [cnt_append, cnt_zero (c := List.take _ _) (fun y hy => hp y (inB_low (by
    have h1 := celP_take_lt hy
    have h2 := celP_mem (List.mem_of_mem_take hy)
    omega))), Nat.add_zero]
theorem cntAt_end {l : List PcR} {k : Nat} {x : PcR} {p : CeR → Bool} {o : Int} (hx : l[k]? = some x) (ho : x.at_ + x.dat.length ≤ o) : cntAt p l k x o = (cels (l.take (k + 1))).countP p := by
  unfold cntAt
  rw [cels_next hx, List.take_of_length_le (l := celP x) (by rw [celP_len]; omega)]
theorem cntAt_break {a : Int} {b : List UInt8} {l : List PcR} {e0 : Int} (hv : vldF e0 l) {k : Nat} {x : PcR} {p : CeR → Bool} (hp : ∀ y, inB a b y = false → p y = false) {o : Int} (hx : l[k]? = some x) (ho : x.at_ ≤ o) (hz : o < x.at_ + x.dat.length) (hb : a + b.length ≤ o) : cntAt p l k x o = (cels l).countP p := by
  have e : cels l = cels (l.take k) ++ ((celP x).take (o - x.at_).toNat ++ ((celP x).drop (o - x.at_).toNat ++ cels (l.drop (k + 1)))) := by
    obtain ⟨hk, e⟩ := List.getElem?_eq_some_iff.1 hx
    rw [← List.append_assoc (List.take _ _), List.take_append_drop, ← cels_cons, ← e, ← List.drop_eq_getElem_cons hk, ← cels_append, List.take_append_drop]
  unfold cntAt
  rw [e, cnt_append, cnt_append, cnt_append, cnt_append, cnt_zero (c := List.drop _ (celP x)) (fun y hy => hp y (inB_high (by
    have := celP_drop_ge hy
    omega))), cnt_zero (c := cels (l.drop _)) (fun y hy => hp y (inB_high (by
    have := srtF_ge (cels_srt (vldF_drop k hv hx)) hy
    omega)))]
  omega
theorem cntAt_next {l : List PcR} {k : Nat} {x : PcR} {p : CeR → Bool} {o : Int} {c : UInt8} (ho : x.at_ ≤ o) (hc : x.dat[(o - x.at_).toNat]? = some c) : cntAt p l k x (o + 1) = cntAt p l k x o + (if p ⟨o, c, x.fr, x.to_⟩ = true then 1 else 0) := by
  unfold cntAt
  rw [show (o + 1 - x.at_).toNat = (o - x.at_).toNat + 1 by omega, celP_take_get hc, ← List.append_assoc, cnt_append, show x.at_ + ((o - x.at_).toNat : Int) = o by omega, List.countP_cons, List.countP_nil, Nat.zero_add]
theorem cntAt_le (p : CeR → Bool) (l : List PcR) (k : Nat) (x : PcR) (o : Int) (hx : l[k]? = some x) : cntAt p l k x o ≤ sizeL l := by
  unfold cntAt
  refine Nat.le_trans List.countP_le_length ?_
  rw [List.length_append, cels_len, List.length_take, celP_len]
  have h1 := sizeL_take l (k + 1)
  have h2 := sizeL_next hx
  omega
set_option maxHeartbeats 16000000 in
theorem pcmp15 (l : List PcR) (A : Option Addr) (c : Nat) (a e : Int) (b : List UInt8) (B : ByteArray) (w : World) (h : RowL EPc w A l) (hl : l.length ≤ 100000) (hv : vldL l) (hz : sizeL l ≤ 1000000000) (hB : B = str b) (hb : b.length ≤ 1000000000) (h0 : 0 ≤ a) (ha : a ≤ 2147483648) (he : e = a + b.length) :
    Calls Try.prog 29 #[.slice A l.length c, .agg #[.int .i64 a, .string B, .int .i64 a, .int .i64 e]] w fun en w' => en = .returned (.tuple #[.int .i64 ((cels l).countP (inB a b) : Int), .int .i64 ((cels l).countP (otherB a b) : Int)]) ∧ Below w.heap.size w w' := by
  obtain ⟨n, hnl⟩ : ∃ n, n = l.length := ⟨_, rfl⟩
  rw [← hnl] at hl ⊢
  have hBs : B.size = b.length := by rw [hB, str_size]
  obtain ⟨T1, hT1⟩ : ∃ t, t = (cels l).countP (inB a b) := ⟨_, rfl⟩
  obtain ⟨T2, hT2⟩ : ∃ t, t = (cels l).countP (otherB a b) := ⟨_, rfl⟩
  rw [← hT1, ← hT2]
  have HT := Lib.hid (And.intro hT1 hT2)
  have HN := Lib.hid hnl
  have HV := Lib.hid hv
  have HSZ := Lib.hid hz
  have HBB := Lib.hid (And.intro hB hBs)
  have HE := Lib.hid he
  have HS := Lib.hid h
  obtain ⟨W1, hW1⟩ : ∃ W, W = w.alloc (.cells #[.int .i64 a, .string B, .int .i64 a, .int .i64 e] 23) := ⟨_, rfl⟩
  obtain ⟨g, hg⟩ : ∃ g, g = w.heap.size := ⟨_, rfl⟩
  have HX0 := Lib.hid (show Cells W1 g 23 #[.int .i64 a, .string B, .int .i64 a, .int .i64 e] by rw [hW1, hg]; exact heap_alloc_new w _)
  have HB0 := Lib.hid (show Below w.heap.size w W1 by rw [hW1]; exact below_alloc6 w _)
  have HW1 := Lib.hid hW1
  have HG := Lib.hid hg
  have heb : a ≤ e ∧ e ≤ 3147483648 := by omega
  clear hT1 hT2 hnl hv hz hB hBs he h hW1 hg
  go_enter Try.func29, Try.ntmps29
  go_wp2_with fail
  go_step3
  go_wp2_with fail
  go_step3
  rw [← HW1.out, ← HG.out]
  clear HW1 HG
  go_wp2_with fail
  go_loopw [4, 5, 11] (fun s4 s5 s11 wr => ∃ (k th df : Nat), s4 = .int .i64 (th : Int) ∧ s5 = .int .i64 (df : Int) ∧ s11 = .int .i64 (k : Int) ∧ k ≤ n ∧ Hid (th = (cels (l.take k)).countP (inB a b) ∧ df = (cels (l.take k)).countP (otherB a b)) ∧ Hid (Cells wr g 23 #[.int .i64 a, .string B, .int .i64 a, .int .i64 e]) ∧ Hid (Below w.heap.size w wr)) (fun _ _ i _ => n - (intOf i).toNat)
  case atStart => exact ⟨0, 0, 0, rfl, rfl, rfl, Nat.zero_le _, Lib.hid ⟨by simp [cels], by simp [cels]⟩, HX0, HB0⟩
  case round =>
    clear HX0 HB0
    obtain ⟨k, th, df, rfl, rfl, rfl, hk, HK, HX, HB⟩ := hrel
    by_cases hlt : k < n
    · obtain ⟨x, hget⟩ : ∃ x, l[k]? = some x := ⟨l[k]'(by have := HN.out; omega), List.getElem?_eq_getElem _⟩
      obtain ⟨ga, oa, rfl, hga⟩ := HS.out.shapeA (by have := HN.out; omega)
      obtain ⟨a0, a1, a2, a3⟩ := pc_at HS.out hget HB.out
      have hki : (k : Int) < (n : Int) := by omega
      have dlt : decide ((k : Int) < (n : Int)) = true := by simp; omega
      have hki0 : (0 : Int) ≤ (k : Int) := by omega
      obtain ⟨v1, v2, v3, v4, v5⟩ := vldF_mem HV.out x (List.mem_of_getElem? hget)
      have hth : th ≤ 1000000000 := by
        have h1 := HK.out.1
        have h2 : (cels (l.take k)).countP (inB a b) ≤ (cels (l.take k)).length := List.countP_le_length
        have h3 := cels_len (l.take k)
        have h4 := sizeL_take l k
        have h5 := HSZ.out
        omega
      have HGET := Lib.hid hget
      obtain ⟨D, hD⟩ : ∃ D, D = str x.dat := ⟨_, rfl⟩
      have hDs : D.size = x.dat.length := by rw [hD, str_size]
      rw [← hD] at a1
      obtain ⟨p, hp⟩ : ∃ p, p = x.at_ := ⟨_, rfl⟩
      rw [← hp] at a0 v4 v5
      obtain ⟨z, hz⟩ : ∃ z, z = p + (D.size : Int) := ⟨_, rfl⟩
      have wz : IntKind.i64.wrap z = z := by rw [IntKind.wrap_i64]; omega
      have HEND := Lib.hid (fun W => pend15 p x.fr x.to_ z D W hz.symm wz)
      have hzb : p ≤ z ∧ z ≤ 4294967296 ∧ 0 ≤ p := by omega
      obtain ⟨o0, ho0⟩ : ∃ o, o = max p a := ⟨_, rfl⟩
      have ho1 : max p a = o0 := ho0.symm
      have ho2 : max a p = o0 := by rw [ho0, Int.max_comm]
      have ho3 : p ≤ o0 ∧ a ≤ o0 := by omega
      have HK0 := Lib.hid (show th = cntAt (inB a b) l k x o0 ∧ df = cntAt (otherB a b) l k x o0 by
        rw [ho0, hp, cntAt_start (a := a) (b := b) (fun _ h => h), cntAt_start (a := a) (b := b) (fun _ h => otherB_out h)]
        exact HK.out)
      have hsz : w.heap.size ≤ wr.heap.size := HB.out.size
      obtain ⟨W2, hW2⟩ : ∃ W, W = wr.alloc (.cells #[.int .i64 p, .string D, .int .i64 x.fr, .int .i64 x.to_] 23) := ⟨_, rfl⟩
      obtain ⟨gx, hgx⟩ : ∃ g, g = wr.heap.size := ⟨_, rfl⟩
      have HY1 := Lib.hid (show Cells W2 gx 23 #[.int .i64 p, .string D, .int .i64 x.fr, .int .i64 x.to_] by rw [hW2, hgx]; exact heap_alloc_new wr _)
      have hb2 : Below wr.heap.size wr W2 := by rw [hW2]; exact below_alloc6 wr _
      have HX1 := Lib.hid (Cells.kept HX.out hb2 HX.out.lt)
      have HB1 := Lib.hid (HB.out.trans (hb2.mono hsz))
      have HW2 := Lib.hid hW2
      have HGX := Lib.hid hgx
      have HDD := Lib.hid (And.intro hD hDs)
      have HZ := Lib.hid hz
      have HP := Lib.hid hp
      clear hget hD hDs hp hz ho0 hsz hW2 hgx hb2 HX HB HK v1 v2 v3 v4 v5
      generalize x.fr = xf at *
      generalize x.to_ = xt at *
      go_upto_region 4 with fail
      rw [← HGX.out, ← HW2.out]
      clear HW2 HGX a0 a1 a2 a3
      have x0 := (Cells.cell HX1.out 0).trans (show _ = some (Value.int .i64 a) from rfl)
      have y0 := (Cells.cell HY1.out 0).trans (show _ = some (Value.int .i64 p) from rfl)
      go_upto_region 5 with fail
      clear x0 y0
      go_loopw [4, 5, 8] (fun s4 s5 s8 wi => ∃ (th df : Nat) (o : Int), s4 = .int .i64 (th : Int) ∧ s5 = .int .i64 (df : Int) ∧ s8 = .int .i64 o ∧ th ≤ 1000000000 ∧ df ≤ 1000000000 ∧ p ≤ o ∧ a ≤ o ∧ Hid (th = cntAt (inB a b) l k x o ∧ df = cntAt (otherB a b) l k x o) ∧ Hid (Cells wi g 23 #[.int .i64 a, .string B, .int .i64 a, .int .i64 e]) ∧ Hid (Cells wi gx 23 #[.int .i64 p, .string D, .int .i64 xf, .int .i64 xt]) ∧ Hid (Below w.heap.size w wi)) (fun _ _ o _ => (z - intOf o).toNat)
      case atStart => exact ⟨th, df, o0, rfl, rfl, rfl, hth, by
        have h1 := HK0.out.2
        have h2 := cntAt_le (otherB a b) l k x o0 HGET.out
        have h3 := HSZ.out
        omega, ho3.1, ho3.2, HK0, HX1, HY1, HB1⟩
      case round =>
        clear HK0 HX1 HY1 HB1 ho1 ho2 ho3 hth
        obtain ⟨th, df, o, rfl, rfl, rfl, hth, hdf, hpo, hao, HK, HX, HY, HB⟩ := hrel
        have y0 := (Cells.cell HY.out 0).trans (show _ = some (Value.int .i64 p) from rfl)
        have y1 := (Cells.cell HY.out 1).trans (show _ = some (Value.string D) from rfl)
        have y2 := (Cells.cell HY.out 2).trans (show _ = some (Value.int .i64 xf) from rfl)
        have y3 := (Cells.cell HY.out 3).trans (show _ = some (Value.int .i64 xt) from rfl)
        by_cases hoz : o < z
        · have doz : decide (o < z) = true := by simpa using hoz
          go_wp2_with fail
          refine (HEND.out _).mono ?_
          rintro en w2 ⟨rfl, hb2⟩
          have HX2 := Lib.hid (Cells.kept HX.out hb2 HX.out.lt)
          have HY2 := Lib.hid (Cells.kept HY.out hb2 HY.out.lt)
          have HB2 := Lib.hid (HB.out.trans (hb2.mono HB.out.size))
          clear hb2 HX HY HB y0 y1 y2 y3
          have x3 := (Cells.cell HX2.out 3).trans (show _ = some (Value.int .i64 e) from rfl)
          by_cases hoe : e ≤ o
          · have doe : decide (e ≤ o) = true := by simpa using hoe
            have HF := Lib.hid (show th = T1 ∧ df = T2 by
              have h1 := HK.out
              have hz2 : o < x.at_ + x.dat.length := by have e1 := HZ.out; have e2 := HP.out; have e3 := HDD.out.2; omega
              have hp2 : x.at_ ≤ o := by have e2 := HP.out; omega
              have he2 : a + b.length ≤ o := by have e3 := HE.out; omega
              rw [cntAt_break HV.out (a := a) (b := b) (fun _ h => h) HGET.out hp2 hz2 he2, cntAt_break HV.out (a := a) (b := b) (fun _ h => otherB_out h) HGET.out hp2 hz2 he2] at h1
              exact ⟨h1.1.trans HT.out.1.symm, h1.2.trans HT.out.2.symm⟩)
            go_wp2_with fail
            (try rw [Exit.noGoto_ret])
            go_ret2
            exact ⟨by rw [HF.out.1, HF.out.2]; rfl, HB2.out⟩
          · have doe : decide (e ≤ o) = false := by simpa using hoe
            have noe : ¬ e ≤ o := hoe
            obtain ⟨j, hj⟩ : ∃ j : Nat, j = (o - p).toNat := ⟨_, rfl⟩
            obtain ⟨i, hi⟩ : ∃ i : Nat, i = (o - a).toNat := ⟨_, rfl⟩
            have kj : o - p = (j : Int) := by omega
            have ki : o - a = (i : Int) := by omega
            have wj : IntKind.i64.wrap (j : Int) = (j : Int) := by rw [IntKind.wrap_i64]; omega
            have wi : IntKind.i64.wrap (i : Int) = (i : Int) := by rw [IntKind.wrap_i64]; omega
            have hjD : j < D.size := by have e1 := HZ.out; omega
            have hiB : i < B.size := by have e1 := HE.out; have e2 := HBB.out.2; omega
            have hjDi : (j : Int) < (D.size : Int) := by omega
            have hiBi : (i : Int) < (B.size : Int) := by omega
            have hj0 : (0 : Int) ≤ (j : Int) := by omega
            have hi0 : (0 : Int) ≤ (i : Int) := by omega
            obtain ⟨cd, hcd⟩ : ∃ c, x.dat[j]? = some c := ⟨x.dat[j]'(by have := HDD.out.2; omega), List.getElem?_eq_getElem _⟩
            obtain ⟨cb, hcb⟩ : ∃ c, b[i]? = some c := ⟨b[i]'(by have := HBB.out.2; omega), List.getElem?_eq_getElem _⟩
            obtain ⟨bn, hbn⟩ : ∃ q, q = ((cd.toNat : Int) != (cb.toNat : Int)) := ⟨_, rfl⟩
            have hbn1 : ((cd.toNat : Int) != (cb.toNat : Int)) = bn := hbn.symm
            have hbn2 : (cd != cb) = bn := by
              rw [hbn]
              by_cases q : cd = cb
              · rw [q]; simp
              · have : cd.toNat ≠ cb.toNat := fun e => q (UInt8.toNat_inj.1 e)
                rw [show (cd != cb) = true by simpa using q]
                symm
                simpa using fun e => this (by omega)
            have hd1 : (D[j]'hjD).toNat = cd.toNat := by
              obtain ⟨hk', e⟩ := List.getElem?_eq_some_iff.1 hcd
              rw [← e]
              exact s15_at HDD.out.1 j hjD hk'
            have hb1 : (B[i]'hiB).toNat = cb.toNat := by
              obtain ⟨hk', e⟩ := List.getElem?_eq_some_iff.1 hcb
              rw [← e]
              exact s15_at HBB.out.1 i hiB hk'
            have hcell : inB a b ⟨o, cd, x.fr, x.to_⟩ = true := by
              unfold inB
              have e1 := HE.out
              simp only [Bool.and_eq_true, decide_eq_true_eq]
              omega
            have hoth : otherB a b ⟨o, cd, x.fr, x.to_⟩ = bn := by
              unfold otherB
              rw [hcell, Bool.true_and]
              show (cd != b.getD (o - a).toNat 0) = bn
              rw [← hi, List.getD_eq_getElem?_getD, hcb]
              exact hbn2
            have HK2 := Lib.hid (show th + 1 = cntAt (inB a b) l k x (o + 1) ∧ (df + if bn = true then 1 else 0) = cntAt (otherB a b) l k x (o + 1) by
              have hp2 : x.at_ ≤ o := by have e2 := HP.out; omega
              have hc2 : x.dat[(o - x.at_).toNat]? = some cd := by rw [← HP.out, ← hj]; exact hcd
              rw [cntAt_next hp2 hc2, cntAt_next hp2 hc2, hcell, hoth, ← HK.out.1, ← HK.out.2]
              exact ⟨rfl, rfl⟩)
            have hth2 : th + 1 ≤ 1000000000 := by
              have h1 := HK2.out.1
              have h2 := cntAt_le (inB a b) l k x (o + 1) HGET.out
              have h3 := HSZ.out
              omega
            have hdf2 : (df + if bn = true then 1 else 0) ≤ 1000000000 := by
              have h1 := HK2.out.2
              have h2 := cntAt_le (otherB a b) l k x (o + 1) HGET.out
              have h3 := HSZ.out
              omega
            obtain ⟨o2, ho2⟩ : ∃ o2, o2 = o + 1 := ⟨_, rfl⟩
            have ko2 : o + 1 = o2 := ho2.symm
            have wo2 : IntKind.i64.wrap o2 = o2 := by rw [IntKind.wrap_i64]; omega
            have ho2b : p ≤ o2 ∧ a ≤ o2 ∧ (z - o2).toNat < (z - o).toNat := by omega
            rw [ko2] at HK2
            have HX9 := HX2
            have HY9 := HY2
            clear hcd hcb hbn hbn2 hcell hoth hj hi ho2 HK
            generalize cd.toNat = nd at *
            generalize cb.toNat = nb at *
            go_wp2_with fail
            clear x3
            refine wp_region_pick (fun w' => Below w2.heap.size w2 w') (by kernel_rfl) (by kernel_rfl) (Below.refl _ _) ⟨rfl, rfl, rfl, Nat.le_refl _, fun _ _ => rfl⟩ (fun pw hp hq => ?_)
            have y0 : ∀ u, (pw u).cell? ⟨gx, 0, none⟩ = some (.int .i64 p) := fun u => (Cells.cell (Cells.kept HY2.out (hp u) HY2.out.lt) 0).trans rfl
            have y1 : ∀ u, (pw u).cell? ⟨gx, 1, none⟩ = some (.string D) := fun u => (Cells.cell (Cells.kept HY2.out (hp u) HY2.out.lt) 1).trans rfl
            have x0 : ∀ u, (pw u).cell? ⟨g, 0, none⟩ = some (.int .i64 a) := fun u => (Cells.cell (Cells.kept HX2.out (hp u) HX2.out.lt) 0).trans rfl
            have x1 : ∀ u, (pw u).cell? ⟨g, 1, none⟩ = some (.string B) := fun u => (Cells.cell (Cells.kept HX2.out (hp u) HX2.out.lt) 1).trans rfl
            have HP9 := Lib.hid hp
            have HQ9 := Lib.hid hq
            clear hp hq
            repeat (go_big_quiet_step (fail))
            refine wpQuiet_nil ?_
            rintro _ ⟨u9, rfl⟩
            have HX3 := Lib.hid (Cells.kept HX2.out (HP9.out u9) HX2.out.lt)
            have HY3 := Lib.hid (Cells.kept HY2.out (HP9.out u9) HY2.out.lt)
            have HB3 := Lib.hid (HB2.out.trans ((HP9.out u9).mono HB2.out.size))
            generalize pw u9 = w5 at *
            clear HP9 HQ9 y0 y1 x0 x1 HX2 HY2 HB2
            cases bn
            · have HK3 := Lib.hid (show th + 1 = cntAt (inB a b) l k x o2 ∧ df = cntAt (otherB a b) l k x o2 from HK2.out)
              clear HK2
              go_wp2_with fail
              go_roundw
              case rel => exact ⟨th + 1, df, o2, by go_num, rfl, rfl, hth2, hdf, ho2b.1, ho2b.2.1, HK3, HX3, HY3, HB3⟩
              case measure => simp only [intOf]; exact ho2b.2.2
            · have HK3 := Lib.hid (show th + 1 = cntAt (inB a b) l k x o2 ∧ df + 1 = cntAt (otherB a b) l k x o2 from HK2.out)
              have hdf3 : df + 1 ≤ 1000000000 := hdf2
              clear HK2 hdf2
              go_wp2_with fail
              go_roundw
              case rel => exact ⟨th + 1, df + 1, o2, by go_num, by go_num, rfl, hth2, hdf3, ho2b.1, ho2b.2.1, HK3, HX3, HY3, HB3⟩
              case measure => simp only [intOf]; exact ho2b.2.2
        · have doz : decide (o < z) = false := by simpa using hoz
          have noz : ¬ o < z := hoz
          go_wp2_with fail
          refine (HEND.out _).mono ?_
          rintro en w2 ⟨rfl, hb2⟩
          have HX2 := Lib.hid (Cells.kept HX.out hb2 HX.out.lt)
          have HB2 := Lib.hid (HB.out.trans (hb2.mono HB.out.size))
          have HK2 := Lib.hid (show th = (cels (l.take (k + 1))).countP (inB a b) ∧ df = (cels (l.take (k + 1))).countP (otherB a b) by
            have hz2 : x.at_ + x.dat.length ≤ o := by have e1 := HZ.out; have e2 := HP.out; have e3 := HDD.out.2; omega
            have h1 := HK.out
            rw [cntAt_end HGET.out hz2, cntAt_end HGET.out hz2] at h1
            exact h1)
          clear hb2 HX HY HB HK y0 y1 y2 y3
          go_wp2_with fail
          go_roundw
          case rel => exact ⟨k + 1, th, df, rfl, rfl, by go_num, by omega, HK2, HX2, HB2⟩
          case measure => simp [intOf]; omega
    · obtain rfl : k = n := by omega
      have hd : decide ((k : Int) < (k : Int)) = false := by simp
      have HF := Lib.hid (show th = T1 ∧ df = T2 by
        have h1 := HK.out
        rw [HN.out, List.take_length] at h1
        exact ⟨h1.1.trans HT.out.1.symm, h1.2.trans HT.out.2.symm⟩)
      go_wp2_with fail
      (try rw [Exit.noGoto_ret])
      go_ret2
      exact ⟨by rw [HF.out.1, HF.out.2]; rfl, HB.out⟩
end Go.Proofs.Ytafpmlikocchpaa
