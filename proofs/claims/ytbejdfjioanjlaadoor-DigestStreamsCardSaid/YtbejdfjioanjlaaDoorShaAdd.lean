/- Contract: the program's change of a state by a block. -/
import Derived.Test.YtbejdfjioanjlaaDoorShaObj
namespace Go.Proofs.YtbejdfjioanjlaaDoor
open Go.ChangeShapes Go.WideShapes Go.ChangeAt Go.RowKit

theorem ones_xor (c : Nat) (h : c < 4294967296) : bits .xor .u32 IntKind.u32.max (c : Int) = ((4294967295 ^^^ c : Nat) : Int) := by
  rw [show IntKind.u32.max = ((4294967295 : Nat) : Int) from by decide, u32_xor_nat 4294967295 c (by decide) h]
theorem xor2 {a b : Nat} (ha : a < 4294967296) (hb : b < 4294967296) : bits .xor .u32 (a : Int) (b : Int) = ((a ^^^ b : Nat) : Int) := u32_xor_nat a b ha hb
theorem and2 {a b : Nat} (ha : a < 4294967296) (hb : b < 4294967296) : bits .and .u32 (a : Int) (b : Int) = ((a &&& b : Nat) : Int) := u32_and_nat a b ha hb

/-- What the rounds know of memory. -/
def Ad (w0 : World) (g b : Nat) (L : List UInt8) (S : St) (P : List UInt8) (n : Nat) (V : World) : Prop :=
  Kt V ∧ HH V g S P n ∧ (∀ x, x < 64 → V.cell? ⟨b, x, none⟩ = some (.int .u32 ((sched L).getD x 0 : Nat))) ∧ Below w0.heap.size w0 V
theorem Ad.drewN {w0 : World} {g b : Nat} {L : List UInt8} {S : St} {P : List UInt8} {n : Nat} {V : World} (h : Ad w0 g b L S P n V) (q : Nat) : Ad w0 g b L S P n (V.drewN q) :=
  ⟨h.1, h.2.1, h.2.2.1, below_drewN h.2.2.2 q⟩

set_option maxHeartbeats 2000000 in
set_option maxRecDepth 20000 in
theorem hadd_any (g : Nat) (S : St) (P : List UInt8) (n : Nat) (s : ByteArray) (w : World) (hs : s.size = 64) (hk : Kt w) (hh : HH w g S P n) (hok : S.ok) :
    Calls Tryd.prog 25 #[.pointer (some ⟨g, 0, none⟩), .string s] w fun e w' => e = .returned (.tuple #[]) ∧ HH w' g (comp S s.data.toList) P n ∧ w.grownBy w' (some g) := by
  have hsch := fun W => sched_any s W hs
  have hcomp : comp S s.data.toList = S.plus (run (sched s.data.toList) S 64) := rfl
  generalize s.data.toList = L at *
  have HSCH := Lib.hid hsch
  have HCOMP := Lib.hid hcomp
  clear hsch hcomp
  obtain ⟨hz, hi⟩ := zero_of_info info64
  have hzs : (Array.replicate 64 (Value.int .u32 0)).size = 64 := by simp
  generalize Array.replicate 64 (Value.int .u32 0) = Z at *
  have HS := Lib.hid hzs
  have HI := Lib.hid hi
  have HOK := Lib.hid hok
  have HK := Lib.hid hk
  have HHH := Lib.hid hh
  clear hzs hi hok hk hh
  go_enter Tryd.func25, Tryd.ntmps25
  go_wp2_with fail
  refine (HSCH.out _).mono ?_
  rintro e w1 ⟨T, rfl, ⟨hTn, hTc⟩, hb1⟩
  have hiT : (Tryd.prog.info? 52).map (·.size) = some T.size := by rw [hTn]; exact HI.out
  have hall : T.all (·.oneCell') = true := by
    rw [Array.all_eq_true]
    intro i h
    have := hTc i (by omega)
    rw [Array.getElem?_eq_getElem h] at this
    rw [Option.some.inj this]; rfl
  have HIT := Lib.hid hiT
  have HALL := Lib.hid hall
  have HZn := Lib.hid (HS.out.trans hTn.symm)
  have HTc := Lib.hid hTc
  have HB1 := Lib.hid hb1
  clear hTn hTc hiT hall hb1
  go_wp2_with (refine wpList_store_row rfl 52 _ _ rfl w1.heap.size T rfl rfl 52 Z (heap_alloc_last _ _) HIT.out HZn.out HALL.out ?_; rw [World.setRow_alloc_new]; generalize hW2 : w1.alloc (.cells T 52) = W2)
  obtain ⟨b, hb⟩ : ∃ b, b = w1.heap.size := ⟨_, rfl⟩
  rw [← hb]
  have hA0 : Ad w g b L S P n W2 := by
    have hA := HK.out.kept HB1.out
    have hB := HHH.out.kept HB1.out
    rw [← hW2]
    refine ⟨hA.alloc _, hB.kept ((Below.refl _ _).alloc (Nat.le_refl _) _), fun x hx => ?_, HB1.out.alloc HB1.out.size _⟩
    rw [hb, World.cell?_alloc_at _ _ _ _ rfl]
    exact HTc.out x hx
  clear hW2 HTc HZn HIT HALL HB1 HK HHH HSCH hb hz HI HS
  have c0 := hA0.2.1.word (i := 0) (by decide)
  have c1 := hA0.2.1.word (i := 1) (by decide)
  have c2 := hA0.2.1.word (i := 2) (by decide)
  have c3 := hA0.2.1.word (i := 3) (by decide)
  have c4 := hA0.2.1.word (i := 4) (by decide)
  have c5 := hA0.2.1.word (i := 5) (by decide)
  have c6 := hA0.2.1.word (i := 6) (by decide)
  have c7 := hA0.2.1.word (i := 7) (by decide)
  simp only [St.get] at c0 c1 c2 c3 c4 c5 c6 c7
  have HA0 := Lib.hid hA0
  clear hA0
  go_quiet (fail)
  have hA1 := HA0.out.drewN nq
  clear HA0 c0 c1 c2 c3 c4 c5 c6 c7
  generalize W2.drewN nq = W3 at *
  go_wp2_with fail
  go_loopw [5, 6, 7, 8, 9, 10, 11, 12, 50] (fun xa xb xc xd xe xf xg xh i wr => ∃ t : Nat, t ≤ 64 ∧ i = .int .i64 t ∧ xa = .int .u32 (run (sched L) S t).a ∧ xb = .int .u32 (run (sched L) S t).b ∧ xc = .int .u32 (run (sched L) S t).c ∧ xd = .int .u32 (run (sched L) S t).d ∧ xe = .int .u32 (run (sched L) S t).e ∧ xf = .int .u32 (run (sched L) S t).f ∧ xg = .int .u32 (run (sched L) S t).g ∧ xh = .int .u32 (run (sched L) S t).h ∧ Ad w g b L S P n wr) (fun _ _ _ _ _ _ _ _ i _ => 64 - (intOf i).toNat)
  case atStart => exact ⟨0, by omega, rfl, rfl, rfl, rfl, rfl, rfl, rfl, rfl, rfl, hA1⟩
  case round =>
    clear hA1
    obtain ⟨t, ht, rfl, rfl, rfl, rfl, rfl, rfl, rfl, rfl, rfl, hA⟩ := hrel
    have hR := run_ok (sched L) HOK.out t
    by_cases hlt : t < 64
    · have hnext : run (sched L) S (t + 1) = rnd (run (sched L) S t) (KL.getD t 0) ((sched L).getD t 0) := rfl
      have ck := hA.1.cell hlt
      have cw := hA.2.2.1 t hlt
      generalize run (sched L) S t = R at *
      generalize KL.getD t 0 = kt at *
      generalize (sched L).getD t 0 = wt at *
      obtain ⟨ra, rb, rc, rd, re, rf, rg, rh⟩ := R
      obtain ⟨la, lb, lc, ld, le, lf, lg, lh⟩ := hR
      simp only at la lb lc ld le lf lg lh
      have HA := Lib.hid hA
      clear hA HOK HCOMP
      have k6 : ∀ V, Calls Tryd.prog 31 #[.int .u32 re, .int .i64 6] V fun e w' => e = .returned (.int .u32 (ror re 6 : Nat)) ∧ V = w' := fun V => rotr_any re 6 V (by assumption) (by decide) (by decide)
      have k11 : ∀ V, Calls Tryd.prog 31 #[.int .u32 re, .int .i64 11] V fun e w' => e = .returned (.int .u32 (ror re 11 : Nat)) ∧ V = w' := fun V => rotr_any re 11 V (by assumption) (by decide) (by decide)
      have k25 : ∀ V, Calls Tryd.prog 31 #[.int .u32 re, .int .i64 25] V fun e w' => e = .returned (.int .u32 (ror re 25 : Nat)) ∧ V = w' := fun V => rotr_any re 25 V (by assumption) (by decide) (by decide)
      have k2 : ∀ V, Calls Tryd.prog 31 #[.int .u32 ra, .int .i64 2] V fun e w' => e = .returned (.int .u32 (ror ra 2 : Nat)) ∧ V = w' := fun V => rotr_any ra 2 V (by assumption) (by decide) (by decide)
      have k13 : ∀ V, Calls Tryd.prog 31 #[.int .u32 ra, .int .i64 13] V fun e w' => e = .returned (.int .u32 (ror ra 13 : Nat)) ∧ V = w' := fun V => rotr_any ra 13 V (by assumption) (by decide) (by decide)
      have k22 : ∀ V, Calls Tryd.prog 31 #[.int .u32 ra, .int .i64 22] V fun e w' => e = .returned (.int .u32 (ror ra 22 : Nat)) ∧ V = w' := fun V => rotr_any ra 22 V (by assumption) (by decide) (by decide)
      have f1 := xor3 (ror_lt 6 le) (ror_lt 11 le) (ror_lt 25 le)
      have f2 := xor3 (ror_lt 2 la) (ror_lt 13 la) (ror_lt 22 la)
      rw [show ror re 6 ^^^ ror re 11 ^^^ ror re 25 = fe re from rfl] at f1
      rw [show ror ra 2 ^^^ ror ra 13 ^^^ ror ra 22 = fa ra from rfl] at f2
      have g1 := and2 le lf
      have g2 := ones_xor re le
      have g3 := and2 (xor32 (show 4294967295 < 4294967296 by decide) le) lg
      have g4 := xor2 (and32 (b := rf) le) (and32 (b := rg) (xor32 (show 4294967295 < 4294967296 by decide) le))
      rw [show (re &&& rf) ^^^ ((4294967295 ^^^ re) &&& rg) = fch re rf rg from rfl] at g4
      have g5 := and2 la lb
      have g6 := and2 la lc
      have g7 := and2 lb lc
      have g8 := xor3 (and32 (b := rb) la) (and32 (b := rc) la) (and32 (b := rc) lb)
      rw [show (ra &&& rb) ^^^ (ra &&& rc) ^^^ (rb &&& rc) = fmj ra rb rc from rfl] at g8
      have g9 := xor2 (and32 (b := rb) la) (and32 (b := rc) la)
      have p1 := ad_int rh (fe re)
      have p2 := ad_int (ad rh (fe re)) (fch re rf rg)
      have p3 := ad_int (ad (ad rh (fe re)) (fch re rf rg)) kt
      have p4 := ad_int (ad (ad (ad rh (fe re)) (fch re rf rg)) kt) wt
      have p5 := ad_int (fa ra) (fmj ra rb rc)
      have hx : rx ⟨ra, rb, rc, rd, re, rf, rg, rh⟩ kt wt = ad (ad (ad (ad rh (fe re)) (fch re rf rg)) kt) wt := rfl
      have hy : ry ⟨ra, rb, rc, rd, re, rf, rg, rh⟩ = ad (fa ra) (fmj ra rb rc) := rfl
      have hn : run (sched L) S (t + 1) = ⟨ad (rx ⟨ra, rb, rc, rd, re, rf, rg, rh⟩ kt wt) (ry ⟨ra, rb, rc, rd, re, rf, rg, rh⟩), ra, rb, rc, ad rd (rx ⟨ra, rb, rc, rd, re, rf, rg, rh⟩ kt wt), re, rf, rg⟩ := hnext
      rw [hx, hy] at hn
      clear hx hy hnext
      have p6 := ad_int (ad (ad (ad (ad rh (fe re)) (fch re rf rg)) kt) wt) (ad (fa ra) (fmj ra rb rc))
      have p7 := ad_int rd (ad (ad (ad (ad rh (fe re)) (fch re rf rg)) kt) wt)
      generalize ad (ad (ad (ad (ad rh (fe re)) (fch re rf rg)) kt) wt) (ad (fa ra) (fmj ra rb rc)) = na at *
      generalize ad rd (ad (ad (ad (ad rh (fe re)) (fch re rf rg)) kt) wt) = ne at *
      generalize ad (ad (ad (ad rh (fe re)) (fch re rf rg)) kt) wt = x at *
      generalize ad (ad (ad rh (fe re)) (fch re rf rg)) kt = x3 at *
      generalize ad (ad rh (fe re)) (fch re rf rg) = x2 at *
      generalize ad rh (fe re) = x1 at *
      generalize ad (fa ra) (fmj ra rb rc) = y at *
      generalize fe re = u1 at *
      generalize fa ra = u2 at *
      generalize fch re rf rg = u3 at *
      generalize fmj ra rb rc = u4 at *
      generalize re &&& rf = u5 at *
      generalize (4294967295 ^^^ re) &&& rg = u6 at *
      generalize 4294967295 ^^^ re = u7 at *
      generalize ra &&& rb = u8 at *
      generalize ra &&& rc = u9 at *
      generalize rb &&& rc = u10 at *
      generalize ror re 6 = r6 at *
      generalize ror re 11 = r11 at *
      generalize ror re 25 = r25 at *
      generalize ror ra 2 = r2 at *
      generalize ror ra 13 = r13 at *
      generalize ror ra 22 = r22 at *
      have K6 := Lib.hid k6
      have K11 := Lib.hid k11
      have K25 := Lib.hid k25
      have K2 := Lib.hid k2
      have K13 := Lib.hid k13
      have K22 := Lib.hid k22
      have HN := Lib.hid hn
      clear k6 k11 k25 k2 k13 k22 g9 hn
      have hti : (t : Int) < 64 := by omega
      go_wp2_with fail
      go_quiet (first | (go_at_call_of 31 (Value.int .i64 (6 : Int)); exact quiet_eq (K6.out _)) | (go_at_call_of 31 (Value.int .i64 (11 : Int)); exact quiet_eq (K11.out _)) | (go_at_call_of 31 (Value.int .i64 (25 : Int)); exact quiet_eq (K25.out _)))
      have hA2 := HA.out.drewN nq
      clear HA ck cw
      generalize wr.drewN nq = w2 at *
      go_wp2_with fail
      refine (K2.out _).mono ?_
      rintro e w4 ⟨rfl, rfl⟩
      go_wp2_with fail
      refine (K13.out _).mono ?_
      rintro e w4 ⟨rfl, rfl⟩
      go_wp2_with fail
      refine (K22.out _).mono ?_
      rintro e w4 ⟨rfl, rfl⟩
      go_wp2_with fail
      go_roundw
      case rel => exact ⟨t + 1, by omega, by go_num, by rw [HN.out]; exact congrArg _ (show _ = (na : Int) by omega), by rw [HN.out], by rw [HN.out], by rw [HN.out], by rw [HN.out]; exact congrArg _ (show _ = (ne : Int) by omega), by rw [HN.out], by rw [HN.out], by rw [HN.out], hA2⟩
      case measure => simp [intOf]; omega
    · obtain rfl : t = 64 := by omega
      have hC := HCOMP.out
      generalize run (sched L) S 64 = R at *
      have hh := hA.2.1
      have hg := but_below hA.2.2.2 (some g)
      clear hA HOK HCOMP
      obtain ⟨sa, sb, sc, sd, se, sf, sg, sh⟩ := S
      obtain ⟨ra, rb, rc, rd, re, rf, rg, rh⟩ := R
      have hCC : comp ⟨sa, sb, sc, sd, se, sf, sg, sh⟩ L = ⟨ad sa ra, ad sb rb, ad sc rc, ad sd rd, ad se re, ad sf rf, ad sg rg, ad sh rh⟩ := hC
      have p0 := ad_int sa ra
      have p1 := ad_int sb rb
      have p2 := ad_int sc rc
      have p3 := ad_int sd rd
      have p4 := ad_int se re
      have p5 := ad_int sf rf
      have p6 := ad_int sg rg
      have p7 := ad_int sh rh
      generalize ad sa ra = n0 at *
      generalize ad sb rb = n1 at *
      generalize ad sc rc = n2 at *
      generalize ad sd rd = n3 at *
      generalize ad se re = n4 at *
      generalize ad sf rf = n5 at *
      generalize ad sg rg = n6 at *
      generalize ad sh rh = n7 at *
      have HCC := Lib.hid hCC
      have hd : decide ((64 : Int) < 64) = false := by decide
      have hV := Lib.hid hh
      have hG := Lib.hid hg
      clear hCC hR hC hlt ht hh hg
      go_wp2_with fail
      have c := hV.out.word0
      go_still_tail 8, (by kernel_rfl)
      change wpList _ _ _ _ _ wr.drew
      have hV1 := Lib.hid hV.out.drew
      have hG1 := Lib.hid (but_drew hG.out)
      have z := hV1.out.frozen 0
      have c1 := hV1.out.word0
      clear c hV hG
      generalize wr.drew = v0 at *
      go_wp2_with fail
      rw [p0]
      have hV := Lib.hid (hV1.out.put0 n0)
      have hG := Lib.hid (but_setCell hG1.out 0 (.int .u32 n0))
      clear c1 z hV1 hG1
      generalize v0.setCell ⟨g, 0, none⟩ (.int .u32 n0) = x0 at *
      have c := hV.out.word1
      go_still_tail 8, (by kernel_rfl)
      change wpList _ _ _ _ _ x0.drew
      have hV1 := Lib.hid hV.out.drew
      have hG1 := Lib.hid (but_drew hG.out)
      have z := hV1.out.frozen 1
      have c1 := hV1.out.word1
      clear c hV hG
      generalize x0.drew = v1 at *
      go_wp2_with fail
      rw [p1]
      have hV := Lib.hid (hV1.out.put1 n1)
      have hG := Lib.hid (but_setCell hG1.out 1 (.int .u32 n1))
      clear c1 z hV1 hG1
      generalize v1.setCell ⟨g, 1, none⟩ (.int .u32 n1) = x1 at *
      have c := hV.out.word2
      go_still_tail 8, (by kernel_rfl)
      change wpList _ _ _ _ _ x1.drew
      have hV1 := Lib.hid hV.out.drew
      have hG1 := Lib.hid (but_drew hG.out)
      have z := hV1.out.frozen 2
      have c1 := hV1.out.word2
      clear c hV hG
      generalize x1.drew = v2 at *
      go_wp2_with fail
      rw [p2]
      have hV := Lib.hid (hV1.out.put2 n2)
      have hG := Lib.hid (but_setCell hG1.out 2 (.int .u32 n2))
      clear c1 z hV1 hG1
      generalize v2.setCell ⟨g, 2, none⟩ (.int .u32 n2) = x2 at *
      have c := hV.out.word3
      go_still_tail 8, (by kernel_rfl)
      change wpList _ _ _ _ _ x2.drew
      have hV1 := Lib.hid hV.out.drew
      have hG1 := Lib.hid (but_drew hG.out)
      have z := hV1.out.frozen 3
      have c1 := hV1.out.word3
      clear c hV hG
      generalize x2.drew = v3 at *
      go_wp2_with fail
      rw [p3]
      have hV := Lib.hid (hV1.out.put3 n3)
      have hG := Lib.hid (but_setCell hG1.out 3 (.int .u32 n3))
      clear c1 z hV1 hG1
      generalize v3.setCell ⟨g, 3, none⟩ (.int .u32 n3) = x3 at *
      have c := hV.out.word4
      go_still_tail 8, (by kernel_rfl)
      change wpList _ _ _ _ _ x3.drew
      have hV1 := Lib.hid hV.out.drew
      have hG1 := Lib.hid (but_drew hG.out)
      have z := hV1.out.frozen 4
      have c1 := hV1.out.word4
      clear c hV hG
      generalize x3.drew = v4 at *
      go_wp2_with fail
      rw [p4]
      have hV := Lib.hid (hV1.out.put4 n4)
      have hG := Lib.hid (but_setCell hG1.out 4 (.int .u32 n4))
      clear c1 z hV1 hG1
      generalize v4.setCell ⟨g, 4, none⟩ (.int .u32 n4) = x4 at *
      have c := hV.out.word5
      go_still_tail 8, (by kernel_rfl)
      change wpList _ _ _ _ _ x4.drew
      have hV1 := Lib.hid hV.out.drew
      have hG1 := Lib.hid (but_drew hG.out)
      have z := hV1.out.frozen 5
      have c1 := hV1.out.word5
      clear c hV hG
      generalize x4.drew = v5 at *
      go_wp2_with fail
      rw [p5]
      have hV := Lib.hid (hV1.out.put5 n5)
      have hG := Lib.hid (but_setCell hG1.out 5 (.int .u32 n5))
      clear c1 z hV1 hG1
      generalize v5.setCell ⟨g, 5, none⟩ (.int .u32 n5) = x5 at *
      have c := hV.out.word6
      go_still_tail 8, (by kernel_rfl)
      change wpList _ _ _ _ _ x5.drew
      have hV1 := Lib.hid hV.out.drew
      have hG1 := Lib.hid (but_drew hG.out)
      have z := hV1.out.frozen 6
      have c1 := hV1.out.word6
      clear c hV hG
      generalize x5.drew = v6 at *
      go_wp2_with fail
      rw [p6]
      have hV := Lib.hid (hV1.out.put6 n6)
      have hG := Lib.hid (but_setCell hG1.out 6 (.int .u32 n6))
      clear c1 z hV1 hG1
      generalize v6.setCell ⟨g, 6, none⟩ (.int .u32 n6) = x6 at *
      have c := hV.out.word7
      go_still_tail 8, (by kernel_rfl)
      change wpList _ _ _ _ _ x6.drew
      have hV1 := Lib.hid hV.out.drew
      have hG1 := Lib.hid (but_drew hG.out)
      have z := hV1.out.frozen 7
      have c1 := hV1.out.word7
      clear c hV hG
      generalize x6.drew = v7 at *
      go_wp2_with fail
      rw [p7]
      have hV := Lib.hid (hV1.out.put7 n7)
      have hG := Lib.hid (but_setCell hG1.out 7 (.int .u32 n7))
      clear c1 z hV1 hG1
      generalize v7.setCell ⟨g, 7, none⟩ (.int .u32 n7) = x7 at *
      go_end0
      refine ⟨rfl, ?_, hG.out⟩
      rw [HCC.out]
      exact hV.out
end Go.Proofs.YtbejdfjioanjlaaDoor
