/- Contract of the reference: a block changes the state. -/
import Derived.Test.YtbejdfjioanjlaaDoorShaRef
import Derived.Test.YtbejdfjioanjlaaDoorShaAdd
import Derived.Deep.RegionHeld3
namespace Go.Proofs.YtbejdfjioanjlaaDoor
open Go.ChangeShapes Go.WideShapes Go.ChangeAt Go.RowKit

/-- The words of a state as a list. -/
def stL (S : St) : List Nat := [S.a, S.b, S.c, S.d, S.e, S.f, S.g, S.h]

/-- What the reference's rounds know of memory. -/
def Ra (w0 : World) (gv gw gk : Nat) (L : List UInt8) (S : St) (V : World) : Prop :=
  (V.cell? ⟨gv, 0, none⟩ = some (.int .u32 (S.a : Nat)) ∧ V.cell? ⟨gv, 1, none⟩ = some (.int .u32 (S.b : Nat)) ∧ V.cell? ⟨gv, 2, none⟩ = some (.int .u32 (S.c : Nat)) ∧ V.cell? ⟨gv, 3, none⟩ = some (.int .u32 (S.d : Nat)) ∧ V.cell? ⟨gv, 4, none⟩ = some (.int .u32 (S.e : Nat)) ∧ V.cell? ⟨gv, 5, none⟩ = some (.int .u32 (S.f : Nat)) ∧ V.cell? ⟨gv, 6, none⟩ = some (.int .u32 (S.g : Nat)) ∧ V.cell? ⟨gv, 7, none⟩ = some (.int .u32 (S.h : Nat))) ∧
  (∀ x, x < 64 → V.cell? ⟨gw, x, none⟩ = some (.int .u32 ((sched L).getD x 0 : Nat))) ∧ (∀ x, x < 64 → V.cell? ⟨gk, x, none⟩ = some (.int .u32 (KL.getD x 0 : Nat))) ∧ Below w0.heap.size w0 V
theorem Ra.drewN {w0 : World} {gv gw gk : Nat} {L : List UInt8} {S : St} {V : World} (h : Ra w0 gv gw gk L S V) (q : Nat) : Ra w0 gv gw gk L S (V.drewN q) :=
  ⟨h.1, h.2.1, h.2.2.1, below_drewN h.2.2.2 q⟩

set_option maxHeartbeats 2000000 in
set_option maxRecDepth 20000 in
theorem rblock_any (v1 v2 v3 : Value) (S : St) (L : List UInt8) (w : World) (h1 : WS w v1 (stL S)) (h2 : WS w v2 (sched L)) (h3 : WS w v3 KL) (hok : S.ok) :
    Calls Tryd.prog 22 #[v1, v2, v3] w fun e w' => ∃ v, e = .returned v ∧ WS w' v (stL (comp S L)) ∧ Below w.heap.size w w' := by
  obtain ⟨gv, cv, rfl, hgv, hcv⟩ := h1
  obtain ⟨gw, cw, rfl, hgw, hcw⟩ := h2
  obtain ⟨gk, ck, rfl, hgk, hck⟩ := h3
  rw [sched_length] at *
  have hA0 : Ra w gv gw gk L S w := ⟨⟨hcv 0 (show 0 < 8 by decide), hcv 1 (show 1 < 8 by decide), hcv 2 (show 2 < 8 by decide), hcv 3 (show 3 < 8 by decide), hcv 4 (show 4 < 8 by decide), hcv 5 (show 5 < 8 by decide), hcv 6 (show 6 < 8 by decide), hcv 7 (show 7 < 8 by decide)⟩, hcw, hck, Below.refl _ _⟩
  have hl8 : (stL S).length = 8 := rfl
  have hl64 : KL.length = 64 := rfl
  rw [hl8, hl64]
  have hcomp : comp S L = S.plus (run (sched L) S 64) := rfl
  have HCOMP := Lib.hid hcomp
  have HOK := Lib.hid hok
  have HA0 := Lib.hid hA0
  obtain ⟨c0, c1, c2, c3, c4, c5, c6, c7⟩ := hA0.1
  clear hcv hcw hck hcomp hok hA0 hl8 hl64
  go_enter Tryd.func22, Tryd.ntmps22
  go_wp2_with fail
  go_quiet (fail)
  have hA1 := HA0.out.drewN nq
  clear HA0 c0 c1 c2 c3 c4 c5 c6 c7
  generalize w.drewN nq = W3 at *
  go_wp2_with fail
  go_loopw [7, 8, 9, 10, 11, 12, 13, 14, 15] (fun xa xb xc xd xe xf xg xh i wr => ∃ t : Nat, t ≤ 64 ∧ i = .int .i64 t ∧ xa = .int .u32 (run (sched L) S t).a ∧ xb = .int .u32 (run (sched L) S t).b ∧ xc = .int .u32 (run (sched L) S t).c ∧ xd = .int .u32 (run (sched L) S t).d ∧ xe = .int .u32 (run (sched L) S t).e ∧ xf = .int .u32 (run (sched L) S t).f ∧ xg = .int .u32 (run (sched L) S t).g ∧ xh = .int .u32 (run (sched L) S t).h ∧ Ra w gv gw gk L S wr) (fun _ _ _ _ _ _ _ _ i _ => 64 - (intOf i).toNat)
  case atStart => exact ⟨0, by omega, rfl, rfl, rfl, rfl, rfl, rfl, rfl, rfl, rfl, hA1⟩
  case round =>
    clear hA1
    obtain ⟨t, ht, rfl, rfl, rfl, rfl, rfl, rfl, rfl, rfl, rfl, hA⟩ := hrel
    have hR := run_ok (sched L) HOK.out t
    by_cases hlt : t < 64
    · have hnext : run (sched L) S (t + 1) = rnd (run (sched L) S t) (KL.getD t 0) ((sched L).getD t 0) := rfl
      have ck' := hA.2.2.1 t hlt
      have cw' := hA.2.1 t hlt
      generalize run (sched L) S t = R at *
      generalize KL.getD t 0 = kt at *
      generalize (sched L).getD t 0 = wt at *
      obtain ⟨ra, rb, rc, rd, re, rf, rg, rh⟩ := R
      obtain ⟨la, lb, lc, ld, le, lf, lg, lh⟩ := hR
      simp only at la lb lc ld le lf lg lh
      have HA := Lib.hid hA
      clear hA HOK HCOMP
      have k6 : ∀ V, Calls Tryd.prog 29 #[.int .u32 re, .int .i64 6] V fun e w' => e = .returned (.int .u32 (ror re 6 : Nat)) ∧ V = w' := fun V => rrotr_any re 6 V (by assumption) (by decide) (by decide)
      have k11 : ∀ V, Calls Tryd.prog 29 #[.int .u32 re, .int .i64 11] V fun e w' => e = .returned (.int .u32 (ror re 11 : Nat)) ∧ V = w' := fun V => rrotr_any re 11 V (by assumption) (by decide) (by decide)
      have k25 : ∀ V, Calls Tryd.prog 29 #[.int .u32 re, .int .i64 25] V fun e w' => e = .returned (.int .u32 (ror re 25 : Nat)) ∧ V = w' := fun V => rrotr_any re 25 V (by assumption) (by decide) (by decide)
      have k2 : ∀ V, Calls Tryd.prog 29 #[.int .u32 ra, .int .i64 2] V fun e w' => e = .returned (.int .u32 (ror ra 2 : Nat)) ∧ V = w' := fun V => rrotr_any ra 2 V (by assumption) (by decide) (by decide)
      have k13 : ∀ V, Calls Tryd.prog 29 #[.int .u32 ra, .int .i64 13] V fun e w' => e = .returned (.int .u32 (ror ra 13 : Nat)) ∧ V = w' := fun V => rrotr_any ra 13 V (by assumption) (by decide) (by decide)
      have k22 : ∀ V, Calls Tryd.prog 29 #[.int .u32 ra, .int .i64 22] V fun e w' => e = .returned (.int .u32 (ror ra 22 : Nat)) ∧ V = w' := fun V => rrotr_any ra 22 V (by assumption) (by decide) (by decide)
      have f1 := xor3 (ror_lt 6 le) (ror_lt 11 le) (ror_lt 25 le)
      have f2 := xor3 (ror_lt 2 la) (ror_lt 13 la) (ror_lt 22 la)
      rw [show ror re 6 ^^^ ror re 11 ^^^ ror re 25 = fe re from rfl] at f1
      rw [show ror ra 2 ^^^ ror ra 13 ^^^ ror ra 22 = fa ra from rfl] at f2
      have g1 := and2 le lf
      have g2 := ones_xor re le
      have g3 := and2 (xor32 (show 4294967295 < 4294967296 by decide) le) lg
      have g4 := xor2 (and32 (b := rf) le) (and32 (b := rg) (xor32 (show 4294967295 < 4294967296 by decide) le))
      rw [show (re &&& rf) ^^^ ((4294967295 ^^^ re) &&& rg) = fch re rf rg from rfl] at g4
      have g5 := and2 la lb
      have g6 := and2 la lc
      have g7 := and2 lb lc
      have g8 := xor3 (and32 (b := rb) la) (and32 (b := rc) la) (and32 (b := rc) lb)
      rw [show (ra &&& rb) ^^^ (ra &&& rc) ^^^ (rb &&& rc) = fmj ra rb rc from rfl] at g8
      have g9 := xor2 (and32 (b := rb) la) (and32 (b := rc) la)
      have p1 := ad_int rh (fe re)
      have p2 := ad_int (ad rh (fe re)) (fch re rf rg)
      have p3 := ad_int (ad (ad rh (fe re)) (fch re rf rg)) kt
      have p4 := ad_int (ad (ad (ad rh (fe re)) (fch re rf rg)) kt) wt
      have p5 := ad_int (fa ra) (fmj ra rb rc)
      have hx : rx ⟨ra, rb, rc, rd, re, rf, rg, rh⟩ kt wt = ad (ad (ad (ad rh (fe re)) (fch re rf rg)) kt) wt := rfl
      have hy : ry ⟨ra, rb, rc, rd, re, rf, rg, rh⟩ = ad (fa ra) (fmj ra rb rc) := rfl
      have hn : run (sched L) S (t + 1) = ⟨ad (rx ⟨ra, rb, rc, rd, re, rf, rg, rh⟩ kt wt) (ry ⟨ra, rb, rc, rd, re, rf, rg, rh⟩), ra, rb, rc, ad rd (rx ⟨ra, rb, rc, rd, re, rf, rg, rh⟩ kt wt), re, rf, rg⟩ := hnext
      rw [hx, hy] at hn
      clear hx hy hnext
      have p6 := ad_int (ad (ad (ad (ad rh (fe re)) (fch re rf rg)) kt) wt) (ad (fa ra) (fmj ra rb rc))
      have p7 := ad_int rd (ad (ad (ad (ad rh (fe re)) (fch re rf rg)) kt) wt)
      generalize ad (ad (ad (ad (ad rh (fe re)) (fch re rf rg)) kt) wt) (ad (fa ra) (fmj ra rb rc)) = na at *
      generalize ad rd (ad (ad (ad (ad rh (fe re)) (fch re rf rg)) kt) wt) = ne at *
      generalize ad (ad (ad (ad rh (fe re)) (fch re rf rg)) kt) wt = x at *
      generalize ad (ad (ad rh (fe re)) (fch re rf rg)) kt = x3 at *
      generalize ad (ad rh (fe re)) (fch re rf rg) = x2 at *
      generalize ad rh (fe re) = x1 at *
      generalize ad (fa ra) (fmj ra rb rc) = y at *
      generalize fe re = u1 at *
      generalize fa ra = u2 at *
      generalize fch re rf rg = u3 at *
      generalize fmj ra rb rc = u4 at *
      generalize re &&& rf = u5 at *
      generalize (4294967295 ^^^ re) &&& rg = u6 at *
      generalize 4294967295 ^^^ re = u7 at *
      generalize ra &&& rb = u8 at *
      generalize ra &&& rc = u9 at *
      generalize rb &&& rc = u10 at *
      generalize ror re 6 = r6 at *
      generalize ror re 11 = r11 at *
      generalize ror re 25 = r25 at *
      generalize ror ra 2 = r2 at *
      generalize ror ra 13 = r13 at *
      generalize ror ra 22 = r22 at *
      have K6 := Lib.hid k6
      have K11 := Lib.hid k11
      have K25 := Lib.hid k25
      have K2 := Lib.hid k2
      have K13 := Lib.hid k13
      have K22 := Lib.hid k22
      have HN := Lib.hid hn
      clear k6 k11 k25 k2 k13 k22 g9 hn
      have hti : (t : Int) < 64 := by omega
      go_wp2_with fail
      go_quiet (first | (go_at_call_of 29 (Value.int .i64 (6 : Int)); exact quiet_eq (K6.out _)) | (go_at_call_of 29 (Value.int .i64 (11 : Int)); exact quiet_eq (K11.out _)) | (go_at_call_of 29 (Value.int .i64 (25 : Int)); exact quiet_eq (K25.out _)))
      have hA2 := HA.out.drewN nq
      clear HA ck' cw'
      generalize wr.drewN nq = w2 at *
      go_wp2_with fail
      refine (K2.out _).mono ?_
      rintro e w4 ⟨rfl, rfl⟩
      go_wp2_with fail
      refine (K13.out _).mono ?_
      rintro e w4 ⟨rfl, rfl⟩
      go_wp2_with fail
      refine (K22.out _).mono ?_
      rintro e w4 ⟨rfl, rfl⟩
      go_wp2_with fail
      go_roundw
      case rel => exact ⟨t + 1, by omega, by go_num, by rw [HN.out]; exact congrArg _ (show _ = (na : Int) by omega), by rw [HN.out], by rw [HN.out], by rw [HN.out], by rw [HN.out]; exact congrArg _ (show _ = (ne : Int) by omega), by rw [HN.out], by rw [HN.out], by rw [HN.out], hA2⟩
      case measure => simp [intOf]; omega
    · obtain rfl : t = 64 := by omega
      have hC := HCOMP.out
      generalize run (sched L) S 64 = R at *
      obtain ⟨c0, c1, c2, c3, c4, c5, c6, c7⟩ := hA.1
      have hB := hA.2.2.2
      have HB := Lib.hid hB
      obtain ⟨sa, sb, sc, sd, se, sf, sg, sh⟩ := S
      obtain ⟨ra, rb, rc, rd, re, rf, rg, rh⟩ := R
      simp only at c0 c1 c2 c3 c4 c5 c6 c7
      have hCC : comp ⟨sa, sb, sc, sd, se, sf, sg, sh⟩ L = ⟨ad sa ra, ad sb rb, ad sc rc, ad sd rd, ad se re, ad sf rf, ad sg rg, ad sh rh⟩ := hC
      have p0 := ad_int sa ra
      have p1 := ad_int sb rb
      have p2 := ad_int sc rc
      have p3 := ad_int sd rd
      have p4 := ad_int se re
      have p5 := ad_int sf rf
      have p6 := ad_int sg rg
      have p7 := ad_int sh rh
      generalize ad sa ra = n0 at *
      generalize ad sb rb = n1 at *
      generalize ad sc rc = n2 at *
      generalize ad sd rd = n3 at *
      generalize ad se re = n4 at *
      generalize ad sf rf = n5 at *
      generalize ad sg rg = n6 at *
      generalize ad sh rh = n7 at *
      have HCC := Lib.hid hCC
      have hd : decide ((64 : Int) < 64) = false := by decide
      clear hCC hR hC hlt ht hA hB HCOMP HOK
      go_wp2_with fail
      go_region_held3 (fun w' => w'.cell? ⟨gv, 0, none⟩ = some (.int .u32 (sa : Int)) ∧ w'.cell? ⟨gv, 1, none⟩ = some (.int .u32 (sb : Int)) ∧ w'.cell? ⟨gv, 2, none⟩ = some (.int .u32 (sc : Int)) ∧ w'.cell? ⟨gv, 3, none⟩ = some (.int .u32 (sd : Int)) ∧ w'.cell? ⟨gv, 4, none⟩ = some (.int .u32 (se : Int)) ∧ w'.cell? ⟨gv, 5, none⟩ = some (.int .u32 (sf : Int)) ∧ w'.cell? ⟨gv, 6, none⟩ = some (.int .u32 (sg : Int)) ∧ w'.cell? ⟨gv, 7, none⟩ = some (.int .u32 (sh : Int))) (go_keep) (fail)
      all_goals
        go_wp2_with fail
        go_ret
        refine ⟨_, rfl, ?_, ?_⟩
        · rw [HCC.out]
          refine ⟨wr.heap.size, 8, rfl, by simp, fun x hx => ?_⟩
          have hx8 : x = 0 ∨ x = 1 ∨ x = 2 ∨ x = 3 ∨ x = 4 ∨ x = 5 ∨ x = 6 ∨ x = 7 := by
            have : x < 8 := hx
            omega
          rcases hx8 with rfl | rfl | rfl | rfl | rfl | rfl | rfl | rfl <;> (simp [World.cell?_alloc_at, stL]; rw [wrap_u32]; assumption)
        · first | exact HB.out.alloc HB.out.size _ | exact (HB.out.alloc HB.out.size _).drew
end Go.Proofs.YtbejdfjioanjlaaDoor
