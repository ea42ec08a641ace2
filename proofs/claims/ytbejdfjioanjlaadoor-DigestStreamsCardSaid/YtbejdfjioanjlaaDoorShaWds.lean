/- Contract of the reference: the words of a block. -/
import Derived.Test.YtbejdfjioanjlaaDoorShaRef
import Derived.Test.YtbejdfjioanjlaaDoorShaSched
import Derived.Deep.RegionHeld3
import Derived.Deep.RegionLaw
namespace Go.Proofs.YtbejdfjioanjlaaDoor
open Go.ChangeShapes Go.WideShapes Go.ChangeAt Go.RowKit

theorem info32 : (Tryd.prog.info? 35).map (fun i => (i.zero, i.size, i.bytes)) = some (some (.int .u32 0), 1, 4) := by kernel_rfl
/-- Words as values. -/
def wcells (L : List Nat) : List Value := L.map fun n : Nat => Value.int .u32 (n : Int)
theorem wcells_length (L : List Nat) : (wcells L).length = L.length := by simp [wcells]
theorem wcells_snoc (L : List Nat) (v : Nat) : wcells L ++ [.int .u32 (v : Int)] = wcells (L ++ [v]) := by simp [wcells]
/-- The words that a slice of the call's own holds, as cells. -/
theorem own_cell {w : World} {base : Nat} {A : Option Addr} {cap : Nat} {L : List Nat} (h : w.ownsRow base 35 1 (.slice A L.length cap) L.length (wcells L)) (hp : 0 < L.length) :
    ∃ g, A = some ⟨g, 0, none⟩ ∧ base ≤ g ∧ g < w.heap.size ∧ ∀ x, x < L.length → w.cell? ⟨g, x, none⟩ = some (.int .u32 (L.getD x 0 : Nat)) := by
  rcases h.2 with ⟨_, hn⟩ | ⟨g, c, cur, hv, hg, hh, hn, _, hs, ht⟩
  · omega
  · cases hv
    refine ⟨g, rfl, hg, (Array.getElem?_eq_some_iff.1 hh).1, fun x hx => ?_⟩
    have e1 : (wcells L)[x]? = some (.int .u32 (L.getD x 0 : Nat)) := by
      unfold wcells
      rw [List.getElem?_map, List.getD_eq_getElem?_getD, List.getElem?_eq_getElem hx]; rfl
    rw [← e1, ← ht, List.getElem?_take_of_lt (by omega)]
    simp [World.cell?, hh]
theorem own_ws {w : World} {base : Nat} {A : Option Addr} {cap : Nat} {L : List Nat} (h : w.ownsRow base 35 1 (.slice A L.length cap) L.length (wcells L)) (hp : 0 < L.length) : WS w (.slice A L.length cap) L := by
  obtain ⟨g, rfl, _, hg, hc⟩ := own_cell h hp
  exact ⟨g, cap, rfl, hg, hc⟩

set_option maxHeartbeats 2000000 in
set_option maxRecDepth 20000 in
theorem rwords_any (A0 : Option Addr) (cap0 base0 : Nat) (l : List UInt8) (at_ : Nat) (w : World) (hbs : BS w base0 (.slice A0 l.length cap0) l) (hat : at_ + 64 ≤ l.length) (hl : l.length ≤ 4611686018427387903) :
    Calls Tryd.prog 23 #[.slice A0 l.length cap0, .int .i64 at_] w fun e w' => ∃ v, e = .returned v ∧ WS w' v (sched (l.drop at_)) ∧ Below w.heap.size w w' := by
  obtain ⟨i0, hi, hz0, hz1, hz2⟩ := info_parts info32
  obtain ⟨A1, cap1, hv, hc1, hb1⟩ := hbs
  cases hv
  obtain ⟨g, o, rfl, _, hg, hcell⟩ := hb1 (by omega)
  have hcb : ∀ x (hx : x < l.length), w.cell? ⟨g, o + x, none⟩ = some (.int .u8 (l[x].toNat : Int)) := fun x hx => (hcell x hx).1
  have hdg : ∀ k (h : at_ + k < l.length), (l.drop at_).getD k 0 = l[at_ + k] := fun k h => by
    rw [getD_drop', List.getD_eq_getElem?_getD, List.getElem?_eq_getElem h]; rfl
  have HCB := Lib.hid hcb
  have HDG := Lib.hid hdg
  clear hcb hdg hcell hb1
  generalize l.drop at_ = M at *
  obtain ⟨n0, hn0⟩ : ∃ n0, l.length = n0 := ⟨_, rfl⟩
  rw [hn0]
  have HN0 := Lib.hid hn0
  clear hn0
  go_enter Tryd.func23, Tryd.ntmps23
  go_wp2_with fail
  go_loopw [5, 6] (fun b i wr => ∃ j : Nat, ∃ A cap, j ≤ 16 ∧ i = .int .i64 j ∧ b = .slice A (wds M j).length cap ∧ wr.ownsRow w.heap.size 35 1 (.slice A (wds M j).length cap) (wds M j).length (wcells (wds M j)) ∧ Below w.heap.size w wr) (fun _ i _ => 16 - (intOf i).toNat)
  case atStart => exact ⟨0, none, 0, by omega, rfl, rfl, World.ownsRow_nil .., Below.refl _ _⟩
  case round =>
    obtain ⟨j, A, cap, hj, rfl, rfl, hown, hb⟩ := hrel
    by_cases hlt : j < 16
    · obtain ⟨q, hq⟩ : ∃ q, q = at_ + 4 * j := ⟨_, rfl⟩
      obtain ⟨q1, hq1⟩ : ∃ q1, q1 = q + 1 := ⟨_, rfl⟩
      obtain ⟨q2, hq2⟩ : ∃ q2, q2 = q + 2 := ⟨_, rfl⟩
      obtain ⟨q3, hq3⟩ : ∃ q3, q3 = q + 3 := ⟨_, rfl⟩
      obtain ⟨j4, hj4⟩ : ∃ j4, j4 = 4 * j := ⟨_, rfl⟩
      have e00 : (4 : Int) * (j : Int) = (j4 : Int) := by omega
      have e0 : (at_ : Int) + (j4 : Int) = (q : Int) := by omega
      have e1 : (q : Int) + 1 = (q1 : Int) := by omega
      have e2 : (q : Int) + 2 = (q2 : Int) := by omega
      have e3 : (q : Int) + 3 = (q3 : Int) := by omega
      have hn0 := HN0.out
      have hbk := fun x (hx : x < l.length) => (hb.cell (p := ⟨g, o + x, none⟩) hg).trans (HCB.out x hx)
      have d0 := hbk q (by omega)
      have d1 := hbk q1 (by omega)
      have d2 := hbk q2 (by omega)
      have d3 := hbk q3 (by omega)
      have hwd : wd M j = be4 (l[q]'(by omega)).toNat (l[q1]'(by omega)).toNat (l[q2]'(by omega)).toNat (l[q3]'(by omega)).toNat := by
        have h0 := HDG.out (4 * j) (by omega)
        have h1 := HDG.out (4 * j + 1) (by omega)
        have h2 := HDG.out (4 * j + 2) (by omega)
        have h3 := HDG.out (4 * j + 3) (by omega)
        simp only [← Nat.add_assoc, ← hq, ← hq1, ← hq2, ← hq3] at h0 h1 h2 h3
        unfold wd
        rw [h0, h1, h2, h3]
      generalize l[q]'(by omega) = b0 at *
      generalize l[q1]'(by omega) = b1 at *
      generalize l[q2]'(by omega) = b2 at *
      generalize l[q3]'(by omega) = b3 at *
      have hw := word_or b0 b1 b2 b3
      rw [← hwd] at hw
      have l0 := u8_lt b0
      have l1 := u8_lt b1
      have l2 := u8_lt b2
      have l3 := u8_lt b3
      have hsn := wds_succ M j
      have hlen := wds_length M j
      have hlen2 : (wds M j).length ≤ 16 := by omega
      have r0 : IntKind.u32.wrap (b0.toNat : Int) = (b0.toNat : Int) := by rw [wrap_u32]; omega
      have r1 : IntKind.u32.wrap (b1.toNat : Int) = (b1.toNat : Int) := by rw [wrap_u32]; omega
      have r2 : IntKind.u32.wrap (b2.toNat : Int) = (b2.toNat : Int) := by rw [wrap_u32]; omega
      have r3 : IntKind.u32.wrap (b3.toNat : Int) = (b3.toNat : Int) := by rw [wrap_u32]; omega
      have r4 : IntKind.u32.wrap ((b0.toNat : Int) * 16777216) = (b0.toNat : Int) * 16777216 := by rw [wrap_u32]; omega
      have r5 : IntKind.u32.wrap ((b1.toNat : Int) * 65536) = (b1.toNat : Int) * 65536 := by rw [wrap_u32]; omega
      have r6 : IntKind.u32.wrap ((b2.toNat : Int) * 256) = (b2.toNat : Int) * 256 := by rw [wrap_u32]; omega
      have i1 : IntKind.i64.wrap (q1 : Int) = (q1 : Int) := IntWalk.i64_in _ (by omega)
      have i2 : IntKind.i64.wrap (q2 : Int) = (q2 : Int) := IntWalk.i64_in _ (by omega)
      have i3 : IntKind.i64.wrap (q3 : Int) = (q3 : Int) := IntWalk.i64_in _ (by omega)
      have t0 : (0 : Int) ≤ (q : Int) := Int.natCast_nonneg _
      have t1 : (0 : Int) ≤ (q1 : Int) := Int.natCast_nonneg _
      have t2 : (0 : Int) ≤ (q2 : Int) := Int.natCast_nonneg _
      have t3 : (0 : Int) ≤ (q3 : Int) := Int.natCast_nonneg _
      have u0 : (q : Int) < (n0 : Int) := by omega
      have u1 : (q1 : Int) < (n0 : Int) := by omega
      have u2 : (q2 : Int) < (n0 : Int) := by omega
      have u3 : (q3 : Int) < (n0 : Int) := by omega
      have ag : (Value.slice A (wds M j).length cap).ownBlock ≠ some g := fun h => by have := (hown.lt g h).1; omega
      have hgr : g < wr.heap.size := Nat.lt_of_lt_of_le hg hb.size
      have hbB := hb.size
      generalize wd M j = v at *
      generalize hM : wds M (j + 1) = W' at *
      generalize wds M j = W at *
      have HM := Lib.hid hM
      have HS := Lib.hid hsn
      clear hM hsn hwd hq hq1 hq2 hq3 hj4 hlen hbk hn0
      go_wp2_with fail
      go_region_held3 (fun w' => w'.cell? ⟨g, o + q, none⟩ = some (.int .u8 (b0.toNat : Int)) ∧ w'.cell? ⟨g, o + q1, none⟩ = some (.int .u8 (b1.toNat : Int)) ∧ w'.cell? ⟨g, o + q2, none⟩ = some (.int .u8 (b2.toNat : Int)) ∧ w'.cell? ⟨g, o + q3, none⟩ = some (.int .u8 (b3.toNat : Int)))
        (first
          | go_keep
          | (go_split_ands
             refine ⟨?_, ?_, ?_, ?_⟩
             · (rw [hgrow.cell_far _ (by simp; omega) (Ne.symm ag)]; assumption)
             · (rw [hgrow.cell_far _ (by simp; omega) (Ne.symm ag)]; assumption)
             · (rw [hgrow.cell_far _ (by simp; omega) (Ne.symm ag)]; assumption)
             · (rw [hgrow.cell_far _ (by simp; omega) (Ne.symm ag)]; assumption)))
        ((refine step_append_lies _ (by rfl) _ _ 36 (by rfl) w.heap.size 35 i0 (.int .u32 0) 1 4 Tryd.underlying36 hi hz0 hz1 hz2 rfl (by omega) (.slice A W.length cap) W.length (wcells W) (by rfl) ((hown.alloc _).drew) ⟨wr.heap.size, 0, none⟩ 1 1 [.int .u32 (v : Int)] (by rfl) (by rfl) (World.news_of_block (cs := #[.int .u32 (v : Int)]) (t := 35) (fr := (0, 0)) (heap_alloc_new wr _)) (by simp [Value.oneCell']) (by omega) (by unfold maxLen; omega) (by omega) (by simp; omega) (wr.heap.size + 1) (by simp) ?_; intro gg cap' w1 hown1 hgrow hat1 hlt1))
      all_goals
        have hb1 : Below w.heap.size w w1 := ((hb.alloc hb.size _).drew).grown hgrow (by have := hb.size; simp; omega) (fun k hk => (hown.lt k hk).1)
        rw [wcells_snoc, ← HS.out] at hown1
        have hlw : W.length + 1 = W'.length := by rw [HS.out]; simp
        rw [hlw] at hown1 ⊢
        clear hgrow hat1 hlt1 hown hlw
        go_wp2_with fail
        go_roundw
        case rel => exact ⟨j + 1, some ⟨gg, 0, none⟩, cap', by omega, by go_num, by rw [HM.out], by rw [HM.out]; exact hown1, hb1⟩
        case measure => simp [intOf]; omega
    · obtain rfl : j = 16 := by omega
      have hd : decide ((16 : Int) < 16) = false := by decide
      clear hlt hj
      go_wp2_with fail
      go_loopw [5, 8] (fun b i wr => ∃ n : Nat, ∃ A cap, n ≤ 48 ∧ i = .int .i64 ((n + 16 : Nat) : Int) ∧ b = .slice A (ext (wds M 16) n).length cap ∧ wr.ownsRow w.heap.size 35 1 (.slice A (ext (wds M 16) n).length cap) (ext (wds M 16) n).length (wcells (ext (wds M 16) n)) ∧ Below w.heap.size w wr) (fun _ i _ => 64 - (intOf i).toNat)
      case atStart => exact ⟨0, A, cap, by omega, rfl, rfl, hown, hb⟩
      case round =>
        clear hown hb
        obtain ⟨n, A, cap, hn, rfl, rfl, hown, hb⟩ := hrel
        have hlen : (ext (wds M 16) n).length = n + 16 := by rw [ext_length, wds_length]; omega
        by_cases hlt : n < 48
        · have hltx := ext_lt (wds_lt M 16) n
          have hlw := fun x => getD_lt hltx x
          obtain ⟨t, ht⟩ : ∃ t, n + 16 = t := ⟨_, rfl⟩
          rw [ht] at hlen ⊢
          obtain ⟨p15, h15⟩ : ∃ p, p + 15 = t := ⟨n + 1, by omega⟩
          obtain ⟨p2, h2⟩ : ∃ p, p + 2 = t := ⟨n + 14, by omega⟩
          obtain ⟨p7, h7⟩ : ∃ p, p + 7 = t := ⟨n + 9, by omega⟩
          have hext : ext (wds M 16) (n + 1) = ext (wds M 16) n ++ [nxt (ext (wds M 16) n)] := rfl
          have hnx : nxt (ext (wds M 16) n) = ad (ad (ad ((ext (wds M 16) n).getD n 0) (g0 ((ext (wds M 16) n).getD p15 0))) ((ext (wds M 16) n).getD p7 0)) (g1 ((ext (wds M 16) n).getD p2 0)) := by
            unfold nxt
            rw [hlen, show t - 16 = n by omega, show t - 15 = p15 by omega, show t - 7 = p7 by omega, show t - 2 = p2 by omega]
          rw [hnx] at hext
          clear hnx
          obtain ⟨gb, rfl, hgb, hgl, hcl⟩ := own_cell hown (by omega)
          generalize hW2 : ext (wds M 16) (n + 1) = W2 at *
          generalize hW : ext (wds M 16) n = W at *
          have c0 := hcl n (by omega)
          have c15 := hcl p15 (by omega)
          have c7 := hcl p7 (by omega)
          have c2 := hcl p2 (by omega)
          have l0 := hlw n
          have l15 := hlw p15
          have l7 := hlw p7
          have l2 := hlw p2
          generalize W.getD n 0 = x0 at *
          generalize W.getD p15 0 = x15 at *
          generalize W.getD p7 0 = x7 at *
          generalize W.getD p2 0 = x2 at *
          have k1 : ∀ V, Calls Tryd.prog 29 #[.int .u32 x15, .int .i64 7] V fun e w' => e = .returned (.int .u32 (ror x15 7 : Nat)) ∧ V = w' := fun V => rrotr_any x15 7 V l15 (by decide) (by decide)
          have k2 : ∀ V, Calls Tryd.prog 29 #[.int .u32 x15, .int .i64 18] V fun e w' => e = .returned (.int .u32 (ror x15 18 : Nat)) ∧ V = w' := fun V => rrotr_any x15 18 V l15 (by decide) (by decide)
          have k3 : ∀ V, Calls Tryd.prog 29 #[.int .u32 x2, .int .i64 17] V fun e w' => e = .returned (.int .u32 (ror x2 17 : Nat)) ∧ V = w' := fun V => rrotr_any x2 17 V l2 (by decide) (by decide)
          have k4 : ∀ V, Calls Tryd.prog 29 #[.int .u32 x2, .int .i64 19] V fun e w' => e = .returned (.int .u32 (ror x2 19 : Nat)) ∧ V = w' := fun V => rrotr_any x2 19 V l2 (by decide) (by decide)
          have a1 := xor3 (ror_lt 7 l15) (ror_lt 18 l15) (show x15 / 8 < 4294967296 by omega)
          have a2 := xor3 (ror_lt 17 l2) (ror_lt 19 l2) (show x2 / 1024 < 4294967296 by omega)
          rw [show ror x15 7 ^^^ ror x15 18 ^^^ x15 / 8 = g0 x15 from rfl, show ((x15 / 8 : Nat) : Int) = (x15 : Int) / 8 by simp] at a1
          rw [show ror x2 17 ^^^ ror x2 19 ^^^ x2 / 1024 = g1 x2 from rfl, show ((x2 / 1024 : Nat) : Int) = (x2 : Int) / 1024 by simp] at a2
          have s1 := ad_int x0 (g0 x15)
          have s2 := ad_int (ad x0 (g0 x15)) x7
          have s3 := ad_int (ad (ad x0 (g0 x15)) x7) (g1 x2)
          generalize ad (ad (ad x0 (g0 x15)) x7) (g1 x2) = v3 at *
          generalize ad (ad x0 (g0 x15)) x7 = v2 at *
          generalize ad x0 (g0 x15) = v1 at *
          have m1 := g0_lt l15
          have m2 := g1_lt l2
          generalize g0 x15 = y15 at *
          generalize g1 x2 = y2 at *
          have q1 := ror_lt 7 l15
          have q2 := ror_lt 18 l15
          have q3 := ror_lt 17 l2
          have q4 := ror_lt 19 l2
          generalize ror x15 7 = r1 at *
          generalize ror x15 18 = r2 at *
          generalize ror x2 17 = r3 at *
          generalize ror x2 19 = r4 at *
          have K1 := Lib.hid k1
          have K2 := Lib.hid k2
          have K3 := Lib.hid k3
          have K4 := Lib.hid k4
          have HW := Lib.hid hW
          have HW2 := Lib.hid hW2
          have HX := Lib.hid hext
          have HT := Lib.hid ht
          rw [hlen] at hown ⊢
          have HLEN := Lib.hid hlen
          have e2 : (t : Int) - 15 = (p15 : Int) := by omega
          have e3 : (t : Int) - 2 = (p2 : Int) := by omega
          have e4 : (t : Int) - 7 = (p7 : Int) := by omega
          have e5 : (t : Int) - 16 = (n : Int) := by omega
          have b1 : (t : Int) < 64 := by omega
          have b2 : (p15 : Int) < (t : Int) := by omega
          have b3 : (p2 : Int) < (t : Int) := by omega
          have b4 : (p7 : Int) < (t : Int) := by omega
          have b5 : (n : Int) < (t : Int) := by omega
          have HOWN := Lib.hid hown
          clear k1 k2 k3 k4 hW hW2 hltx hlw hlen hext hcl hown
          clear ht h15 h2 h7
          go_wp2_with fail
          go_quiet (fail)
          have hB2 := Lib.hid (below_drewN hb nq)
          have hO2 : (wr.drewN nq).ownsRow w.heap.size 35 1 (.slice (some ⟨gb, 0, none⟩) t cap) t (wcells W) := HOWN.out
          have HO2 := Lib.hid hO2
          have f0 : (wr.drewN nq).cell? ⟨gb, n, none⟩ = some (.int .u32 x0) := c0
          have f7 : (wr.drewN nq).cell? ⟨gb, p7, none⟩ = some (.int .u32 x7) := c7
          clear hb HOWN c0 c15 c7 c2 hgl hO2
          generalize wr.drewN nq = w2 at *
          go_wp2_with fail
          refine (K1.out _).mono ?_
          rintro e w4 ⟨rfl, rfl⟩
          go_wp2_with fail
          refine (K2.out _).mono ?_
          rintro e w4 ⟨rfl, rfl⟩
          go_wp2_with fail
          refine (K3.out _).mono ?_
          rintro e w4 ⟨rfl, rfl⟩
          go_wp2_with fail
          refine (K4.out _).mono ?_
          rintro e w4 ⟨rfl, rfl⟩
          go_wp2_with fail
          have i1 : IntKind.i64.wrap (n : Int) = (n : Int) := IntWalk.i64_in _ (by omega)
          have i2 : IntKind.i64.wrap (p7 : Int) = (p7 : Int) := IntWalk.i64_in _ (by omega)
          have z1 : IntKind.u32.wrap ((x0 : Int) + (y15 : Int)) = (v1 : Int) := by rw [wrap_u32]; exact s1
          have z2 : IntKind.u32.wrap ((v1 : Int) + (x7 : Int)) = (v2 : Int) := by rw [wrap_u32]; exact s2
          have z3 : IntKind.u32.wrap ((v2 : Int) + (y2 : Int)) = (v3 : Int) := by rw [wrap_u32]; exact s3
          have t0 : (0 : Int) ≤ (n : Int) := Int.natCast_nonneg _
          have t1 : (0 : Int) ≤ (p7 : Int) := Int.natCast_nonneg _
          have hbB := hB2.out.size
          have htl : t ≤ 64 := by omega
          go_region_law ((refine step_append_lies _ (by rfl) _ _ 36 (by rfl) w.heap.size 35 i0 (.int .u32 0) 1 4 Tryd.underlying36 hi hz0 hz1 hz2 rfl (by omega) (.slice (some ⟨gb, 0, none⟩) t cap) t (wcells W) (by rfl) ((HO2.out.alloc _).drew) ⟨w2.heap.size, 0, none⟩ 1 1 [.int .u32 (v3 : Int)] (by rfl) (by rfl) (World.news_of_block (cs := #[.int .u32 (v3 : Int)]) (t := 35) (fr := (0, 0)) (heap_alloc_new w2 _)) (by simp [Value.oneCell']) (by omega) (by unfold maxLen; omega) (by omega) (by simp; omega) (w2.heap.size + 1) (by simp) ?_; intro gg cap' w3 hown1 hgrow hat1 hlt1))
          all_goals
            have hb1 : Below w.heap.size w w3 := ((hB2.out.alloc hB2.out.size _).drew).grown hgrow (by have := hB2.out.size; simp; omega) (fun k hk => by have := (HO2.out.lt k hk).1; omega)
            rw [wcells_snoc, ← HX.out] at hown1
            have hlw : t + 1 = W2.length := by rw [HX.out]; simp [HLEN.out]
            rw [hlw] at hown1
            have HB1 := Lib.hid hb1
            have HOW1 := Lib.hid hown1
            have HLW := Lib.hid hlw
            clear hgrow hat1 hlt1 hb1 hown1 hlw f0 f7 i1 i2 z1 z2 z3 s1 s2 s3 a1 a2
            go_wp2_with fail
            go_roundw
            case rel => (repeat apply Exists.intro); exact ⟨⟨n + 1, some ⟨gg, 0, none⟩, cap', by omega, by have := HT.out; go_num, by rw [HW2.out, ← HLW.out], by rw [HW2.out]; exact HOW1.out, HB1.out⟩, rfl⟩
            case measure => simp [intOf]; omega
        · obtain rfl : n = 48 := by omega
          have hws := own_ws hown (by omega)
          rw [show ext (wds M 16) 48 = sched M from rfl] at *
          have HWS := Lib.hid hws
          have hd2 : decide (((48 + 16 : Nat) : Int) < 64) = false := by decide
          clear hown hws hlen hlt
          generalize (sched M).length = n1 at *
          go_wp2_with fail
          go_ret
          exact ⟨_, rfl, HWS.out, hb⟩
end Go.Proofs.YtbejdfjioanjlaaDoor
