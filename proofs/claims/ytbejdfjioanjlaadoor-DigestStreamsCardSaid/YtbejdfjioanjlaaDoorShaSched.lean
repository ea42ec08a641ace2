/- Contract: the program's schedule of a block. -/
import Derived.Test.YtbejdfjioanjlaaDoorShaRot
import Derived.Deep.WholeRow
import Derived.BigQuiet
import Derived.Deep.QuietTactic
import Derived.StillTailTactics
import Derived.Deep.RegionWith
namespace Go.Proofs.YtbejdfjioanjlaaDoor
open Go.ChangeShapes Go.WideShapes Go.ChangeAt Go.RowKit

theorem info64 : (Tryd.prog.info? 52).map (fun i => (i.zero, i.size)) = some (some (.agg (Array.replicate 64 (.int .u32 0))), 64) := by kernel_rfl

/-- The 64 words by place. -/
def Words (T : Array Value) (L : List UInt8) : Prop := T.size = 64 ∧ ∀ x, x < 64 → T[x]? = some (.int .u32 ((sched L).getD x 0 : Nat))

theorem word_or (a b c d : UInt8) :
    bits .or .u32 (bits .or .u32 (bits .or .u32 ((a.toNat : Int) * 16777216) ((b.toNat : Int) * 65536)) ((c.toNat : Int) * 256)) (d.toNat : Int) = (be4 a.toNat b.toNat c.toNat d.toNat : Nat) := by
  have ha := u8_lt a
  have hb := u8_lt b
  have hc := u8_lt c
  have hd := u8_lt d
  have h1 := u32_or_nat (a.toNat * 16777216) (b.toNat * 65536) (by omega) (by omega)
  have h2 := u32_or_nat (a.toNat * 16777216 ||| b.toNat * 65536) (c.toNat * 256) (or32 (by omega) (by omega)) (by omega)
  have h3 := u32_or_nat (a.toNat * 16777216 ||| b.toNat * 65536 ||| c.toNat * 256) d.toNat (or32 (or32 (by omega) (by omega)) (by omega)) (by omega)
  simp only [Int.natCast_mul] at h1 h2
  unfold be4
  rw [← h3, ← h2, ← h1]
  rfl

theorem below_setRow {B : Nat} {a w : World} (h : Below B a w) (g : Nat) (hg : B ≤ g) (cs : Array Value) : Below B a (w.setRow g cs) :=
  ⟨h.os, h.tape, h.output, by rw [setRow_size]; exact h.size, fun k hk => by rw [setRow_other _ _ _ _ (by omega)]; exact h.block k hk⟩

/-- What a round of the second loop knows of memory. -/
def Sch (b : Nat) (n p15 p7 p2 t x0 x15 x7 x2 xt : Nat) (f : Nat → Value) (w0 V : World) : Prop :=
  V.cell? ⟨b + 1, n, none⟩ = some (.int .u32 x0) ∧ V.cell? ⟨b + 1, p15, none⟩ = some (.int .u32 x15) ∧ V.cell? ⟨b + 1, p7, none⟩ = some (.int .u32 x7) ∧ V.cell? ⟨b + 1, p2, none⟩ = some (.int .u32 x2) ∧
  V.cell? ⟨b + 1, t, none⟩ = some (.int .u32 xt) ∧ V.frozen? ⟨b + 1, t, none⟩ = false ∧ Hid (V.rowIs b 52 64 (fun _ => .int .u32 0)) ∧ Hid (V.rowIs (b + 1) 52 64 f) ∧ Below b w0 V
theorem Sch.drewN {b n p15 p7 p2 t x0 x15 x7 x2 xt : Nat} {f : Nat → Value} {w0 V : World} (h : Sch b n p15 p7 p2 t x0 x15 x7 x2 xt f w0 V) (q : Nat) : Sch b n p15 p7 p2 t x0 x15 x7 x2 xt f w0 (V.drewN q) :=
  ⟨h.1, h.2.1, h.2.2.1, h.2.2.2.1, h.2.2.2.2.1, h.2.2.2.2.2.1, h.2.2.2.2.2.2.1, h.2.2.2.2.2.2.2.1, below_drewN h.2.2.2.2.2.2.2.2 q⟩

theorem xor3 {a b c : Nat} (ha : a < 4294967296) (hb : b < 4294967296) (hc : c < 4294967296) : bits .xor .u32 (bits .xor .u32 (a : Int) (b : Int)) (c : Int) = ((a ^^^ b ^^^ c : Nat) : Int) := by
  rw [u32_xor_nat a b ha hb, u32_xor_nat _ c (xor32 ha hb) hc]
theorem ad_int (a b : Nat) : ((a : Int) + (b : Int)) % 4294967296 = ((ad a b : Nat) : Int) := by
  unfold ad
  omega

set_option maxHeartbeats 2000000 in
set_option maxRecDepth 20000 in
theorem sched_any (s : ByteArray) (w : World) (hs : s.size = 64) :
    Calls Tryd.prog 30 #[.string s] w fun e w' => ∃ T, e = .returned (.agg T) ∧ Words T s.data.toList ∧ Below w.heap.size w w' := by
  have hl : s.data.toList.length = s.size := by simp
  obtain ⟨hz, hi⟩ := zero_of_info info64
  have hzr : ∀ i, i < (Array.replicate 64 (Value.int .u32 0)).size → (Array.replicate 64 (Value.int .u32 0))[i]? = some ((fun _ => .int .u32 0) i) := fun i hi => by
    rw [Array.getElem?_replicate, if_pos (by simpa using hi)]
  have hzs : (Array.replicate 64 (Value.int .u32 0)).size = 64 := by simp
  generalize Array.replicate 64 (Value.int .u32 0) = Z at *
  have HR := Lib.hid hzr
  have HS := Lib.hid hzs
  have HI := Lib.hid hi
  clear hzr hzs hi
  have hget : ∀ k (h : k < s.size), s.data.toList.getD k 0 = s[k] := fun k h => by
    rw [List.getD_eq_getElem?_getD, List.getElem?_eq_getElem (by omega)]; rfl
  generalize s.data.toList = L at *
  have HG := Lib.hid hget
  clear hget
  go_enter Tryd.func30, Tryd.ntmps30
  go_wp2_with fail
  go_loopw [9] (fun i wr => ∃ j : Nat, j ≤ 16 ∧ i = .int .i64 j ∧ wr.rowIs w.heap.size 52 64 (fun _ => .int .u32 0) ∧ wr.rowIs (w.heap.size + 1) 52 64 (fun x => .int .u32 ((wds L j).getD x 0 : Nat)) ∧ Below w.heap.size w wr) (fun i _ => 16 - (intOf i).toNat)
  case atStart =>
    have hz0 : Z.size = 64 := HS.out
    refine ⟨0, by omega, rfl, ?_, ?_, ((Below.refl _ _).alloc (Nat.le_refl _) _).alloc (by simp) _⟩
    · have := (World.rowIs_alloc w Z 52 _ HR.out).alloc (.cells Z 52)
      rw [hz0] at this
      exact this
    · have := World.rowIs_alloc (w.alloc (.cells Z 52)) Z 52 _ HR.out
      rw [hz0] at this
      refine World.rowIs.congr (f := fun _ => .int .u32 0) (by simpa using this) (fun i _ => by simp [wds])
  case round =>
    obtain ⟨j, hj, rfl, hr0, hr1, hb⟩ := hrel
    by_cases hlt : j < 16
    · have hc : wr.cell? ⟨w.heap.size + 1, j, none⟩ = some (.int .u32 0) := by
        have := hr1.cell (show j < 64 by omega)
        rw [getD_past (by rw [wds_length]; exact Nat.le_refl _)] at this
        exact this
      have hf := hr1.frozen j
      obtain ⟨q, hq⟩ : ∃ q, q = 4 * j := ⟨_, rfl⟩
      obtain ⟨q1, hq1⟩ : ∃ q1, q1 = q + 1 := ⟨_, rfl⟩
      obtain ⟨q2, hq2⟩ : ∃ q2, q2 = q + 2 := ⟨_, rfl⟩
      obtain ⟨q3, hq3⟩ : ∃ q3, q3 = q + 3 := ⟨_, rfl⟩
      have e0 : (4 : Int) * (j : Int) = (q : Int) := by omega
      have e1 : (q : Int) + 1 = (q1 : Int) := by omega
      have e2 : (q : Int) + 2 = (q2 : Int) := by omega
      have e3 : (q : Int) + 3 = (q3 : Int) := by omega
      have b0 : q < s.size := by omega
      have b1 : q1 < s.size := by omega
      have b2 : q2 < s.size := by omega
      have b3 : q3 < s.size := by omega
      have hw := word_or s[q] s[q1] s[q2] s[q3]
      have l0 := u8_lt s[q]
      have l1 := u8_lt s[q1]
      have l2 := u8_lt s[q2]
      have l3 := u8_lt s[q3]
      have hwd : wd L j = be4 s[q].toNat s[q1].toNat s[q2].toNat s[q3].toNat := by
        unfold wd
        rw [← hq, ← hq1, ← hq2, ← hq3, HG.out q b0, HG.out q1 b1, HG.out q2 b2, HG.out q3 b3]
      rw [← hwd] at hw
      have hrel : ∀ wx : World, wx.rowIs (w.heap.size + 1) 52 64 (fun x => .int .u32 (if x = j then (wd L j : Nat) else (wds L j).getD x 0)) → wx.rowIs (w.heap.size + 1) 52 64 (fun x => .int .u32 ((wds L (j + 1)).getD x 0 : Nat)) := fun wx h => h.congr (fun x hx => by
        rw [wds_succ]
        by_cases e : x = j
        · subst e
          have := getD_snoc_at (wds L x) (wd L x)
          rw [wds_length] at this
          rw [this]; simp
        · rw [if_neg e]
          by_cases e2 : x < j
          · rw [getD_snoc_lt (by rw [wds_length]; exact e2)]
          · rw [getD_past (by rw [wds_length]; omega), getD_past (by rw [List.length_append, wds_length]; simp; omega)])
      have HREL := Lib.hid hrel
      clear hrel hwd hq hq1 hq2 hq3 hs
      generalize wd L j = v at *
      go_wp2_with fail
      go_region
      all_goals
        go_wp2_with fail
        go_roundw
        case rel => exact ⟨j + 1, by omega, by go_num, (hr0.setOther (by simp) _), HREL.out _ ((hr1.set j _).congr (fun x hx => by by_cases e : x = j <;> simp [e])), (hb.setCell (by simp) _).drew⟩
        case measure => simp [intOf]; omega
    · obtain rfl : j = 16 := by omega
      clear hlt hj
      have hd : decide ((16 : Int) < 16) = false := by decide
      go_wp2_with fail
      go_loopw [44] (fun i wr => ∃ n : Nat, n ≤ 48 ∧ i = .int .i64 n ∧ wr.rowIs w.heap.size 52 64 (fun _ => .int .u32 0) ∧ wr.rowIs (w.heap.size + 1) 52 64 (fun x => .int .u32 ((ext (wds L 16) n).getD x 0 : Nat)) ∧ Below w.heap.size w wr) (fun i _ => 48 - (intOf i).toNat)
      case atStart => exact ⟨0, by omega, rfl, hr0, hr1, hb⟩
      case round =>
        clear hr0 hr1 hb
        obtain ⟨n, hn, rfl, hr0, hr1, hb⟩ := hrel
        by_cases hlt : n < 48
        · have hlen : (ext (wds L 16) n).length = 16 + n := by rw [ext_length, wds_length]
          have hltx := ext_lt (wds_lt L 16) n
          have hlw := fun x => getD_lt hltx x
          obtain ⟨t, ht⟩ : ∃ t, t = n + 16 := ⟨_, rfl⟩
          obtain ⟨p15, h15⟩ : ∃ p, p + 15 = t := ⟨n + 1, by omega⟩
          obtain ⟨p2, h2⟩ : ∃ p, p + 2 = t := ⟨n + 14, by omega⟩
          obtain ⟨p7, h7⟩ : ∃ p, p + 7 = t := ⟨n + 9, by omega⟩
          have hext : ext (wds L 16) (n + 1) = ext (wds L 16) n ++ [nxt (ext (wds L 16) n)] := rfl
          have hnx : nxt (ext (wds L 16) n) = ad (ad (ad ((ext (wds L 16) n).getD n 0) (g0 ((ext (wds L 16) n).getD p15 0))) ((ext (wds L 16) n).getD p7 0)) (g1 ((ext (wds L 16) n).getD p2 0)) := by
            unfold nxt
            rw [hlen, show 16 + n - 16 = n by omega, show 16 + n - 15 = p15 by omega, show 16 + n - 7 = p7 by omega, show 16 + n - 2 = p2 by omega]
          rw [hnx] at hext
          have hrel : ∀ (wx : World) (v : Nat), v = ad (ad (ad ((ext (wds L 16) n).getD n 0) (g0 ((ext (wds L 16) n).getD p15 0))) ((ext (wds L 16) n).getD p7 0)) (g1 ((ext (wds L 16) n).getD p2 0)) → wx.rowIs (w.heap.size + 1) 52 64 (fun x => if x = t then .int .u32 (v : Nat) else .int .u32 ((ext (wds L 16) n).getD x 0 : Nat)) →
              wx.rowIs (w.heap.size + 1) 52 64 (fun x => .int .u32 ((ext (wds L 16) (n + 1)).getD x 0 : Nat)) := fun wx v hv h => h.congr (fun x hx => by
            rw [hext, ← hv]
            by_cases e : x = t
            · have := getD_snoc_at (ext (wds L 16) n) v
              rw [hlen] at this
              rw [if_pos e, e, ht, Nat.add_comm n 16, this]
            · rw [if_neg e]
              by_cases e2 : x < t
              · rw [getD_snoc_lt (by rw [hlen]; omega)]
              · rw [getD_past (by rw [hlen]; omega), getD_past (by rw [List.length_append, hlen]; simp; omega)])
          have HREL := Lib.hid hrel
          clear hrel hext hnx
          generalize hW : ext (wds L 16) n = W at *
          have c0 := hr1.cell (show n < 64 by omega)
          have c15 := hr1.cell (show p15 < 64 by omega)
          have c7 := hr1.cell (show p7 < 64 by omega)
          have c2 := hr1.cell (show p2 < 64 by omega)
          have ct := hr1.cell (show t < 64 by omega)
          have hf := hr1.frozen t
          have l0 := hlw n
          have l15 := hlw p15
          have l7 := hlw p7
          have l2 := hlw p2
          have HR1 := Lib.hid hr1
          have HR0 := Lib.hid hr0
          generalize W.getD n 0 = x0 at *
          generalize W.getD p15 0 = x15 at *
          generalize W.getD p7 0 = x7 at *
          generalize W.getD p2 0 = x2 at *
          generalize W.getD t 0 = xt at *
          have k1 : ∀ V, Calls Tryd.prog 31 #[.int .u32 x15, .int .i64 7] V fun e w' => e = .returned (.int .u32 (ror x15 7 : Nat)) ∧ V = w' := fun V => rotr_any x15 7 V l15 (by decide) (by decide)
          have k2 : ∀ V, Calls Tryd.prog 31 #[.int .u32 x15, .int .i64 18] V fun e w' => e = .returned (.int .u32 (ror x15 18 : Nat)) ∧ V = w' := fun V => rotr_any x15 18 V l15 (by decide) (by decide)
          have k3 : ∀ V, Calls Tryd.prog 31 #[.int .u32 x2, .int .i64 17] V fun e w' => e = .returned (.int .u32 (ror x2 17 : Nat)) ∧ V = w' := fun V => rotr_any x2 17 V l2 (by decide) (by decide)
          have k4 : ∀ V, Calls Tryd.prog 31 #[.int .u32 x2, .int .i64 19] V fun e w' => e = .returned (.int .u32 (ror x2 19 : Nat)) ∧ V = w' := fun V => rotr_any x2 19 V l2 (by decide) (by decide)
          have a1 := xor3 (ror_lt 7 l15) (ror_lt 18 l15) (show x15 / 8 < 4294967296 by omega)
          have a2 := xor3 (ror_lt 17 l2) (ror_lt 19 l2) (show x2 / 1024 < 4294967296 by omega)
          rw [show ror x15 7 ^^^ ror x15 18 ^^^ x15 / 8 = g0 x15 from rfl, show ((x15 / 8 : Nat) : Int) = (x15 : Int) / 8 by simp] at a1
          rw [show ror x2 17 ^^^ ror x2 19 ^^^ x2 / 1024 = g1 x2 from rfl, show ((x2 / 1024 : Nat) : Int) = (x2 : Int) / 1024 by simp] at a2
          have s1 := ad_int x0 (g0 x15)
          have s2 := ad_int (ad x0 (g0 x15)) x7
          have s3 := ad_int (ad (ad x0 (g0 x15)) x7) (g1 x2)
          have HV := Lib.hid (HREL.out · (ad (ad (ad x0 (g0 x15)) x7) (g1 x2)) rfl)
          clear HREL
          generalize ad (ad (ad x0 (g0 x15)) x7) (g1 x2) = v3 at *
          generalize ad (ad x0 (g0 x15)) x7 = v2 at *
          generalize ad x0 (g0 x15) = v1 at *
          have m1 := g0_lt l15
          have m2 := g1_lt l2
          generalize g0 x15 = y15 at *
          generalize g1 x2 = y2 at *
          have q1 := ror_lt 7 l15
          have q2 := ror_lt 18 l15
          have q3 := ror_lt 17 l2
          have q4 := ror_lt 19 l2
          generalize ror x15 7 = r1 at *
          generalize ror x15 18 = r2 at *
          generalize ror x2 17 = r3 at *
          generalize ror x2 19 = r4 at *
          have K1 := Lib.hid k1
          have K2 := Lib.hid k2
          have K3 := Lib.hid k3
          have K4 := Lib.hid k4
          have HS0 : Sch w.heap.size n p15 p7 p2 t x0 x15 x7 x2 xt _ w wr := ⟨c0, c15, c7, c2, ct, hf, HR0, HR1, hb⟩
          clear k1 k2 k3 k4 hr1 hr0 hW hltx hlw hlen c0 c7 c2 ct hf HR0 HR1 hb
          have e1 : (n : Int) + 16 = (t : Int) := by omega
          have e2 : (t : Int) - 15 = (p15 : Int) := by omega
          have e3 : (t : Int) - 2 = (p2 : Int) := by omega
          have e4 : (t : Int) - 7 = (p7 : Int) := by omega
          have e5 : (t : Int) - 16 = (n : Int) := by omega
          have b1 : (t : Int) < 64 := by omega
          have b2 : (p15 : Int) < 64 := by omega
          have b3 : (p2 : Int) < 64 := by omega
          have b4 : (p7 : Int) < 64 := by omega
          have b5 : (n : Int) < 64 := by omega
          clear ht h15 h2 h7
          go_wp2_with fail
          go_quiet (first | (go_at_call_of 31 (Value.int .i64 (7 : Int)); exact quiet_eq (K1.out _)) | (go_at_call_of 31 (Value.int .i64 (18 : Int)); exact quiet_eq (K2.out _)))
          have HS1 := HS0.drewN nq
          clear HS0 c15
          generalize wr.drewN nq = w2 at *
          obtain ⟨c0, c15, c7, c2, ct, hf, HR0, HR1, hb⟩ := id HS1
          clear c0 c15 c7 ct hf HR0 HR1 hb
          go_wp2_with fail
          go_quiet (first | (go_at_call_of 31 (Value.int .i64 (17 : Int)); exact quiet_eq (K3.out _)) | (go_at_call_of 31 (Value.int .i64 (19 : Int)); exact quiet_eq (K4.out _)))
          have HS2 := HS1.drewN nq
          clear HS1 c2
          generalize w2.drewN nq = w3 at *
          obtain ⟨c0, c15, c7, c2, ct, hf, HR0, HR1, hb⟩ := id HS2
          clear c15 c2 HS2
          go_wp2_with fail
          go_region
          all_goals
            go_wp2_with fail
            go_roundw
            case rel => exact ⟨n + 1, by omega, by go_num, HR0.out.setOther (by simp) _, HV.out _ (HR1.out.set t _), (hb.setCell (by simp) _).drew⟩
            case measure => simp [intOf]; omega
        · obtain rfl : n = 48 := by omega
          have hsz : (ext (wds L 16) 48) = sched L := rfl
          rw [hsz] at hr1
          clear hsz hlt hn
          obtain ⟨Z0, hZ, hZn, hZc⟩ := hr0
          obtain ⟨T, hT, hTn, hTc⟩ := hr1
          have HTn := Lib.hid hTn
          have HTc := Lib.hid hTc
          have hiT : (Tryd.prog.info? 52).map (·.size) = some T.size := by rw [hTn]; exact HI.out
          have hall : T.all (·.oneCell') = true := by
            rw [Array.all_eq_true]
            intro i h
            have := hTc i (by omega)
            rw [Array.getElem?_eq_getElem h] at this
            rw [Option.some.inj this]; rfl
          have HIT := Lib.hid hiT
          have HALL := Lib.hid hall
          have HZ := Lib.hid hZ
          have HT := Lib.hid hT
          have HZn := Lib.hid (hZn.trans hTn.symm)
          clear hTn hTc hiT hall hZ hT hZn hZc
          have hd2 : decide ((48 : Int) < 48) = false := by decide
          go_wp2_with (first | (refine wpList_load_row rfl 52 _ rfl (w.heap.size + 1) rfl 52 T (0, 0) _ HT.out Tryd.underlying52 rfl HIT.out ?_) | (refine wpList_store_row rfl 52 _ _ rfl w.heap.size T rfl rfl 52 Z0 HZ.out HIT.out HZn.out HALL.out ?_))
          refine bodyPost_ret (v := .agg T) ?_ rfl ⟨T, rfl, ⟨HTn.out, fun x hx => HTc.out x hx⟩, ?_⟩
          · exact results_cell_row rfl _ _ w.heap.size 52 T (0, 0) _ rfl (setRow_heap _ _ Z0 T 52 (0, 0) HZ.out) Tryd.underlying52 rfl HIT.out
          · exact below_setRow hb _ (Nat.le_refl _) _
end Go.Proofs.YtbejdfjioanjlaaDoor
