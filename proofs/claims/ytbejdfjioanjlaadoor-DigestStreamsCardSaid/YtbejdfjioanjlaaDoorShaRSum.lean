/- Contracts of the reference: Sum, Hex. -/
import Derived.Test.YtbejdfjioanjlaaDoorShaBlk
import Derived.Test.YtbejdfjioanjlaaDoorShaWds
import Derived.Test.YtbejdfjioanjlaaDoorShaOut
import Derived.Test.YtbejdfjioanjlaaDoorShaDig
namespace Go.Proofs.YtbejdfjioanjlaaDoor
open Go.ChangeShapes Go.WideShapes Go.ChangeAt Go.RowKit

theorem wrap_u8 (x : Int) : IntKind.u8.wrap x = x % 256 := rfl
theorem BS.kept {w w' : World} {base : Nat} {v : Value} {l : List UInt8} (h : BS w base v l) (hb : Below w.heap.size w w') : BS w' base v l := by
  obtain ⟨A, cap, hv, hc, hh⟩ := h
  refine ⟨A, cap, hv, hc, fun hp => ?_⟩
  obtain ⟨g, o, hA, hbg, hg, hcell⟩ := hh hp
  exact ⟨g, o, hA, hbg, Nat.lt_of_lt_of_le hg hb.size, fun j hj => by rw [hb.cell (p := ⟨g, o + j, none⟩) hg, hb.frozen (p := ⟨g, o + j, none⟩) hg]; exact hcell j hj⟩
theorem stL_getD (S : St) (k : Nat) (h : k < 8) : (stL S).getD k 0 = S.get k := by
  match k, h with
  | 0, _ => rfl
  | 1, _ => rfl
  | 2, _ => rfl
  | 3, _ => rfl
  | 4, _ => rfl
  | 5, _ => rfl
  | 6, _ => rfl
  | 7, _ => rfl
  | k + 8, h => exact absurd h (by omega)

set_option maxHeartbeats 1000000 in
set_option maxRecDepth 20000 in
theorem rsum_any (s : ByteArray) (w : World) (hs : s.size ≤ 1000000) :
    Calls Tryd.prog 10 #[.string s] w fun e w' => e = .returned (.string (str (sha s.data.toList))) ∧ Below w.heap.size w w' := by
  obtain ⟨i0, hi, hz0, hz1, hz2⟩ := info_parts info5
  have hpad := fun W => rpad_any s W hs
  have hL : s.data.toList.length = s.size := by simp
  have hpl := padL_length s.size
  have hMl : (s.data.toList ++ padL s.size).length = s.size + (9 + (119 - s.size % 64) % 64) := by rw [List.length_append, hpl, hL]
  have hfin : outB (blks H0 (s.data.toList ++ padL s.size) ((s.data.toList ++ padL s.size).length / 64)) = sha s.data.toList := by unfold sha stOf; rw [hL]
  generalize sha s.data.toList = A at *
  generalize s.data.toList ++ padL s.size = M at *
  obtain ⟨q, hq⟩ : ∃ q, M.length = 64 * q := ⟨M.length / 64, by omega⟩
  rw [show M.length / 64 = q by omega] at hfin
  obtain ⟨ml, hml⟩ : ∃ ml, M.length = ml := ⟨_, rfl⟩
  rw [hml] at hpad
  have HPAD := Lib.hid hpad
  have HQ := Lib.hid hq
  have HML := Lib.hid hml
  have HFIN := Lib.hid hfin
  have hmq : ml = 64 * q := by omega
  have HMQ := Lib.hid hmq
  have hmle : ml ≤ 1000200 := by omega
  clear hpad hq hml hfin hmq hMl hpl hL
  go_enter Tryd.func10, Tryd.ntmps10
  go_wp2_with fail
  have hv0 : WS (w.alloc (.cells #[.int .u32 1779033703, .int .u32 3144134277, .int .u32 1013904242, .int .u32 2773480762, .int .u32 1359893119, .int .u32 2600822924, .int .u32 528734635, .int .u32 1541459225] 35)) (.slice (some ⟨w.heap.size, 0, none⟩) 8 8) (stL H0) := by
    refine ⟨w.heap.size, 8, rfl, by simp, fun x hx => ?_⟩
    have hx8 : x = 0 ∨ x = 1 ∨ x = 2 ∨ x = 3 ∨ x = 4 ∨ x = 5 ∨ x = 6 ∨ x = 7 := by
      have : x < 8 := hx
      omega
    rcases hx8 with rfl | rfl | rfl | rfl | rfl | rfl | rfl | rfl <;> (simp [World.cell?_alloc_at, stL, H0])
  have hb0 := (Below.refl w.heap.size w).alloc (Nat.le_refl _) (.cells #[.int .u32 1779033703, .int .u32 3144134277, .int .u32 1013904242, .int .u32 2773480762, .int .u32 1359893119, .int .u32 2600822924, .int .u32 528734635, .int .u32 1541459225] 35)
  generalize w.alloc (.cells #[.int .u32 1779033703, .int .u32 3144134277, .int .u32 1013904242, .int .u32 2773480762, .int .u32 1359893119, .int .u32 2600822924, .int .u32 528734635, .int .u32 1541459225] 35) = w1 at *
  generalize hx0 : Value.slice (some ⟨w.heap.size, 0, none⟩) 8 8 = x0 at *
  have HX0 := Lib.hid hx0
  have HV0 := Lib.hid hv0
  have HB0 := Lib.hid hb0
  clear hx0 hv0 hb0
  refine (HPAD.out _).mono ?_
  rintro e w2 ⟨A2, cap2, rfl, hbs, hb2⟩
  have HV2 := Lib.hid (HV0.out.kept hb2)
  have HB2 := Lib.hid (HB0.out.trans (hb2.mono HB0.out.size))
  have HBS2 := Lib.hid hbs
  clear hbs hb2 HV0 HB0
  go_wp2_with fail
  refine (rconst_any _).mono ?_
  rintro e w3 ⟨kv, rfl, hkv, hb3⟩
  have HV3 := Lib.hid (HV2.out.kept hb3)
  have HBS3 := Lib.hid (HBS2.out.kept hb3)
  have HB3 := Lib.hid (HB2.out.trans (hb3.mono HB2.out.size))
  have HK3 := Lib.hid hkv
  clear hkv hb3 HV2 HBS2 HB2
  go_wp2_with fail
  go_loopw [3, 6] (fun v i wr => ∃ k a : Nat, k ≤ q ∧ Hid (a = 64 * k) ∧ i = .int .i64 a ∧ Hid (WS wr v (stL (blks H0 M k))) ∧ Hid (BS wr w1.heap.size (.slice A2 ml cap2) M) ∧ Hid (WS wr kv KL) ∧ Below w.heap.size w wr) (fun _ i _ => ml - (intOf i).toNat)
  case atStart => exact ⟨0, 0, by omega, rfl, rfl, HV3, HBS3, HK3, HB3.out⟩
  case round =>
    clear HV3 HBS3 HK3 HB3
    obtain ⟨k, a, hk, ha, rfl, hv, hbs, hkv, hb⟩ := hrel
    by_cases hlt : k < q
    · have ha' : a = 64 * k := ha.out
      have hmq := HMQ.out
      have hml := HML.out
      have hai : (a : Int) < (ml : Int) := by omega
      have hwd := rwords_any A2 cap2 w1.heap.size M a wr (by rw [hml]; exact hbs.out) (by omega) (by omega)
      rw [hml] at hwd
      have hblk := fun W v1 v2 (h1 : WS W v1 (stL (blks H0 M k))) (h2 : WS W v2 (sched (M.drop a))) (h3 : WS W kv KL) => rblock_any v1 v2 kv (blks H0 M k) (M.drop a) W h1 h2 h3 (blks_ok H0_ok _ _)
      have hnx : comp (blks H0 M k) (M.drop a) = blks H0 M (k + 1) := by rw [ha', blks]
      rw [hnx] at hblk
      have HWD := Lib.hid hwd
      have HBLK := Lib.hid hblk
      have HA := ha
      clear hwd hblk hnx ha ha' hmq hml
      go_wp2_with fail
      refine HWD.out.mono ?_
      rintro e w4 ⟨wv, rfl, hwv, hb4⟩
      have HWV := Lib.hid hwv
      have HV4 := Lib.hid (hv.out.kept hb4)
      have HK4 := Lib.hid (hkv.out.kept hb4)
      have HBS4 := Lib.hid (hbs.out.kept hb4)
      have HB4 := Lib.hid (hb.trans (hb4.mono hb.size))
      clear hwv hb4 hv hkv hbs hb
      go_wp2_with fail
      refine (HBLK.out _ _ _ HV4.out HWV.out HK4.out).mono ?_
      rintro e w5 ⟨nv, rfl, hnv, hb5⟩
      have HV5 := Lib.hid hnv
      have HK5 := Lib.hid (HK4.out.kept hb5)
      have HBS5 := Lib.hid (HBS4.out.kept hb5)
      have HB5 := Lib.hid (HB4.out.trans (hb5.mono HB4.out.size))
      clear hnv hb5 HV4 HK4 HBS4 HB4
      go_wp2_with fail
      go_roundw
      case rel => exact ⟨k + 1, a + 64, by omega, by have := HA.out; show _ = _; omega, by go_num, HV5, HBS5, HK5, HB5.out⟩
      case measure => simp [intOf]; omega
    · obtain rfl : k = q := by omega
      have hna : ¬ a < ml := by have h1 : ml = 64 * k := HMQ.out; have h2 : a = 64 * k := ha.out; omega
      have hok : (blks H0 M k).ok := blks_ok H0_ok _ _
      generalize blks H0 M k = S at *
      obtain ⟨gv, cv, rfl, hgv, hcv⟩ := hv.out
      have hcw : ∀ x, x < 8 → wr.cell? ⟨gv, x, none⟩ = some (.int .u32 (S.get x : Nat)) := fun x hx => by rw [← stL_getD S x hx]; exact hcv x hx
      rw [show (stL S).length = 8 from rfl] at *
      have HCW := Lib.hid hcw
      have HB6 := Lib.hid hb
      clear hcv hcw hb hv hbs hkv
      go_wp2_with fail
      generalize wr = w6 at *
      go_loopw [7, 8] (fun b i wr => ∃ k : Nat, ∃ A cap, k ≤ 8 ∧ i = .int .i64 k ∧ b = .slice A (outK S k).length cap ∧ wr.ownsRow w6.heap.size 5 1 (.slice A (outK S k).length cap) (outK S k).length (cellsOf (outK S k)) ∧ Below w6.heap.size w6 wr) (fun _ i _ => 8 - (intOf i).toNat)
      case atStart => exact ⟨0, none, 0, by omega, rfl, rfl, World.ownsRow_nil .., Below.refl _ _⟩
      case round =>
        obtain ⟨j, Aj, cap, hj, rfl, rfl, hown, hb⟩ := hrel
        by_cases hlt2 : j < 8
        · have hc : wr.cell? ⟨gv, j, none⟩ = some (.int .u32 (S.get j : Nat)) := (hb.cell (p := ⟨gv, j, none⟩) hgv).trans (HCW.out j hlt2)
          have hl : (outK S j).length ≤ 32 := by rw [outK_length]; omega
          have hv := St.get_lt hok j
          have hsn := outK_succ S j
          have hwc := wB_cells (S.get j) hv
          have hwl : (wB (S.get j)).length = 4 := rfl
          generalize wB (S.get j) = B at *
          generalize S.get j = v at *
          generalize hN : outK S (j + 1) = N at *
          generalize outK S j = E at *
          have HS := Lib.hid hsn
          have HWC := Lib.hid hwc
          have HN := Lib.hid hN
          clear hsn hwc hN
          have y0 : IntKind.u8.wrap ((v : Int) / 16777216) = (v : Int) / 16777216 := by rw [wrap_u8]; omega
          have y1 : IntKind.u8.wrap ((v : Int) / 65536) = (v : Int) / 65536 % 256 := wrap_u8 _
          have y2 : IntKind.u8.wrap ((v : Int) / 256) = (v : Int) / 256 % 256 := wrap_u8 _
          have y3 : IntKind.u8.wrap (v : Int) = (v : Int) % 256 := wrap_u8 _
          have t0 : (0 : Int) ≤ (j : Int) := Int.natCast_nonneg _
          have t1 : (j : Int) < 8 := by omega
          have ag : (Value.slice Aj E.length cap).ownBlock ≠ some gv := fun h => by have := (hown.lt gv h).1; omega
          have hgx : gv < wr.heap.size := Nat.lt_of_lt_of_le hgv hb.size
          have hbB := hb.size
          go_wp2_with fail
          go_region_held3 (fun w' => w'.cell? ⟨gv, j, none⟩ = some (.int .u32 (v : Int)))
            (first
              | go_keep
              | (rw [hgrow.cell_far _ (by simp; omega) (Ne.symm ag)]; assumption))
            ((refine step_append_lies _ (by rfl) _ _ 27 (by rfl) w6.heap.size 5 i0 (.int .u8 0) 1 1 Tryd.underlying27 hi hz0 hz1 hz2 rfl (by omega) (.slice Aj E.length cap) E.length (cellsOf E) (by rfl) ((hown.alloc _).drew) ⟨wr.heap.size, 0, none⟩ 4 4 [.int .u8 ((v : Int) / 16777216), .int .u8 ((v : Int) / 65536 % 256), .int .u8 ((v : Int) / 256 % 256), .int .u8 ((v : Int) % 256)] (by rfl) (by rfl) (World.news_of_block (cs := #[.int .u8 ((v : Int) / 16777216), .int .u8 ((v : Int) / 65536 % 256), .int .u8 ((v : Int) / 256 % 256), .int .u8 ((v : Int) % 256)]) (t := 5) (fr := (0, 0)) (heap_alloc_new wr _)) (by simp [Value.oneCell']) (by omega) (by unfold maxLen; omega) (by omega) (by simp; omega) (wr.heap.size + 1) (by simp) ?_; intro gg cap' w7 hown1 hgrow hat1 hlt1))
          all_goals
            have hb1 : Below w6.heap.size w6 w7 := ((hb.alloc hb.size _).drew).grown hgrow (by have := hb.size; simp; omega) (fun k hk => (hown.lt k hk).1)
            rw [← HWC.out, cellsOf_app, ← HS.out] at hown1
            have hlw : E.length + 4 = N.length := by rw [HS.out, List.length_append, hwl]
            rw [hlw] at hown1 ⊢
            clear hgrow hat1 hlt1 hown hlw
            go_wp2_with fail
            go_roundw
            case rel => exact ⟨j + 1, some ⟨gg, 0, none⟩, cap', by omega, by go_num, by rw [HN.out], by rw [HN.out]; exact hown1, hb1⟩
            case measure => simp [intOf]; omega
        · obtain rfl : j = 8 := by omega
          have hcv := bs_string (bs_of_own hown)
          rw [outK_done, HFIN.out] at *
          have hd8 : decide ((8 : Int) < 8) = false := by decide
          go_wp2_with fail
          go_ret
          exact ⟨rfl, HB6.out.trans (hb.mono HB6.out.size)⟩

theorem rhex_any (s : ByteArray) (w : World) (hs : s.size ≤ 1000000) :
    Calls Tryd.prog 12 #[.string s] w fun e w' => e = .returned (.string (str (hexL s.data.toList))) ∧ Below w.heap.size w w' := by
  have h1 := rsum_any s w hs
  have h2 := fun W => rdigits_any (str (sha s.data.toList)) W (by rw [str_size, sha_length]; omega)
  rw [str_toList, show dgs (sha s.data.toList) = hexL s.data.toList from rfl] at h2
  generalize hexL s.data.toList = M at *
  generalize sha s.data.toList = A at *
  have H1 := Lib.hid h1
  have H2 := Lib.hid h2
  clear h1 h2
  go_enter Tryd.func12, Tryd.ntmps12
  go_wp2_with fail
  refine H1.out.mono ?_
  rintro e w1 ⟨rfl, hb1⟩
  go_wp2_with fail
  refine (H2.out _).mono ?_
  rintro e w2 ⟨rfl, hb2⟩
  go_wp2_with fail
  go_ret
  exact ⟨rfl, hb1.trans (hb2.mono hb1.size)⟩
end Go.Proofs.YtbejdfjioanjlaaDoor
