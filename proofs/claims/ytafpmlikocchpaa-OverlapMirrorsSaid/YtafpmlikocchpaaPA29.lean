/- Contracts of the functions, part 29: OvPJoin. -/
import Derived.BigQuiet
import Derived.Deep.Cut
import Derived.Test.YtafpmlikocchpaaPA13
import Derived.Test.YtafpmlikocchpaaPA26
import Derived.Test.YtafpmlikocchpaaPA28
/- Contract of the program of layer 15: joined. -/
namespace Go.Proofs.Ytafpmlikocchpaa
open Go.ChangeShapes Go.WideShapes Go.ChangeAt Go.RowKit
set_option linter.unusedVariables false
set_option maxRecDepth 100000

def sliceLn : Value → Nat
  | .slice _ n _ => n
  | _ => 0
theorem rowP_take {w : World} {A : Option Addr} {l : List PcR} (h : RowL EPc w A l) (j : Nat) : RowL EPc w A (l.take j) := fun hp => by
  have hl : 0 < l.length := by rw [List.length_take] at hp; omega
  obtain ⟨g, o, e, h1, h2⟩ := h hl
  refine ⟨g, o, e, h1, fun i x hx j' v hv => ?_⟩
  rw [List.getElem?_take] at hx
  split at hx
  · exact h2 i x hx j' v hv
  · cases hx
theorem rowP_drop {w : World} {g o : Nat} {l : List PcR} (h : RowL EPc w (some ⟨g, o, none⟩) l) (j : Nat) : RowL EPc w (some ⟨g, o + j * 4, none⟩) (l.drop j) := fun hp => by
  have hl : 0 < l.length := by rw [List.length_drop] at hp; omega
  obtain ⟨g', o', e, h1, h2⟩ := h hl
  injection e with e
  injection e with e1 e2
  subst e1 e2
  refine ⟨g, o + j * 4, rfl, h1, fun i x hx j' v hv => ?_⟩
  rw [List.getElem?_drop] at hx
  have := h2 (j + i) x hx j' v hv
  rw [show o + (j + i) * EPc.k + j' = o + j * 4 + i * EPc.k + j' from by
    show o + (j + i) * 4 + j' = o + j * 4 + i * 4 + j'
    omega] at this
  exact this
theorem sizeL_fill (l : List PcR) : sizeL (fillL l) = sizeL l := by rw [← cels_len, cels_fill, cels_len]
theorem sizeL_drop (l : List PcR) (n : Nat) : sizeL (l.drop n) ≤ sizeL l := by
  have := sizeL_append (l.take n) (l.drop n)
  rw [List.take_append_drop] at this
  omega
def JoinP (base : Nat) (w : World) (R : List PcR) (e : Ending) (w' : World) : Prop :=
  ∃ A c, e = .returned (.slice A R.length c) ∧ RowL EPc w' A R ∧ (A = none → c = 0) ∧ Below base w w'
set_option maxHeartbeats 32000000 in
theorem pjoin15_any (A : Option Addr) (mm c base : Nat) (l : List PcR) (w : World) (h : OwnE EPc 23 w base A mm c l) (hl : l.length ≤ 100000) (hbw : base ≤ w.heap.size) (hok : ∀ x ∈ l, x.dat ≠ [] → okP x) (hz : sizeL l ≤ 1000000000) :
    Calls Try.prog 30 #[.slice A mm c] w (JoinP base w (pcs (cels l))) := by
  obtain ⟨T, hT⟩ : ∃ T, T = pcs (cels l) := ⟨_, rfl⟩
  rw [← hT]
  have HFI := Lib.hid (show Calls Try.prog 39 #[.slice A mm c] w (DelP A c base l w) from by
    have h1 := h.1
    rw [h1]
    exact pfilled15 A c base _ w (by rw [← h1]; exact h) (by omega) hbw)
  have HCC := Lib.hid (show (fillL l).length ≤ c ∧ (fillL l).length ≤ 100000 from ⟨Nat.le_trans (fill_len l) (by rw [← h.1]; exact (own_cap h.2).1), Nat.le_trans (fill_len l) hl⟩)
  have HOK := Lib.hid (show ∀ z ∈ fillL l, okP z from fun z hz => hok z (fill_mem hz).1 (fill_mem hz).2)
  have HSQ := Lib.hid (show sizeL (fillL l) ≤ 1000000000 by rw [sizeL_fill]; exact hz)
  have HTT := Lib.hid (show [] ++ pcs (cels (fillL l)) = T by rw [List.nil_append, cels_fill, hT])
  clear hl hok hz h hT
  obtain ⟨Q, hQ⟩ : ∃ Q, Q = fillL l := ⟨_, rfl⟩
  unfold DelP at HFI
  rw [← hQ] at HFI HCC HOK HSQ HTT
  obtain ⟨N, hN⟩ : ∃ n, n = Q.length := ⟨_, rfl⟩
  rw [← hN] at HFI HCC
  have HQN := Lib.hid hN
  have HBW := Lib.hid hbw
  clear hQ hN hbw
  go_enter Try.func30, Try.ntmps30
  go_wp2_with fail
  refine HFI.out.mono ?_
  rintro en w1 ⟨rfl, h1, h2⟩
  have HS1 := Lib.hid (show RowL EPc w1 A Q ∧ N = Q.length ∧ N ≤ c from ⟨h1, HQN.out, HCC.out.1⟩)
  have HB1 := Lib.hid h2
  have hN1 : N ≤ 100000 := HCC.out.2
  have HO0 := Lib.hid (OwnE.nil (E := EPc) (e := 23) w1 w1.heap.size)
  clear h1 h2 HFI HQN HCC
  go_wp2_with fail
  go_loopw [0, 3] (fun s0 s3 wr => ∃ (m c1 mo c2 : Nat) (A1 A2 : Option Addr) (ps out : List PcR), s0 = .slice A1 m c1 ∧ s3 = .slice A2 mo c2 ∧ mo + m ≤ N ∧ Hid (RowL EPc w1 A1 ps ∧ m = ps.length ∧ m ≤ c1) ∧ Hid (∀ z ∈ ps, okP z) ∧ Hid (sizeL ps ≤ 1000000000) ∧ Hid (out ++ pcs (cels ps) = T) ∧ Hid (OwnE EPc 23 wr w1.heap.size A2 mo c2 out) ∧ Hid (Below w1.heap.size w1 wr)) (fun s0 _ _ => sliceLn s0)
  case atStart => exact ⟨N, c, 0, 0, A, none, Q, [], rfl, rfl, by omega, HS1, HOK, HSQ, HTT, HO0, Lib.hid (Below.refl _ _)⟩
  case round =>
    clear HS1 HOK HSQ HTT HO0
    obtain ⟨m, c1, mo, c2, A1, A2, ps, out, rfl, rfl, hmN, HS, HOK, HSZ, HI, HO, HB⟩ := hrel
    by_cases hm : 0 < m
    · have dm : decide ((0 : Int) < (m : Int)) = true := by simp; omega
      have hmi : (0 : Int) < (m : Int) := by omega
      have hmc : m ≤ c1 := HS.out.2.2
      obtain ⟨x, hx⟩ : ∃ x, ps[0]? = some x := ⟨ps[0]'(by have := HS.out.2.1; omega), List.getElem?_eq_getElem _⟩
      obtain ⟨g, o, rfl, hgg⟩ := HS.out.1.shapeA (by have := HS.out.2.1; omega)
      obtain ⟨a0, a1, a2, a3⟩ := pc_at HS.out.1 hx HB.out
      rw [show o + 0 * 4 = o by omega] at a0 a1 a2 a3
      have HNE := Lib.hid (show ∀ z ∈ ps, z.dat ≠ [] from fun z hz => (HOK.out z hz).1)
      have HR0 := Lib.hid (RunI.start hx (HNE.out x (List.mem_of_getElem? hx)))
      have HX := Lib.hid hx
      obtain ⟨p, hp⟩ : ∃ p, p = x.at_ := ⟨_, rfl⟩
      obtain ⟨D, hD⟩ : ∃ D, D = str x.dat := ⟨_, rfl⟩
      obtain ⟨xf, hxf⟩ : ∃ p, p = x.fr := ⟨_, rfl⟩
      obtain ⟨xt, hxt⟩ : ∃ p, p = x.to_ := ⟨_, rfl⟩
      rw [← hp] at a0
      rw [← hD] at a1
      rw [← hxf] at a2
      rw [← hxt] at a3
      have HXX := Lib.hid (show p = x.at_ ∧ xf = x.fr ∧ xt = x.to_ from ⟨hp, hxf, hxt⟩)
      have hsz : w1.heap.size ≤ wr.heap.size := HB.out.size
      obtain ⟨W2, hW2⟩ : ∃ W, W = wr.alloc (.cells #[.int .i64 p, .string D, .int .i64 xf, .int .i64 xt] 23) := ⟨_, rfl⟩
      obtain ⟨gf, hgf⟩ : ∃ g, g = wr.heap.size := ⟨_, rfl⟩
      have HF0 := Lib.hid (show Cells W2 gf 23 #[.int .i64 p, .string D, .int .i64 xf, .int .i64 xt] by rw [hW2, hgf]; exact heap_alloc_new wr _)
      have HO0 := Lib.hid (show OwnE EPc 23 W2 w1.heap.size A2 mo c2 out by rw [hW2]; exact HO.out.al _)
      have HB0 := Lib.hid (show Below w1.heap.size w1 W2 by rw [hW2]; exact HB.out.alloc hsz _)
      have HW2 := Lib.hid hW2
      have HGF := Lib.hid hgf
      have HN := Lib.hid (show ps.length ≤ 100000 by have := HS.out.2.1; omega)
      clear hx hp hD hxf hxt hsz hW2 hgf HO HB
      go_upto_region 5 with fail
      rw [← HGF.out, ← HW2.out]
      clear HW2 HGF a0 a1 a2 a3
      go_loopw [5] (fun s5 wi => ∃ (n : Nat) (y : PcR), s5 = .int .i64 (n : Int) ∧ 1 ≤ n ∧ n ≤ m ∧ Hid (RunI ps x n y) ∧ Hid (Cells wi gf 23 #[.int .i64 p, .string D, .int .i64 xf, .int .i64 xt]) ∧ Hid (OwnE EPc 23 wi w1.heap.size A2 mo c2 out) ∧ Hid (Below w1.heap.size w1 wi)) (fun s5 _ => m - (intOf s5).toNat)
      case atStart => exact ⟨1, x, rfl, Nat.le_refl _, by omega, HR0, HF0, HO0, HB0⟩
      case round =>
        clear HR0 HF0 HO0 HB0
        obtain ⟨n, y, rfl, hn1, hnm, HRUN, HF, HO, HB⟩ := hrel
        obtain ⟨n1, hn⟩ : ∃ n1, n1 = n - 1 := ⟨_, rfl⟩
        have kn1 : (n : Int) - 1 = (n1 : Int) := by omega
        have wn1 : IntKind.i64.wrap (n1 : Int) = (n1 : Int) := by rw [IntKind.wrap_i64]; omega
        have hn1m : n1 < m := by omega
        have hn1i : (n1 : Int) < (m : Int) := by omega
        have hn10 : (0 : Int) ≤ (n1 : Int) := by omega
        have hni0 : (0 : Int) ≤ (n : Int) := by omega
        have hnmi : (n : Int) ≤ (m : Int) := by omega
        have hnc : n ≤ c1 := by omega
        have hnci : (n : Int) ≤ (c1 : Int) := by omega
        have hyx : ps[n1]? = some y := by rw [hn]; exact HRUN.out.last
        clear hn
        by_cases hlt : n < m
        · have dlt : decide ((n : Int) < (m : Int)) = true := by simp; omega
          have hlti : (n : Int) < (m : Int) := by omega
          obtain ⟨z, hzx⟩ : ∃ z, ps[n]? = some z := ⟨ps[n]'(by have := HS.out.2.1; omega), List.getElem?_eq_getElem _⟩
          have hzo := HOK.out z (List.mem_of_getElem? hzx)
          have hyo := HOK.out y (List.mem_of_getElem? hyx)
          have HZX0 := Lib.hid (fun (W : World) (hb : Below w1.heap.size w1 W) => pc_at HS.out.1 hzx hb)
          have HYX0 := Lib.hid (fun (W : World) (hb : Below w1.heap.size w1 W) => pc_at HS.out.1 hyx hb)
          have HZG := Lib.hid hzx
          obtain ⟨za, hza⟩ : ∃ p, p = z.at_ := ⟨_, rfl⟩
          obtain ⟨DZ, hDZ⟩ : ∃ D, D = str z.dat := ⟨_, rfl⟩
          obtain ⟨zf, hzf⟩ : ∃ p, p = z.fr := ⟨_, rfl⟩
          obtain ⟨zt, hzt⟩ : ∃ p, p = z.to_ := ⟨_, rfl⟩
          obtain ⟨ya, hya⟩ : ∃ p, p = y.at_ := ⟨_, rfl⟩
          obtain ⟨DY, hDY⟩ : ∃ D, D = str y.dat := ⟨_, rfl⟩
          obtain ⟨yf, hyf⟩ : ∃ p, p = y.fr := ⟨_, rfl⟩
          obtain ⟨yt, hyt⟩ : ∃ p, p = y.to_ := ⟨_, rfl⟩
          have hDYs : DY.size = y.dat.length := by rw [hDY, str_size]
          obtain ⟨v1, v2, v3, v4, v5⟩ := hyo
          obtain ⟨ye, hye⟩ : ∃ e, e = ya + (DY.size : Int) := ⟨_, rfl⟩
          have wye : IntKind.i64.wrap ye = ye := by rw [IntKind.wrap_i64]; omega
          have HEND := Lib.hid (fun W => pend15 ya yf yt ye DY W hye.symm wye)
          have HSGZ := Lib.hid (fun W => psegm15 za zf zt DZ W)
          have HSGF := Lib.hid (fun W => psegm15 p xf xt D W)
          have hyE : endQ y = ye := by unfold endQ; rw [hye, hya, hDYs]
          have HZX := Lib.hid (show ∀ (W : World), Below w1.heap.size w1 W → W.cell? ⟨g, o + n * 4, none⟩ = some (.int .i64 za) ∧ W.cell? ⟨g, o + n * 4 + 1, none⟩ = some (.string DZ) ∧ W.cell? ⟨g, o + n * 4 + 2, none⟩ = some (.int .i64 zf) ∧ W.cell? ⟨g, o + n * 4 + 3, none⟩ = some (.int .i64 zt) from by rw [hza, hDZ, hzf, hzt]; exact HZX0.out)
          have HYX := Lib.hid (show ∀ (W : World), Below w1.heap.size w1 W → W.cell? ⟨g, o + n1 * 4, none⟩ = some (.int .i64 ya) ∧ W.cell? ⟨g, o + n1 * 4 + 1, none⟩ = some (.string DY) ∧ W.cell? ⟨g, o + n1 * 4 + 2, none⟩ = some (.int .i64 yf) ∧ W.cell? ⟨g, o + n1 * 4 + 3, none⟩ = some (.int .i64 yt) from by rw [hya, hDY, hyf, hyt]; exact HYX0.out)
          have qg := seg_guard
          obtain ⟨e1, he1⟩ : ∃ b, b = (za == ye) := ⟨_, rfl⟩
          obtain ⟨e2, he2⟩ : ∃ b, b = (zf == xf && zt == xt) := ⟨_, rfl⟩
          have qe := fun W => seg_eql zf zt xf xt W
          rw [← he2] at qe
          have ke1 : (za == ye) = e1 := he1.symm
          have HE1 := Lib.hid (show (e1 = true → z.at_ = endQ y) ∧ (e1 = false → z.at_ ≠ endQ y) by
            rw [he1, hyE, ← hza]
            exact ⟨fun h => by simpa using h, fun h => by simpa using h⟩)
          have HE2 := Lib.hid (show (e2 = true → z.fr = x.fr ∧ z.to_ = x.to_) ∧ (e2 = false → ¬ (z.fr = x.fr ∧ z.to_ = x.to_)) by
            rw [he2, ← hzf, ← hzt, ← HXX.out.2.1, ← HXX.out.2.2]
            refine ⟨fun h => by simpa using h, fun h h2 => ?_⟩
            rw [h2.1, h2.2] at h
            simp at h)
          clear hzo v1 v2 v3 v4 v5 hDYs hye hyE hza hDZ hzf hzt hya hDY hyf hyt hzx hyx HZX0 HYX0 he1 he2
          cases e1
          · go_upto_region 5 with fail
            refine wp_region_pick (fun w' => Below wr.heap.size wr w') (by kernel_rfl) (by kernel_rfl) (Below.refl _ _) ⟨rfl, rfl, rfl, Nat.le_refl _, fun _ _ => rfl⟩ (fun pw hp hq => ?_)
            have z0 : ∀ u, (pw u).cell? ⟨g, o + n * 4, none⟩ = some (.int .i64 za) := fun u => (HZX.out _ (HB.out.trans ((hp u).mono HB.out.size))).1
            have z1 : ∀ u, (pw u).cell? ⟨g, o + n * 4 + 1, none⟩ = some (.string DZ) := fun u => (HZX.out _ (HB.out.trans ((hp u).mono HB.out.size))).2.1
            have z2 : ∀ u, (pw u).cell? ⟨g, o + n * 4 + 2, none⟩ = some (.int .i64 zf) := fun u => (HZX.out _ (HB.out.trans ((hp u).mono HB.out.size))).2.2.1
            have z3 : ∀ u, (pw u).cell? ⟨g, o + n * 4 + 3, none⟩ = some (.int .i64 zt) := fun u => (HZX.out _ (HB.out.trans ((hp u).mono HB.out.size))).2.2.2
            have y0 : ∀ u, (pw u).cell? ⟨g, o + n1 * 4, none⟩ = some (.int .i64 ya) := fun u => (HYX.out _ (HB.out.trans ((hp u).mono HB.out.size))).1
            have y1 : ∀ u, (pw u).cell? ⟨g, o + n1 * 4 + 1, none⟩ = some (.string DY) := fun u => (HYX.out _ (HB.out.trans ((hp u).mono HB.out.size))).2.1
            have y2 : ∀ u, (pw u).cell? ⟨g, o + n1 * 4 + 2, none⟩ = some (.int .i64 yf) := fun u => (HYX.out _ (HB.out.trans ((hp u).mono HB.out.size))).2.2.1
            have y3 : ∀ u, (pw u).cell? ⟨g, o + n1 * 4 + 3, none⟩ = some (.int .i64 yt) := fun u => (HYX.out _ (HB.out.trans ((hp u).mono HB.out.size))).2.2.2
            have x0 : ∀ u, (pw u).cell? ⟨gf, 0, none⟩ = some (.int .i64 p) := fun u => (Cells.cell (Cells.kept HF.out (hp u) HF.out.lt) 0).trans rfl
            have x1 : ∀ u, (pw u).cell? ⟨gf, 1, none⟩ = some (.string D) := fun u => (Cells.cell (Cells.kept HF.out (hp u) HF.out.lt) 1).trans rfl
            have x2 : ∀ u, (pw u).cell? ⟨gf, 2, none⟩ = some (.int .i64 xf) := fun u => (Cells.cell (Cells.kept HF.out (hp u) HF.out.lt) 2).trans rfl
            have x3 : ∀ u, (pw u).cell? ⟨gf, 3, none⟩ = some (.int .i64 xt) := fun u => (Cells.cell (Cells.kept HF.out (hp u) HF.out.lt) 3).trans rfl
            have HP := Lib.hid hp
            have HQ := Lib.hid hq
            clear hp hq
            repeat (go_big_quiet_step ((first | with_reducible exact Calls.pick_of HQ.out (fun W' hb => (HP.out _).trans (hb.mono (HP.out _).size)) (HEND.out _))))
            refine wpQuiet_nil ?_
            rintro _ ⟨u9, rfl⟩
            have HF2 := Lib.hid (Cells.kept HF.out (HP.out u9) HF.out.lt)
            have HO2 := Lib.hid (HO.out.kept (HP.out u9))
            have HB2 := Lib.hid (HB.out.trans ((HP.out u9).mono HB.out.size))
            generalize pw u9 = wi2 at *
            clear HP HQ HF HO HB z0 z1 z2 z3 y0 y1 y2 y3 x0 x1 x2 x3
            have HF := HF2
            have HO := HO2
            have HB := HB2
            clear HF2 HO2 HB2
            have HST := Lib.hid (HRUN.out.stop HNE.out (fun z9 hz9 h9 => by rw [HZG.out] at hz9; obtain rfl := Option.some.inj hz9; exact HE1.out.2 rfl h9.1))
            obtain ⟨dd, hdd⟩ : ∃ d, d = datL (ps.take n) := ⟨_, rfl⟩
            have HIN := Lib.hid (show (out ++ [⟨p, dd, xf, xt⟩]) ++ pcs (cels (ps.drop n)) = T by
              rw [← HI.out, HST.out, hdd, HXX.out.1, HXX.out.2.1, HXX.out.2.2, List.append_assoc]
              rfl)
            have HDAT := Lib.hid (fun (W : World) (hbW : Below wi2.heap.size wi2 W) => show Calls Try.prog 37 #[.slice (some ⟨g, o, none⟩) n c1] W fun en w' => en = .returned (.string (str dd)) ∧ Below W.heap.size W w' from by
              have h1 := pdata15 (ps.take n) (some ⟨g, o, none⟩) c1 W ((rowP_take (HS.out.1.kept (HB.out.trans (hbW.mono HB.out.size))) n)) (by rw [List.length_take]; have := HN.out; omega) (Nat.le_trans (sizeL_take ps n) HSZ.out)
              rw [List.length_take, show min n ps.length = n by have := HS.out.2.1; omega, ← hdd] at h1
              exact h1)
            clear hdd
            go_upto_region 7 with fail
            refine wp_region_specs_tail 13 [.val (Value.slice A2 mo c2), .val (Value.pointer (some ⟨gf, 0, none⟩)), .val (Value.int .i64 p), .val (Value.slice (some ⟨g, o, none⟩) m c1), .val (Value.int .i64 (n : Int)), .val (Value.slice (some ⟨g, o, none⟩) n c1), .val (Value.string (str dd)), .val (Value.pointer (some ⟨gf, 2, none⟩)), .val (Value.int .i64 xf), .val (Value.pointer (some ⟨gf, 3, none⟩)), .val (Value.int .i64 xt), .val (Value.agg #[.int .i64 p, .string (str dd), .int .i64 xf, .int .i64 xt]), .row #[.int .i64 p, .string (str dd), .int .i64 xf, .int .i64 xt] 23 1] (by kernel_rfl) (by kernel_rfl) (by kernel_rfl) (by kernel_rfl) (by kernel_rfl) (by kernel_rfl) (by kernel_rfl) (by kernel_rfl) ?_ ?_
            · refine ⟨⟨rfl, ?_⟩, ⟨rfl, ?_⟩, ⟨rfl, ?_⟩, ⟨rfl, ?_⟩, ⟨rfl, ?_⟩, ⟨rfl, ?_⟩, ⟨rfl, ?_⟩, ⟨rfl, ?_⟩, ⟨rfl, ?_⟩, ⟨rfl, ?_⟩, ⟨rfl, ?_⟩, ⟨rfl, ?_⟩, ⟨rfl, ?_⟩, trivial⟩
              · intro ac W hbW hk K hK
                have e3 := kvalT hk 3 (Value.slice A2 mo c2) (by kernel_rfl)
                clear hk
                go_simp
                exact ⟨_, rfl, hK _ _ rfl (Below.refl _ _)⟩
              · intro ac W hbW hk K hK
                have e4 := kvalT hk 4 (Value.pointer (some ⟨gf, 0, none⟩)) (by kernel_rfl)
                clear hk
                go_simp
                exact ⟨_, rfl, hK _ _ rfl (Below.refl _ _)⟩
              · intro ac W hbW hk K hK
                have e45 := kvalT hk 45 (Value.pointer (some ⟨gf, 0, none⟩)) (by kernel_rfl)
                clear hk
                have y0 := (Cells.cell (Cells.kept HF.out hbW HF.out.lt) 0).trans (show _ = some (Value.int .i64 p) from rfl)
                have y1 := (Cells.cell (Cells.kept HF.out hbW HF.out.lt) 1).trans (show _ = some (Value.string D) from rfl)
                have y2 := (Cells.cell (Cells.kept HF.out hbW HF.out.lt) 2).trans (show _ = some (Value.int .i64 xf) from rfl)
                have y3 := (Cells.cell (Cells.kept HF.out hbW HF.out.lt) 3).trans (show _ = some (Value.int .i64 xt) from rfl)
                go_simp
                exact ⟨_, rfl, hK _ _ rfl (Below.refl _ _)⟩
              · intro ac W hbW hk K hK
                have e0 := kvalT hk 0 (Value.slice (some ⟨g, o, none⟩) m c1) (by kernel_rfl)
                clear hk
                go_simp
                exact ⟨_, rfl, hK _ _ rfl (Below.refl _ _)⟩
              · intro ac W hbW hk K hK
                have e5 := kvalT hk 5 (Value.int .i64 (n : Int)) (by kernel_rfl)
                clear hk
                go_simp
                exact ⟨_, rfl, hK _ _ rfl (Below.refl _ _)⟩
              · intro ac W hbW hk K hK
                have e47 := kvalT hk 47 (Value.slice (some ⟨g, o, none⟩) m c1) (by kernel_rfl)
                have e48 := kvalT hk 48 (Value.int .i64 (n : Int)) (by kernel_rfl)
                clear hk
                go_simp
                exact ⟨_, rfl, hK _ _ rfl (Below.refl _ _)⟩
              · intro ac W hbW hk K hK
                have e49 := kvalT hk 49 (Value.slice (some ⟨g, o, none⟩) n c1) (by kernel_rfl)
                clear hk
                go_simp
                refine (HDAT.out W hbW).mono ?_
                rintro en w9 ⟨rfl, hb9⟩
                exact ⟨_, rfl, hK _ _ rfl hb9⟩
              · intro ac W hbW hk K hK
                have e4 := kvalT hk 4 (Value.pointer (some ⟨gf, 0, none⟩)) (by kernel_rfl)
                clear hk
                go_simp
                exact ⟨_, rfl, hK _ _ rfl (Below.refl _ _)⟩
              · intro ac W hbW hk K hK
                have e51 := kvalT hk 51 (Value.pointer (some ⟨gf, 2, none⟩)) (by kernel_rfl)
                clear hk
                have y0 := (Cells.cell (Cells.kept HF.out hbW HF.out.lt) 0).trans (show _ = some (Value.int .i64 p) from rfl)
                have y1 := (Cells.cell (Cells.kept HF.out hbW HF.out.lt) 1).trans (show _ = some (Value.string D) from rfl)
                have y2 := (Cells.cell (Cells.kept HF.out hbW HF.out.lt) 2).trans (show _ = some (Value.int .i64 xf) from rfl)
                have y3 := (Cells.cell (Cells.kept HF.out hbW HF.out.lt) 3).trans (show _ = some (Value.int .i64 xt) from rfl)
                go_simp
                exact ⟨_, rfl, hK _ _ rfl (Below.refl _ _)⟩
              · intro ac W hbW hk K hK
                have e4 := kvalT hk 4 (Value.pointer (some ⟨gf, 0, none⟩)) (by kernel_rfl)
                clear hk
                go_simp
                exact ⟨_, rfl, hK _ _ rfl (Below.refl _ _)⟩
              · intro ac W hbW hk K hK
                have e53 := kvalT hk 53 (Value.pointer (some ⟨gf, 3, none⟩)) (by kernel_rfl)
                clear hk
                have y0 := (Cells.cell (Cells.kept HF.out hbW HF.out.lt) 0).trans (show _ = some (Value.int .i64 p) from rfl)
                have y1 := (Cells.cell (Cells.kept HF.out hbW HF.out.lt) 1).trans (show _ = some (Value.string D) from rfl)
                have y2 := (Cells.cell (Cells.kept HF.out hbW HF.out.lt) 2).trans (show _ = some (Value.int .i64 xf) from rfl)
                have y3 := (Cells.cell (Cells.kept HF.out hbW HF.out.lt) 3).trans (show _ = some (Value.int .i64 xt) from rfl)
                go_simp
                exact ⟨_, rfl, hK _ _ rfl (Below.refl _ _)⟩
              · intro ac W hbW hk K hK
                have e46 := kvalT hk 46 (Value.int .i64 p) (by kernel_rfl)
                have e50 := kvalT hk 50 (Value.string (str dd)) (by kernel_rfl)
                have e52 := kvalT hk 52 (Value.int .i64 xf) (by kernel_rfl)
                have e54 := kvalT hk 54 (Value.int .i64 xt) (by kernel_rfl)
                clear hk
                go_simp
                exact ⟨_, rfl, hK _ _ rfl (Below.refl _ _)⟩
              · intro ac W hbW hk K hK
                have e55 := kvalT hk 55 (Value.agg #[.int .i64 p, .string (str dd), .int .i64 xf, .int .i64 xt]) (by kernel_rfl)
                clear hk
                go_simp
                exact ⟨_, rfl, hK _ _ ⟨W.heap.size, rfl, hbW.size, heap_alloc_new W _⟩ (below_alloc6 W _)⟩
            · intro W9 hb9
              simp only [List.take_succ_cons, List.take_zero, List.drop_succ_cons, List.drop_zero, endT]
              intro gr hgr hcr
              have HO9 := HO.out.kept hb9
              have hB9 := HB.out.trans (hb9.mono HB.out.size)
              have hs9 : w1.heap.size ≤ W9.heap.size := hB9.size
              go_simp
              refine wpList_push (E := EPc) pcTy (by rfl) _ _ (by rfl) w1.heap.size _ mo out [⟨p, dd, xf, xt⟩] (by rfl) HO9.2 gr 1 1 #[.int .i64 p, .string (str dd), .int .i64 xf, .int .i64 xt] (0, 0) (by rfl) hcr (by rfl) rfl (by omega) (by omega) (by decide) hs9 ?_
              intro g2 cap2 wz hown hgrow hat hlt2
              have HOz := Lib.hid (HO9.push (ys := [⟨p, dd, xf, xt⟩]) rfl hown)
              have HBz := Lib.hid (HO9.below0 hB9 hs9 (Nat.le_refl _) hgrow)
              clear hown hgrow hat hlt2 HO9 hB9 hs9 hcr hgr hb9 HO HB HF HDAT
              have HRS := Lib.hid (show RowL EPc w1 (some ⟨g, o + n * 4, none⟩) (ps.drop n) ∧ m - n = (ps.drop n).length ∧ m - n ≤ c1 - n from ⟨rowP_drop HS.out.1 n, by rw [List.length_drop]; have := HS.out.2.1; omega, by omega⟩)
              have HOD := Lib.hid (show ∀ z ∈ ps.drop n, okP z from fun z hz => HOK.out z (List.mem_of_mem_drop hz))
              have HZD := Lib.hid (show sizeL (ps.drop n) ≤ 1000000000 from Nat.le_trans (sizeL_drop ps n) HSZ.out)
              by_cases hcn : n = c1
              · have HRN := Lib.hid (show RowL EPc w1 (some ⟨g, o, none⟩) (ps.drop n) from by
                  rw [show ps.drop n = [] from List.drop_eq_nil_of_le (by have := HS.out.2.1; omega)]
                  exact RowL.nil _ _)
                have HRL := Lib.hid HRS.out.2
                clear HRS
                have hcz : c1 - n = 0 := by omega
                have hczi : (c1 : Int) - (n : Int) = 0 := by omega
                go_wp2_with fail
                go_roundw
                case rel => exact ⟨0, 0, mo + 1, cap2, some ⟨g, o, none⟩, some ⟨g2, 0, none⟩, ps.drop n, out ++ [⟨p, dd, xf, xt⟩], rfl, rfl, by omega, Lib.hid ⟨HRN.out, by have := HRL.out; omega, Nat.zero_le _⟩, HOD, HZD, HIN, HOz, HBz⟩
                case measure => simp [sliceLn]; omega
              · have hcn2 : n < c1 := by omega
                go_wp2_with fail
                go_roundw
                case rel => exact ⟨m - n, c1 - n, mo + 1, cap2, some ⟨g, o + n * 4, none⟩, some ⟨g2, 0, none⟩, ps.drop n, out ++ [⟨p, dd, xf, xt⟩], rfl, rfl, by omega, HRS, HOD, HZD, HIN, HOz, HBz⟩
                case measure => simp [sliceLn]; omega

          · cases e2
            · go_upto_region 5 with fail
              refine wp_region_pick (fun w' => Below wr.heap.size wr w') (by kernel_rfl) (by kernel_rfl) (Below.refl _ _) ⟨rfl, rfl, rfl, Nat.le_refl _, fun _ _ => rfl⟩ (fun pw hp hq => ?_)
              have z0 : ∀ u, (pw u).cell? ⟨g, o + n * 4, none⟩ = some (.int .i64 za) := fun u => (HZX.out _ (HB.out.trans ((hp u).mono HB.out.size))).1
              have z1 : ∀ u, (pw u).cell? ⟨g, o + n * 4 + 1, none⟩ = some (.string DZ) := fun u => (HZX.out _ (HB.out.trans ((hp u).mono HB.out.size))).2.1
              have z2 : ∀ u, (pw u).cell? ⟨g, o + n * 4 + 2, none⟩ = some (.int .i64 zf) := fun u => (HZX.out _ (HB.out.trans ((hp u).mono HB.out.size))).2.2.1
              have z3 : ∀ u, (pw u).cell? ⟨g, o + n * 4 + 3, none⟩ = some (.int .i64 zt) := fun u => (HZX.out _ (HB.out.trans ((hp u).mono HB.out.size))).2.2.2
              have y0 : ∀ u, (pw u).cell? ⟨g, o + n1 * 4, none⟩ = some (.int .i64 ya) := fun u => (HYX.out _ (HB.out.trans ((hp u).mono HB.out.size))).1
              have y1 : ∀ u, (pw u).cell? ⟨g, o + n1 * 4 + 1, none⟩ = some (.string DY) := fun u => (HYX.out _ (HB.out.trans ((hp u).mono HB.out.size))).2.1
              have y2 : ∀ u, (pw u).cell? ⟨g, o + n1 * 4 + 2, none⟩ = some (.int .i64 yf) := fun u => (HYX.out _ (HB.out.trans ((hp u).mono HB.out.size))).2.2.1
              have y3 : ∀ u, (pw u).cell? ⟨g, o + n1 * 4 + 3, none⟩ = some (.int .i64 yt) := fun u => (HYX.out _ (HB.out.trans ((hp u).mono HB.out.size))).2.2.2
              have x0 : ∀ u, (pw u).cell? ⟨gf, 0, none⟩ = some (.int .i64 p) := fun u => (Cells.cell (Cells.kept HF.out (hp u) HF.out.lt) 0).trans rfl
              have x1 : ∀ u, (pw u).cell? ⟨gf, 1, none⟩ = some (.string D) := fun u => (Cells.cell (Cells.kept HF.out (hp u) HF.out.lt) 1).trans rfl
              have x2 : ∀ u, (pw u).cell? ⟨gf, 2, none⟩ = some (.int .i64 xf) := fun u => (Cells.cell (Cells.kept HF.out (hp u) HF.out.lt) 2).trans rfl
              have x3 : ∀ u, (pw u).cell? ⟨gf, 3, none⟩ = some (.int .i64 xt) := fun u => (Cells.cell (Cells.kept HF.out (hp u) HF.out.lt) 3).trans rfl
              have HP := Lib.hid hp
              have HQ := Lib.hid hq
              clear hp hq
              repeat (go_big_quiet_step ((first | with_reducible exact Calls.pick_of HQ.out (fun W' hb => (HP.out _).trans (hb.mono (HP.out _).size)) (HEND.out _) | with_reducible exact Calls.pick_of HQ.out (fun W' hb => (HP.out _).trans (hb.mono (HP.out _).size)) (HSGZ.out _) | with_reducible exact Calls.pick_of HQ.out (fun W' hb => (HP.out _).trans (hb.mono (HP.out _).size)) (HSGF.out _))))
              refine wpQuiet_nil ?_
              rintro _ ⟨u9, rfl⟩
              have HF2 := Lib.hid (Cells.kept HF.out (HP.out u9) HF.out.lt)
              have HO2 := Lib.hid (HO.out.kept (HP.out u9))
              have HB2 := Lib.hid (HB.out.trans ((HP.out u9).mono HB.out.size))
              generalize pw u9 = wi2 at *
              clear HP HQ HF HO HB z0 z1 z2 z3 y0 y1 y2 y3 x0 x1 x2 x3
              have HF := HF2
              have HO := HO2
              have HB := HB2
              clear HF2 HO2 HB2
              have HST := Lib.hid (HRUN.out.stop HNE.out (fun z9 hz9 h9 => by rw [HZG.out] at hz9; obtain rfl := Option.some.inj hz9; exact HE2.out.2 rfl h9.2))
              obtain ⟨dd, hdd⟩ : ∃ d, d = datL (ps.take n) := ⟨_, rfl⟩
              have HIN := Lib.hid (show (out ++ [⟨p, dd, xf, xt⟩]) ++ pcs (cels (ps.drop n)) = T by
                rw [← HI.out, HST.out, hdd, HXX.out.1, HXX.out.2.1, HXX.out.2.2, List.append_assoc]
                rfl)
              have HDAT := Lib.hid (fun (W : World) (hbW : Below wi2.heap.size wi2 W) => show Calls Try.prog 37 #[.slice (some ⟨g, o, none⟩) n c1] W fun en w' => en = .returned (.string (str dd)) ∧ Below W.heap.size W w' from by
                have h1 := pdata15 (ps.take n) (some ⟨g, o, none⟩) c1 W ((rowP_take (HS.out.1.kept (HB.out.trans (hbW.mono HB.out.size))) n)) (by rw [List.length_take]; have := HN.out; omega) (Nat.le_trans (sizeL_take ps n) HSZ.out)
                rw [List.length_take, show min n ps.length = n by have := HS.out.2.1; omega, ← hdd] at h1
                exact h1)
              clear hdd
              go_upto_region 7 with fail
              refine wp_region_specs_tail 13 [.val (Value.slice A2 mo c2), .val (Value.pointer (some ⟨gf, 0, none⟩)), .val (Value.int .i64 p), .val (Value.slice (some ⟨g, o, none⟩) m c1), .val (Value.int .i64 (n : Int)), .val (Value.slice (some ⟨g, o, none⟩) n c1), .val (Value.string (str dd)), .val (Value.pointer (some ⟨gf, 2, none⟩)), .val (Value.int .i64 xf), .val (Value.pointer (some ⟨gf, 3, none⟩)), .val (Value.int .i64 xt), .val (Value.agg #[.int .i64 p, .string (str dd), .int .i64 xf, .int .i64 xt]), .row #[.int .i64 p, .string (str dd), .int .i64 xf, .int .i64 xt] 23 1] (by kernel_rfl) (by kernel_rfl) (by kernel_rfl) (by kernel_rfl) (by kernel_rfl) (by kernel_rfl) (by kernel_rfl) (by kernel_rfl) ?_ ?_
              · refine ⟨⟨rfl, ?_⟩, ⟨rfl, ?_⟩, ⟨rfl, ?_⟩, ⟨rfl, ?_⟩, ⟨rfl, ?_⟩, ⟨rfl, ?_⟩, ⟨rfl, ?_⟩, ⟨rfl, ?_⟩, ⟨rfl, ?_⟩, ⟨rfl, ?_⟩, ⟨rfl, ?_⟩, ⟨rfl, ?_⟩, ⟨rfl, ?_⟩, trivial⟩
                · intro ac W hbW hk K hK
                  have e3 := kvalT hk 3 (Value.slice A2 mo c2) (by kernel_rfl)
                  clear hk
                  go_simp
                  exact ⟨_, rfl, hK _ _ rfl (Below.refl _ _)⟩
                · intro ac W hbW hk K hK
                  have e4 := kvalT hk 4 (Value.pointer (some ⟨gf, 0, none⟩)) (by kernel_rfl)
                  clear hk
                  go_simp
                  exact ⟨_, rfl, hK _ _ rfl (Below.refl _ _)⟩
                · intro ac W hbW hk K hK
                  have e45 := kvalT hk 45 (Value.pointer (some ⟨gf, 0, none⟩)) (by kernel_rfl)
                  clear hk
                  have y0 := (Cells.cell (Cells.kept HF.out hbW HF.out.lt) 0).trans (show _ = some (Value.int .i64 p) from rfl)
                  have y1 := (Cells.cell (Cells.kept HF.out hbW HF.out.lt) 1).trans (show _ = some (Value.string D) from rfl)
                  have y2 := (Cells.cell (Cells.kept HF.out hbW HF.out.lt) 2).trans (show _ = some (Value.int .i64 xf) from rfl)
                  have y3 := (Cells.cell (Cells.kept HF.out hbW HF.out.lt) 3).trans (show _ = some (Value.int .i64 xt) from rfl)
                  go_simp
                  exact ⟨_, rfl, hK _ _ rfl (Below.refl _ _)⟩
                · intro ac W hbW hk K hK
                  have e0 := kvalT hk 0 (Value.slice (some ⟨g, o, none⟩) m c1) (by kernel_rfl)
                  clear hk
                  go_simp
                  exact ⟨_, rfl, hK _ _ rfl (Below.refl _ _)⟩
                · intro ac W hbW hk K hK
                  have e5 := kvalT hk 5 (Value.int .i64 (n : Int)) (by kernel_rfl)
                  clear hk
                  go_simp
                  exact ⟨_, rfl, hK _ _ rfl (Below.refl _ _)⟩
                · intro ac W hbW hk K hK
                  have e47 := kvalT hk 47 (Value.slice (some ⟨g, o, none⟩) m c1) (by kernel_rfl)
                  have e48 := kvalT hk 48 (Value.int .i64 (n : Int)) (by kernel_rfl)
                  clear hk
                  go_simp
                  exact ⟨_, rfl, hK _ _ rfl (Below.refl _ _)⟩
                · intro ac W hbW hk K hK
                  have e49 := kvalT hk 49 (Value.slice (some ⟨g, o, none⟩) n c1) (by kernel_rfl)
                  clear hk
                  go_simp
                  refine (HDAT.out W hbW).mono ?_
                  rintro en w9 ⟨rfl, hb9⟩
                  exact ⟨_, rfl, hK _ _ rfl hb9⟩
                · intro ac W hbW hk K hK
                  have e4 := kvalT hk 4 (Value.pointer (some ⟨gf, 0, none⟩)) (by kernel_rfl)
                  clear hk
                  go_simp
                  exact ⟨_, rfl, hK _ _ rfl (Below.refl _ _)⟩
                · intro ac W hbW hk K hK
                  have e51 := kvalT hk 51 (Value.pointer (some ⟨gf, 2, none⟩)) (by kernel_rfl)
                  clear hk
                  have y0 := (Cells.cell (Cells.kept HF.out hbW HF.out.lt) 0).trans (show _ = some (Value.int .i64 p) from rfl)
                  have y1 := (Cells.cell (Cells.kept HF.out hbW HF.out.lt) 1).trans (show _ = some (Value.string D) from rfl)
                  have y2 := (Cells.cell (Cells.kept HF.out hbW HF.out.lt) 2).trans (show _ = some (Value.int .i64 xf) from rfl)
                  have y3 := (Cells.cell (Cells.kept HF.out hbW HF.out.lt) 3).trans (show _ = some (Value.int .i64 xt) from rfl)
                  go_simp
                  exact ⟨_, rfl, hK _ _ rfl (Below.refl _ _)⟩
                · intro ac W hbW hk K hK
                  have e4 := kvalT hk 4 (Value.pointer (some ⟨gf, 0, none⟩)) (by kernel_rfl)
                  clear hk
                  go_simp
                  exact ⟨_, rfl, hK _ _ rfl (Below.refl _ _)⟩
                · intro ac W hbW hk K hK
                  have e53 := kvalT hk 53 (Value.pointer (some ⟨gf, 3, none⟩)) (by kernel_rfl)
                  clear hk
                  have y0 := (Cells.cell (Cells.kept HF.out hbW HF.out.lt) 0).trans (show _ = some (Value.int .i64 p) from rfl)
                  have y1 := (Cells.cell (Cells.kept HF.out hbW HF.out.lt) 1).trans (show _ = some (Value.string D) from rfl)
                  have y2 := (Cells.cell (Cells.kept HF.out hbW HF.out.lt) 2).trans (show _ = some (Value.int .i64 xf) from rfl)
                  have y3 := (Cells.cell (Cells.kept HF.out hbW HF.out.lt) 3).trans (show _ = some (Value.int .i64 xt) from rfl)
                  go_simp
                  exact ⟨_, rfl, hK _ _ rfl (Below.refl _ _)⟩
                · intro ac W hbW hk K hK
                  have e46 := kvalT hk 46 (Value.int .i64 p) (by kernel_rfl)
                  have e50 := kvalT hk 50 (Value.string (str dd)) (by kernel_rfl)
                  have e52 := kvalT hk 52 (Value.int .i64 xf) (by kernel_rfl)
                  have e54 := kvalT hk 54 (Value.int .i64 xt) (by kernel_rfl)
                  clear hk
                  go_simp
                  exact ⟨_, rfl, hK _ _ rfl (Below.refl _ _)⟩
                · intro ac W hbW hk K hK
                  have e55 := kvalT hk 55 (Value.agg #[.int .i64 p, .string (str dd), .int .i64 xf, .int .i64 xt]) (by kernel_rfl)
                  clear hk
                  go_simp
                  exact ⟨_, rfl, hK _ _ ⟨W.heap.size, rfl, hbW.size, heap_alloc_new W _⟩ (below_alloc6 W _)⟩
              · intro W9 hb9
                simp only [List.take_succ_cons, List.take_zero, List.drop_succ_cons, List.drop_zero, endT]
                intro gr hgr hcr
                have HO9 := HO.out.kept hb9
                have hB9 := HB.out.trans (hb9.mono HB.out.size)
                have hs9 : w1.heap.size ≤ W9.heap.size := hB9.size
                go_simp
                refine wpList_push (E := EPc) pcTy (by rfl) _ _ (by rfl) w1.heap.size _ mo out [⟨p, dd, xf, xt⟩] (by rfl) HO9.2 gr 1 1 #[.int .i64 p, .string (str dd), .int .i64 xf, .int .i64 xt] (0, 0) (by rfl) hcr (by rfl) rfl (by omega) (by omega) (by decide) hs9 ?_
                intro g2 cap2 wz hown hgrow hat hlt2
                have HOz := Lib.hid (HO9.push (ys := [⟨p, dd, xf, xt⟩]) rfl hown)
                have HBz := Lib.hid (HO9.below0 hB9 hs9 (Nat.le_refl _) hgrow)
                clear hown hgrow hat hlt2 HO9 hB9 hs9 hcr hgr hb9 HO HB HF HDAT
                have HRS := Lib.hid (show RowL EPc w1 (some ⟨g, o + n * 4, none⟩) (ps.drop n) ∧ m - n = (ps.drop n).length ∧ m - n ≤ c1 - n from ⟨rowP_drop HS.out.1 n, by rw [List.length_drop]; have := HS.out.2.1; omega, by omega⟩)
                have HOD := Lib.hid (show ∀ z ∈ ps.drop n, okP z from fun z hz => HOK.out z (List.mem_of_mem_drop hz))
                have HZD := Lib.hid (show sizeL (ps.drop n) ≤ 1000000000 from Nat.le_trans (sizeL_drop ps n) HSZ.out)
                by_cases hcn : n = c1
                · have HRN := Lib.hid (show RowL EPc w1 (some ⟨g, o, none⟩) (ps.drop n) from by
                    rw [show ps.drop n = [] from List.drop_eq_nil_of_le (by have := HS.out.2.1; omega)]
                    exact RowL.nil _ _)
                  have HRL := Lib.hid HRS.out.2
                  clear HRS
                  have hcz : c1 - n = 0 := by omega
                  have hczi : (c1 : Int) - (n : Int) = 0 := by omega
                  go_wp2_with fail
                  go_roundw
                  case rel => exact ⟨0, 0, mo + 1, cap2, some ⟨g, o, none⟩, some ⟨g2, 0, none⟩, ps.drop n, out ++ [⟨p, dd, xf, xt⟩], rfl, rfl, by omega, Lib.hid ⟨HRN.out, by have := HRL.out; omega, Nat.zero_le _⟩, HOD, HZD, HIN, HOz, HBz⟩
                  case measure => simp [sliceLn]; omega
                · have hcn2 : n < c1 := by omega
                  go_wp2_with fail
                  go_roundw
                  case rel => exact ⟨m - n, c1 - n, mo + 1, cap2, some ⟨g, o + n * 4, none⟩, some ⟨g2, 0, none⟩, ps.drop n, out ++ [⟨p, dd, xf, xt⟩], rfl, rfl, by omega, HRS, HOD, HZD, HIN, HOz, HBz⟩
                  case measure => simp [sliceLn]; omega

            · have HRN := Lib.hid (HRUN.out.next HZG.out (HE1.out.1 rfl) (HE2.out.1 rfl).1 (HE2.out.1 rfl).2)
              go_upto_region 5 with fail
              refine wp_region_pick (fun w' => Below wr.heap.size wr w') (by kernel_rfl) (by kernel_rfl) (Below.refl _ _) ⟨rfl, rfl, rfl, Nat.le_refl _, fun _ _ => rfl⟩ (fun pw hp hq => ?_)
              have z0 : ∀ u, (pw u).cell? ⟨g, o + n * 4, none⟩ = some (.int .i64 za) := fun u => (HZX.out _ (HB.out.trans ((hp u).mono HB.out.size))).1
              have z1 : ∀ u, (pw u).cell? ⟨g, o + n * 4 + 1, none⟩ = some (.string DZ) := fun u => (HZX.out _ (HB.out.trans ((hp u).mono HB.out.size))).2.1
              have z2 : ∀ u, (pw u).cell? ⟨g, o + n * 4 + 2, none⟩ = some (.int .i64 zf) := fun u => (HZX.out _ (HB.out.trans ((hp u).mono HB.out.size))).2.2.1
              have z3 : ∀ u, (pw u).cell? ⟨g, o + n * 4 + 3, none⟩ = some (.int .i64 zt) := fun u => (HZX.out _ (HB.out.trans ((hp u).mono HB.out.size))).2.2.2
              have y0 : ∀ u, (pw u).cell? ⟨g, o + n1 * 4, none⟩ = some (.int .i64 ya) := fun u => (HYX.out _ (HB.out.trans ((hp u).mono HB.out.size))).1
              have y1 : ∀ u, (pw u).cell? ⟨g, o + n1 * 4 + 1, none⟩ = some (.string DY) := fun u => (HYX.out _ (HB.out.trans ((hp u).mono HB.out.size))).2.1
              have y2 : ∀ u, (pw u).cell? ⟨g, o + n1 * 4 + 2, none⟩ = some (.int .i64 yf) := fun u => (HYX.out _ (HB.out.trans ((hp u).mono HB.out.size))).2.2.1
              have y3 : ∀ u, (pw u).cell? ⟨g, o + n1 * 4 + 3, none⟩ = some (.int .i64 yt) := fun u => (HYX.out _ (HB.out.trans ((hp u).mono HB.out.size))).2.2.2
              have x0 : ∀ u, (pw u).cell? ⟨gf, 0, none⟩ = some (.int .i64 p) := fun u => (Cells.cell (Cells.kept HF.out (hp u) HF.out.lt) 0).trans rfl
              have x1 : ∀ u, (pw u).cell? ⟨gf, 1, none⟩ = some (.string D) := fun u => (Cells.cell (Cells.kept HF.out (hp u) HF.out.lt) 1).trans rfl
              have x2 : ∀ u, (pw u).cell? ⟨gf, 2, none⟩ = some (.int .i64 xf) := fun u => (Cells.cell (Cells.kept HF.out (hp u) HF.out.lt) 2).trans rfl
              have x3 : ∀ u, (pw u).cell? ⟨gf, 3, none⟩ = some (.int .i64 xt) := fun u => (Cells.cell (Cells.kept HF.out (hp u) HF.out.lt) 3).trans rfl
              have HP := Lib.hid hp
              have HQ := Lib.hid hq
              clear hp hq
              repeat (go_big_quiet_step ((first | with_reducible exact Calls.pick_of HQ.out (fun W' hb => (HP.out _).trans (hb.mono (HP.out _).size)) (HEND.out _) | with_reducible exact Calls.pick_of HQ.out (fun W' hb => (HP.out _).trans (hb.mono (HP.out _).size)) (HSGZ.out _) | with_reducible exact Calls.pick_of HQ.out (fun W' hb => (HP.out _).trans (hb.mono (HP.out _).size)) (HSGF.out _))))
              refine wpQuiet_nil ?_
              rintro _ ⟨u9, rfl⟩
              have HF2 := Lib.hid (Cells.kept HF.out (HP.out u9) HF.out.lt)
              have HO2 := Lib.hid (HO.out.kept (HP.out u9))
              have HB2 := Lib.hid (HB.out.trans ((HP.out u9).mono HB.out.size))
              generalize pw u9 = wi2 at *
              clear HP HQ HF HO HB z0 z1 z2 z3 y0 y1 y2 y3 x0 x1 x2 x3
              have HF := HF2
              have HO := HO2
              have HB := HB2
              clear HF2 HO2 HB2
              go_wp2_with fail
              go_roundw
              case rel => exact ⟨n + 1, z, by go_num, by omega, by omega, HRN, HF, HO, HB⟩
              case measure => simp [intOf]; omega

        · have dlt : decide ((n : Int) < (m : Int)) = false := by simp; omega
          have nlti : ¬ (n : Int) < (m : Int) := by omega
          clear hyx
          go_upto_region 5 with fail
          refine wp_region_pick (fun w' => Below wr.heap.size wr w') (by kernel_rfl) (by kernel_rfl) (Below.refl _ _) ⟨rfl, rfl, rfl, Nat.le_refl _, fun _ _ => rfl⟩ (fun pw hp hq => ?_)
          have HP := Lib.hid hp
          have HQ := Lib.hid hq
          clear hp hq
          repeat (go_big_quiet_step ((fail)))
          refine wpQuiet_nil ?_
          rintro _ ⟨u9, rfl⟩
          have HF2 := Lib.hid (Cells.kept HF.out (HP.out u9) HF.out.lt)
          have HO2 := Lib.hid (HO.out.kept (HP.out u9))
          have HB2 := Lib.hid (HB.out.trans ((HP.out u9).mono HB.out.size))
          generalize pw u9 = wi2 at *
          clear HP HQ HF HO HB 
          have HF := HF2
          have HO := HO2
          have HB := HB2
          clear HF2 HO2 HB2
          have HST := Lib.hid (HRUN.out.stop HNE.out (fun z9 hz9 h9 => by obtain ⟨h8, -⟩ := List.getElem?_eq_some_iff.1 hz9; have := HS.out.2.1; omega))
          obtain ⟨dd, hdd⟩ : ∃ d, d = datL (ps.take n) := ⟨_, rfl⟩
          have HIN := Lib.hid (show (out ++ [⟨p, dd, xf, xt⟩]) ++ pcs (cels (ps.drop n)) = T by
            rw [← HI.out, HST.out, hdd, HXX.out.1, HXX.out.2.1, HXX.out.2.2, List.append_assoc]
            rfl)
          have HDAT := Lib.hid (fun (W : World) (hbW : Below wi2.heap.size wi2 W) => show Calls Try.prog 37 #[.slice (some ⟨g, o, none⟩) n c1] W fun en w' => en = .returned (.string (str dd)) ∧ Below W.heap.size W w' from by
            have h1 := pdata15 (ps.take n) (some ⟨g, o, none⟩) c1 W ((rowP_take (HS.out.1.kept (HB.out.trans (hbW.mono HB.out.size))) n)) (by rw [List.length_take]; have := HN.out; omega) (Nat.le_trans (sizeL_take ps n) HSZ.out)
            rw [List.length_take, show min n ps.length = n by have := HS.out.2.1; omega, ← hdd] at h1
            exact h1)
          clear hdd
          go_upto_region 7 with fail
          refine wp_region_specs_tail 13 [.val (Value.slice A2 mo c2), .val (Value.pointer (some ⟨gf, 0, none⟩)), .val (Value.int .i64 p), .val (Value.slice (some ⟨g, o, none⟩) m c1), .val (Value.int .i64 (n : Int)), .val (Value.slice (some ⟨g, o, none⟩) n c1), .val (Value.string (str dd)), .val (Value.pointer (some ⟨gf, 2, none⟩)), .val (Value.int .i64 xf), .val (Value.pointer (some ⟨gf, 3, none⟩)), .val (Value.int .i64 xt), .val (Value.agg #[.int .i64 p, .string (str dd), .int .i64 xf, .int .i64 xt]), .row #[.int .i64 p, .string (str dd), .int .i64 xf, .int .i64 xt] 23 1] (by kernel_rfl) (by kernel_rfl) (by kernel_rfl) (by kernel_rfl) (by kernel_rfl) (by kernel_rfl) (by kernel_rfl) (by kernel_rfl) ?_ ?_
          · refine ⟨⟨rfl, ?_⟩, ⟨rfl, ?_⟩, ⟨rfl, ?_⟩, ⟨rfl, ?_⟩, ⟨rfl, ?_⟩, ⟨rfl, ?_⟩, ⟨rfl, ?_⟩, ⟨rfl, ?_⟩, ⟨rfl, ?_⟩, ⟨rfl, ?_⟩, ⟨rfl, ?_⟩, ⟨rfl, ?_⟩, ⟨rfl, ?_⟩, trivial⟩
            · intro ac W hbW hk K hK
              have e3 := kvalT hk 3 (Value.slice A2 mo c2) (by kernel_rfl)
              clear hk
              go_simp
              exact ⟨_, rfl, hK _ _ rfl (Below.refl _ _)⟩
            · intro ac W hbW hk K hK
              have e4 := kvalT hk 4 (Value.pointer (some ⟨gf, 0, none⟩)) (by kernel_rfl)
              clear hk
              go_simp
              exact ⟨_, rfl, hK _ _ rfl (Below.refl _ _)⟩
            · intro ac W hbW hk K hK
              have e45 := kvalT hk 45 (Value.pointer (some ⟨gf, 0, none⟩)) (by kernel_rfl)
              clear hk
              have y0 := (Cells.cell (Cells.kept HF.out hbW HF.out.lt) 0).trans (show _ = some (Value.int .i64 p) from rfl)
              have y1 := (Cells.cell (Cells.kept HF.out hbW HF.out.lt) 1).trans (show _ = some (Value.string D) from rfl)
              have y2 := (Cells.cell (Cells.kept HF.out hbW HF.out.lt) 2).trans (show _ = some (Value.int .i64 xf) from rfl)
              have y3 := (Cells.cell (Cells.kept HF.out hbW HF.out.lt) 3).trans (show _ = some (Value.int .i64 xt) from rfl)
              go_simp
              exact ⟨_, rfl, hK _ _ rfl (Below.refl _ _)⟩
            · intro ac W hbW hk K hK
              have e0 := kvalT hk 0 (Value.slice (some ⟨g, o, none⟩) m c1) (by kernel_rfl)
              clear hk
              go_simp
              exact ⟨_, rfl, hK _ _ rfl (Below.refl _ _)⟩
            · intro ac W hbW hk K hK
              have e5 := kvalT hk 5 (Value.int .i64 (n : Int)) (by kernel_rfl)
              clear hk
              go_simp
              exact ⟨_, rfl, hK _ _ rfl (Below.refl _ _)⟩
            · intro ac W hbW hk K hK
              have e47 := kvalT hk 47 (Value.slice (some ⟨g, o, none⟩) m c1) (by kernel_rfl)
              have e48 := kvalT hk 48 (Value.int .i64 (n : Int)) (by kernel_rfl)
              clear hk
              go_simp
              exact ⟨_, rfl, hK _ _ rfl (Below.refl _ _)⟩
            · intro ac W hbW hk K hK
              have e49 := kvalT hk 49 (Value.slice (some ⟨g, o, none⟩) n c1) (by kernel_rfl)
              clear hk
              go_simp
              refine (HDAT.out W hbW).mono ?_
              rintro en w9 ⟨rfl, hb9⟩
              exact ⟨_, rfl, hK _ _ rfl hb9⟩
            · intro ac W hbW hk K hK
              have e4 := kvalT hk 4 (Value.pointer (some ⟨gf, 0, none⟩)) (by kernel_rfl)
              clear hk
              go_simp
              exact ⟨_, rfl, hK _ _ rfl (Below.refl _ _)⟩
            · intro ac W hbW hk K hK
              have e51 := kvalT hk 51 (Value.pointer (some ⟨gf, 2, none⟩)) (by kernel_rfl)
              clear hk
              have y0 := (Cells.cell (Cells.kept HF.out hbW HF.out.lt) 0).trans (show _ = some (Value.int .i64 p) from rfl)
              have y1 := (Cells.cell (Cells.kept HF.out hbW HF.out.lt) 1).trans (show _ = some (Value.string D) from rfl)
              have y2 := (Cells.cell (Cells.kept HF.out hbW HF.out.lt) 2).trans (show _ = some (Value.int .i64 xf) from rfl)
              have y3 := (Cells.cell (Cells.kept HF.out hbW HF.out.lt) 3).trans (show _ = some (Value.int .i64 xt) from rfl)
              go_simp
              exact ⟨_, rfl, hK _ _ rfl (Below.refl _ _)⟩
            · intro ac W hbW hk K hK
              have e4 := kvalT hk 4 (Value.pointer (some ⟨gf, 0, none⟩)) (by kernel_rfl)
              clear hk
              go_simp
              exact ⟨_, rfl, hK _ _ rfl (Below.refl _ _)⟩
            · intro ac W hbW hk K hK
              have e53 := kvalT hk 53 (Value.pointer (some ⟨gf, 3, none⟩)) (by kernel_rfl)
              clear hk
              have y0 := (Cells.cell (Cells.kept HF.out hbW HF.out.lt) 0).trans (show _ = some (Value.int .i64 p) from rfl)
              have y1 := (Cells.cell (Cells.kept HF.out hbW HF.out.lt) 1).trans (show _ = some (Value.string D) from rfl)
              have y2 := (Cells.cell (Cells.kept HF.out hbW HF.out.lt) 2).trans (show _ = some (Value.int .i64 xf) from rfl)
              have y3 := (Cells.cell (Cells.kept HF.out hbW HF.out.lt) 3).trans (show _ = some (Value.int .i64 xt) from rfl)
              go_simp
              exact ⟨_, rfl, hK _ _ rfl (Below.refl _ _)⟩
            · intro ac W hbW hk K hK
              have e46 := kvalT hk 46 (Value.int .i64 p) (by kernel_rfl)
              have e50 := kvalT hk 50 (Value.string (str dd)) (by kernel_rfl)
              have e52 := kvalT hk 52 (Value.int .i64 xf) (by kernel_rfl)
              have e54 := kvalT hk 54 (Value.int .i64 xt) (by kernel_rfl)
              clear hk
              go_simp
              exact ⟨_, rfl, hK _ _ rfl (Below.refl _ _)⟩
            · intro ac W hbW hk K hK
              have e55 := kvalT hk 55 (Value.agg #[.int .i64 p, .string (str dd), .int .i64 xf, .int .i64 xt]) (by kernel_rfl)
              clear hk
              go_simp
              exact ⟨_, rfl, hK _ _ ⟨W.heap.size, rfl, hbW.size, heap_alloc_new W _⟩ (below_alloc6 W _)⟩
          · intro W9 hb9
            simp only [List.take_succ_cons, List.take_zero, List.drop_succ_cons, List.drop_zero, endT]
            intro gr hgr hcr
            have HO9 := HO.out.kept hb9
            have hB9 := HB.out.trans (hb9.mono HB.out.size)
            have hs9 : w1.heap.size ≤ W9.heap.size := hB9.size
            go_simp
            refine wpList_push (E := EPc) pcTy (by rfl) _ _ (by rfl) w1.heap.size _ mo out [⟨p, dd, xf, xt⟩] (by rfl) HO9.2 gr 1 1 #[.int .i64 p, .string (str dd), .int .i64 xf, .int .i64 xt] (0, 0) (by rfl) hcr (by rfl) rfl (by omega) (by omega) (by decide) hs9 ?_
            intro g2 cap2 wz hown hgrow hat hlt2
            have HOz := Lib.hid (HO9.push (ys := [⟨p, dd, xf, xt⟩]) rfl hown)
            have HBz := Lib.hid (HO9.below0 hB9 hs9 (Nat.le_refl _) hgrow)
            clear hown hgrow hat hlt2 HO9 hB9 hs9 hcr hgr hb9 HO HB HF HDAT
            have HRS := Lib.hid (show RowL EPc w1 (some ⟨g, o + n * 4, none⟩) (ps.drop n) ∧ m - n = (ps.drop n).length ∧ m - n ≤ c1 - n from ⟨rowP_drop HS.out.1 n, by rw [List.length_drop]; have := HS.out.2.1; omega, by omega⟩)
            have HOD := Lib.hid (show ∀ z ∈ ps.drop n, okP z from fun z hz => HOK.out z (List.mem_of_mem_drop hz))
            have HZD := Lib.hid (show sizeL (ps.drop n) ≤ 1000000000 from Nat.le_trans (sizeL_drop ps n) HSZ.out)
            by_cases hcn : n = c1
            · have HRN := Lib.hid (show RowL EPc w1 (some ⟨g, o, none⟩) (ps.drop n) from by
                rw [show ps.drop n = [] from List.drop_eq_nil_of_le (by have := HS.out.2.1; omega)]
                exact RowL.nil _ _)
              have HRL := Lib.hid HRS.out.2
              clear HRS
              have hcz : c1 - n = 0 := by omega
              have hczi : (c1 : Int) - (n : Int) = 0 := by omega
              go_wp2_with fail
              go_roundw
              case rel => exact ⟨0, 0, mo + 1, cap2, some ⟨g, o, none⟩, some ⟨g2, 0, none⟩, ps.drop n, out ++ [⟨p, dd, xf, xt⟩], rfl, rfl, by omega, Lib.hid ⟨HRN.out, by have := HRL.out; omega, Nat.zero_le _⟩, HOD, HZD, HIN, HOz, HBz⟩
              case measure => simp [sliceLn]; omega
            · have hcn2 : n < c1 := by omega
              go_wp2_with fail
              go_roundw
              case rel => exact ⟨m - n, c1 - n, mo + 1, cap2, some ⟨g, o + n * 4, none⟩, some ⟨g2, 0, none⟩, ps.drop n, out ++ [⟨p, dd, xf, xt⟩], rfl, rfl, by omega, HRS, HOD, HZD, HIN, HOz, HBz⟩
              case measure => simp [sliceLn]; omega

    · obtain rfl : m = 0 := by omega
      have dm : decide ((0 : Int) < (((0 : Nat) : Int))) = false := by simp
      have HF := Lib.hid (show out = T by
        have h := HI.out
        have h2 := HS.out.2.1
        rw [List.eq_nil_of_length_eq_zero h2.symm] at h
        rw [← h]
        show out = out ++ []
        rw [List.append_nil])
      have HE := Lib.hid (show mo = T.length by rw [← HF.out]; exact HO.out.1)
      have HRW := Lib.hid (show RowL EPc wr A2 T by rw [← HF.out]; exact HO.out.row)
      have HN0 := Lib.hid HO.out.none0
      have HBZ := Lib.hid (show Below base w wr from HB1.out.trans (HB.out.mono (Nat.le_trans HBW.out HB1.out.size)))
      clear HF HI HS HO HB HB1
      go_wp2_with fail
      go_ret
      exact ⟨A2, c2, by rw [← HE.out]; rfl, HRW.out, HN0.out, HBZ.out⟩
end Go.Proofs.Ytafpmlikocchpaa
