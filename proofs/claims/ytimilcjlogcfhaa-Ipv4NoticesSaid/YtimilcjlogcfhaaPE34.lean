/- Contracts of the functions, part 34: Ip4PDec. -/
import Derived.Deep.Cut
import Derived.Deep.WholeRow
import Derived.Test.YtimilcjlogcfhaaPE32
import Derived.Test.YtimilcjlogcfhaaPE33
/- Contract of the program of layer 11: Decode. -/
namespace Go.Proofs.Ytimilcjlogcfhaa
open Go.ChangeShapes Go.WideShapes Go.ChangeAt Go.RowKit
set_option linter.unusedVariables false

theorem top_bit (n : Nat) (h : n < 65536) : decide (n / 32768 % 2 = 1) = decide (32768 ≤ n) := by
  by_cases h : 32768 ≤ n
  · rw [decide_eq_true h, decide_eq_true (by omega)]
  · rw [decide_eq_false h, decide_eq_false (by omega)]
theorem bs_base {w : World} {b b' : Nat} {v : Value} {l : List UInt8} (h : BS w b v l) (hb : b' ≤ b) : BS w b' v l := by
  obtain ⟨A, c, e, h1, h2⟩ := h
  exact ⟨A, c, e, h1, fun hp => by obtain ⟨g, o, e, h3, h4⟩ := h2 hp; exact ⟨g, o, e, by omega, h4⟩⟩
set_option maxHeartbeats 8000000 in
set_option maxRecDepth 20000 in
theorem pdec11_any (S : List UInt8) (w : World) (hs : S.length ≤ 1000000) :
    Calls Try.prog 11 #[.string (str S)] w (Dec4P w (decI S)) := by
  have hsz : (str S).size = S.length := str_size S
  have HST := Lib.hid (fun (W : World) => pstart11_any S W hs)
  obtain ⟨s, hS⟩ : ∃ s, s = str S := ⟨_, rfl⟩
  rw [← hS] at hsz HST ⊢
  obtain ⟨R, hR⟩ : ∃ R, R = decI S := ⟨_, rfl⟩
  rw [← hR]
  unfold decI at hR
  have hconv := fun W s' => run_bytes_of_string (P := Try.prog) W 9 46 5 s' Try.underlying9 Try.underlying46 Try.underlying5
  obtain ⟨g0, hg0⟩ : ∃ g, g = w.heap.size := ⟨_, rfl⟩
  have HGE := Lib.hid hg0
  have HLO := Lib.hid (show w.heap.size = g0 from hg0.symm)
  have HB0 := Lib.hid (below_alloc6 w (.cells zC4 28))
  have HG0 := Lib.hid (show Cells (w.alloc (.cells zC4 28)) g0 28 zC4 by rw [hg0]; exact heap_alloc_new w _)
  have hs6 : s.size ≤ 1000000 := by omega
  have HRH := Lib.hid hR
  have HSH := Lib.hid hS
  have HSZ := Lib.hid hsz
  clear hR hS hsz hg0
  go_enter Try.func11, Try.ntmps11
  go_wp2_with fail
  rw [HLO.out]
  refine (HST.out _).mono ?_
  rintro e w1 ⟨c0, tos, tot, id, wd, ttl, pr, a1, a2, er, rfl, HBD, HV, hb⟩
  have HG1 := Lib.hid (HG0.out.kept (show Below (w.alloc (.cells zC4 28)).heap.size (w.alloc (.cells zC4 28)) w1 from hb) HG0.out.lt)
  have HB1 := Lib.hid (HB0.out.trans ((show Below (w.alloc (.cells zC4 28)).heap.size (w.alloc (.cells zC4 28)) w1 from hb).mono HB0.out.size))
  clear hb HG0 HB0 HST
  unfold StartC
  obtain ⟨v0, hv0⟩ : ∃ v, v = c0 / 16 := ⟨_, rfl⟩
  obtain ⟨hd, hhd⟩ : ∃ v, v = c0 % 16 * 4 := ⟨_, rfl⟩
  obtain ⟨br, hbr⟩ : ∃ v, v = decide (wd / 32768 % 2 = 1) := ⟨_, rfl⟩
  obtain ⟨bd, hbd⟩ : ∃ v, v = decide (wd / 16384 % 2 = 1) := ⟨_, rfl⟩
  obtain ⟨bm, hbm⟩ : ∃ v, v = decide (wd / 8192 % 2 = 1) := ⟨_, rfl⟩
  obtain ⟨fo, hfo⟩ : ∃ v, v = wd % 8192 * 8 := ⟨_, rfl⟩
  rw [← hv0, ← hhd, ← hbr, ← hbd, ← hbm, ← hfo]
  have HLE := Lib.hid (And.intro hv0 (And.intro hhd (And.intro hbr (And.intro hbd (And.intro hbm hfo)))))
  obtain ⟨k0, k1, k2, k3, k4, k6, k7, k8, k9⟩ := HBD.out
  have hhd60 : hd ≤ 60 := by omega
  have hv15 : v0 ≤ 15 := by omega
  clear hv0 hhd hbr hbd hbm hfo
  have HG2 := Lib.hid (HG1.out.kept (below_alloc6 w1 (.cells #[.int .i64 (v0 : Int), .int .i64 (hd : Int), .int .i64 (tot : Int), .bool br, .int .i64 (tos : Int), .int .i64 (id : Int), .int .i64 (ttl : Int), .int .i64 (pr : Int), .bool bd, .bool bm, .int .i64 (fo : Int), .bool false, .int .u64 0, .int .u64 (a1 : Int), .bool false, .int .u64 0, .int .u64 (a2 : Int), .slice none 0 0, .string ⟨#[]⟩] 52)) HG1.out.lt)
  have HB2 := Lib.hid (HB1.out.alloc HB1.out.size (.cells #[.int .i64 (v0 : Int), .int .i64 (hd : Int), .int .i64 (tot : Int), .bool br, .int .i64 (tos : Int), .int .i64 (id : Int), .int .i64 (ttl : Int), .int .i64 (pr : Int), .bool bd, .bool bm, .int .i64 (fo : Int), .bool false, .int .u64 0, .int .u64 (a1 : Int), .bool false, .int .u64 0, .int .u64 (a2 : Int), .slice none 0 0, .string ⟨#[]⟩] 52))
  have HX2 := Lib.hid (show Cells (w1.alloc (.cells #[.int .i64 (v0 : Int), .int .i64 (hd : Int), .int .i64 (tot : Int), .bool br, .int .i64 (tos : Int), .int .i64 (id : Int), .int .i64 (ttl : Int), .int .i64 (pr : Int), .bool bd, .bool bm, .int .i64 (fo : Int), .bool false, .int .u64 0, .int .u64 (a1 : Int), .bool false, .int .u64 0, .int .u64 (a2 : Int), .slice none 0 0, .string ⟨#[]⟩] 52)) w1.heap.size 52 #[.int .i64 (v0 : Int), .int .i64 (hd : Int), .int .i64 (tot : Int), .bool br, .int .i64 (tos : Int), .int .i64 (id : Int), .int .i64 (ttl : Int), .int .i64 (pr : Int), .bool bd, .bool bm, .int .i64 (fo : Int), .bool false, .int .u64 0, .int .u64 (a1 : Int), .bool false, .int .u64 0, .int .u64 (a2 : Int), .slice none 0 0, .string ⟨#[]⟩] from heap_alloc_new w1 _)
  have HZC := Lib.hid (show (#[.int .i64 (v0 : Int), .int .i64 (hd : Int), .int .i64 (tot : Int), .bool br, .int .i64 (tos : Int), .int .i64 (id : Int), .int .i64 (ttl : Int), .int .i64 (pr : Int), .bool bd, .bool bm, .int .i64 (fo : Int), .bool false, .int .u64 0, .int .u64 (a1 : Int), .bool false, .int .u64 0, .int .u64 (a2 : Int), .slice none 0 0, .string ⟨#[]⟩] : Array Value).all Value.oneCell' = true by simp [Value.oneCell'])
  obtain ⟨W2, hW2⟩ : ∃ W, W = (w1.alloc (.cells #[.int .i64 (v0 : Int), .int .i64 (hd : Int), .int .i64 (tot : Int), .bool br, .int .i64 (tos : Int), .int .i64 (id : Int), .int .i64 (ttl : Int), .int .i64 (pr : Int), .bool bd, .bool bm, .int .i64 (fo : Int), .bool false, .int .u64 0, .int .u64 (a1 : Int), .bool false, .int .u64 0, .int .u64 (a2 : Int), .slice none 0 0, .string ⟨#[]⟩] 52)) := ⟨_, rfl⟩
  rw [← hW2] at HG2 HB2 HX2
  have HW2 := Lib.hid hW2
  clear hW2
  go_upto_region 2 with (refine wpList_store_row (by rfl) 52 _ _ (by rfl) w1.heap.size #[.int .i64 (v0 : Int), .int .i64 (hd : Int), .int .i64 (tot : Int), .bool br, .int .i64 (tos : Int), .int .i64 (id : Int), .int .i64 (ttl : Int), .int .i64 (pr : Int), .bool bd, .bool bm, .int .i64 (fo : Int), .bool false, .int .u64 0, .int .u64 (a1 : Int), .bool false, .int .u64 0, .int .u64 (a2 : Int), .slice none 0 0, .string ⟨#[]⟩] (by rfl) (by rfl) 52 zS (heap_alloc_new _ _) (by kernel_rfl) (by rfl) (by simp [Value.oneCell']) ?_; rw [World.setRow_alloc_new, ← HW2.out])
  obtain ⟨gh, hgh⟩ : ∃ g, g = w1.heap.size := ⟨_, rfl⟩
  rw [← hgh] at HX2 ⊢
  have hg0h : g0 < gh := by rw [hgh]; exact HG1.out.lt
  clear HW2 hgh HG1 HB1 HZC
  have x0 := (Cells.cell HX2.out 0).trans (show _ = some (Value.int .i64 (v0 : Int)) from rfl)
  have x1 := (Cells.cell HX2.out 1).trans (show _ = some (Value.int .i64 (hd : Int)) from rfl)
  have x2 := (Cells.cell HX2.out 2).trans (show _ = some (Value.int .i64 (tot : Int)) from rfl)
  have hghl := HX2.out.lt
  have hR := HRH.out
  have hS := HSH.out
  have hsz := HSZ.out
  clear HRH HSH HSZ
  obtain ⟨hv0, hhd, hbr, hbd, hbm, hfo⟩ := HLE.out
  clear HLE
  rcases HV.out with ⟨h20, rfl⟩ | ⟨h20, rfl, q0, q1, q2, q3, q4, q6, q7, q8, q9⟩
  · have hR2 := Lib.hid (show R = (zeroI, 1) by rw [hR, if_pos h20])
    clear hR hS hsz h20 hv0 hhd hbr hbd hbm hfo
    go_wp2_with (refine wpList_store_row (by rfl) 28 _ _ (by rfl) g0 #[.int .i64 0, .int .i64 0, .int .i64 0, .int .i64 0, .bool false, .bool false, .int .i64 0, .bool false, .int .u64 0, .int .u64 0, .bool false, .int .u64 0, .int .u64 0, .slice none 0 0, .string ⟨#[]⟩] (by rfl) (by rfl) 28 zC4 HG2.out (by kernel_rfl) (by rfl) (by simp [Value.oneCell']) ?_)
    have HGZ := Lib.hid ((show Cells W2 g0 28 zC4 from HG2.out).row #[.int .i64 0, .int .i64 0, .int .i64 0, .int .i64 0, .bool false, .bool false, .int .i64 0, .bool false, .int .u64 0, .int .u64 0, .bool false, .int .u64 0, .int .u64 0, .slice none 0 0, .string ⟨#[]⟩])
    have HBZ := Lib.hid (below_row HB2.out g0 (Nat.le_of_eq HLO.out) #[.int .i64 0, .int .i64 0, .int .i64 0, .int .i64 0, .bool false, .bool false, .int .i64 0, .bool false, .int .u64 0, .int .u64 0, .bool false, .int .u64 0, .int .u64 0, .slice none 0 0, .string ⟨#[]⟩])
    obtain ⟨WZ, hWZ⟩ : ∃ W, W = W2.setRow g0 #[.int .i64 0, .int .i64 0, .int .i64 0, .int .i64 0, .bool false, .bool false, .int .i64 0, .bool false, .int .u64 0, .int .u64 0, .bool false, .int .u64 0, .int .u64 0, .slice none 0 0, .string ⟨#[]⟩] := ⟨_, rfl⟩
    rw [← hWZ] at HGZ HBZ ⊢
    clear hWZ
    (try go_wp2_with fail)
    refine bodyPost_ret (res_box2 ipTy rfl _ _ rfl HGZ.out) rfl ?_
    exact dec4_err (er := 1) rfl hR2.out HBZ.out
  rw [if_neg (by omega)] at hR
  have HVAL := Lib.hid (show tos = byt S 1 ∧ id = nm2 S 4 ∧ ttl = byt S 8 ∧ pr = byt S 9 ∧ a1 = nm4 S 12 ∧ a2 = nm4 S 16 from ⟨q1, q3, q6, q7, q8, q9⟩)
  have hhdL : hd = hdL S := by unfold hdL; rw [hhd, q0]
  have hv0b : v0 = byt S 0 / 16 := by rw [hv0, q0]
  rw [← hv0b, ← hhdL, ← q2, ← q4] at hR
  have HBDD := Lib.hid (show bd = decide (nm2 S 6 / 16384 % 2 = 1) by rw [hbd, q4])
  have HBMM := Lib.hid (show bm = decide (nm2 S 6 / 8192 % 2 = 1) by rw [hbm, q4])
  have HFOO := Lib.hid (show fo = nm2 S 6 % 8192 * 8 by rw [hfo, q4])
  have HBRR := Lib.hid (show br = decide (32768 ≤ wd) by rw [hbr]; exact top_bit wd k4)
  have HHD := Lib.hid hhdL
  have HTT := Lib.hid q2
  clear hv0 hhd hbr hbd hbm hfo q0 q1 q2 q3 q4 q6 q7 q8 q9 hv0b hhdL HV
  by_cases h4 : v0 ≠ 4 ∨ hd < 20
  · have hR2 := Lib.hid (show R = (zeroI, 2) by rw [hR, if_pos h4])
    have hcs : (((v0 : Int) != 4) = true ∧ ¬ (v0 : Int) = 4) ∨ (((v0 : Int) != 4) = false ∧ (v0 : Int) = 4 ∧ (hd : Int) < 20 ∧ decide ((hd : Int) < 20) = true) := by
      by_cases h : v0 = 4
      · right; exact ⟨by rw [bne_eq_false_iff_eq]; omega, by omega, by omega, by simp; omega⟩
      · left; exact ⟨by rw [bne_iff_ne]; omega, by omega⟩
    clear hR hS hsz h4
    rcases hcs with ⟨y1, y0⟩ | ⟨y1, y0, y2, y3⟩
    · clear y0
      go_wp2_with (refine wpList_store_row (by rfl) 28 _ _ (by rfl) g0 #[.int .i64 0, .int .i64 0, .int .i64 0, .int .i64 0, .bool false, .bool false, .int .i64 0, .bool false, .int .u64 0, .int .u64 0, .bool false, .int .u64 0, .int .u64 0, .slice none 0 0, .string ⟨#[]⟩] (by rfl) (by rfl) 28 zC4 HG2.out (by kernel_rfl) (by rfl) (by simp [Value.oneCell']) ?_)
      have HGZ := Lib.hid ((show Cells W2 g0 28 zC4 from HG2.out).row #[.int .i64 0, .int .i64 0, .int .i64 0, .int .i64 0, .bool false, .bool false, .int .i64 0, .bool false, .int .u64 0, .int .u64 0, .bool false, .int .u64 0, .int .u64 0, .slice none 0 0, .string ⟨#[]⟩])
      have HBZ := Lib.hid (below_row HB2.out g0 (Nat.le_of_eq HLO.out) #[.int .i64 0, .int .i64 0, .int .i64 0, .int .i64 0, .bool false, .bool false, .int .i64 0, .bool false, .int .u64 0, .int .u64 0, .bool false, .int .u64 0, .int .u64 0, .slice none 0 0, .string ⟨#[]⟩])
      obtain ⟨WZ, hWZ⟩ : ∃ W, W = W2.setRow g0 #[.int .i64 0, .int .i64 0, .int .i64 0, .int .i64 0, .bool false, .bool false, .int .i64 0, .bool false, .int .u64 0, .int .u64 0, .bool false, .int .u64 0, .int .u64 0, .slice none 0 0, .string ⟨#[]⟩] := ⟨_, rfl⟩
      rw [← hWZ] at HGZ HBZ ⊢
      clear hWZ
      (try go_wp2_with fail)
      refine bodyPost_ret (res_box2 ipTy rfl _ _ rfl HGZ.out) rfl ?_
      exact dec4_err (er := 2) rfl hR2.out HBZ.out
    · clear y0
      go_wp2_with (refine wpList_store_row (by rfl) 28 _ _ (by rfl) g0 #[.int .i64 0, .int .i64 0, .int .i64 0, .int .i64 0, .bool false, .bool false, .int .i64 0, .bool false, .int .u64 0, .int .u64 0, .bool false, .int .u64 0, .int .u64 0, .slice none 0 0, .string ⟨#[]⟩] (by rfl) (by rfl) 28 zC4 HG2.out (by kernel_rfl) (by rfl) (by simp [Value.oneCell']) ?_)
      have HGZ := Lib.hid ((show Cells W2 g0 28 zC4 from HG2.out).row #[.int .i64 0, .int .i64 0, .int .i64 0, .int .i64 0, .bool false, .bool false, .int .i64 0, .bool false, .int .u64 0, .int .u64 0, .bool false, .int .u64 0, .int .u64 0, .slice none 0 0, .string ⟨#[]⟩])
      have HBZ := Lib.hid (below_row HB2.out g0 (Nat.le_of_eq HLO.out) #[.int .i64 0, .int .i64 0, .int .i64 0, .int .i64 0, .bool false, .bool false, .int .i64 0, .bool false, .int .u64 0, .int .u64 0, .bool false, .int .u64 0, .int .u64 0, .slice none 0 0, .string ⟨#[]⟩])
      obtain ⟨WZ, hWZ⟩ : ∃ W, W = W2.setRow g0 #[.int .i64 0, .int .i64 0, .int .i64 0, .int .i64 0, .bool false, .bool false, .int .i64 0, .bool false, .int .u64 0, .int .u64 0, .bool false, .int .u64 0, .int .u64 0, .slice none 0 0, .string ⟨#[]⟩] := ⟨_, rfl⟩
      rw [← hWZ] at HGZ HBZ ⊢
      clear hWZ
      (try go_wp2_with fail)
      refine bodyPost_ret (res_box2 ipTy rfl _ _ rfl HGZ.out) rfl ?_
      exact dec4_err (er := 2) rfl hR2.out HBZ.out
  rw [if_neg h4] at hR
  have hv4 : v0 = 4 := by omega
  have hd20 : 20 ≤ hd := by omega
  have e40 : ((v0 : Int) != 4) = false := by rw [bne_eq_false_iff_eq]; omega
  clear hv4
  have d20 : decide ((hd : Int) < 20) = false := by simp; omega
  have n20 : ¬ (hd : Int) < 20 := by omega
  clear h4
  by_cases h5 : S.length < hd ∨ S.length < tot
  · have hR2 := Lib.hid (show R = (zeroI, 1) by rw [hR, if_pos h5])
    have hcs : (decide ((s.size : Int) < (hd : Int)) = true ∧ (s.size : Int) < (hd : Int)) ∨ (decide ((s.size : Int) < (hd : Int)) = false ∧ ¬ (s.size : Int) < (hd : Int) ∧ decide ((s.size : Int) < (tot : Int)) = true ∧ (s.size : Int) < (tot : Int)) := by
      by_cases h : S.length < hd
      · left; exact ⟨by simp; omega, by omega⟩
      · right; exact ⟨by simp; omega, by omega, by simp; omega, by omega⟩
    clear hR hS hsz h5
    rcases hcs with ⟨y1, y0⟩ | ⟨y1, y0, y2, y3⟩
    · skip
      go_wp2_with (refine wpList_store_row (by rfl) 28 _ _ (by rfl) g0 #[.int .i64 0, .int .i64 0, .int .i64 0, .int .i64 0, .bool false, .bool false, .int .i64 0, .bool false, .int .u64 0, .int .u64 0, .bool false, .int .u64 0, .int .u64 0, .slice none 0 0, .string ⟨#[]⟩] (by rfl) (by rfl) 28 zC4 HG2.out (by kernel_rfl) (by rfl) (by simp [Value.oneCell']) ?_)
      have HGZ := Lib.hid ((show Cells W2 g0 28 zC4 from HG2.out).row #[.int .i64 0, .int .i64 0, .int .i64 0, .int .i64 0, .bool false, .bool false, .int .i64 0, .bool false, .int .u64 0, .int .u64 0, .bool false, .int .u64 0, .int .u64 0, .slice none 0 0, .string ⟨#[]⟩])
      have HBZ := Lib.hid (below_row HB2.out g0 (Nat.le_of_eq HLO.out) #[.int .i64 0, .int .i64 0, .int .i64 0, .int .i64 0, .bool false, .bool false, .int .i64 0, .bool false, .int .u64 0, .int .u64 0, .bool false, .int .u64 0, .int .u64 0, .slice none 0 0, .string ⟨#[]⟩])
      obtain ⟨WZ, hWZ⟩ : ∃ W, W = W2.setRow g0 #[.int .i64 0, .int .i64 0, .int .i64 0, .int .i64 0, .bool false, .bool false, .int .i64 0, .bool false, .int .u64 0, .int .u64 0, .bool false, .int .u64 0, .int .u64 0, .slice none 0 0, .string ⟨#[]⟩] := ⟨_, rfl⟩
      rw [← hWZ] at HGZ HBZ ⊢
      clear hWZ
      (try go_wp2_with fail)
      refine bodyPost_ret (res_box2 ipTy rfl _ _ rfl HGZ.out) rfl ?_
      exact dec4_err (er := 1) rfl hR2.out HBZ.out
    · skip
      go_wp2_with (refine wpList_store_row (by rfl) 28 _ _ (by rfl) g0 #[.int .i64 0, .int .i64 0, .int .i64 0, .int .i64 0, .bool false, .bool false, .int .i64 0, .bool false, .int .u64 0, .int .u64 0, .bool false, .int .u64 0, .int .u64 0, .slice none 0 0, .string ⟨#[]⟩] (by rfl) (by rfl) 28 zC4 HG2.out (by kernel_rfl) (by rfl) (by simp [Value.oneCell']) ?_)
      have HGZ := Lib.hid ((show Cells W2 g0 28 zC4 from HG2.out).row #[.int .i64 0, .int .i64 0, .int .i64 0, .int .i64 0, .bool false, .bool false, .int .i64 0, .bool false, .int .u64 0, .int .u64 0, .bool false, .int .u64 0, .int .u64 0, .slice none 0 0, .string ⟨#[]⟩])
      have HBZ := Lib.hid (below_row HB2.out g0 (Nat.le_of_eq HLO.out) #[.int .i64 0, .int .i64 0, .int .i64 0, .int .i64 0, .bool false, .bool false, .int .i64 0, .bool false, .int .u64 0, .int .u64 0, .bool false, .int .u64 0, .int .u64 0, .slice none 0 0, .string ⟨#[]⟩])
      obtain ⟨WZ, hWZ⟩ : ∃ W, W = W2.setRow g0 #[.int .i64 0, .int .i64 0, .int .i64 0, .int .i64 0, .bool false, .bool false, .int .i64 0, .bool false, .int .u64 0, .int .u64 0, .bool false, .int .u64 0, .int .u64 0, .slice none 0 0, .string ⟨#[]⟩] := ⟨_, rfl⟩
      rw [← hWZ] at HGZ HBZ ⊢
      clear hWZ
      (try go_wp2_with fail)
      refine bodyPost_ret (res_box2 ipTy rfl _ _ rfl HGZ.out) rfl ?_
      exact dec4_err (er := 1) rfl hR2.out HBZ.out
  rw [if_neg h5] at hR
  have e1 : decide ((s.size : Int) < (hd : Int)) = false := by simp; omega
  have f1 : ¬ (s.size : Int) < (hd : Int) := by omega
  have e2 : decide ((s.size : Int) < (tot : Int)) = false := by simp; omega
  have f2 : ¬ (s.size : Int) < (tot : Int) := by omega
  have l1 : hd ≤ s.size := by omega
  have l2 : tot ≤ s.size := by omega
  have l1i : (hd : Int) ≤ (s.size : Int) := by omega
  have l2i : (tot : Int) ≤ (s.size : Int) := by omega
  clear h5
  by_cases h6 : tot < hd
  · have hR2 := Lib.hid (show R = (zeroI, 2) by rw [hR, if_pos h6])
    have y1 : decide ((tot : Int) < (hd : Int)) = true := by simp; omega
    have y2 : (tot : Int) < (hd : Int) := by omega
    clear hR hS hsz h6
    go_wp2_with (refine wpList_store_row (by rfl) 28 _ _ (by rfl) g0 #[.int .i64 0, .int .i64 0, .int .i64 0, .int .i64 0, .bool false, .bool false, .int .i64 0, .bool false, .int .u64 0, .int .u64 0, .bool false, .int .u64 0, .int .u64 0, .slice none 0 0, .string ⟨#[]⟩] (by rfl) (by rfl) 28 zC4 HG2.out (by kernel_rfl) (by rfl) (by simp [Value.oneCell']) ?_)
    have HGZ := Lib.hid ((show Cells W2 g0 28 zC4 from HG2.out).row #[.int .i64 0, .int .i64 0, .int .i64 0, .int .i64 0, .bool false, .bool false, .int .i64 0, .bool false, .int .u64 0, .int .u64 0, .bool false, .int .u64 0, .int .u64 0, .slice none 0 0, .string ⟨#[]⟩])
    have HBZ := Lib.hid (below_row HB2.out g0 (Nat.le_of_eq HLO.out) #[.int .i64 0, .int .i64 0, .int .i64 0, .int .i64 0, .bool false, .bool false, .int .i64 0, .bool false, .int .u64 0, .int .u64 0, .bool false, .int .u64 0, .int .u64 0, .slice none 0 0, .string ⟨#[]⟩])
    obtain ⟨WZ, hWZ⟩ : ∃ W, W = W2.setRow g0 #[.int .i64 0, .int .i64 0, .int .i64 0, .int .i64 0, .bool false, .bool false, .int .i64 0, .bool false, .int .u64 0, .int .u64 0, .bool false, .int .u64 0, .int .u64 0, .slice none 0 0, .string ⟨#[]⟩] := ⟨_, rfl⟩
    rw [← hWZ] at HGZ HBZ ⊢
    clear hWZ
    (try go_wp2_with fail)
    refine bodyPost_ret (res_box2 ipTy rfl _ _ rfl HGZ.out) rfl ?_
    exact dec4_err (er := 2) rfl hR2.out HBZ.out
  rw [if_neg h6] at hR
  have y1 : decide ((tot : Int) < (hd : Int)) = false := by simp; omega
  have y2 : ¬ (tot : Int) < (hd : Int) := by omega
  have l3 : hd ≤ tot := by omega
  have l3i : (hd : Int) ≤ (tot : Int) := by omega
  have l4i : (20 : Int) ≤ (hd : Int) := by omega
  clear h6
  obtain ⟨ck, hck⟩ : ∃ v, v = csum (S.take hd) := ⟨_, rfl⟩
  rw [← hck] at hR
  have hex1 : s.extract 0 hd = str (S.take hd) := by rw [extract_str11 s S hS, List.drop_zero, Nat.sub_zero]
  have hD1 : (str (S.take hd)).size = hd := by rw [str_size, List.length_take]; omega
  have HSM := Lib.hid (fun (W : World) => show Calls Try.prog 23 #[.string (str (S.take hd))] W fun e w' => e = .returned (.int .i64 (ck : Int)) ∧ W = w' from by
    have := sum_any (str (S.take hd)) W (by rw [hD1]; omega)
    rw [str_toList, ← hck] at this
    exact this)
  generalize str (S.take hd) = D1 at *
  obtain ⟨n2, hn2⟩ : ∃ n, n = hd - 20 := ⟨_, rfl⟩
  have hL2 : ((S.take hd).drop 20).length = n2 := by rw [List.length_drop, List.length_take]; omega
  have hex2 : s.extract 20 hd = str ((S.take hd).drop 20) := by rw [extract_str11 s S hS, List.drop_take]
  have hD2 : (str ((S.take hd).drop 20)).size = n2 := by rw [str_size, hL2]
  have HOP := Lib.hid (fun (A : Option Addr) (c : Nat) (W : World) (hB : BS W 0 (.slice A n2 c) ((S.take hd).drop 20)) (hc : c ≤ 9223372036854775807) => show Calls Try.prog 26 #[.slice A n2 c] W (OptP W (optsD ((S.take hd).drop 20))) from by
    have := popts11_any ((S.take hd).drop 20) A c W (by rw [hL2]; exact hB) (by omega) hc
    rwa [hL2] at this)
  have HBN := Lib.hid (fun (W : World) (c : Nat) (hc : n2 ≤ c) => show BS (W.alloc (.cells (bytesRow (str ((S.take hd).drop 20)) c) 5 ((bytesRow (str ((S.take hd).drop 20)) c).size, (bytesRow (str ((S.take hd).drop 20)) c).size + 1))).drew 0 (.slice (some ⟨W.heap.size, 0, none⟩) n2 c) ((S.take hd).drop 20) from by
    have := bs_base (bs_new W (str ((S.take hd).drop 20)) c (by rw [hD2]; exact hc)) (Nat.zero_le _)
    rw [hD2, str_toList] at this
    obtain ⟨A, c, e, h1, h2⟩ := this
    exact ⟨A, c, e, h1, h2⟩)
  generalize str ((S.take hd).drop 20) = D2 at *
  have hex4 : s.extract hd tot = str ((S.drop hd).take (tot - hd)) := extract_str11 s S hS hd tot
  have HD4 := Lib.hid (show (S.drop hd).take (tot - hd) = (S.take tot).drop hd by rw [List.drop_take])
  obtain ⟨D4, hD4⟩ : ∃ D, D = str ((S.drop hd).take (tot - hd)) := ⟨_, rfl⟩
  rw [← hD4] at hex4
  have HE4 := Lib.hid hD4
  have hn2l : n2 ≤ 40 := by omega
  have HN2 := Lib.hid hn2
  clear hS hD4 hsz hL2 hn2
  by_cases h7 : ck ≠ 0
  · have hR2 := Lib.hid (show R = (zeroI, 8) by rw [hR, if_pos h7])
    have z1 : ((ck : Int) != 0) = true := by rw [bne_iff_ne]; omega
    clear hR hck h7
    go_wp2_with fail
    refine (HSM.out _).mono ?_
    rintro e w2 ⟨rfl, rfl⟩
    go_wp2_with (refine wpList_store_row (by rfl) 28 _ _ (by rfl) g0 #[.int .i64 0, .int .i64 0, .int .i64 0, .int .i64 0, .bool false, .bool false, .int .i64 0, .bool false, .int .u64 0, .int .u64 0, .bool false, .int .u64 0, .int .u64 0, .slice none 0 0, .string ⟨#[]⟩] (by rfl) (by rfl) 28 zC4 HG2.out (by kernel_rfl) (by rfl) (by simp [Value.oneCell']) ?_)
    have HGZ := Lib.hid ((show Cells W2 g0 28 zC4 from HG2.out).row #[.int .i64 0, .int .i64 0, .int .i64 0, .int .i64 0, .bool false, .bool false, .int .i64 0, .bool false, .int .u64 0, .int .u64 0, .bool false, .int .u64 0, .int .u64 0, .slice none 0 0, .string ⟨#[]⟩])
    have HBZ := Lib.hid (below_row HB2.out g0 (Nat.le_of_eq HLO.out) #[.int .i64 0, .int .i64 0, .int .i64 0, .int .i64 0, .bool false, .bool false, .int .i64 0, .bool false, .int .u64 0, .int .u64 0, .bool false, .int .u64 0, .int .u64 0, .slice none 0 0, .string ⟨#[]⟩])
    obtain ⟨WZ, hWZ⟩ : ∃ W, W = W2.setRow g0 #[.int .i64 0, .int .i64 0, .int .i64 0, .int .i64 0, .bool false, .bool false, .int .i64 0, .bool false, .int .u64 0, .int .u64 0, .bool false, .int .u64 0, .int .u64 0, .slice none 0 0, .string ⟨#[]⟩] := ⟨_, rfl⟩
    rw [← hWZ] at HGZ HBZ ⊢
    clear hWZ
    (try go_wp2_with fail)
    refine bodyPost_ret (res_box2 ipTy rfl _ _ rfl HGZ.out) rfl ?_
    exact dec4_err (er := 8) rfl hR2.out HBZ.out
  rw [if_neg h7] at hR
  have HRH := Lib.hid hR
  clear hR
  have z1 : ((ck : Int) != 0) = false := by rw [bne_eq_false_iff_eq]; omega
  have hck0 : (ck : Int) = 0 := by omega
  clear h7 hck
  go_wp2_with fail
  refine (HSM.out _).mono ?_
  rintro e w2 ⟨rfl, rfl⟩
  go_wp2_with fail
  obtain ⟨cp, hcp⟩ : ∃ c, c = grownCap W2 n2 0 5 := ⟨_, rfl⟩
  have hc1 : n2 ≤ cp := by rw [hcp]; exact grownCap_ge _ _ _ _
  have hc2 : cp ≤ 9223372036854775807 := by rw [hcp]; exact grownCap_le_maxLen W2 n2 0 5 (by unfold maxLen; omega)
  rw [← hcp]
  clear hcp
  have HCL := Lib.hid (HOP.out (some ⟨W2.heap.size, 0, none⟩) cp _ (HBN.out W2 cp hc1) hc2)
  have hb3 : Below W2.heap.size W2 (W2.alloc (.cells (bytesRow D2 cp) 5 ((bytesRow D2 cp).size, (bytesRow D2 cp).size + 1))).drew := (below_alloc6 W2 _).drew
  obtain ⟨W3, hW3⟩ : ∃ W, W = (W2.alloc (.cells (bytesRow D2 cp) 5 ((bytesRow D2 cp).size, (bytesRow D2 cp).size + 1))).drew := ⟨_, rfl⟩
  rw [← hW3] at HCL hb3 ⊢
  have HG3 := Lib.hid (HG2.out.kept hb3 HG2.out.lt)
  have HX3 := Lib.hid (HX2.out.kept hb3 HX2.out.lt)
  have HB3 := Lib.hid (HB2.out.trans (hb3.mono HB2.out.size))
  clear hW3 hb3 HOP HBN HG2 HX2 HB2 HSM hc1 hc2 hconv x0 x1 x2 hghl
  obtain ⟨O, hO⟩ : ∃ O, O = optsD ((S.take hd).drop 20) := ⟨_, rfl⟩
  rw [← hO] at HCL HRH
  clear hO
  refine HCL.out.mono ?_
  clear HCL
  cases O with
  | none =>
    rintro e w4 ⟨rfl, hb4⟩
    have hR2 := Lib.hid (show R = (zeroI, 2) from HRH.out)
    have HG4 := Lib.hid (HG3.out.kept hb4 HG3.out.lt)
    have HB4 := Lib.hid (HB3.out.trans (hb4.mono HB3.out.size))
    clear hb4 HRH HG3 HX3 HB3
    go_wp2_with (refine wpList_store_row (by rfl) 28 _ _ (by rfl) g0 #[.int .i64 0, .int .i64 0, .int .i64 0, .int .i64 0, .bool false, .bool false, .int .i64 0, .bool false, .int .u64 0, .int .u64 0, .bool false, .int .u64 0, .int .u64 0, .slice none 0 0, .string ⟨#[]⟩] (by rfl) (by rfl) 28 zC4 HG4.out (by kernel_rfl) (by rfl) (by simp [Value.oneCell']) ?_)
    have HGZ := Lib.hid ((show Cells w4 g0 28 zC4 from HG4.out).row #[.int .i64 0, .int .i64 0, .int .i64 0, .int .i64 0, .bool false, .bool false, .int .i64 0, .bool false, .int .u64 0, .int .u64 0, .bool false, .int .u64 0, .int .u64 0, .slice none 0 0, .string ⟨#[]⟩])
    have HBZ := Lib.hid (below_row HB4.out g0 (Nat.le_of_eq HLO.out) #[.int .i64 0, .int .i64 0, .int .i64 0, .int .i64 0, .bool false, .bool false, .int .i64 0, .bool false, .int .u64 0, .int .u64 0, .bool false, .int .u64 0, .int .u64 0, .slice none 0 0, .string ⟨#[]⟩])
    obtain ⟨WZ, hWZ⟩ : ∃ W, W = w4.setRow g0 #[.int .i64 0, .int .i64 0, .int .i64 0, .int .i64 0, .bool false, .bool false, .int .i64 0, .bool false, .int .u64 0, .int .u64 0, .bool false, .int .u64 0, .int .u64 0, .slice none 0 0, .string ⟨#[]⟩] := ⟨_, rfl⟩
    rw [← hWZ] at HGZ HBZ ⊢
    clear hWZ
    (try go_wp2_with fail)
    refine bodyPost_ret (res_box2 ipTy rfl _ _ rfl HGZ.out) rfl ?_
    exact dec4_err (er := 2) rfl hR2.out HBZ.out
  | some l =>
    rintro e w4 ⟨A, c, rfl, hrow, hn, hnew, hb4⟩
    have HG4 := Lib.hid (HG3.out.kept hb4 HG3.out.lt)
    have HX4 := Lib.hid (HX3.out.kept hb4 HX3.out.lt)
    have HB4 := Lib.hid (HB3.out.trans (hb4.mono HB3.out.size))
    have HRO := Lib.hid hrow
    have HNI := Lib.hid hn
    have x1 := (Cells.cell HX4.out 1).trans (show _ = some (Value.int .i64 (hd : Int)) from rfl)
    have x2 := (Cells.cell HX4.out 2).trans (show _ = some (Value.int .i64 (tot : Int)) from rfl)
    have x3 := (Cells.cell HX4.out 3).trans (show _ = some (Value.bool br) from rfl)
    have hghl := HX4.out.lt
    have HNWW := Lib.hid (show ∀ a, A = some a → g0 ≠ a.block from fun a ha => by have h1 := hnew a ha; have h2 := HG3.out.lt; omega)
    clear hb4 HG3 HX3 HB3 hrow hn hnew
    cases br with
    | true =>
      have hR2 := Lib.hid (show R = (zeroI, 2) by have h : R = if 32768 ≤ wd then (zeroI, 2) else (outI S l, 0) := HRH.out; rw [if_pos (of_decide_eq_true HBRR.out.symm)] at h; exact h)
      clear HRH
      go_wp2_with (refine wpList_store_row (by rfl) 28 _ _ (by rfl) g0 #[.int .i64 0, .int .i64 0, .int .i64 0, .int .i64 0, .bool false, .bool false, .int .i64 0, .bool false, .int .u64 0, .int .u64 0, .bool false, .int .u64 0, .int .u64 0, .slice none 0 0, .string ⟨#[]⟩] (by rfl) (by rfl) 28 zC4 HG4.out (by kernel_rfl) (by rfl) (by simp [Value.oneCell']) ?_)
      have HGZ := Lib.hid ((show Cells w4 g0 28 zC4 from HG4.out).row #[.int .i64 0, .int .i64 0, .int .i64 0, .int .i64 0, .bool false, .bool false, .int .i64 0, .bool false, .int .u64 0, .int .u64 0, .bool false, .int .u64 0, .int .u64 0, .slice none 0 0, .string ⟨#[]⟩])
      have HBZ := Lib.hid (below_row HB4.out g0 (Nat.le_of_eq HLO.out) #[.int .i64 0, .int .i64 0, .int .i64 0, .int .i64 0, .bool false, .bool false, .int .i64 0, .bool false, .int .u64 0, .int .u64 0, .bool false, .int .u64 0, .int .u64 0, .slice none 0 0, .string ⟨#[]⟩])
      obtain ⟨WZ, hWZ⟩ : ∃ W, W = w4.setRow g0 #[.int .i64 0, .int .i64 0, .int .i64 0, .int .i64 0, .bool false, .bool false, .int .i64 0, .bool false, .int .u64 0, .int .u64 0, .bool false, .int .u64 0, .int .u64 0, .slice none 0 0, .string ⟨#[]⟩] := ⟨_, rfl⟩
      rw [← hWZ] at HGZ HBZ ⊢
      clear hWZ
      (try go_wp2_with fail)
      refine bodyPost_ret (res_box2 ipTy rfl _ _ rfl HGZ.out) rfl ?_
      exact dec4_err (er := 2) rfl hR2.out HBZ.out
    | false =>
      have hR2 := Lib.hid (show R = (outI S l, 0) by have h : R = if 32768 ≤ wd then (zeroI, 2) else (outI S l, 0) := HRH.out; rw [if_neg (of_decide_eq_false HBRR.out.symm)] at h; exact h)
      clear HRH
      have x4 := (Cells.cell HX4.out 4).trans (show _ = some (Value.int .i64 (tos : Int)) from rfl)
      have x5 := (Cells.cell HX4.out 5).trans (show _ = some (Value.int .i64 (id : Int)) from rfl)
      have x6 := (Cells.cell HX4.out 6).trans (show _ = some (Value.int .i64 (ttl : Int)) from rfl)
      have x7 := (Cells.cell HX4.out 7).trans (show _ = some (Value.int .i64 (pr : Int)) from rfl)
      have x8 := (Cells.cell HX4.out 8).trans (show _ = some (Value.bool bd) from rfl)
      have x9 := (Cells.cell HX4.out 9).trans (show _ = some (Value.bool bm) from rfl)
      have x10 := (Cells.cell HX4.out 10).trans (show _ = some (Value.int .i64 (fo : Int)) from rfl)
      have x11 := (Cells.cell HX4.out 11).trans (show _ = some (Value.bool false) from rfl)
      have x12 := (Cells.cell HX4.out 12).trans (show _ = some (Value.int .u64 0) from rfl)
      have x13 := (Cells.cell HX4.out 13).trans (show _ = some (Value.int .u64 (a1 : Int)) from rfl)
      have x14 := (Cells.cell HX4.out 14).trans (show _ = some (Value.bool false) from rfl)
      have x15 := (Cells.cell HX4.out 15).trans (show _ = some (Value.int .u64 0) from rfl)
      have x16 := (Cells.cell HX4.out 16).trans (show _ = some (Value.int .u64 (a2 : Int)) from rfl)
      have x17 := (Cells.cell HX4.out 17).trans (show _ = some (Value.slice none 0 0) from rfl)
      have x18 := (Cells.cell HX4.out 18).trans (show _ = some (Value.string ⟨#[]⟩) from rfl)

      obtain ⟨gp, hgp⟩ : ∃ g, g = w4.heap.size := ⟨_, rfl⟩
      obtain ⟨W5, hW5⟩ : ∃ W, W = w4.alloc (.cells #[.int .i64 (tos : Int), .int .i64 (id : Int), .int .i64 (ttl : Int), .int .i64 (pr : Int), .bool bd, .bool bm, .int .i64 (fo : Int), .bool false, .int .u64 0, .int .u64 (a1 : Int), .bool false, .int .u64 0, .int .u64 (a2 : Int), .slice none 0 0, .string ⟨#[]⟩] 28) := ⟨_, rfl⟩
      have hb5 : Below w4.heap.size w4 W5 := by rw [hW5]; exact below_alloc6 w4 _
      have hP5 : Cells W5 gp 28 #[.int .i64 (tos : Int), .int .i64 (id : Int), .int .i64 (ttl : Int), .int .i64 (pr : Int), .bool bd, .bool bm, .int .i64 (fo : Int), .bool false, .int .u64 0, .int .u64 (a1 : Int), .bool false, .int .u64 0, .int .u64 (a2 : Int), .slice none 0 0, .string ⟨#[]⟩] := by rw [hW5, hgp]; exact heap_alloc_new w4 _
      have hb6 : Below w4.heap.size w4 ((W5.setCell ⟨gp, 13, none⟩ (.slice A l.length c)).setCell ⟨gp, 14, none⟩ (.string D4)) := (hb5.setCell (p := ⟨gp, 13, none⟩) (by simp only; omega) _).setCell (p := ⟨gp, 14, none⟩) (by simp only; omega) _
      have HP6 := Lib.hid (show Cells ((W5.setCell ⟨gp, 13, none⟩ (.slice A l.length c)).setCell ⟨gp, 14, none⟩ (.string D4)) gp 28 #[.int .i64 (tos : Int), .int .i64 (id : Int), .int .i64 (ttl : Int), .int .i64 (pr : Int), .bool bd, .bool bm, .int .i64 (fo : Int), .bool false, .int .u64 0, .int .u64 (a1 : Int), .bool false, .int .u64 0, .int .u64 (a2 : Int), .slice A l.length c, .string D4] from (hP5.set 13 (.slice A l.length c)).set 14 (.string D4))
      have HG6 := Lib.hid (HG4.out.kept hb6 HG4.out.lt)
      have HB6 := Lib.hid (HB4.out.trans (hb6.mono HB4.out.size))
      have HRO6 := Lib.hid (HRO.out.kept hb6)
      have HNW := Lib.hid (show ∀ a, A = some a → g0 ≠ a.block from HNWW.out)
      have p13 := (Cells.cell hP5 13).trans (show _ = some (Value.slice none 0 0) from rfl)
      have p14 := (Cells.cell hP5 14).trans (show _ = some (Value.string ⟨#[]⟩) from rfl)
      have y13 := Cells.frozen hP5 13
      have y14 := Cells.frozen hP5 14
      have hgpl := hP5.lt
      have hX5 := HX4.out.kept hb5 HX4.out.lt
      have X51 := Lib.hid ((Cells.cell hX5 1).trans (show _ = some (Value.int .i64 (hd : Int)) from rfl))
      have X52 := Lib.hid ((Cells.cell hX5 2).trans (show _ = some (Value.int .i64 (tot : Int)) from rfl))
      have hne : gh ≠ gp := by have := HX4.out.lt; omega
      have hne' : gp ≠ gh := fun e => hne e.symm
      have hghl5 := hX5.lt
      have HW5 := Lib.hid hW5
      have HGP := Lib.hid hgp.symm
      obtain ⟨W6, hW6⟩ : ∃ W, W = (W5.setCell ⟨gp, 13, none⟩ (.slice A l.length c)).setCell ⟨gp, 14, none⟩ (.string D4) := ⟨_, rfl⟩
      rw [← hW6] at HP6 HG6 HB6 HRO6
      have HW6 := Lib.hid hW6
      clear hW5 hgp hb5 hb6 hP5 hX5 hW6 HG4 HB4 HX4 HRO
      go_upto_region 16 with (refine wpList_store_row (by rfl) 28 _ _ (by rfl) w4.heap.size #[.int .i64 (tos : Int), .int .i64 (id : Int), .int .i64 (ttl : Int), .int .i64 (pr : Int), .bool bd, .bool bm, .int .i64 (fo : Int), .bool false, .int .u64 0, .int .u64 (a1 : Int), .bool false, .int .u64 0, .int .u64 (a2 : Int), .slice none 0 0, .string ⟨#[]⟩] (by rfl) (by rfl) 28 zC4 (heap_alloc_new _ _) (by kernel_rfl) (by rfl) (by simp [Value.oneCell']) ?_; rw [World.setRow_alloc_new, ← HW5.out])
      rw [HGP.out]
      clear x1 x2 x3 x4 x5 x6 x7 x8 x9 x10 x11 x12 x13 x14 x15 x16 x17 x18 hghl
      have x1 := X51.out
      have x2 := X52.out
      go_upto_region 18 with fail
      rw [← HW6.out]
      clear p13 p14 y13 y14 hgpl
      go_wp2_with (first | (refine wpList_load_row (by rfl) 28 _ (by rfl) gp (by rfl) 28 #[.int .i64 (tos : Int), .int .i64 (id : Int), .int .i64 (ttl : Int), .int .i64 (pr : Int), .bool bd, .bool bm, .int .i64 (fo : Int), .bool false, .int .u64 0, .int .u64 (a1 : Int), .bool false, .int .u64 0, .int .u64 (a2 : Int), .slice A l.length c, .string D4] (0, 0) _ HP6.out Try.underlying28 (by rfl) (by kernel_rfl) ?_) | (refine wpList_store_row (by rfl) 28 _ _ (by rfl) g0 #[.int .i64 (tos : Int), .int .i64 (id : Int), .int .i64 (ttl : Int), .int .i64 (pr : Int), .bool bd, .bool bm, .int .i64 (fo : Int), .bool false, .int .u64 0, .int .u64 (a1 : Int), .bool false, .int .u64 0, .int .u64 (a2 : Int), .slice A l.length c, .string D4] (by rfl) (by rfl) 28 zC4 HG6.out (by kernel_rfl) (by rfl) (by simp [Value.oneCell']) ?_))
      have HGZ := Lib.hid ((show Cells W6 g0 28 zC4 from HG6.out).row #[.int .i64 (tos : Int), .int .i64 (id : Int), .int .i64 (ttl : Int), .int .i64 (pr : Int), .bool bd, .bool bm, .int .i64 (fo : Int), .bool false, .int .u64 0, .int .u64 (a1 : Int), .bool false, .int .u64 0, .int .u64 (a2 : Int), .slice A l.length c, .string D4])
      have HBZ := Lib.hid (below_row HB6.out g0 (Nat.le_of_eq HLO.out) #[.int .i64 (tos : Int), .int .i64 (id : Int), .int .i64 (ttl : Int), .int .i64 (pr : Int), .bool bd, .bool bm, .int .i64 (fo : Int), .bool false, .int .u64 0, .int .u64 (a1 : Int), .bool false, .int .u64 0, .int .u64 (a2 : Int), .slice A l.length c, .string D4])
      have HRZ := Lib.hid (HRO6.out.blocks (fun a ha => setRow_other W6 g0 a.block #[.int .i64 (tos : Int), .int .i64 (id : Int), .int .i64 (ttl : Int), .int .i64 (pr : Int), .bool bd, .bool bm, .int .i64 (fo : Int), .bool false, .int .u64 0, .int .u64 (a1 : Int), .bool false, .int .u64 0, .int .u64 (a2 : Int), .slice A l.length c, .string D4] (by have := HNW.out a ha; omega)))
      obtain ⟨WZ, hWZ⟩ : ∃ W, W = W6.setRow g0 #[.int .i64 (tos : Int), .int .i64 (id : Int), .int .i64 (ttl : Int), .int .i64 (pr : Int), .bool bd, .bool bm, .int .i64 (fo : Int), .bool false, .int .u64 0, .int .u64 (a1 : Int), .bool false, .int .u64 0, .int .u64 (a2 : Int), .slice A l.length c, .string D4] := ⟨_, rfl⟩
      rw [← hWZ] at HGZ HBZ HRZ ⊢
      clear hWZ
      (try go_wp2_with fail)
      refine bodyPost_ret (res_box2 ipTy rfl _ _ rfl HGZ.out) rfl ?_
      obtain ⟨v1, v3, v6, v7, v8, v9⟩ := HVAL.out
      have hout : outI S l = ⟨(tos : Int), (id : Int), (ttl : Int), (pr : Int), bd, bm, (fo : Int), ⟨false, 0, a1⟩, ⟨false, 0, a2⟩, l, (S.drop hd).take (tot - hd)⟩ := by
        unfold outI
        rw [← v1, ← v3, ← v6, ← v7, ← v8, ← v9, ← HTT.out, ← HHD.out, HBDD.out, HBMM.out, HFOO.out, ← HD4.out]
      rw [hR2.out, hout]
      refine ⟨A, c, ?_, HRZ.out, HNI.out, HBZ.out⟩
      simp only
      rw [HE4.out]
      rfl
end Go.Proofs.Ytimilcjlogcfhaa
