/- Contracts of the functions, part 25: TcpREnc. -/
import Derived.Test.YtmfoionlapcgkaaDoorPA2
import Derived.Test.YtmfoionlapcgkaaDoorPA23
import Derived.Test.YtmfoionlapcgkaaDoorPA24
/- Contract of the reference of layer 14: word, Encode. -/
namespace Go.Proofs.YtmfoionlapcgkaaDoor
open Go.ChangeShapes Go.WideShapes Go.ChangeAt Go.RowKit
set_option linter.unusedVariables false
set_option maxRecDepth 100000

theorem two_str14 (W : World) (g : Nat) (a b : Nat) (ha : a < 256) (hb : b < 256) (h : W.heap[g]? = some (.cells #[.int .u8 (a : Int), .int .u8 (b : Int)] 5 (0, 0))) : (convert 48 9 (.slice (some ⟨g, 0, none⟩) 2 2)).run Tryd.prog W = .ok (.string (str [UInt8.ofNat a, UInt8.ofNat b])) W := by
  have hla : (UInt8.ofNat a).toNat = a := by rw [UInt8.toNat_ofNat']; omega
  have hlb : (UInt8.ofNat b).toNat = b := by rw [UInt8.toNat_ofNat']; omega
  have hbs : BS W 0 (.slice (some ⟨g, 0, none⟩) [UInt8.ofNat a, UInt8.ofNat b].length 2) [UInt8.ofNat a, UInt8.ofNat b] := by
    refine ⟨some ⟨g, 0, none⟩, 2, rfl, Nat.le_refl _, fun _ => ⟨g, 0, rfl, Nat.zero_le _, (Array.getElem?_eq_some_iff.1 h).1, fun j hj => ?_⟩⟩
    have hj2 : j = 0 ∨ j = 1 := by simp at hj; omega
    rcases hj2 with rfl | rfl
    · simp [World.cell?, World.frozen?, h, hla]
    · simp [World.cell?, World.frozen?, h, hlb]
  exact bs_string hbs
set_option maxHeartbeats 4000000 in
theorem rword14_any (n : Int) (w : World) : Calls Tryd.prog 40 #[.int .i64 n] w fun e w' => e = .returned (.bool (decide (wrd n))) ∧ w = w' := by
  by_cases h0 : 0 ≤ n
  · have d0 : decide ((0 : Int) ≤ n) = true := by simp; omega
    by_cases h1 : n ≤ 65535
    · have d1 : decide (n ≤ (65535 : Int)) = true := by simp; omega
      have hR := Lib.hid (show decide (wrd n) = true by exact decide_eq_true ⟨h0, h1⟩)
      go_enter Tryd.func40, Tryd.ntmps40
      go_wp2_with fail
      go_ret
      exact ⟨by rw [hR.out]; rfl, rfl⟩
    · have d1 : decide (n ≤ (65535 : Int)) = false := by simp; omega
      have hR := Lib.hid (show decide (wrd n) = false by exact decide_eq_false (fun h => h1 h.2))
      go_enter Tryd.func40, Tryd.ntmps40
      go_wp2_with fail
      go_ret
      exact ⟨by rw [hR.out]; rfl, rfl⟩
  · have d0 : decide ((0 : Int) ≤ n) = false := by simp; omega
    have hR := Lib.hid (show decide (wrd n) = false by exact decide_eq_false (fun h => h0 h.1))
    go_enter Tryd.func40, Tryd.ntmps40
    go_wp2_with fail
    go_ret
    exact ⟨by rw [hR.out]; rfl, rfl⟩
set_option maxHeartbeats 8000000 in
set_option maxRecDepth 100000 in
theorem renc14_any (v1 v2 : Bool) (h1 l1 h2 l2 : Nat) (src dst : Int) (sq ak : Nat) (fl win urg : Int) (l : List OpR) (pay : List UInt8) (A : Option Addr) (c : Nat) (w : World) (ha : fits13 ⟨v1, h1, l1⟩) (hb : fits13 ⟨v2, h2, l2⟩) (hf : sq < 4294967296 ∧ ak < 4294967296) (h : RowL EOpt w A l) (hl : l.length ≤ 1000000) (hd : ∀ x ∈ l, x.dat.length ≤ 4611686018427387904) (hs : pay.length ≤ maxLen) :
    Calls Tryd.prog 15 #[.agg #[.bool v1, .int .u64 (h1 : Int), .int .u64 (l1 : Int)], .agg #[.bool v2, .int .u64 (h2 : Int), .int .u64 (l2 : Int)], .agg (tcC ⟨src, dst, sq, ak, fl, win, urg, l, pay⟩ A c (str pay))] w fun e w' => e = .returned (.tuple #[.string (str (encT ⟨v1, h1, l1⟩ ⟨v2, h2, l2⟩ ⟨src, dst, sq, ak, fl, win, urg, l, pay⟩).1), .int .i64 ((encT ⟨v1, h1, l1⟩ ⟨v2, h2, l2⟩ ⟨src, dst, sq, ak, fl, win, urg, l, pay⟩).2 : Int)]) ∧ Below w.heap.size w w' := by
  obtain ⟨t, ht⟩ : ∃ t : TcpR, t = ⟨src, dst, sq, ak, fl, win, urg, l, pay⟩ := ⟨_, rfl⟩
  obtain ⟨R, hR⟩ : ∃ R, R = encT ⟨v1, h1, l1⟩ ⟨v2, h2, l2⟩ t := ⟨_, rfl⟩
  rw [← ht, ← hR]
  have hcl : tcC t A c (str pay) = #[.int .i64 src, .int .i64 dst, .int .u32 (sq : Int), .int .u32 (ak : Int), .int .i64 fl, .int .i64 win, .int .i64 urg, .slice A l.length c, .string (str pay)] := by rw [ht]; rfl
  rw [hcl]
  clear hcl
  obtain ⟨P, hP⟩ : ∃ P, P = str pay := ⟨_, rfl⟩
  have hPs : P.size = pay.length := by rw [hP, str_size]
  rw [← hP]
  have hP6 : P.size ≤ 9223372036854775807 := by unfold maxLen at hs; omega
  obtain ⟨n, hn⟩ : ∃ n, n = l.length := ⟨_, rfl⟩
  rw [← hn]
  obtain ⟨W0, hW0⟩ : ∃ W0, W0 = ((w.alloc (.cells #[.bool v1, .int .u64 (h1 : Int), .int .u64 (l1 : Int)] 24)).alloc (.cells #[.bool v2, .int .u64 (h2 : Int), .int .u64 (l2 : Int)] 24)).alloc (.cells #[.int .i64 src, .int .i64 dst, .int .u32 (sq : Int), .int .u32 (ak : Int), .int .i64 fl, .int .i64 win, .int .i64 urg, .slice A n c, .string P] 31) := ⟨_, rfl⟩
  obtain ⟨gz, hgz⟩ : ∃ g, g = w.heap.size + 2 := ⟨_, rfl⟩
  have HT0 := Lib.hid (show Two W0 w.heap.size v1 h1 l1 v2 h2 l2 by rw [hW0]; exact (two_new w v1 h1 l1 v2 h2 l2 _).kept (below_alloc6 _ _))
  have hB0 : Below w.heap.size w W0 := by rw [hW0]; exact (((Below.refl _ _).alloc (Nat.le_refl _) _).alloc (by simp) _).alloc (by simp; omega) _
  have HB0 := Lib.hid hB0
  have HRW := Lib.hid (h.kept hB0)
  have HZ0 := Lib.hid (show Cells W0 gz 31 #[.int .i64 src, .int .i64 dst, .int .u32 (sq : Int), .int .u32 (ak : Int), .int .i64 fl, .int .i64 win, .int .i64 urg, .slice A n c, .string P] by
    have h := heap_alloc_new ((w.alloc (.cells #[.bool v1, .int .u64 (h1 : Int), .int .u64 (l1 : Int)] 24)).alloc (.cells #[.bool v2, .int .u64 (h2 : Int), .int .u64 (l2 : Int)] 24)) (.cells #[.int .i64 src, .int .i64 dst, .int .u32 (sq : Int), .int .u32 (ak : Int), .int .i64 fl, .int .i64 win, .int .i64 urg, .slice A n c, .string P] 31)
    rw [hW0, hgz]
    rwa [show ((w.alloc (.cells #[.bool v1, .int .u64 (h1 : Int), .int .u64 (l1 : Int)] 24)).alloc (.cells #[.bool v2, .int .u64 (h2 : Int), .int .u64 (l2 : Int)] 24)).heap.size = w.heap.size + 2 by simp] at h)
  have HGZ := Lib.hid (show w.heap.size ≤ gz by omega)
  have hk := fun (W : World) (h : RowL EOpt W A l) => rkinds11_any A c l W h (by omega)
  have hnd := fun (W : World) (h : RowL EOpt W A l) => rneed11_any A c l W h (by omega) hd
  rw [← hn] at hk hnd
  have hws := fun W => rword14_any src W
  have hwd := fun W => rword14_any dst W
  have hww := fun W => rword14_any win W
  have hwu := fun W => rword14_any urg W
  have hbad : badT t ↔ (¬ wrd src ∨ ¬ wrd dst ∨ ¬ wrd win ∨ ¬ wrd urg ∨ (fl < 0 ∨ 63 < fl) ∨ ¬ okK l) := by rw [ht]; exact Iff.rfl
  have hto : t.ops = l := by rw [ht]
  have htp : t.pay = pay := by rw [ht]
  unfold encT at hR
  rw [hto, htp] at hR
  clear hB0 h
  by_cases k0 : ¬ wrd src
  · have hR2 := Lib.hid (show R = ([], 4) by rw [hR, if_pos (hbad.2 (.inl k0))])
    rw [decide_eq_false k0] at hws
    have Hs := Lib.hid hws
    clear hR hbad hto htp ht ha hb hf hP hPs hn hl hd hs hws hwd hww hwu hk hnd k0
    go_enter Tryd.func15, Tryd.ntmps15
    go_upto_region 1 with fail
    rw [← hW0, ← hgz]
    clear hW0 hgz
    have x0 := (Cells.cell HZ0.out 0).trans (show _ = some (Value.int .i64 src) from rfl)
    have x1 := (Cells.cell HZ0.out 1).trans (show _ = some (Value.int .i64 dst) from rfl)
    have x2 := (Cells.cell HZ0.out 2).trans (show _ = some (Value.int .u32 (sq : Int)) from rfl)
    have x3 := (Cells.cell HZ0.out 3).trans (show _ = some (Value.int .u32 (ak : Int)) from rfl)
    have x4 := (Cells.cell HZ0.out 4).trans (show _ = some (Value.int .i64 fl) from rfl)
    have x5 := (Cells.cell HZ0.out 5).trans (show _ = some (Value.int .i64 win) from rfl)
    have x6 := (Cells.cell HZ0.out 6).trans (show _ = some (Value.int .i64 urg) from rfl)
    have x7 := (Cells.cell HZ0.out 7).trans (show _ = some (Value.slice A n c) from rfl)
    have x8 := (Cells.cell HZ0.out 8).trans (show _ = some (Value.string P) from rfl)
    have hgx := HZ0.out.lt
    go_wp2_with fail
    refine (Hs.out _).mono ?_
    rintro e w1 ⟨rfl, rfl⟩
    go_wp2_with fail
    go_ret2
    exact ⟨by rw [hR2.out]; rfl, HB0.out⟩
  have k0' := Classical.not_not.1 k0
  rw [decide_eq_true k0'] at hws
  have Hs := Lib.hid hws
  clear hws k0
  by_cases k1 : ¬ wrd dst
  · have hR2 := Lib.hid (show R = ([], 4) by rw [hR, if_pos (hbad.2 (.inr (.inl k1)))])
    rw [decide_eq_false k1] at hwd
    have Hd := Lib.hid hwd
    clear hR hbad hto htp ht ha hb hf hP hPs hn hl hd hs hwd hww hwu hk hnd k1
    go_enter Tryd.func15, Tryd.ntmps15
    go_upto_region 1 with fail
    rw [← hW0, ← hgz]
    clear hW0 hgz
    have x0 := (Cells.cell HZ0.out 0).trans (show _ = some (Value.int .i64 src) from rfl)
    have x1 := (Cells.cell HZ0.out 1).trans (show _ = some (Value.int .i64 dst) from rfl)
    have x2 := (Cells.cell HZ0.out 2).trans (show _ = some (Value.int .u32 (sq : Int)) from rfl)
    have x3 := (Cells.cell HZ0.out 3).trans (show _ = some (Value.int .u32 (ak : Int)) from rfl)
    have x4 := (Cells.cell HZ0.out 4).trans (show _ = some (Value.int .i64 fl) from rfl)
    have x5 := (Cells.cell HZ0.out 5).trans (show _ = some (Value.int .i64 win) from rfl)
    have x6 := (Cells.cell HZ0.out 6).trans (show _ = some (Value.int .i64 urg) from rfl)
    have x7 := (Cells.cell HZ0.out 7).trans (show _ = some (Value.slice A n c) from rfl)
    have x8 := (Cells.cell HZ0.out 8).trans (show _ = some (Value.string P) from rfl)
    have hgx := HZ0.out.lt
    go_wp2_with fail
    refine (Hs.out _).mono ?_
    rintro e w1 ⟨rfl, rfl⟩
    go_wp2_with fail
    refine (Hd.out _).mono ?_
    rintro e w1 ⟨rfl, rfl⟩
    go_wp2_with fail
    go_ret2
    exact ⟨by rw [hR2.out]; rfl, HB0.out⟩
  have k1' := Classical.not_not.1 k1
  rw [decide_eq_true k1'] at hwd
  have Hd := Lib.hid hwd
  clear hwd k1
  by_cases k2 : ¬ wrd win
  · have hR2 := Lib.hid (show R = ([], 4) by rw [hR, if_pos (hbad.2 (.inr (.inr (.inl k2))))])
    rw [decide_eq_false k2] at hww
    have Hw := Lib.hid hww
    clear hR hbad hto htp ht ha hb hf hP hPs hn hl hd hs hww hwu hk hnd k2
    go_enter Tryd.func15, Tryd.ntmps15
    go_upto_region 1 with fail
    rw [← hW0, ← hgz]
    clear hW0 hgz
    have x0 := (Cells.cell HZ0.out 0).trans (show _ = some (Value.int .i64 src) from rfl)
    have x1 := (Cells.cell HZ0.out 1).trans (show _ = some (Value.int .i64 dst) from rfl)
    have x2 := (Cells.cell HZ0.out 2).trans (show _ = some (Value.int .u32 (sq : Int)) from rfl)
    have x3 := (Cells.cell HZ0.out 3).trans (show _ = some (Value.int .u32 (ak : Int)) from rfl)
    have x4 := (Cells.cell HZ0.out 4).trans (show _ = some (Value.int .i64 fl) from rfl)
    have x5 := (Cells.cell HZ0.out 5).trans (show _ = some (Value.int .i64 win) from rfl)
    have x6 := (Cells.cell HZ0.out 6).trans (show _ = some (Value.int .i64 urg) from rfl)
    have x7 := (Cells.cell HZ0.out 7).trans (show _ = some (Value.slice A n c) from rfl)
    have x8 := (Cells.cell HZ0.out 8).trans (show _ = some (Value.string P) from rfl)
    have hgx := HZ0.out.lt
    go_wp2_with fail
    refine (Hs.out _).mono ?_
    rintro e w1 ⟨rfl, rfl⟩
    go_wp2_with fail
    refine (Hd.out _).mono ?_
    rintro e w1 ⟨rfl, rfl⟩
    go_wp2_with fail
    refine (Hw.out _).mono ?_
    rintro e w1 ⟨rfl, rfl⟩
    go_wp2_with fail
    go_ret2
    exact ⟨by rw [hR2.out]; rfl, HB0.out⟩
  have k2' := Classical.not_not.1 k2
  rw [decide_eq_true k2'] at hww
  have Hw := Lib.hid hww
  clear hww k2
  by_cases k3 : ¬ wrd urg
  · have hR2 := Lib.hid (show R = ([], 4) by rw [hR, if_pos (hbad.2 (.inr (.inr (.inr (.inl k3)))))])
    rw [decide_eq_false k3] at hwu
    have Hu := Lib.hid hwu
    clear hR hbad hto htp ht ha hb hf hP hPs hn hl hd hs hwu hk hnd k3
    go_enter Tryd.func15, Tryd.ntmps15
    go_upto_region 1 with fail
    rw [← hW0, ← hgz]
    clear hW0 hgz
    have x0 := (Cells.cell HZ0.out 0).trans (show _ = some (Value.int .i64 src) from rfl)
    have x1 := (Cells.cell HZ0.out 1).trans (show _ = some (Value.int .i64 dst) from rfl)
    have x2 := (Cells.cell HZ0.out 2).trans (show _ = some (Value.int .u32 (sq : Int)) from rfl)
    have x3 := (Cells.cell HZ0.out 3).trans (show _ = some (Value.int .u32 (ak : Int)) from rfl)
    have x4 := (Cells.cell HZ0.out 4).trans (show _ = some (Value.int .i64 fl) from rfl)
    have x5 := (Cells.cell HZ0.out 5).trans (show _ = some (Value.int .i64 win) from rfl)
    have x6 := (Cells.cell HZ0.out 6).trans (show _ = some (Value.int .i64 urg) from rfl)
    have x7 := (Cells.cell HZ0.out 7).trans (show _ = some (Value.slice A n c) from rfl)
    have x8 := (Cells.cell HZ0.out 8).trans (show _ = some (Value.string P) from rfl)
    have hgx := HZ0.out.lt
    go_wp2_with fail
    refine (Hs.out _).mono ?_
    rintro e w1 ⟨rfl, rfl⟩
    go_wp2_with fail
    refine (Hd.out _).mono ?_
    rintro e w1 ⟨rfl, rfl⟩
    go_wp2_with fail
    refine (Hw.out _).mono ?_
    rintro e w1 ⟨rfl, rfl⟩
    go_wp2_with fail
    refine (Hu.out _).mono ?_
    rintro e w1 ⟨rfl, rfl⟩
    go_wp2_with fail
    go_ret2
    exact ⟨by rw [hR2.out]; rfl, HB0.out⟩
  have k3' := Classical.not_not.1 k3
  rw [decide_eq_true k3'] at hwu
  have Hu := Lib.hid hwu
  clear hwu k3
  by_cases k4 : fl < 0
  · have hR2 := Lib.hid (show R = ([], 4) by rw [hR, if_pos (hbad.2 (.inr (.inr (.inr (.inr (.inl (.inl k4)))))))])
    have d1 : decide (fl < (0 : Int)) = true := by simp; omega
    clear hR hbad hto htp ht ha hb hf hP hPs hn hl hd hs hk hnd k0' k1' k2' k3'
    go_enter Tryd.func15, Tryd.ntmps15
    go_upto_region 1 with fail
    rw [← hW0, ← hgz]
    clear hW0 hgz
    have x0 := (Cells.cell HZ0.out 0).trans (show _ = some (Value.int .i64 src) from rfl)
    have x1 := (Cells.cell HZ0.out 1).trans (show _ = some (Value.int .i64 dst) from rfl)
    have x2 := (Cells.cell HZ0.out 2).trans (show _ = some (Value.int .u32 (sq : Int)) from rfl)
    have x3 := (Cells.cell HZ0.out 3).trans (show _ = some (Value.int .u32 (ak : Int)) from rfl)
    have x4 := (Cells.cell HZ0.out 4).trans (show _ = some (Value.int .i64 fl) from rfl)
    have x5 := (Cells.cell HZ0.out 5).trans (show _ = some (Value.int .i64 win) from rfl)
    have x6 := (Cells.cell HZ0.out 6).trans (show _ = some (Value.int .i64 urg) from rfl)
    have x7 := (Cells.cell HZ0.out 7).trans (show _ = some (Value.slice A n c) from rfl)
    have x8 := (Cells.cell HZ0.out 8).trans (show _ = some (Value.string P) from rfl)
    have hgx := HZ0.out.lt
    go_wp2_with fail
    refine (Hs.out _).mono ?_
    rintro e w1 ⟨rfl, rfl⟩
    go_wp2_with fail
    refine (Hd.out _).mono ?_
    rintro e w1 ⟨rfl, rfl⟩
    go_wp2_with fail
    refine (Hw.out _).mono ?_
    rintro e w1 ⟨rfl, rfl⟩
    go_wp2_with fail
    refine (Hu.out _).mono ?_
    rintro e w1 ⟨rfl, rfl⟩
    go_wp2_with fail
    go_ret2
    exact ⟨by rw [hR2.out]; rfl, HB0.out⟩
  have d1 : decide (fl < (0 : Int)) = false := by simp; omega
  by_cases k5 : 63 < fl
  · have hR2 := Lib.hid (show R = ([], 4) by rw [hR, if_pos (hbad.2 (.inr (.inr (.inr (.inr (.inl (.inr k5)))))))])
    have d2 : decide ((63 : Int) < fl) = true := by simp; omega
    clear hR hbad hto htp ht ha hb hf hP hPs hn hl hd hs hk hnd k0' k1' k2' k3'
    go_enter Tryd.func15, Tryd.ntmps15
    go_upto_region 1 with fail
    rw [← hW0, ← hgz]
    clear hW0 hgz
    have x0 := (Cells.cell HZ0.out 0).trans (show _ = some (Value.int .i64 src) from rfl)
    have x1 := (Cells.cell HZ0.out 1).trans (show _ = some (Value.int .i64 dst) from rfl)
    have x2 := (Cells.cell HZ0.out 2).trans (show _ = some (Value.int .u32 (sq : Int)) from rfl)
    have x3 := (Cells.cell HZ0.out 3).trans (show _ = some (Value.int .u32 (ak : Int)) from rfl)
    have x4 := (Cells.cell HZ0.out 4).trans (show _ = some (Value.int .i64 fl) from rfl)
    have x5 := (Cells.cell HZ0.out 5).trans (show _ = some (Value.int .i64 win) from rfl)
    have x6 := (Cells.cell HZ0.out 6).trans (show _ = some (Value.int .i64 urg) from rfl)
    have x7 := (Cells.cell HZ0.out 7).trans (show _ = some (Value.slice A n c) from rfl)
    have x8 := (Cells.cell HZ0.out 8).trans (show _ = some (Value.string P) from rfl)
    have hgx := HZ0.out.lt
    go_wp2_with fail
    refine (Hs.out _).mono ?_
    rintro e w1 ⟨rfl, rfl⟩
    go_wp2_with fail
    refine (Hd.out _).mono ?_
    rintro e w1 ⟨rfl, rfl⟩
    go_wp2_with fail
    refine (Hw.out _).mono ?_
    rintro e w1 ⟨rfl, rfl⟩
    go_wp2_with fail
    refine (Hu.out _).mono ?_
    rintro e w1 ⟨rfl, rfl⟩
    go_wp2_with fail
    go_ret2
    exact ⟨by rw [hR2.out]; rfl, HB0.out⟩
  have d2 : decide ((63 : Int) < fl) = false := by simp; omega
  by_cases k6 : ¬ okK l
  · have hR2 := Lib.hid (show R = ([], 4) by rw [hR, if_pos (hbad.2 (.inr (.inr (.inr (.inr (.inr k6))))))])
    have hk2 : ∀ (W : World) (h : RowL EOpt W A l), Calls Tryd.prog 41 #[.slice A n c] W fun e w' => e = .returned (.bool false) ∧ W = w' := fun W h => by have := hk W h; rwa [decide_eq_false k6] at this
    have HK := Lib.hid hk2
    clear hR hbad hto htp ht ha hb hf hP hPs hn hl hd hs hk hk2 hnd k0' k1' k2' k3' k6
    go_enter Tryd.func15, Tryd.ntmps15
    go_upto_region 1 with fail
    rw [← hW0, ← hgz]
    clear hW0 hgz
    have x0 := (Cells.cell HZ0.out 0).trans (show _ = some (Value.int .i64 src) from rfl)
    have x1 := (Cells.cell HZ0.out 1).trans (show _ = some (Value.int .i64 dst) from rfl)
    have x2 := (Cells.cell HZ0.out 2).trans (show _ = some (Value.int .u32 (sq : Int)) from rfl)
    have x3 := (Cells.cell HZ0.out 3).trans (show _ = some (Value.int .u32 (ak : Int)) from rfl)
    have x4 := (Cells.cell HZ0.out 4).trans (show _ = some (Value.int .i64 fl) from rfl)
    have x5 := (Cells.cell HZ0.out 5).trans (show _ = some (Value.int .i64 win) from rfl)
    have x6 := (Cells.cell HZ0.out 6).trans (show _ = some (Value.int .i64 urg) from rfl)
    have x7 := (Cells.cell HZ0.out 7).trans (show _ = some (Value.slice A n c) from rfl)
    have x8 := (Cells.cell HZ0.out 8).trans (show _ = some (Value.string P) from rfl)
    have hgx := HZ0.out.lt
    go_wp2_with fail
    refine (Hs.out _).mono ?_
    rintro e w1 ⟨rfl, rfl⟩
    go_wp2_with fail
    refine (Hd.out _).mono ?_
    rintro e w1 ⟨rfl, rfl⟩
    go_wp2_with fail
    refine (Hw.out _).mono ?_
    rintro e w1 ⟨rfl, rfl⟩
    go_wp2_with fail
    refine (Hu.out _).mono ?_
    rintro e w1 ⟨rfl, rfl⟩
    go_wp2_with fail
    refine (HK.out _ HRW.out).mono ?_
    rintro e w1 ⟨rfl, rfl⟩
    go_wp2_with fail
    go_ret2
    exact ⟨by rw [hR2.out]; rfl, HB0.out⟩
  have k6' := Classical.not_not.1 k6
  have hk2 : ∀ (W : World) (h : RowL EOpt W A l), Calls Tryd.prog 41 #[.slice A n c] W fun e w' => e = .returned (.bool true) ∧ W = w' := fun W h => by have := hk W h; rwa [decide_eq_true k6'] at this
  have HK := Lib.hid hk2
  have hnb : ¬ badT t := fun hb => by
    rcases hbad.1 hb with h | h | h | h | (h | h) | h
    · exact h k0'
    · exact h k1'
    · exact h k2'
    · exact h k3'
    · exact k4 h
    · exact k5 h
    · exact k6 h
  rw [if_neg hnb] at hR
  clear hk hk2 hbad k6
  obtain ⟨nd, hnde⟩ : ∃ x, x = min 41 (wrOs l).length := ⟨_, rfl⟩
  rw [← hnde] at hnd
  have HND := Lib.hid hnd
  clear hnd
  by_cases m0 : 40 < (wrOs l).length
  · have hR2 := Lib.hid (show R = ([], 3) by rw [hR, if_pos (.inl m0)])
    have d3 : decide ((40 : Int) < (nd : Int)) = true := by simp; omega
    have n3 : (40 : Int) < (nd : Int) := by omega
    clear hR hto htp ht ha hb hf hP hPs hn hl hd hs k0' k1' k2' k3' hnb hnde m0
    go_enter Tryd.func15, Tryd.ntmps15
    go_upto_region 1 with fail
    rw [← hW0, ← hgz]
    clear hW0 hgz
    have x0 := (Cells.cell HZ0.out 0).trans (show _ = some (Value.int .i64 src) from rfl)
    have x1 := (Cells.cell HZ0.out 1).trans (show _ = some (Value.int .i64 dst) from rfl)
    have x2 := (Cells.cell HZ0.out 2).trans (show _ = some (Value.int .u32 (sq : Int)) from rfl)
    have x3 := (Cells.cell HZ0.out 3).trans (show _ = some (Value.int .u32 (ak : Int)) from rfl)
    have x4 := (Cells.cell HZ0.out 4).trans (show _ = some (Value.int .i64 fl) from rfl)
    have x5 := (Cells.cell HZ0.out 5).trans (show _ = some (Value.int .i64 win) from rfl)
    have x6 := (Cells.cell HZ0.out 6).trans (show _ = some (Value.int .i64 urg) from rfl)
    have x7 := (Cells.cell HZ0.out 7).trans (show _ = some (Value.slice A n c) from rfl)
    have x8 := (Cells.cell HZ0.out 8).trans (show _ = some (Value.string P) from rfl)
    have hgx := HZ0.out.lt
    go_wp2_with fail
    refine (Hs.out _).mono ?_
    rintro e w1 ⟨rfl, rfl⟩
    go_wp2_with fail
    refine (Hd.out _).mono ?_
    rintro e w1 ⟨rfl, rfl⟩
    go_wp2_with fail
    refine (Hw.out _).mono ?_
    rintro e w1 ⟨rfl, rfl⟩
    go_wp2_with fail
    refine (Hu.out _).mono ?_
    rintro e w1 ⟨rfl, rfl⟩
    go_wp2_with fail
    refine (HK.out _ HRW.out).mono ?_
    rintro e w1 ⟨rfl, rfl⟩
    go_wp2_with fail
    refine (HND.out _ HRW.out).mono ?_
    rintro e w1 ⟨rfl, rfl⟩
    go_wp2_with fail
    go_ret2
    exact ⟨by rw [hR2.out]; rfl, HB0.out⟩
  have d3 : decide ((40 : Int) < (nd : Int)) = false := by simp; omega
  have n3 : ¬ (40 : Int) < (nd : Int) := by omega
  by_cases m1 : 60000 < pay.length
  · have hR2 := Lib.hid (show R = ([], 3) by rw [hR, if_pos (.inr m1)])
    have d4 : decide ((60000 : Int) < (P.size : Int)) = true := by simp; omega
    have n4 : (60000 : Int) < (P.size : Int) := by omega
    clear hR hto htp ht ha hb hf hP hPs hn hl hd hs k0' k1' k2' k3' hnb hnde m0 m1
    go_enter Tryd.func15, Tryd.ntmps15
    go_upto_region 1 with fail
    rw [← hW0, ← hgz]
    clear hW0 hgz
    have x0 := (Cells.cell HZ0.out 0).trans (show _ = some (Value.int .i64 src) from rfl)
    have x1 := (Cells.cell HZ0.out 1).trans (show _ = some (Value.int .i64 dst) from rfl)
    have x2 := (Cells.cell HZ0.out 2).trans (show _ = some (Value.int .u32 (sq : Int)) from rfl)
    have x3 := (Cells.cell HZ0.out 3).trans (show _ = some (Value.int .u32 (ak : Int)) from rfl)
    have x4 := (Cells.cell HZ0.out 4).trans (show _ = some (Value.int .i64 fl) from rfl)
    have x5 := (Cells.cell HZ0.out 5).trans (show _ = some (Value.int .i64 win) from rfl)
    have x6 := (Cells.cell HZ0.out 6).trans (show _ = some (Value.int .i64 urg) from rfl)
    have x7 := (Cells.cell HZ0.out 7).trans (show _ = some (Value.slice A n c) from rfl)
    have x8 := (Cells.cell HZ0.out 8).trans (show _ = some (Value.string P) from rfl)
    have hgx := HZ0.out.lt
    go_wp2_with fail
    refine (Hs.out _).mono ?_
    rintro e w1 ⟨rfl, rfl⟩
    go_wp2_with fail
    refine (Hd.out _).mono ?_
    rintro e w1 ⟨rfl, rfl⟩
    go_wp2_with fail
    refine (Hw.out _).mono ?_
    rintro e w1 ⟨rfl, rfl⟩
    go_wp2_with fail
    refine (Hu.out _).mono ?_
    rintro e w1 ⟨rfl, rfl⟩
    go_wp2_with fail
    refine (HK.out _ HRW.out).mono ?_
    rintro e w1 ⟨rfl, rfl⟩
    go_wp2_with fail
    refine (HND.out _ HRW.out).mono ?_
    rintro e w1 ⟨rfl, rfl⟩
    go_wp2_with fail
    go_ret2
    exact ⟨by rw [hR2.out]; rfl, HB0.out⟩
  have d4 : decide ((60000 : Int) < (P.size : Int)) = false := by simp; omega
  have n4 : ¬ (60000 : Int) < (P.size : Int) := by omega
  rw [if_neg (show ¬ (40 < (wrOs l).length ∨ 60000 < pay.length) by omega)] at hR
  have hfit := fun W => rfam14_any v1 v2 h1 l1 h2 l2 W
  by_cases m2 : ¬ fitU ⟨v1, h1, l1⟩ ⟨v2, h2, l2⟩
  · have hR2 := Lib.hid (show R = ([], 13) by rw [hR, if_pos m2])
    rw [decide_eq_false m2] at hfit
    have HFIT := Lib.hid hfit
    clear hR hto htp ht ha hb hf hP hPs hn hl hd hs k0' k1' k2' k3' hnb hnde m0 m1 m2 hfit
    go_enter Tryd.func15, Tryd.ntmps15
    go_upto_region 1 with fail
    rw [← hW0, ← hgz]
    clear hW0 hgz
    have x0 := (Cells.cell HZ0.out 0).trans (show _ = some (Value.int .i64 src) from rfl)
    have x1 := (Cells.cell HZ0.out 1).trans (show _ = some (Value.int .i64 dst) from rfl)
    have x2 := (Cells.cell HZ0.out 2).trans (show _ = some (Value.int .u32 (sq : Int)) from rfl)
    have x3 := (Cells.cell HZ0.out 3).trans (show _ = some (Value.int .u32 (ak : Int)) from rfl)
    have x4 := (Cells.cell HZ0.out 4).trans (show _ = some (Value.int .i64 fl) from rfl)
    have x5 := (Cells.cell HZ0.out 5).trans (show _ = some (Value.int .i64 win) from rfl)
    have x6 := (Cells.cell HZ0.out 6).trans (show _ = some (Value.int .i64 urg) from rfl)
    have x7 := (Cells.cell HZ0.out 7).trans (show _ = some (Value.slice A n c) from rfl)
    have x8 := (Cells.cell HZ0.out 8).trans (show _ = some (Value.string P) from rfl)
    have hgx := HZ0.out.lt
    go_wp2_with fail
    refine (Hs.out _).mono ?_
    rintro e w1 ⟨rfl, rfl⟩
    go_wp2_with fail
    refine (Hd.out _).mono ?_
    rintro e w1 ⟨rfl, rfl⟩
    go_wp2_with fail
    refine (Hw.out _).mono ?_
    rintro e w1 ⟨rfl, rfl⟩
    go_wp2_with fail
    refine (Hu.out _).mono ?_
    rintro e w1 ⟨rfl, rfl⟩
    go_wp2_with fail
    refine (HK.out _ HRW.out).mono ?_
    rintro e w1 ⟨rfl, rfl⟩
    go_wp2_with fail
    refine (HND.out _ HRW.out).mono ?_
    rintro e w1 ⟨rfl, rfl⟩
    obtain ⟨q0, q1, q2, q3, q4, q5, q6⟩ := id HT0.out
    go_wp2_with fail
    refine (HFIT.out _).mono ?_
    rintro e w1 ⟨rfl, hb1⟩
    clear q0 q1 q2 q3 q4 q5 q6
    have HT1 := Lib.hid (HT0.out.kept hb1)
    have HZ1 := Lib.hid (Cells.kept HZ0.out hb1 HZ0.out.lt)
    have HRW1 := Lib.hid (HRW.out.kept hb1)
    have HB1 := Lib.hid (HB0.out.trans (hb1.mono HB0.out.size))
    clear hb1 HT0 HZ0 HB0 HRW HFIT x0 x1 x2 x3 x4 x5 x6 x7 x8 hgx
    go_wp2_with fail
    go_ret2
    exact ⟨by rw [hR2.out]; rfl, HB1.out⟩
  rw [if_neg m2] at hR
  have m2' := Classical.not_not.1 m2
  rw [decide_eq_true m2'] at hfit
  have HFIT := Lib.hid hfit
  clear hfit m2
  obtain ⟨a1, a2⟩ := k0'
  obtain ⟨a3, a4⟩ := k1'
  obtain ⟨a5, a6⟩ := k2'
  obtain ⟨a7, a8⟩ := k3'
  obtain ⟨X, rfl⟩ : ∃ T : Nat, src = (T : Int) := ⟨src.toNat, by omega⟩
  obtain ⟨Y, rfl⟩ : ∃ T : Nat, dst = (T : Int) := ⟨dst.toNat, by omega⟩
  obtain ⟨V, rfl⟩ : ∃ T : Nat, win = (T : Int) := ⟨win.toNat, by omega⟩
  obtain ⟨U, rfl⟩ : ∃ T : Nat, urg = (T : Int) := ⟨urg.toNat, by omega⟩
  obtain ⟨F, rfl⟩ : ∃ T : Nat, fl = (T : Int) := ⟨fl.toNat, by omega⟩
  have hX : X < 65536 := by omega
  have hY : Y < 65536 := by omega
  have hV : V < 65536 := by omega
  have hU : U < 65536 := by omega
  have hF : F < 64 := by omega
  obtain ⟨hsq, hak⟩ := hf
  have hwl := (wrP_len l).1
  have hpd := need_pad (n := (wrOs l).length) (by omega)
  obtain ⟨o, ho⟩ : ∃ o, o = str (wrP l) := ⟨_, rfl⟩
  have hos : o.size = (wrP l).length := by rw [ho, str_size]
  have HWR := Lib.hid (fun (W : World) (h : RowL EOpt W A l) => show Calls Tryd.prog 43 #[.slice A n c] W fun e w' => e = .returned (.string o) ∧ Below W.heap.size W w' from by rw [ho, hn]; exact rwritten11_any A c l W h (by omega) k6')
  obtain ⟨hl20, hhl⟩ : ∃ h, h = 20 + o.size := ⟨_, rfl⟩
  have khl : (20 : Int) + (o.size : Int) = (hl20 : Int) := by omega
  have hhl60 : hl20 ≤ 60 := by omega
  obtain ⟨hq, hhq⟩ : ∃ h, h = hl20 / 4 := ⟨_, rfl⟩
  have khq : (hl20 : Int) / 4 = (hq : Int) := by omega
  have khq' : (hl20 : Int).tdiv 4 = (hq : Int) := by rw [Int.tdiv_eq_ediv_of_nonneg (by omega)]; exact khq
  obtain ⟨hb16, hhb⟩ : ∃ h, h = hq * 16 := ⟨_, rfl⟩
  have khb : (hq : Int) * 16 = (hb16 : Int) := by omega
  have hhb8 : hb16 < 256 := by omega
  have u1 : IntKind.u8.wrap (hb16 : Int) = (hb16 : Int) := by rw [IntKind.wrap_u8]; omega
  have u2 : IntKind.u8.wrap (F : Int) = (F : Int) := by rw [IntKind.wrap_u8]; omega
  have u5 : IntKind.i64.wrap (hl20 : Int) = (hl20 : Int) := by rw [IntKind.wrap_i64]; omega
  have u6 : IntKind.i64.wrap (hq : Int) = (hq : Int) := by rw [IntKind.wrap_i64]; omega
  have u7 : IntKind.i64.wrap (hb16 : Int) = (hb16 : Int) := by rw [IntKind.wrap_i64]; omega
  have u3 : IntKind.i64.wrap (sq : Int) = (sq : Int) := by rw [IntKind.wrap_i64]; omega
  have u4 : IntKind.i64.wrap (ak : Int) = (ak : Int) := by rw [IntKind.wrap_i64]; omega
  obtain ⟨T1, hT1⟩ : ∃ T, T = str (beL 2 X) := ⟨_, rfl⟩
  have sT1 : T1.size = 2 := by rw [hT1, str_size, beL_len]
  have HPT1 := Lib.hid (fun (W : World) => show Calls Tryd.prog 44 #[.int .i64 (X : Int), .int .i64 2] W fun e w' => e = .returned (.string T1) ∧ Below W.heap.size W w' from by rw [hT1]; exact putB_any 2 X (X : Int) 2 rfl rfl (by decide) (by decide) (by omega) W)
  obtain ⟨T2, hT2⟩ : ∃ T, T = str (beL 2 Y) := ⟨_, rfl⟩
  have sT2 : T2.size = 2 := by rw [hT2, str_size, beL_len]
  have HPT2 := Lib.hid (fun (W : World) => show Calls Tryd.prog 44 #[.int .i64 (Y : Int), .int .i64 2] W fun e w' => e = .returned (.string T2) ∧ Below W.heap.size W w' from by rw [hT2]; exact putB_any 2 Y (Y : Int) 2 rfl rfl (by decide) (by decide) (by omega) W)
  obtain ⟨T3, hT3⟩ : ∃ T, T = str (beL 4 sq) := ⟨_, rfl⟩
  have sT3 : T3.size = 4 := by rw [hT3, str_size, beL_len]
  have HPT3 := Lib.hid (fun (W : World) => show Calls Tryd.prog 44 #[.int .i64 (sq : Int), .int .i64 4] W fun e w' => e = .returned (.string T3) ∧ Below W.heap.size W w' from by rw [hT3]; exact putB_any 4 sq (sq : Int) 4 rfl rfl (by decide) (by decide) (by omega) W)
  obtain ⟨T4, hT4⟩ : ∃ T, T = str (beL 4 ak) := ⟨_, rfl⟩
  have sT4 : T4.size = 4 := by rw [hT4, str_size, beL_len]
  have HPT4 := Lib.hid (fun (W : World) => show Calls Tryd.prog 44 #[.int .i64 (ak : Int), .int .i64 4] W fun e w' => e = .returned (.string T4) ∧ Below W.heap.size W w' from by rw [hT4]; exact putB_any 4 ak (ak : Int) 4 rfl rfl (by decide) (by decide) (by omega) W)
  obtain ⟨T6, hT6⟩ : ∃ T, T = str (beL 2 V) := ⟨_, rfl⟩
  have sT6 : T6.size = 2 := by rw [hT6, str_size, beL_len]
  have HPT6 := Lib.hid (fun (W : World) => show Calls Tryd.prog 44 #[.int .i64 (V : Int), .int .i64 2] W fun e w' => e = .returned (.string T6) ∧ Below W.heap.size W w' from by rw [hT6]; exact putB_any 2 V (V : Int) 2 rfl rfl (by decide) (by decide) (by omega) W)
  obtain ⟨T7, hT7⟩ : ∃ T, T = str (beL 2 U) := ⟨_, rfl⟩
  have sT7 : T7.size = 2 := by rw [hT7, str_size, beL_len]
  have HPT7 := Lib.hid (fun (W : World) => show Calls Tryd.prog 44 #[.int .i64 (U : Int), .int .i64 2] W fun e w' => e = .returned (.string T7) ∧ Below W.heap.size W w' from by rw [hT7]; exact putB_any 2 U (U : Int) 2 rfl rfl (by decide) (by decide) (by omega) W)
  obtain ⟨T5, hT5⟩ : ∃ T, T = str [UInt8.ofNat hb16, UInt8.ofNat F] := ⟨_, rfl⟩
  have sT5 : T5.size = 2 := by rw [hT5, str_size]; rfl
  have HT5 := Lib.hid hT5
  obtain ⟨Q1, hQ1⟩ : ∃ q, q = T1 ++ T2 ++ T3 ++ T4 ++ T5 ++ T6 := ⟨_, rfl⟩
  have hQ1s : Q1.size = 16 := by rw [hQ1]; simp only [ByteArray.size_append]; omega
  have hQ1e : Q1 = str (preT t) := by
    rw [hQ1, hT1, hT2, hT3, hT4, hT5, hT6]
    unfold preT hlT
    rw [ht]
    dsimp only
    rw [← hos, ← hhl, ← hhq, ← hhb]
    simp only [Int.toNat_natCast, str_append, List.append_assoc, List.cons_append, List.nil_append]
  obtain ⟨Q2, hQ2⟩ : ∃ q, q = T7 ++ o ++ P := ⟨_, rfl⟩
  have hQ2s : Q2.size = 2 + o.size + P.size := by rw [hQ2]; simp only [ByteArray.size_append]; omega
  have hQ2e : Q2 = str (postT t) := by
    rw [hQ2, hT7, ho, hP]
    unfold postT
    rw [ht]
    simp only [Int.toNat_natCast, str_append, List.append_assoc]
  obtain ⟨tt, htt⟩ : ∃ x, x = totT t := ⟨_, rfl⟩
  have htt2 : tt = hl20 + P.size := by rw [htt]; unfold totT hlT; rw [hto, htp, ← hos, hhl, hPs]
  have ktt : (Q1.size : Int) + 2 = 18 := by omega
  have ktt2 : (18 : Int) + (Q2.size : Int) = (tt : Int) := by omega
  have httl : tt ≤ 65535 := by omega
  obtain ⟨D, hD⟩ : ∃ D, D = str (psU ⟨v1, h1, l1⟩ ⟨v2, h2, l2⟩ 6 tt) := ⟨_, rfl⟩
  have hDs : D.size ≤ 40 := by rw [hD, str_size]; exact psU_size _ _ _ _
  have HPS := Lib.hid (fun (W : World) => show Calls Tryd.prog 32 #[.agg #[.bool v1, .int .u64 (h1 : Int), .int .u64 (l1 : Int)], .agg #[.bool v2, .int .u64 (h2 : Int), .int .u64 (l2 : Int)], .int .i64 6, .int .i64 (tt : Int)] W fun e w' => e = .returned (.string D) ∧ Below W.heap.size W w' from by rw [hD]; exact rpseudoT ⟨v1, h1, l1⟩ ⟨v2, h2, l2⟩ tt m2' ha hb httl W)
  obtain ⟨q, hq'⟩ : ∃ q, q = sumT ⟨v1, h1, l1⟩ ⟨v2, h2, l2⟩ t := ⟨_, rfl⟩
  have hql : q ≤ 65535 := by rw [hq']; exact sumT_le _ _ _
  have HSUM := Lib.hid (fun (W : World) => show Calls Tryd.prog 31 #[.string (D ++ Q1 ++ ⟨#[0, 0]⟩ ++ Q2)] W fun e w' => e = .returned (.int .i64 (q : Int)) ∧ W = w' from by
    have hsz0 : (ByteArray.mk #[0, 0]).size = 2 := rfl
    have := rsum_any (D ++ Q1 ++ ⟨#[0, 0]⟩ ++ Q2) W (by simp only [ByteArray.size_append]; omega)
    have hz : (⟨#[0, 0]⟩ : ByteArray) = str (beL 2 0) := by decide
    rw [hD, hQ1e, hQ2e, hz, str_append, str_append, str_append] at this
    rw [hD, hQ1e, hQ2e, hz, str_append, str_append, str_append, hq']
    unfold sumT
    rw [← htt, ← List.append_assoc]
    simpa [str] using this)
  obtain ⟨T8, hT8⟩ : ∃ T, T = str (beL 2 q) := ⟨_, rfl⟩
  have sT8 : T8.size = 2 := by rw [hT8, str_size, beL_len]
  have HPT8 := Lib.hid (fun (W : World) => show Calls Tryd.prog 44 #[.int .i64 (q : Int), .int .i64 2] W fun e w' => e = .returned (.string T8) ∧ Below W.heap.size W w' from by rw [hT8]; exact putB_any 2 q (q : Int) 2 rfl rfl (by decide) (by decide) (by omega) W)
  have hR2 := Lib.hid (show (Ending.returned (.tuple #[.string (Q1 ++ T8 ++ Q2), .int .i64 0])) = .returned (.tuple #[.string (str R.1), .int .i64 (R.2 : Int)]) by
    rw [hR, hQ1e, hT8, hQ2e, hq']
    dsimp only
    rw [str_append, str_append, List.append_assoc]
    rfl)
  have HQ1 := Lib.hid hQ1
  have HQ2 := Lib.hid hQ2
  have hP60 : P.size ≤ 60000 := by omega
  have hos40 : o.size ≤ 40 := by omega
  have ra0 : (9223372036854775807 < T1.size + T2.size) = False := by simp only [eq_iff_iff, iff_false]; omega
  have ra1 : (9223372036854775807 < T1.size + T2.size + T3.size) = False := by simp only [eq_iff_iff, iff_false]; omega
  have ra1a : (9223372036854775807 < (T1 ++ T2).size + T3.size) = False := by simp only [eq_iff_iff, iff_false, ByteArray.size_append]; omega
  have ra2 : (9223372036854775807 < T1.size + T2.size + T3.size + T4.size) = False := by simp only [eq_iff_iff, iff_false]; omega
  have ra2a : (9223372036854775807 < (T1 ++ T2 ++ T3).size + T4.size) = False := by simp only [eq_iff_iff, iff_false, ByteArray.size_append]; omega
  have ra3 : (9223372036854775807 < T1.size + T2.size + T3.size + T4.size + T5.size) = False := by simp only [eq_iff_iff, iff_false]; omega
  have ra3a : (9223372036854775807 < (T1 ++ T2 ++ T3 ++ T4).size + T5.size) = False := by simp only [eq_iff_iff, iff_false, ByteArray.size_append]; omega
  have ra4 : (9223372036854775807 < T1.size + T2.size + T3.size + T4.size + T5.size + T6.size) = False := by simp only [eq_iff_iff, iff_false]; omega
  have ra4a : (9223372036854775807 < (T1 ++ T2 ++ T3 ++ T4 ++ T5).size + T6.size) = False := by simp only [eq_iff_iff, iff_false, ByteArray.size_append]; omega
  have ra5 : (9223372036854775807 < T7.size + o.size) = False := by simp only [eq_iff_iff, iff_false]; omega
  have ra6 : (9223372036854775807 < T7.size + o.size + P.size) = False := by simp only [eq_iff_iff, iff_false]; omega
  have ra6a : (9223372036854775807 < (T7 ++ o).size + P.size) = False := by simp only [eq_iff_iff, iff_false, ByteArray.size_append]; omega
  have ra7 : (9223372036854775807 < D.size + Q1.size) = False := by simp only [eq_iff_iff, iff_false]; omega
  have ra8 : (9223372036854775807 < Q1.size + T8.size) = False := by simp only [eq_iff_iff, iff_false]; omega
  have ra9 : (9223372036854775807 < Q1.size + T8.size + Q2.size) = False := by simp only [eq_iff_iff, iff_false]; omega
  have ra9a : (9223372036854775807 < (Q1 ++ T8).size + Q2.size) = False := by simp only [eq_iff_iff, iff_false, ByteArray.size_append]; omega
  have z1 : (9223372036854775807 < D.size + Q1.size + 2) = False := by simp only [eq_iff_iff, iff_false]; omega
  have z1' : (9223372036854775807 < (D ++ Q1).size + (ByteArray.mk #[0, 0]).size) = False := by rw [ByteArray.size_append]; exact z1
  have z2 : (9223372036854775807 < D.size + Q1.size + 2 + Q2.size) = False := by simp only [eq_iff_iff, iff_false]; omega
  have z2' : (9223372036854775807 < (D ++ Q1 ++ ⟨#[0, 0]⟩).size + Q2.size) = False := by rw [ByteArray.size_append, ByteArray.size_append]; exact z2
  clear hR hto htp ht ha hb hP hPs hn hl hd hs hnb hnde m0 m1 m2' k6' a1 a2 a3 a4 a5 a6 a7 a8 hwl hpd ho hos hhl hhq hhb hT1 hT2 hT3 hT4 hT5 hT6 hT7 hT8 hQ1 hQ1e hQ2 hQ2e htt htt2 hD hq' hX hY hV hU hsq hak k4 k5 hQ1s hQ2s sT1 sT2 sT3 sT4 sT5 sT6 sT7 sT8
  go_enter Tryd.func15, Tryd.ntmps15
  go_upto_region 1 with fail
  rw [← hW0, ← hgz]
  clear hW0 hgz
  have x0 := (Cells.cell HZ0.out 0).trans (show _ = some (Value.int .i64 (X : Int)) from rfl)
  have x1 := (Cells.cell HZ0.out 1).trans (show _ = some (Value.int .i64 (Y : Int)) from rfl)
  have x2 := (Cells.cell HZ0.out 2).trans (show _ = some (Value.int .u32 (sq : Int)) from rfl)
  have x3 := (Cells.cell HZ0.out 3).trans (show _ = some (Value.int .u32 (ak : Int)) from rfl)
  have x4 := (Cells.cell HZ0.out 4).trans (show _ = some (Value.int .i64 (F : Int)) from rfl)
  have x5 := (Cells.cell HZ0.out 5).trans (show _ = some (Value.int .i64 (V : Int)) from rfl)
  have x6 := (Cells.cell HZ0.out 6).trans (show _ = some (Value.int .i64 (U : Int)) from rfl)
  have x7 := (Cells.cell HZ0.out 7).trans (show _ = some (Value.slice A n c) from rfl)
  have x8 := (Cells.cell HZ0.out 8).trans (show _ = some (Value.string P) from rfl)
  have hgx := HZ0.out.lt
  go_wp2_with fail
  refine (Hs.out _).mono ?_
  rintro e w1 ⟨rfl, rfl⟩
  go_wp2_with fail
  refine (Hd.out _).mono ?_
  rintro e w1 ⟨rfl, rfl⟩
  go_wp2_with fail
  refine (Hw.out _).mono ?_
  rintro e w1 ⟨rfl, rfl⟩
  go_wp2_with fail
  refine (Hu.out _).mono ?_
  rintro e w1 ⟨rfl, rfl⟩
  go_wp2_with fail
  refine (HK.out _ HRW.out).mono ?_
  rintro e w1 ⟨rfl, rfl⟩
  go_wp2_with fail
  refine (HND.out _ HRW.out).mono ?_
  rintro e w1 ⟨rfl, rfl⟩
  obtain ⟨q0, q1, q2, q3, q4, q5, q6⟩ := id HT0.out
  go_wp2_with fail
  refine (HFIT.out _).mono ?_
  rintro e w1 ⟨rfl, hb1⟩
  clear q0 q1 q2 q3 q4 q5 q6
  have HT1 := Lib.hid (HT0.out.kept hb1)
  have HZ1 := Lib.hid (Cells.kept HZ0.out hb1 HZ0.out.lt)
  have HRW1 := Lib.hid (HRW.out.kept hb1)
  have HB1 := Lib.hid (HB0.out.trans (hb1.mono HB0.out.size))
  clear hb1 HT0 HZ0 HB0 HRW HFIT x0 x1 x2 x3 x4 x5 x6 x7 x8 hgx
  have x0 := (Cells.cell HZ1.out 0).trans (show _ = some (Value.int .i64 (X : Int)) from rfl)
  have x1 := (Cells.cell HZ1.out 1).trans (show _ = some (Value.int .i64 (Y : Int)) from rfl)
  have x2 := (Cells.cell HZ1.out 2).trans (show _ = some (Value.int .u32 (sq : Int)) from rfl)
  have x3 := (Cells.cell HZ1.out 3).trans (show _ = some (Value.int .u32 (ak : Int)) from rfl)
  have x4 := (Cells.cell HZ1.out 4).trans (show _ = some (Value.int .i64 (F : Int)) from rfl)
  have x5 := (Cells.cell HZ1.out 5).trans (show _ = some (Value.int .i64 (V : Int)) from rfl)
  have x6 := (Cells.cell HZ1.out 6).trans (show _ = some (Value.int .i64 (U : Int)) from rfl)
  have x7 := (Cells.cell HZ1.out 7).trans (show _ = some (Value.slice A n c) from rfl)
  have x8 := (Cells.cell HZ1.out 8).trans (show _ = some (Value.string P) from rfl)
  have hgx := HZ1.out.lt
  go_wp2_with fail
  refine (HWR.out _ HRW1.out).mono ?_
  rintro e w2 ⟨rfl, hb2⟩
  clear x0 x1 x2 x3 x4 x5 x6 x7 x8 hgx
  have HT2 := Lib.hid (HT1.out.kept hb2)
  have HZ2 := Lib.hid (Cells.kept HZ1.out hb2 HZ1.out.lt)
  have HB2 := Lib.hid (HB1.out.trans (hb2.mono HB1.out.size))
  clear hb2 HT1 HZ1 HB1 HRW1 HWR
  go_upto_region 8 with fail
  refine wp_region_specs_tail 33 [.val (Value.pointer (some ⟨gz, 0, none⟩)), .val (Value.int .i64 (X : Int)), .val (Value.string T1), .val (Value.pointer (some ⟨gz, 1, none⟩)), .val (Value.int .i64 (Y : Int)), .val (Value.string T2), .val (Value.string (T1 ++ T2)), .val (Value.pointer (some ⟨gz, 2, none⟩)), .val (Value.int .u32 (sq : Int)), .val (Value.int .i64 (sq : Int)), .val (Value.string T3), .val (Value.string (T1 ++ T2 ++ T3)), .val (Value.pointer (some ⟨gz, 3, none⟩)), .val (Value.int .u32 (ak : Int)), .val (Value.int .i64 (ak : Int)), .val (Value.string T4), .val (Value.string (T1 ++ T2 ++ T3 ++ T4)), .val (Value.string o), .val (Value.int .i64 (o.size : Int)), .val (Value.int .i64 (hl20 : Int)), .val (Value.int .i64 (hq : Int)), .val (Value.int .i64 (hb16 : Int)), .val (Value.int .u8 (hb16 : Int)), .val (Value.pointer (some ⟨gz, 4, none⟩)), .val (Value.int .i64 (F : Int)), .val (Value.int .u8 (F : Int)), .row #[.int .u8 (hb16 : Int), .int .u8 (F : Int)] 5 2, .val (Value.string T5), .val (Value.string (T1 ++ T2 ++ T3 ++ T4 ++ T5)), .val (Value.pointer (some ⟨gz, 5, none⟩)), .val (Value.int .i64 (V : Int)), .val (Value.string T6), .val (Value.string (T1 ++ T2 ++ T3 ++ T4 ++ T5 ++ T6))] (by kernel_rfl) (by kernel_rfl) (by kernel_rfl) (by kernel_rfl) (by kernel_rfl) (by kernel_rfl) (by kernel_rfl) (by kernel_rfl) ?_ ?_
  · refine ⟨⟨rfl, ?_⟩, ⟨rfl, ?_⟩, ⟨rfl, ?_⟩, ⟨rfl, ?_⟩, ⟨rfl, ?_⟩, ⟨rfl, ?_⟩, ⟨rfl, ?_⟩, ⟨rfl, ?_⟩, ⟨rfl, ?_⟩, ⟨rfl, ?_⟩, ⟨rfl, ?_⟩, ⟨rfl, ?_⟩, ⟨rfl, ?_⟩, ⟨rfl, ?_⟩, ⟨rfl, ?_⟩, ⟨rfl, ?_⟩, ⟨rfl, ?_⟩, ⟨rfl, ?_⟩, ⟨rfl, ?_⟩, ⟨rfl, ?_⟩, ⟨rfl, ?_⟩, ⟨rfl, ?_⟩, ⟨rfl, ?_⟩, ⟨rfl, ?_⟩, ⟨rfl, ?_⟩, ⟨rfl, ?_⟩, ⟨rfl, ?_⟩, ⟨rfl, ?_⟩, ⟨rfl, ?_⟩, ⟨rfl, ?_⟩, ⟨rfl, ?_⟩, ⟨rfl, ?_⟩, ⟨rfl, ?_⟩, trivial⟩
    · intro a W hbW hk K hK
      have e5 := kvalT hk 5 (Value.pointer (some ⟨gz, 0, none⟩)) (by kernel_rfl)
      clear hk
      go_simp
      exact ⟨_, rfl, hK _ _ rfl (Below.refl _ _)⟩
    · intro a W hbW hk K hK
      have e67 := kvalT hk 67 (Value.pointer (some ⟨gz, 0, none⟩)) (by kernel_rfl)
      clear hk
      have yv := box_cell HZ2.out hbW 0 (Value.int .i64 (X : Int)) rfl
      go_simp
      exact ⟨_, rfl, hK _ _ rfl (Below.refl _ _)⟩
    · intro a W hbW hk K hK
      have e68 := kvalT hk 68 (Value.int .i64 (X : Int)) (by kernel_rfl)
      clear hk
      go_simp
      refine (HPT1.out W).mono ?_
      rintro e w9 ⟨rfl, hb9⟩
      exact ⟨_, rfl, hK _ _ rfl hb9⟩
    · intro a W hbW hk K hK
      have e5 := kvalT hk 5 (Value.pointer (some ⟨gz, 0, none⟩)) (by kernel_rfl)
      clear hk
      go_simp
      exact ⟨_, rfl, hK _ _ rfl (Below.refl _ _)⟩
    · intro a W hbW hk K hK
      have e70 := kvalT hk 70 (Value.pointer (some ⟨gz, 1, none⟩)) (by kernel_rfl)
      clear hk
      have yv := box_cell HZ2.out hbW 1 (Value.int .i64 (Y : Int)) rfl
      go_simp
      exact ⟨_, rfl, hK _ _ rfl (Below.refl _ _)⟩
    · intro a W hbW hk K hK
      have e71 := kvalT hk 71 (Value.int .i64 (Y : Int)) (by kernel_rfl)
      clear hk
      go_simp
      refine (HPT2.out W).mono ?_
      rintro e w9 ⟨rfl, hb9⟩
      exact ⟨_, rfl, hK _ _ rfl hb9⟩
    · intro a W hbW hk K hK
      have e69 := kvalT hk 69 (Value.string T1) (by kernel_rfl)
      have e72 := kvalT hk 72 (Value.string T2) (by kernel_rfl)
      clear hk
      go_simp
      exact ⟨_, rfl, hK _ _ rfl (Below.refl _ _)⟩
    · intro a W hbW hk K hK
      have e5 := kvalT hk 5 (Value.pointer (some ⟨gz, 0, none⟩)) (by kernel_rfl)
      clear hk
      go_simp
      exact ⟨_, rfl, hK _ _ rfl (Below.refl _ _)⟩
    · intro a W hbW hk K hK
      have e74 := kvalT hk 74 (Value.pointer (some ⟨gz, 2, none⟩)) (by kernel_rfl)
      clear hk
      have yv := box_cell HZ2.out hbW 2 (Value.int .u32 (sq : Int)) rfl
      go_simp
      exact ⟨_, rfl, hK _ _ rfl (Below.refl _ _)⟩
    · intro a W hbW hk K hK
      have e75 := kvalT hk 75 (Value.int .u32 (sq : Int)) (by kernel_rfl)
      clear hk
      go_simp
      exact ⟨_, rfl, hK _ _ rfl (Below.refl _ _)⟩
    · intro a W hbW hk K hK
      have e76 := kvalT hk 76 (Value.int .i64 (sq : Int)) (by kernel_rfl)
      clear hk
      go_simp
      refine (HPT3.out W).mono ?_
      rintro e w9 ⟨rfl, hb9⟩
      exact ⟨_, rfl, hK _ _ rfl hb9⟩
    · intro a W hbW hk K hK
      have e73 := kvalT hk 73 (Value.string (T1 ++ T2)) (by kernel_rfl)
      have e77 := kvalT hk 77 (Value.string T3) (by kernel_rfl)
      clear hk
      go_simp
      exact ⟨_, rfl, hK _ _ rfl (Below.refl _ _)⟩
    · intro a W hbW hk K hK
      have e5 := kvalT hk 5 (Value.pointer (some ⟨gz, 0, none⟩)) (by kernel_rfl)
      clear hk
      go_simp
      exact ⟨_, rfl, hK _ _ rfl (Below.refl _ _)⟩
    · intro a W hbW hk K hK
      have e79 := kvalT hk 79 (Value.pointer (some ⟨gz, 3, none⟩)) (by kernel_rfl)
      clear hk
      have yv := box_cell HZ2.out hbW 3 (Value.int .u32 (ak : Int)) rfl
      go_simp
      exact ⟨_, rfl, hK _ _ rfl (Below.refl _ _)⟩
    · intro a W hbW hk K hK
      have e80 := kvalT hk 80 (Value.int .u32 (ak : Int)) (by kernel_rfl)
      clear hk
      go_simp
      exact ⟨_, rfl, hK _ _ rfl (Below.refl _ _)⟩
    · intro a W hbW hk K hK
      have e81 := kvalT hk 81 (Value.int .i64 (ak : Int)) (by kernel_rfl)
      clear hk
      go_simp
      refine (HPT4.out W).mono ?_
      rintro e w9 ⟨rfl, hb9⟩
      exact ⟨_, rfl, hK _ _ rfl hb9⟩
    · intro a W hbW hk K hK
      have e78 := kvalT hk 78 (Value.string (T1 ++ T2 ++ T3)) (by kernel_rfl)
      have e82 := kvalT hk 82 (Value.string T4) (by kernel_rfl)
      clear hk
      go_simp
      exact ⟨_, rfl, hK _ _ rfl (Below.refl _ _)⟩
    · intro a W hbW hk K hK
      have e8 := kvalT hk 8 (Value.string o) (by kernel_rfl)
      clear hk
      go_simp
      exact ⟨_, rfl, hK _ _ rfl (Below.refl _ _)⟩
    · intro a W hbW hk K hK
      have e84 := kvalT hk 84 (Value.string o) (by kernel_rfl)
      clear hk
      go_simp
      exact ⟨_, rfl, hK _ _ rfl (Below.refl _ _)⟩
    · intro a W hbW hk K hK
      have e85 := kvalT hk 85 (Value.int .i64 (o.size : Int)) (by kernel_rfl)
      clear hk
      go_simp
      exact ⟨_, rfl, hK _ _ rfl (Below.refl _ _)⟩
    · intro a W hbW hk K hK
      have e86 := kvalT hk 86 (Value.int .i64 (hl20 : Int)) (by kernel_rfl)
      clear hk
      go_simp
      exact ⟨_, rfl, hK _ _ rfl (Below.refl _ _)⟩
    · intro a W hbW hk K hK
      have e87 := kvalT hk 87 (Value.int .i64 (hq : Int)) (by kernel_rfl)
      clear hk
      go_simp
      exact ⟨_, rfl, hK _ _ rfl (Below.refl _ _)⟩
    · intro a W hbW hk K hK
      have e88 := kvalT hk 88 (Value.int .i64 (hb16 : Int)) (by kernel_rfl)
      clear hk
      go_simp
      exact ⟨_, rfl, hK _ _ rfl (Below.refl _ _)⟩
    · intro a W hbW hk K hK
      have e5 := kvalT hk 5 (Value.pointer (some ⟨gz, 0, none⟩)) (by kernel_rfl)
      clear hk
      go_simp
      exact ⟨_, rfl, hK _ _ rfl (Below.refl _ _)⟩
    · intro a W hbW hk K hK
      have e90 := kvalT hk 90 (Value.pointer (some ⟨gz, 4, none⟩)) (by kernel_rfl)
      clear hk
      have yv := box_cell HZ2.out hbW 4 (Value.int .i64 (F : Int)) rfl
      go_simp
      exact ⟨_, rfl, hK _ _ rfl (Below.refl _ _)⟩
    · intro a W hbW hk K hK
      have e91 := kvalT hk 91 (Value.int .i64 (F : Int)) (by kernel_rfl)
      clear hk
      go_simp
      exact ⟨_, rfl, hK _ _ rfl (Below.refl _ _)⟩
    · intro a W hbW hk K hK
      have e89 := kvalT hk 89 (Value.int .u8 (hb16 : Int)) (by kernel_rfl)
      have e92 := kvalT hk 92 (Value.int .u8 (F : Int)) (by kernel_rfl)
      clear hk
      go_simp
      exact ⟨_, rfl, hK _ _ ⟨W.heap.size, rfl, hbW.size, heap_alloc_new W _⟩ (below_alloc6 W _)⟩
    · intro a W hbW hk K hK
      obtain ⟨gr, er, _, hgr⟩ := krowT hk 93 #[.int .u8 (hb16 : Int), .int .u8 (F : Int)] 5 2 (by kernel_rfl)
      clear hk
      have hcv := two_str14 W gr hb16 F (by omega) (by omega) hgr
      rw [← HT5.out] at hcv
      go_simp
      exact ⟨_, rfl, hK _ _ rfl (Below.refl _ _)⟩
    · intro a W hbW hk K hK
      have e83 := kvalT hk 83 (Value.string (T1 ++ T2 ++ T3 ++ T4)) (by kernel_rfl)
      have e94 := kvalT hk 94 (Value.string T5) (by kernel_rfl)
      clear hk
      go_simp
      exact ⟨_, rfl, hK _ _ rfl (Below.refl _ _)⟩
    · intro a W hbW hk K hK
      have e5 := kvalT hk 5 (Value.pointer (some ⟨gz, 0, none⟩)) (by kernel_rfl)
      clear hk
      go_simp
      exact ⟨_, rfl, hK _ _ rfl (Below.refl _ _)⟩
    · intro a W hbW hk K hK
      have e96 := kvalT hk 96 (Value.pointer (some ⟨gz, 5, none⟩)) (by kernel_rfl)
      clear hk
      have yv := box_cell HZ2.out hbW 5 (Value.int .i64 (V : Int)) rfl
      go_simp
      exact ⟨_, rfl, hK _ _ rfl (Below.refl _ _)⟩
    · intro a W hbW hk K hK
      have e97 := kvalT hk 97 (Value.int .i64 (V : Int)) (by kernel_rfl)
      clear hk
      go_simp
      refine (HPT6.out W).mono ?_
      rintro e w9 ⟨rfl, hb9⟩
      exact ⟨_, rfl, hK _ _ rfl hb9⟩
    · intro a W hbW hk K hK
      have e95 := kvalT hk 95 (Value.string (T1 ++ T2 ++ T3 ++ T4 ++ T5)) (by kernel_rfl)
      have e98 := kvalT hk 98 (Value.string T6) (by kernel_rfl)
      clear hk
      go_simp
      exact ⟨_, rfl, hK _ _ rfl (Below.refl _ _)⟩
  · intro W3 hb3
    simp only [List.take_succ_cons, List.take_zero, List.drop_succ_cons, List.drop_zero, endT]
    have HT3 := Lib.hid (HT2.out.kept hb3)
    have HZ3 := Lib.hid (Cells.kept HZ2.out hb3 HZ2.out.lt)
    have HB3 := Lib.hid (HB2.out.trans (hb3.mono HB2.out.size))
    clear hb3 HT2 HZ2 HB2
    intro gr9 _ _
    rw [← HQ1.out]
    have HT2 := HT3
    have HZ2 := HZ3
    have HB2 := HB3
    clear HT3 HZ3 HB3 ra0 ra1 ra1a ra2 ra2a ra3 ra3a ra4 ra4a
    go_upto_region 9 with fail
    refine wp_region_specs_tail 8 [.val (Value.pointer (some ⟨gz, 6, none⟩)), .val (Value.int .i64 (U : Int)), .val (Value.string T7), .val (Value.string o), .val (Value.string (T7 ++ o)), .val (Value.pointer (some ⟨gz, 8, none⟩)), .val (Value.string P), .val (Value.string (T7 ++ o ++ P))] (by kernel_rfl) (by kernel_rfl) (by kernel_rfl) (by kernel_rfl) (by kernel_rfl) (by kernel_rfl) (by kernel_rfl) (by kernel_rfl) ?_ ?_
    · refine ⟨⟨rfl, ?_⟩, ⟨rfl, ?_⟩, ⟨rfl, ?_⟩, ⟨rfl, ?_⟩, ⟨rfl, ?_⟩, ⟨rfl, ?_⟩, ⟨rfl, ?_⟩, ⟨rfl, ?_⟩, trivial⟩
      · intro a W hbW hk K hK
        have e5 := kvalT hk 5 (Value.pointer (some ⟨gz, 0, none⟩)) (by kernel_rfl)
        clear hk
        go_simp
        exact ⟨_, rfl, hK _ _ rfl (Below.refl _ _)⟩
      · intro a W hbW hk K hK
        have e100 := kvalT hk 100 (Value.pointer (some ⟨gz, 6, none⟩)) (by kernel_rfl)
        clear hk
        have yv := box_cell HZ2.out hbW 6 (Value.int .i64 (U : Int)) rfl
        go_simp
        exact ⟨_, rfl, hK _ _ rfl (Below.refl _ _)⟩
      · intro a W hbW hk K hK
        have e101 := kvalT hk 101 (Value.int .i64 (U : Int)) (by kernel_rfl)
        clear hk
        go_simp
        refine (HPT7.out W).mono ?_
        rintro e w9 ⟨rfl, hb9⟩
        exact ⟨_, rfl, hK _ _ rfl hb9⟩
      · intro a W hbW hk K hK
        have e8 := kvalT hk 8 (Value.string o) (by kernel_rfl)
        clear hk
        go_simp
        exact ⟨_, rfl, hK _ _ rfl (Below.refl _ _)⟩
      · intro a W hbW hk K hK
        have e102 := kvalT hk 102 (Value.string T7) (by kernel_rfl)
        have e103 := kvalT hk 103 (Value.string o) (by kernel_rfl)
        clear hk
        go_simp
        exact ⟨_, rfl, hK _ _ rfl (Below.refl _ _)⟩
      · intro a W hbW hk K hK
        have e5 := kvalT hk 5 (Value.pointer (some ⟨gz, 0, none⟩)) (by kernel_rfl)
        clear hk
        go_simp
        exact ⟨_, rfl, hK _ _ rfl (Below.refl _ _)⟩
      · intro a W hbW hk K hK
        have e105 := kvalT hk 105 (Value.pointer (some ⟨gz, 8, none⟩)) (by kernel_rfl)
        clear hk
        have yv := box_cell HZ2.out hbW 8 (Value.string P) rfl
        go_simp
        exact ⟨_, rfl, hK _ _ rfl (Below.refl _ _)⟩
      · intro a W hbW hk K hK
        have e104 := kvalT hk 104 (Value.string (T7 ++ o)) (by kernel_rfl)
        have e106 := kvalT hk 106 (Value.string P) (by kernel_rfl)
        clear hk
        go_simp
        exact ⟨_, rfl, hK _ _ rfl (Below.refl _ _)⟩
    · intro W4 hb4
      simp only [List.take_succ_cons, List.take_zero, List.drop_succ_cons, List.drop_zero, endT]
      have HT4 := Lib.hid (HT2.out.kept hb4)
      have HB4 := Lib.hid (HB2.out.trans (hb4.mono HB2.out.size))
      clear hb4 HT2 HZ2 HB2
      rw [← HQ2.out]
      obtain ⟨q0, q1, q2, q3, q4, q5, q6⟩ := id HT4.out
      clear ra5 ra6 ra6a
      go_wp2_with fail
      refine (HPS.out _).mono ?_
      rintro e w5 ⟨rfl, hb5⟩
      have HB5 := Lib.hid (HB4.out.trans (hb5.mono HB4.out.size))
      clear hb5 HB4 HT4 q0 q1 q2 q3 q4 q5 q6
      go_wp2_with fail
      refine (HSUM.out _).mono ?_
      rintro e w6 ⟨rfl, rfl⟩
      go_wp2_with fail
      refine (HPT8.out _).mono ?_
      rintro e w7 ⟨rfl, hb7⟩
      have HB7 := Lib.hid (HB5.out.trans (hb7.mono HB5.out.size))
      clear hb7 HB5
      go_wp2_with fail
      go_ret2
      exact ⟨hR2.out, HB7.out⟩
end Go.Proofs.YtmfoionlapcgkaaDoor
