/- Contracts of the functions, part 38: Ip4REnc. -/
import Derived.Deep.Cut
import Derived.Test.YtimilcjlogcfhaaPE14
import Derived.Test.YtimilcjlogcfhaaPE18
import Derived.Test.YtimilcjlogcfhaaPE33
import Derived.Test.YtimilcjlogcfhaaPE36
import Derived.Test.YtimilcjlogcfhaaPE37
/- Contract of the reference of layer 11: Encode. -/
namespace Go.Proofs.Ytimilcjlogcfhaa
open Go.ChangeShapes Go.WideShapes Go.ChangeAt Go.RowKit
set_option linter.unusedVariables false

theorem bytes4_any (lo : Nat) (w : World) (h : lo < 4294967296) :
    Calls Try.prog 44 #[.agg #[.bool false, .int .u64 0, .int .u64 (lo : Int)]] w fun e w' => e = .returned (.string (str (beL 4 lo))) ∧ Below w.heap.size w w' := by
  have := rbytes_any false 0 lo w (by decide) (by omega)
  exact this
theorem kval {l : List Oper} {ss : List Spec} {a0 a : Act} {o : Oper} {base : Nat} {w : World} (hk : ∀ k s', knownS l ss a0 o k = some s' → s'.ok base (a.tmps.getD k undef) w) (k : Nat) (v : Value) (h : knownS l ss a0 o k = some (.val v)) : a.tmps[k]?.getD undef = v := by
  have := hk k _ h
  rw [Array.getD_eq_getD_getElem?] at this
  exact this
theorem krow {l : List Oper} {ss : List Spec} {a0 a : Act} {o : Oper} {base : Nat} {w : World} (hk : ∀ k s', knownS l ss a0 o k = some s' → s'.ok base (a.tmps.getD k undef) w) (k : Nat) (cs : Array Value) (e : TypeId) (n : Nat) (h : knownS l ss a0 o k = some (.row cs e n)) : ∃ g, a.tmps[k]?.getD undef = .slice (some ⟨g, 0, none⟩) n n ∧ base ≤ g ∧ w.heap[g]? = some (.cells cs e (0, 0)) := by
  have := hk k _ h
  rw [Array.getD_eq_getD_getElem?] at this
  exact this
/-- string([]byte{a, b}). -/
theorem two_strW (W : World) (g : Nat) (a b : Nat) (ha : a < 256) (hb : b < 256) (h : W.heap[g]? = some (.cells #[.int .u8 (a : Int), .int .u8 (b : Int)] 5 (0, 0))) : (convert 46 9 (.slice (some ⟨g, 0, none⟩) 2 2)).run Try.prog W = .ok (.string (str [UInt8.ofNat a, UInt8.ofNat b])) W := by
  have hla : (UInt8.ofNat a).toNat = a := by rw [UInt8.toNat_ofNat']; omega
  have hlb : (UInt8.ofNat b).toNat = b := by rw [UInt8.toNat_ofNat']; omega
  have hbs : BS W 0 (.slice (some ⟨g, 0, none⟩) [UInt8.ofNat a, UInt8.ofNat b].length 2) [UInt8.ofNat a, UInt8.ofNat b] := by
    refine ⟨some ⟨g, 0, none⟩, 2, rfl, Nat.le_refl _, fun _ => ⟨g, 0, rfl, Nat.zero_le _, (Array.getElem?_eq_some_iff.1 h).1, fun j hj => ?_⟩⟩
    have hj2 : j = 0 ∨ j = 1 := by simp at hj; omega
    rcases hj2 with rfl | rfl
    · simp [World.cell?, World.frozen?, h, hla]
    · simp [World.cell?, World.frozen?, h, hlb]
  exact bs_string hbs
set_option maxHeartbeats 8000000 in
set_option maxRecDepth 100000 in
theorem renc11_any (tos id ttl proto off : Int) (dont more sv dv : Bool) (sh sl dh dl : Nat) (l : List OpR) (pay : List UInt8) (A : Option Addr) (c : Nat) (w : World) (h : RowL EOpt w A l) (h1 : sh < 18446744073709551616) (h2 : sl < 18446744073709551616) (h3 : dh < 18446744073709551616) (h4 : dl < 18446744073709551616) (hl : l.length ≤ 1000000) (hd : ∀ x ∈ l, x.dat.length ≤ 4611686018427387904) (hp : pay.length ≤ 1000000) :
    Calls Try.prog 16 #[.agg #[.int .i64 tos, .int .i64 id, .int .i64 ttl, .int .i64 proto, .bool dont, .bool more, .int .i64 off, .bool sv, .int .u64 (sh : Int), .int .u64 (sl : Int), .bool dv, .int .u64 (dh : Int), .int .u64 (dl : Int), .slice A l.length c, .string (str pay)]] w fun e w' =>
      e = .returned (.tuple #[.string (str (encI ⟨tos, id, ttl, proto, dont, more, off, ⟨sv, sh, sl⟩, ⟨dv, dh, dl⟩, l, pay⟩).1), .int .i64 ((encI ⟨tos, id, ttl, proto, dont, more, off, ⟨sv, sh, sl⟩, ⟨dv, dh, dl⟩, l, pay⟩).2 : Int)]) ∧ Below w.heap.size w w' := by
  obtain ⟨p, hpe⟩ : ∃ p, p = (⟨tos, id, ttl, proto, dont, more, off, ⟨sv, sh, sl⟩, ⟨dv, dh, dl⟩, l, pay⟩ : Ip4R) := ⟨_, rfl⟩
  rw [← hpe]
  obtain ⟨R, hR⟩ : ∃ R, R = encI p := ⟨_, rfl⟩
  rw [← hR]
  unfold encI at hR
  have HBDF := Lib.hid (show badI p ↔ ((tos < 0 ∨ 255 < tos) ∨ (ttl < 0 ∨ 255 < ttl) ∨ (proto < 0 ∨ 255 < proto) ∨ (id < 0 ∨ 65535 < id) ∨ (off < 0 ∨ 65528 < off ∨ off % 8 ≠ 0) ∨ ¬ a4 ⟨sv, sh, sl⟩ ∨ ¬ a4 ⟨dv, dh, dl⟩ ∨ ∃ x ∈ l, x.kd < 2 ∨ 255 < x.kd) by rw [hpe]; exact Iff.rfl)
  have HOPS := Lib.hid (show p.ops = l by rw [hpe])
  have HPAY := Lib.hid (show p.pay = pay by rw [hpe])
  have HPE := Lib.hid hpe
  obtain ⟨n, hnl⟩ : ∃ n, n = l.length := ⟨_, rfl⟩
  rw [← hnl] at hl ⊢
  obtain ⟨P, hP⟩ : ∃ P, P = str pay := ⟨_, rfl⟩
  have hPs : P.size = pay.length := by rw [hP, str_size]
  have hPs6 : P.size ≤ 1000000 := by omega
  have HPS := Lib.hid hPs
  have HPP := Lib.hid hP
  rw [← hP]
  have HKI := Lib.hid (fun (W : World) (hb : Below w.heap.size w W) => by
    have := rkinds11_any A c l W (h.kept hb) (by omega)
    rwa [← hnl] at this)
  have HNE := Lib.hid (fun (W : World) (hb : Below w.heap.size w W) => by
    have := rneed11_any A c l W (h.kept hb) (by omega) hd
    rwa [← hnl] at this)
  have HWR := Lib.hid (fun (h4 : (wrOs l).length ≤ 40) (h5 : okK l) (W : World) (hb : Below w.heap.size w W) => by
    have := rwritten11_any A c l W (h.kept hb) h4 h5
    rwa [← hnl] at this)
  have HOK := Lib.hid (show okK l ↔ ¬ ∃ x ∈ l, x.kd < 2 ∨ 255 < x.kd from ⟨fun h ⟨x, hx, hh⟩ => by have := h x hx; omega, fun h x hx => by
    have h' : ¬ (x.kd < 2 ∨ 255 < x.kd) := fun e => h ⟨x, hx, e⟩
    omega⟩)
  obtain ⟨W1, hW1⟩ : ∃ W, W = w.alloc (.cells #[.int .i64 tos, .int .i64 id, .int .i64 ttl, .int .i64 proto, .bool dont, .bool more, .int .i64 off, .bool sv, .int .u64 (sh : Int), .int .u64 (sl : Int), .bool dv, .int .u64 (dh : Int), .int .u64 (dl : Int), .slice A n c, .string P] 28) := ⟨_, rfl⟩
  obtain ⟨g, hg⟩ : ∃ g, g = w.heap.size := ⟨_, rfl⟩
  have HX := Lib.hid (show Cells W1 g 28 #[.int .i64 tos, .int .i64 id, .int .i64 ttl, .int .i64 proto, .bool dont, .bool more, .int .i64 off, .bool sv, .int .u64 (sh : Int), .int .u64 (sl : Int), .bool dv, .int .u64 (dh : Int), .int .u64 (dl : Int), .slice A n c, .string P] by rw [hW1, hg]; exact heap_alloc_new w _)
  have HB1 := Lib.hid (show Below w.heap.size w W1 by rw [hW1]; exact below_alloc6 w _)
  have HV := Lib.hid (fun (W : World) (hb : Below W1.heap.size W1 W) (i : Nat) (v : Value) (hv : (#[.int .i64 tos, .int .i64 id, .int .i64 ttl, .int .i64 proto, .bool dont, .bool more, .int .i64 off, .bool sv, .int .u64 (sh : Int), .int .u64 (sl : Int), .bool dv, .int .u64 (dh : Int), .int .u64 (dl : Int), .slice A n c, .string P])[i]? = some v) => show W.cell? ⟨g, i, none⟩ = some v from box_cell HX.out hb i v hv)
  have HW := Lib.hid (fun (W : World) (hb : Below W1.heap.size W1 W) => HB1.out.trans (hb.mono HB1.out.size))
  clear h hnl hP hPs hd
  by_cases hbad : badI p
  · have hdf := HBDF.out.1 hbad
    clear hbad
    by_cases c0 : tos < 0 ∨ 255 < tos
    · skip
      have hR1 := Lib.hid (show R = ([], 4) by rw [hR, if_pos (HBDF.out.2 (.inl c0))])
      have HY0 := Lib.hid (fun (W : World) => show Calls Try.prog 38 #[.int .i64 tos] W fun e w' => e = .returned (.bool false) ∧ W = w' from by
        have := rbyte11_any tos W
        rwa [decide_eq_false (show ¬ (0 ≤ tos ∧ tos ≤ 255) by omega)] at this)
      have hW2 : W1 = w.alloc (.cells #[.int .i64 tos, .int .i64 id, .int .i64 ttl, .int .i64 proto, .bool dont, .bool more, .int .i64 off, .bool sv, .int .u64 (sh : Int), .int .u64 (sl : Int), .bool dv, .int .u64 (dh : Int), .int .u64 (dl : Int), .slice A n c, .string P] 28) := hW1
      have x0 := HV.out _ (Below.refl _ _) 0 (Value.int .i64 tos) rfl
      clear c0 hW1 hR HBDF
      go_enter Try.func16, Try.ntmps16
      go_wp2_with fail
      rw [← hW2, ← hg]
      clear hW2 hg
      refine (HY0.out _).mono ?_
      rintro e w1 ⟨rfl, rfl⟩
      have HBW := Lib.hid HB1.out
      go_wp2_with fail
      go_ret2
      exact ⟨by rw [hR1.out]; rfl, HBW.out⟩
    by_cases c1 : ttl < 0 ∨ 255 < ttl
    · skip
      have hR1 := Lib.hid (show R = ([], 4) by rw [hR, if_pos (HBDF.out.2 (.inr (.inl c1)))])
      have HY0 := Lib.hid (fun (W : World) => show Calls Try.prog 38 #[.int .i64 tos] W fun e w' => e = .returned (.bool true) ∧ W = w' from by
        have := rbyte11_any tos W
        rwa [decide_eq_true (show 0 ≤ tos ∧ tos ≤ 255 by omega)] at this)
      have HY1 := Lib.hid (fun (W : World) => show Calls Try.prog 38 #[.int .i64 ttl] W fun e w' => e = .returned (.bool false) ∧ W = w' from by
        have := rbyte11_any ttl W
        rwa [decide_eq_false (show ¬ (0 ≤ ttl ∧ ttl ≤ 255) by omega)] at this)
      have hW2 : W1 = w.alloc (.cells #[.int .i64 tos, .int .i64 id, .int .i64 ttl, .int .i64 proto, .bool dont, .bool more, .int .i64 off, .bool sv, .int .u64 (sh : Int), .int .u64 (sl : Int), .bool dv, .int .u64 (dh : Int), .int .u64 (dl : Int), .slice A n c, .string P] 28) := hW1
      have x0 := HV.out _ (Below.refl _ _) 0 (Value.int .i64 tos) rfl
      have x2 := HV.out _ (Below.refl _ _) 2 (Value.int .i64 ttl) rfl
      clear c0 c1 hW1 hR HBDF
      go_enter Try.func16, Try.ntmps16
      go_wp2_with fail
      rw [← hW2, ← hg]
      clear hW2 hg
      refine (HY0.out _).mono ?_
      rintro e w1 ⟨rfl, rfl⟩
      go_wp2_with fail
      refine (HY1.out _).mono ?_
      rintro e w1 ⟨rfl, rfl⟩
      have HBW := Lib.hid HB1.out
      go_wp2_with fail
      go_ret2
      exact ⟨by rw [hR1.out]; rfl, HBW.out⟩
    by_cases c2 : proto < 0 ∨ 255 < proto
    · skip
      have hR1 := Lib.hid (show R = ([], 4) by rw [hR, if_pos (HBDF.out.2 (.inr (.inr (.inl c2))))])
      have HY0 := Lib.hid (fun (W : World) => show Calls Try.prog 38 #[.int .i64 tos] W fun e w' => e = .returned (.bool true) ∧ W = w' from by
        have := rbyte11_any tos W
        rwa [decide_eq_true (show 0 ≤ tos ∧ tos ≤ 255 by omega)] at this)
      have HY1 := Lib.hid (fun (W : World) => show Calls Try.prog 38 #[.int .i64 ttl] W fun e w' => e = .returned (.bool true) ∧ W = w' from by
        have := rbyte11_any ttl W
        rwa [decide_eq_true (show 0 ≤ ttl ∧ ttl ≤ 255 by omega)] at this)
      have HY2 := Lib.hid (fun (W : World) => show Calls Try.prog 38 #[.int .i64 proto] W fun e w' => e = .returned (.bool false) ∧ W = w' from by
        have := rbyte11_any proto W
        rwa [decide_eq_false (show ¬ (0 ≤ proto ∧ proto ≤ 255) by omega)] at this)
      have hW2 : W1 = w.alloc (.cells #[.int .i64 tos, .int .i64 id, .int .i64 ttl, .int .i64 proto, .bool dont, .bool more, .int .i64 off, .bool sv, .int .u64 (sh : Int), .int .u64 (sl : Int), .bool dv, .int .u64 (dh : Int), .int .u64 (dl : Int), .slice A n c, .string P] 28) := hW1
      have x0 := HV.out _ (Below.refl _ _) 0 (Value.int .i64 tos) rfl
      have x2 := HV.out _ (Below.refl _ _) 2 (Value.int .i64 ttl) rfl
      have x3 := HV.out _ (Below.refl _ _) 3 (Value.int .i64 proto) rfl
      clear c0 c1 c2 hW1 hR HBDF
      go_enter Try.func16, Try.ntmps16
      go_wp2_with fail
      rw [← hW2, ← hg]
      clear hW2 hg
      refine (HY0.out _).mono ?_
      rintro e w1 ⟨rfl, rfl⟩
      go_wp2_with fail
      refine (HY1.out _).mono ?_
      rintro e w1 ⟨rfl, rfl⟩
      go_wp2_with fail
      refine (HY2.out _).mono ?_
      rintro e w1 ⟨rfl, rfl⟩
      have HBW := Lib.hid HB1.out
      go_wp2_with fail
      go_ret2
      exact ⟨by rw [hR1.out]; rfl, HBW.out⟩
    by_cases c3 : id < 0
    · skip
      have hR1 := Lib.hid (show R = ([], 4) by rw [hR, if_pos (HBDF.out.2 (.inr (.inr (.inr (.inl (.inl c3))))))])
      have HY0 := Lib.hid (fun (W : World) => show Calls Try.prog 38 #[.int .i64 tos] W fun e w' => e = .returned (.bool true) ∧ W = w' from by
        have := rbyte11_any tos W
        rwa [decide_eq_true (show 0 ≤ tos ∧ tos ≤ 255 by omega)] at this)
      have HY1 := Lib.hid (fun (W : World) => show Calls Try.prog 38 #[.int .i64 ttl] W fun e w' => e = .returned (.bool true) ∧ W = w' from by
        have := rbyte11_any ttl W
        rwa [decide_eq_true (show 0 ≤ ttl ∧ ttl ≤ 255 by omega)] at this)
      have HY2 := Lib.hid (fun (W : World) => show Calls Try.prog 38 #[.int .i64 proto] W fun e w' => e = .returned (.bool true) ∧ W = w' from by
        have := rbyte11_any proto W
        rwa [decide_eq_true (show 0 ≤ proto ∧ proto ≤ 255 by omega)] at this)
      have i3 : id < 0 := by omega
      have j3 : decide (id < 0) = true := decide_eq_true i3
      have hW2 : W1 = w.alloc (.cells #[.int .i64 tos, .int .i64 id, .int .i64 ttl, .int .i64 proto, .bool dont, .bool more, .int .i64 off, .bool sv, .int .u64 (sh : Int), .int .u64 (sl : Int), .bool dv, .int .u64 (dh : Int), .int .u64 (dl : Int), .slice A n c, .string P] 28) := hW1
      have x0 := HV.out _ (Below.refl _ _) 0 (Value.int .i64 tos) rfl
      have x1 := HV.out _ (Below.refl _ _) 1 (Value.int .i64 id) rfl
      have x2 := HV.out _ (Below.refl _ _) 2 (Value.int .i64 ttl) rfl
      have x3 := HV.out _ (Below.refl _ _) 3 (Value.int .i64 proto) rfl
      clear c0 c1 c2 c3 hW1 hR HBDF
      go_enter Try.func16, Try.ntmps16
      go_wp2_with fail
      rw [← hW2, ← hg]
      clear hW2 hg
      refine (HY0.out _).mono ?_
      rintro e w1 ⟨rfl, rfl⟩
      go_wp2_with fail
      refine (HY1.out _).mono ?_
      rintro e w1 ⟨rfl, rfl⟩
      go_wp2_with fail
      refine (HY2.out _).mono ?_
      rintro e w1 ⟨rfl, rfl⟩
      have HBW := Lib.hid HB1.out
      go_wp2_with fail
      go_ret2
      exact ⟨by rw [hR1.out]; rfl, HBW.out⟩
    by_cases c4 : 65535 < id
    · skip
      have hR1 := Lib.hid (show R = ([], 4) by rw [hR, if_pos (HBDF.out.2 (.inr (.inr (.inr (.inl (.inr c4))))))])
      have HY0 := Lib.hid (fun (W : World) => show Calls Try.prog 38 #[.int .i64 tos] W fun e w' => e = .returned (.bool true) ∧ W = w' from by
        have := rbyte11_any tos W
        rwa [decide_eq_true (show 0 ≤ tos ∧ tos ≤ 255 by omega)] at this)
      have HY1 := Lib.hid (fun (W : World) => show Calls Try.prog 38 #[.int .i64 ttl] W fun e w' => e = .returned (.bool true) ∧ W = w' from by
        have := rbyte11_any ttl W
        rwa [decide_eq_true (show 0 ≤ ttl ∧ ttl ≤ 255 by omega)] at this)
      have HY2 := Lib.hid (fun (W : World) => show Calls Try.prog 38 #[.int .i64 proto] W fun e w' => e = .returned (.bool true) ∧ W = w' from by
        have := rbyte11_any proto W
        rwa [decide_eq_true (show 0 ≤ proto ∧ proto ≤ 255 by omega)] at this)
      have i3 : ¬ id < 0 := by omega
      have j3 : decide (id < 0) = false := decide_eq_false i3
      have i4 : 65535 < id := by omega
      have j4 : decide (65535 < id) = true := decide_eq_true i4
      have hW2 : W1 = w.alloc (.cells #[.int .i64 tos, .int .i64 id, .int .i64 ttl, .int .i64 proto, .bool dont, .bool more, .int .i64 off, .bool sv, .int .u64 (sh : Int), .int .u64 (sl : Int), .bool dv, .int .u64 (dh : Int), .int .u64 (dl : Int), .slice A n c, .string P] 28) := hW1
      have x0 := HV.out _ (Below.refl _ _) 0 (Value.int .i64 tos) rfl
      have x1 := HV.out _ (Below.refl _ _) 1 (Value.int .i64 id) rfl
      have x2 := HV.out _ (Below.refl _ _) 2 (Value.int .i64 ttl) rfl
      have x3 := HV.out _ (Below.refl _ _) 3 (Value.int .i64 proto) rfl
      clear c0 c1 c2 c3 c4 hW1 hR HBDF
      go_enter Try.func16, Try.ntmps16
      go_wp2_with fail
      rw [← hW2, ← hg]
      clear hW2 hg
      refine (HY0.out _).mono ?_
      rintro e w1 ⟨rfl, rfl⟩
      go_wp2_with fail
      refine (HY1.out _).mono ?_
      rintro e w1 ⟨rfl, rfl⟩
      go_wp2_with fail
      refine (HY2.out _).mono ?_
      rintro e w1 ⟨rfl, rfl⟩
      have HBW := Lib.hid HB1.out
      go_wp2_with fail
      go_ret2
      exact ⟨by rw [hR1.out]; rfl, HBW.out⟩
    by_cases c5 : off < 0
    · skip
      have hR1 := Lib.hid (show R = ([], 4) by rw [hR, if_pos (HBDF.out.2 (.inr (.inr (.inr (.inr (.inl (.inl c5)))))))])
      have HY0 := Lib.hid (fun (W : World) => show Calls Try.prog 38 #[.int .i64 tos] W fun e w' => e = .returned (.bool true) ∧ W = w' from by
        have := rbyte11_any tos W
        rwa [decide_eq_true (show 0 ≤ tos ∧ tos ≤ 255 by omega)] at this)
      have HY1 := Lib.hid (fun (W : World) => show Calls Try.prog 38 #[.int .i64 ttl] W fun e w' => e = .returned (.bool true) ∧ W = w' from by
        have := rbyte11_any ttl W
        rwa [decide_eq_true (show 0 ≤ ttl ∧ ttl ≤ 255 by omega)] at this)
      have HY2 := Lib.hid (fun (W : World) => show Calls Try.prog 38 #[.int .i64 proto] W fun e w' => e = .returned (.bool true) ∧ W = w' from by
        have := rbyte11_any proto W
        rwa [decide_eq_true (show 0 ≤ proto ∧ proto ≤ 255 by omega)] at this)
      have i3 : ¬ id < 0 := by omega
      have j3 : decide (id < 0) = false := decide_eq_false i3
      have i4 : ¬ 65535 < id := by omega
      have j4 : decide (65535 < id) = false := decide_eq_false i4
      have i5 : off < 0 := by omega
      have j5 : decide (off < 0) = true := decide_eq_true i5
      have hW2 : W1 = w.alloc (.cells #[.int .i64 tos, .int .i64 id, .int .i64 ttl, .int .i64 proto, .bool dont, .bool more, .int .i64 off, .bool sv, .int .u64 (sh : Int), .int .u64 (sl : Int), .bool dv, .int .u64 (dh : Int), .int .u64 (dl : Int), .slice A n c, .string P] 28) := hW1
      have x0 := HV.out _ (Below.refl _ _) 0 (Value.int .i64 tos) rfl
      have x1 := HV.out _ (Below.refl _ _) 1 (Value.int .i64 id) rfl
      have x2 := HV.out _ (Below.refl _ _) 2 (Value.int .i64 ttl) rfl
      have x3 := HV.out _ (Below.refl _ _) 3 (Value.int .i64 proto) rfl
      have x6 := HV.out _ (Below.refl _ _) 6 (Value.int .i64 off) rfl
      clear c0 c1 c2 c3 c4 c5 hW1 hR HBDF
      go_enter Try.func16, Try.ntmps16
      go_wp2_with fail
      rw [← hW2, ← hg]
      clear hW2 hg
      refine (HY0.out _).mono ?_
      rintro e w1 ⟨rfl, rfl⟩
      go_wp2_with fail
      refine (HY1.out _).mono ?_
      rintro e w1 ⟨rfl, rfl⟩
      go_wp2_with fail
      refine (HY2.out _).mono ?_
      rintro e w1 ⟨rfl, rfl⟩
      have HBW := Lib.hid HB1.out
      go_wp2_with fail
      go_ret2
      exact ⟨by rw [hR1.out]; rfl, HBW.out⟩
    by_cases c6 : 65528 < off
    · skip
      have hR1 := Lib.hid (show R = ([], 4) by rw [hR, if_pos (HBDF.out.2 (.inr (.inr (.inr (.inr (.inl (.inr (.inl c6))))))))])
      have HY0 := Lib.hid (fun (W : World) => show Calls Try.prog 38 #[.int .i64 tos] W fun e w' => e = .returned (.bool true) ∧ W = w' from by
        have := rbyte11_any tos W
        rwa [decide_eq_true (show 0 ≤ tos ∧ tos ≤ 255 by omega)] at this)
      have HY1 := Lib.hid (fun (W : World) => show Calls Try.prog 38 #[.int .i64 ttl] W fun e w' => e = .returned (.bool true) ∧ W = w' from by
        have := rbyte11_any ttl W
        rwa [decide_eq_true (show 0 ≤ ttl ∧ ttl ≤ 255 by omega)] at this)
      have HY2 := Lib.hid (fun (W : World) => show Calls Try.prog 38 #[.int .i64 proto] W fun e w' => e = .returned (.bool true) ∧ W = w' from by
        have := rbyte11_any proto W
        rwa [decide_eq_true (show 0 ≤ proto ∧ proto ≤ 255 by omega)] at this)
      have i3 : ¬ id < 0 := by omega
      have j3 : decide (id < 0) = false := decide_eq_false i3
      have i4 : ¬ 65535 < id := by omega
      have j4 : decide (65535 < id) = false := decide_eq_false i4
      have i5 : ¬ off < 0 := by omega
      have j5 : decide (off < 0) = false := decide_eq_false i5
      have i6 : 65528 < off := by omega
      have j6 : decide (65528 < off) = true := decide_eq_true i6
      have hW2 : W1 = w.alloc (.cells #[.int .i64 tos, .int .i64 id, .int .i64 ttl, .int .i64 proto, .bool dont, .bool more, .int .i64 off, .bool sv, .int .u64 (sh : Int), .int .u64 (sl : Int), .bool dv, .int .u64 (dh : Int), .int .u64 (dl : Int), .slice A n c, .string P] 28) := hW1
      have x0 := HV.out _ (Below.refl _ _) 0 (Value.int .i64 tos) rfl
      have x1 := HV.out _ (Below.refl _ _) 1 (Value.int .i64 id) rfl
      have x2 := HV.out _ (Below.refl _ _) 2 (Value.int .i64 ttl) rfl
      have x3 := HV.out _ (Below.refl _ _) 3 (Value.int .i64 proto) rfl
      have x6 := HV.out _ (Below.refl _ _) 6 (Value.int .i64 off) rfl
      clear c0 c1 c2 c3 c4 c5 c6 hW1 hR HBDF
      go_enter Try.func16, Try.ntmps16
      go_wp2_with fail
      rw [← hW2, ← hg]
      clear hW2 hg
      refine (HY0.out _).mono ?_
      rintro e w1 ⟨rfl, rfl⟩
      go_wp2_with fail
      refine (HY1.out _).mono ?_
      rintro e w1 ⟨rfl, rfl⟩
      go_wp2_with fail
      refine (HY2.out _).mono ?_
      rintro e w1 ⟨rfl, rfl⟩
      have HBW := Lib.hid HB1.out
      go_wp2_with fail
      go_ret2
      exact ⟨by rw [hR1.out]; rfl, HBW.out⟩
    by_cases c7 : off % 8 ≠ 0
    · skip
      have hR1 := Lib.hid (show R = ([], 4) by rw [hR, if_pos (HBDF.out.2 (.inr (.inr (.inr (.inr (.inl (.inr (.inr c7))))))))])
      have HY0 := Lib.hid (fun (W : World) => show Calls Try.prog 38 #[.int .i64 tos] W fun e w' => e = .returned (.bool true) ∧ W = w' from by
        have := rbyte11_any tos W
        rwa [decide_eq_true (show 0 ≤ tos ∧ tos ≤ 255 by omega)] at this)
      have HY1 := Lib.hid (fun (W : World) => show Calls Try.prog 38 #[.int .i64 ttl] W fun e w' => e = .returned (.bool true) ∧ W = w' from by
        have := rbyte11_any ttl W
        rwa [decide_eq_true (show 0 ≤ ttl ∧ ttl ≤ 255 by omega)] at this)
      have HY2 := Lib.hid (fun (W : World) => show Calls Try.prog 38 #[.int .i64 proto] W fun e w' => e = .returned (.bool true) ∧ W = w' from by
        have := rbyte11_any proto W
        rwa [decide_eq_true (show 0 ≤ proto ∧ proto ≤ 255 by omega)] at this)
      have i3 : ¬ id < 0 := by omega
      have j3 : decide (id < 0) = false := decide_eq_false i3
      have i4 : ¬ 65535 < id := by omega
      have j4 : decide (65535 < id) = false := decide_eq_false i4
      have i5 : ¬ off < 0 := by omega
      have j5 : decide (off < 0) = false := decide_eq_false i5
      have i6 : ¬ 65528 < off := by omega
      have j6 : decide (65528 < off) = false := decide_eq_false i6
      have i7 : ¬ off % 8 = 0 := by omega
      have j7 : ¬ off.tmod 8 = 0 := by rw [Int.tmod_eq_emod_of_nonneg (by omega)]; exact i7
      have k7 : (off.tmod 8 != 0) = true := by rw [bne_iff_ne]; exact j7
      have m7 : (off % 8 != 0) = true := by rw [bne_iff_ne]; exact i7
      have hW2 : W1 = w.alloc (.cells #[.int .i64 tos, .int .i64 id, .int .i64 ttl, .int .i64 proto, .bool dont, .bool more, .int .i64 off, .bool sv, .int .u64 (sh : Int), .int .u64 (sl : Int), .bool dv, .int .u64 (dh : Int), .int .u64 (dl : Int), .slice A n c, .string P] 28) := hW1
      have x0 := HV.out _ (Below.refl _ _) 0 (Value.int .i64 tos) rfl
      have x1 := HV.out _ (Below.refl _ _) 1 (Value.int .i64 id) rfl
      have x2 := HV.out _ (Below.refl _ _) 2 (Value.int .i64 ttl) rfl
      have x3 := HV.out _ (Below.refl _ _) 3 (Value.int .i64 proto) rfl
      have x6 := HV.out _ (Below.refl _ _) 6 (Value.int .i64 off) rfl
      clear c0 c1 c2 c3 c4 c5 c6 c7 hW1 hR HBDF
      go_enter Try.func16, Try.ntmps16
      go_wp2_with fail
      rw [← hW2, ← hg]
      clear hW2 hg
      refine (HY0.out _).mono ?_
      rintro e w1 ⟨rfl, rfl⟩
      go_wp2_with fail
      refine (HY1.out _).mono ?_
      rintro e w1 ⟨rfl, rfl⟩
      go_wp2_with fail
      refine (HY2.out _).mono ?_
      rintro e w1 ⟨rfl, rfl⟩
      have HBW := Lib.hid HB1.out
      go_wp2_with fail
      go_ret2
      exact ⟨by rw [hR1.out]; rfl, HBW.out⟩
    by_cases c8 : ¬ a4 ⟨sv, sh, sl⟩
    · skip
      have hR1 := Lib.hid (show R = ([], 4) by rw [hR, if_pos (HBDF.out.2 (.inr (.inr (.inr (.inr (.inr (.inl c8)))))))])
      have HY0 := Lib.hid (fun (W : World) => show Calls Try.prog 38 #[.int .i64 tos] W fun e w' => e = .returned (.bool true) ∧ W = w' from by
        have := rbyte11_any tos W
        rwa [decide_eq_true (show 0 ≤ tos ∧ tos ≤ 255 by omega)] at this)
      have HY1 := Lib.hid (fun (W : World) => show Calls Try.prog 38 #[.int .i64 ttl] W fun e w' => e = .returned (.bool true) ∧ W = w' from by
        have := rbyte11_any ttl W
        rwa [decide_eq_true (show 0 ≤ ttl ∧ ttl ≤ 255 by omega)] at this)
      have HY2 := Lib.hid (fun (W : World) => show Calls Try.prog 38 #[.int .i64 proto] W fun e w' => e = .returned (.bool true) ∧ W = w' from by
        have := rbyte11_any proto W
        rwa [decide_eq_true (show 0 ≤ proto ∧ proto ≤ 255 by omega)] at this)
      have i3 : ¬ id < 0 := by omega
      have j3 : decide (id < 0) = false := decide_eq_false i3
      have i4 : ¬ 65535 < id := by omega
      have j4 : decide (65535 < id) = false := decide_eq_false i4
      have i5 : ¬ off < 0 := by omega
      have j5 : decide (off < 0) = false := decide_eq_false i5
      have i6 : ¬ 65528 < off := by omega
      have j6 : decide (65528 < off) = false := decide_eq_false i6
      have i7 : off % 8 = 0 := by omega
      have j7 : off.tmod 8 = 0 := by rw [Int.tmod_eq_emod_of_nonneg (by omega)]; exact i7
      have HA8 := Lib.hid (fun (W : World) => show Calls Try.prog 39 #[.agg #[.bool sv, .int .u64 (sh : Int), .int .u64 (sl : Int)]] W fun e w' => e = .returned (.bool false) ∧ Below W.heap.size W w' from by
        have := raddr11_any sv sh sl W
        rwa [decide_eq_false c8] at this)
      have hW2 : W1 = w.alloc (.cells #[.int .i64 tos, .int .i64 id, .int .i64 ttl, .int .i64 proto, .bool dont, .bool more, .int .i64 off, .bool sv, .int .u64 (sh : Int), .int .u64 (sl : Int), .bool dv, .int .u64 (dh : Int), .int .u64 (dl : Int), .slice A n c, .string P] 28) := hW1
      have x0 := HV.out _ (Below.refl _ _) 0 (Value.int .i64 tos) rfl
      have x1 := HV.out _ (Below.refl _ _) 1 (Value.int .i64 id) rfl
      have x2 := HV.out _ (Below.refl _ _) 2 (Value.int .i64 ttl) rfl
      have x3 := HV.out _ (Below.refl _ _) 3 (Value.int .i64 proto) rfl
      have x4 := HV.out _ (Below.refl _ _) 4 (Value.bool dont) rfl
      have x5 := HV.out _ (Below.refl _ _) 5 (Value.bool more) rfl
      have x6 := HV.out _ (Below.refl _ _) 6 (Value.int .i64 off) rfl
      have x7 := HV.out _ (Below.refl _ _) 7 (Value.bool sv) rfl
      have x8 := HV.out _ (Below.refl _ _) 8 (Value.int .u64 (sh : Int)) rfl
      have x9 := HV.out _ (Below.refl _ _) 9 (Value.int .u64 (sl : Int)) rfl
      have x10 := HV.out _ (Below.refl _ _) 10 (Value.bool dv) rfl
      have x11 := HV.out _ (Below.refl _ _) 11 (Value.int .u64 (dh : Int)) rfl
      have x12 := HV.out _ (Below.refl _ _) 12 (Value.int .u64 (dl : Int)) rfl
      have x13 := HV.out _ (Below.refl _ _) 13 (Value.slice A n c) rfl
      have x14 := HV.out _ (Below.refl _ _) 14 (Value.string P) rfl
      clear c0 c1 c2 c3 c4 c5 c6 c7 c8 hW1 hR HBDF
      go_enter Try.func16, Try.ntmps16
      go_wp2_with fail
      rw [← hW2, ← hg]
      clear hW2 hg
      refine (HY0.out _).mono ?_
      rintro e w1 ⟨rfl, rfl⟩
      go_wp2_with fail
      refine (HY1.out _).mono ?_
      rintro e w1 ⟨rfl, rfl⟩
      go_wp2_with fail
      refine (HY2.out _).mono ?_
      rintro e w1 ⟨rfl, rfl⟩
      go_wp2_with fail
      refine (HA8.out _).mono ?_
      rintro e w2 ⟨rfl, hb2⟩
      have HB2 := Lib.hid hb2
      clear x0 x1 x2 x3 x4 x5 x6 x7 x8 x9 x10 x11 x12 x13 x14 hb2
      have x10 := HV.out _ HB2.out 10 (Value.bool dv) rfl
      have x11 := HV.out _ HB2.out 11 (Value.int .u64 (dh : Int)) rfl
      have x12 := HV.out _ HB2.out 12 (Value.int .u64 (dl : Int)) rfl
      have x13 := HV.out _ HB2.out 13 (Value.slice A n c) rfl
      have HBW := Lib.hid (HW.out _ HB2.out)
      go_wp2_with fail
      go_ret2
      exact ⟨by rw [hR1.out]; rfl, HBW.out⟩
    by_cases c9 : ¬ a4 ⟨dv, dh, dl⟩
    · skip
      have hR1 := Lib.hid (show R = ([], 4) by rw [hR, if_pos (HBDF.out.2 (.inr (.inr (.inr (.inr (.inr (.inr (.inl c9))))))))])
      have HY0 := Lib.hid (fun (W : World) => show Calls Try.prog 38 #[.int .i64 tos] W fun e w' => e = .returned (.bool true) ∧ W = w' from by
        have := rbyte11_any tos W
        rwa [decide_eq_true (show 0 ≤ tos ∧ tos ≤ 255 by omega)] at this)
      have HY1 := Lib.hid (fun (W : World) => show Calls Try.prog 38 #[.int .i64 ttl] W fun e w' => e = .returned (.bool true) ∧ W = w' from by
        have := rbyte11_any ttl W
        rwa [decide_eq_true (show 0 ≤ ttl ∧ ttl ≤ 255 by omega)] at this)
      have HY2 := Lib.hid (fun (W : World) => show Calls Try.prog 38 #[.int .i64 proto] W fun e w' => e = .returned (.bool true) ∧ W = w' from by
        have := rbyte11_any proto W
        rwa [decide_eq_true (show 0 ≤ proto ∧ proto ≤ 255 by omega)] at this)
      have i3 : ¬ id < 0 := by omega
      have j3 : decide (id < 0) = false := decide_eq_false i3
      have i4 : ¬ 65535 < id := by omega
      have j4 : decide (65535 < id) = false := decide_eq_false i4
      have i5 : ¬ off < 0 := by omega
      have j5 : decide (off < 0) = false := decide_eq_false i5
      have i6 : ¬ 65528 < off := by omega
      have j6 : decide (65528 < off) = false := decide_eq_false i6
      have i7 : off % 8 = 0 := by omega
      have j7 : off.tmod 8 = 0 := by rw [Int.tmod_eq_emod_of_nonneg (by omega)]; exact i7
      have HA8 := Lib.hid (fun (W : World) => show Calls Try.prog 39 #[.agg #[.bool sv, .int .u64 (sh : Int), .int .u64 (sl : Int)]] W fun e w' => e = .returned (.bool true) ∧ Below W.heap.size W w' from by
        have := raddr11_any sv sh sl W
        rwa [decide_eq_true (Decidable.byContradiction c8)] at this)
      have HA9 := Lib.hid (fun (W : World) => show Calls Try.prog 39 #[.agg #[.bool dv, .int .u64 (dh : Int), .int .u64 (dl : Int)]] W fun e w' => e = .returned (.bool false) ∧ Below W.heap.size W w' from by
        have := raddr11_any dv dh dl W
        rwa [decide_eq_false c9] at this)
      have hW2 : W1 = w.alloc (.cells #[.int .i64 tos, .int .i64 id, .int .i64 ttl, .int .i64 proto, .bool dont, .bool more, .int .i64 off, .bool sv, .int .u64 (sh : Int), .int .u64 (sl : Int), .bool dv, .int .u64 (dh : Int), .int .u64 (dl : Int), .slice A n c, .string P] 28) := hW1
      have x0 := HV.out _ (Below.refl _ _) 0 (Value.int .i64 tos) rfl
      have x1 := HV.out _ (Below.refl _ _) 1 (Value.int .i64 id) rfl
      have x2 := HV.out _ (Below.refl _ _) 2 (Value.int .i64 ttl) rfl
      have x3 := HV.out _ (Below.refl _ _) 3 (Value.int .i64 proto) rfl
      have x4 := HV.out _ (Below.refl _ _) 4 (Value.bool dont) rfl
      have x5 := HV.out _ (Below.refl _ _) 5 (Value.bool more) rfl
      have x6 := HV.out _ (Below.refl _ _) 6 (Value.int .i64 off) rfl
      have x7 := HV.out _ (Below.refl _ _) 7 (Value.bool sv) rfl
      have x8 := HV.out _ (Below.refl _ _) 8 (Value.int .u64 (sh : Int)) rfl
      have x9 := HV.out _ (Below.refl _ _) 9 (Value.int .u64 (sl : Int)) rfl
      have x10 := HV.out _ (Below.refl _ _) 10 (Value.bool dv) rfl
      have x11 := HV.out _ (Below.refl _ _) 11 (Value.int .u64 (dh : Int)) rfl
      have x12 := HV.out _ (Below.refl _ _) 12 (Value.int .u64 (dl : Int)) rfl
      have x13 := HV.out _ (Below.refl _ _) 13 (Value.slice A n c) rfl
      have x14 := HV.out _ (Below.refl _ _) 14 (Value.string P) rfl
      clear c0 c1 c2 c3 c4 c5 c6 c7 c8 c9 hW1 hR HBDF
      go_enter Try.func16, Try.ntmps16
      go_wp2_with fail
      rw [← hW2, ← hg]
      clear hW2 hg
      refine (HY0.out _).mono ?_
      rintro e w1 ⟨rfl, rfl⟩
      go_wp2_with fail
      refine (HY1.out _).mono ?_
      rintro e w1 ⟨rfl, rfl⟩
      go_wp2_with fail
      refine (HY2.out _).mono ?_
      rintro e w1 ⟨rfl, rfl⟩
      go_wp2_with fail
      refine (HA8.out _).mono ?_
      rintro e w2 ⟨rfl, hb2⟩
      have HB2 := Lib.hid hb2
      clear x0 x1 x2 x3 x4 x5 x6 x7 x8 x9 x10 x11 x12 x13 x14 hb2
      have x10 := HV.out _ HB2.out 10 (Value.bool dv) rfl
      have x11 := HV.out _ HB2.out 11 (Value.int .u64 (dh : Int)) rfl
      have x12 := HV.out _ HB2.out 12 (Value.int .u64 (dl : Int)) rfl
      have x13 := HV.out _ HB2.out 13 (Value.slice A n c) rfl
      go_wp2_with fail
      refine (HA9.out _).mono ?_
      rintro e w3 ⟨rfl, hb3⟩
      have HB3 := Lib.hid (HB2.out.trans (hb3.mono HB2.out.size))
      clear x10 x11 x12 x13 hb3
      have x13 := HV.out _ HB3.out 13 (Value.slice A n c) rfl
      have HBW := Lib.hid (HW.out _ HB3.out)
      go_wp2_with fail
      go_ret2
      exact ⟨by rw [hR1.out]; rfl, HBW.out⟩
    by_cases c10 : ∃ x ∈ l, x.kd < 2 ∨ 255 < x.kd
    · skip
      have hR1 := Lib.hid (show R = ([], 4) by rw [hR, if_pos (HBDF.out.2 (.inr (.inr (.inr (.inr (.inr (.inr (.inr c10))))))))])
      have HY0 := Lib.hid (fun (W : World) => show Calls Try.prog 38 #[.int .i64 tos] W fun e w' => e = .returned (.bool true) ∧ W = w' from by
        have := rbyte11_any tos W
        rwa [decide_eq_true (show 0 ≤ tos ∧ tos ≤ 255 by omega)] at this)
      have HY1 := Lib.hid (fun (W : World) => show Calls Try.prog 38 #[.int .i64 ttl] W fun e w' => e = .returned (.bool true) ∧ W = w' from by
        have := rbyte11_any ttl W
        rwa [decide_eq_true (show 0 ≤ ttl ∧ ttl ≤ 255 by omega)] at this)
      have HY2 := Lib.hid (fun (W : World) => show Calls Try.prog 38 #[.int .i64 proto] W fun e w' => e = .returned (.bool true) ∧ W = w' from by
        have := rbyte11_any proto W
        rwa [decide_eq_true (show 0 ≤ proto ∧ proto ≤ 255 by omega)] at this)
      have i3 : ¬ id < 0 := by omega
      have j3 : decide (id < 0) = false := decide_eq_false i3
      have i4 : ¬ 65535 < id := by omega
      have j4 : decide (65535 < id) = false := decide_eq_false i4
      have i5 : ¬ off < 0 := by omega
      have j5 : decide (off < 0) = false := decide_eq_false i5
      have i6 : ¬ 65528 < off := by omega
      have j6 : decide (65528 < off) = false := decide_eq_false i6
      have i7 : off % 8 = 0 := by omega
      have j7 : off.tmod 8 = 0 := by rw [Int.tmod_eq_emod_of_nonneg (by omega)]; exact i7
      have HA8 := Lib.hid (fun (W : World) => show Calls Try.prog 39 #[.agg #[.bool sv, .int .u64 (sh : Int), .int .u64 (sl : Int)]] W fun e w' => e = .returned (.bool true) ∧ Below W.heap.size W w' from by
        have := raddr11_any sv sh sl W
        rwa [decide_eq_true (Decidable.byContradiction c8)] at this)
      have HA9 := Lib.hid (fun (W : World) => show Calls Try.prog 39 #[.agg #[.bool dv, .int .u64 (dh : Int), .int .u64 (dl : Int)]] W fun e w' => e = .returned (.bool true) ∧ Below W.heap.size W w' from by
        have := raddr11_any dv dh dl W
        rwa [decide_eq_true (Decidable.byContradiction c9)] at this)
      have HK := Lib.hid (fun (W : World) (hb : Below w.heap.size w W) => by
        have := HKI.out W hb
        rwa [decide_eq_false (fun e => (HOK.out.1 e) c10)] at this)
      have hW2 : W1 = w.alloc (.cells #[.int .i64 tos, .int .i64 id, .int .i64 ttl, .int .i64 proto, .bool dont, .bool more, .int .i64 off, .bool sv, .int .u64 (sh : Int), .int .u64 (sl : Int), .bool dv, .int .u64 (dh : Int), .int .u64 (dl : Int), .slice A n c, .string P] 28) := hW1
      have x0 := HV.out _ (Below.refl _ _) 0 (Value.int .i64 tos) rfl
      have x1 := HV.out _ (Below.refl _ _) 1 (Value.int .i64 id) rfl
      have x2 := HV.out _ (Below.refl _ _) 2 (Value.int .i64 ttl) rfl
      have x3 := HV.out _ (Below.refl _ _) 3 (Value.int .i64 proto) rfl
      have x4 := HV.out _ (Below.refl _ _) 4 (Value.bool dont) rfl
      have x5 := HV.out _ (Below.refl _ _) 5 (Value.bool more) rfl
      have x6 := HV.out _ (Below.refl _ _) 6 (Value.int .i64 off) rfl
      have x7 := HV.out _ (Below.refl _ _) 7 (Value.bool sv) rfl
      have x8 := HV.out _ (Below.refl _ _) 8 (Value.int .u64 (sh : Int)) rfl
      have x9 := HV.out _ (Below.refl _ _) 9 (Value.int .u64 (sl : Int)) rfl
      have x10 := HV.out _ (Below.refl _ _) 10 (Value.bool dv) rfl
      have x11 := HV.out _ (Below.refl _ _) 11 (Value.int .u64 (dh : Int)) rfl
      have x12 := HV.out _ (Below.refl _ _) 12 (Value.int .u64 (dl : Int)) rfl
      have x13 := HV.out _ (Below.refl _ _) 13 (Value.slice A n c) rfl
      have x14 := HV.out _ (Below.refl _ _) 14 (Value.string P) rfl
      clear c0 c1 c2 c3 c4 c5 c6 c7 c8 c9 c10 hW1 hR HBDF
      go_enter Try.func16, Try.ntmps16
      go_wp2_with fail
      rw [← hW2, ← hg]
      clear hW2 hg
      refine (HY0.out _).mono ?_
      rintro e w1 ⟨rfl, rfl⟩
      go_wp2_with fail
      refine (HY1.out _).mono ?_
      rintro e w1 ⟨rfl, rfl⟩
      go_wp2_with fail
      refine (HY2.out _).mono ?_
      rintro e w1 ⟨rfl, rfl⟩
      go_wp2_with fail
      refine (HA8.out _).mono ?_
      rintro e w2 ⟨rfl, hb2⟩
      have HB2 := Lib.hid hb2
      clear x0 x1 x2 x3 x4 x5 x6 x7 x8 x9 x10 x11 x12 x13 x14 hb2
      have x10 := HV.out _ HB2.out 10 (Value.bool dv) rfl
      have x11 := HV.out _ HB2.out 11 (Value.int .u64 (dh : Int)) rfl
      have x12 := HV.out _ HB2.out 12 (Value.int .u64 (dl : Int)) rfl
      have x13 := HV.out _ HB2.out 13 (Value.slice A n c) rfl
      go_wp2_with fail
      refine (HA9.out _).mono ?_
      rintro e w3 ⟨rfl, hb3⟩
      have HB3 := Lib.hid (HB2.out.trans (hb3.mono HB2.out.size))
      clear x10 x11 x12 x13 hb3
      have x13 := HV.out _ HB3.out 13 (Value.slice A n c) rfl
      go_wp2_with fail
      refine (HK.out _ (HW.out _ HB3.out)).mono ?_
      rintro e w1 ⟨rfl, rfl⟩
      have HBW := Lib.hid (HW.out _ HB3.out)
      go_wp2_with fail
      go_ret2
      exact ⟨by rw [hR1.out]; rfl, HBW.out⟩
    exfalso
    rcases hdf with h | h | h | (h | h) | (h | h | h) | h | h | h
    · exact c0 h
    · exact c1 h
    · exact c2 h
    · exact c3 h
    · exact c4 h
    · exact c5 h
    · exact c6 h
    · exact c7 h
    · exact c8 h
    · exact c9 h
    · exact c10 h
  have hdf := HBDF.out
  rw [if_neg hbad] at hR
  have hnot := mt hdf.2 hbad
  clear hbad hdf HBDF
  simp only [not_or] at hnot
  obtain ⟨n1, n2, n3, n4, n5, n6, n7, n8⟩ := hnot
  obtain ⟨T, rfl⟩ : ∃ T : Nat, tos = (T : Int) := ⟨tos.toNat, by omega⟩
  obtain ⟨L, rfl⟩ : ∃ T : Nat, ttl = (T : Int) := ⟨ttl.toNat, by omega⟩
  obtain ⟨X, rfl⟩ : ∃ T : Nat, proto = (T : Int) := ⟨proto.toNat, by omega⟩
  obtain ⟨I, rfl⟩ : ∃ T : Nat, id = (T : Int) := ⟨id.toNat, by omega⟩
  obtain ⟨F, rfl⟩ : ∃ T : Nat, off = (T : Int) := ⟨off.toNat, by omega⟩
  have hT : T ≤ 255 := by omega
  have hL : L ≤ 255 := by omega
  have hX8 : X ≤ 255 := by omega
  have hI : I ≤ 65535 := by omega
  have hF : F ≤ 65528 := by omega
  have hF8 : F % 8 = 0 := by omega
  have hs4 : a4 ⟨sv, sh, sl⟩ := Decidable.byContradiction n6
  have hd4 : a4 ⟨dv, dh, dl⟩ := Decidable.byContradiction n7
  obtain ⟨rfl, rfl, hsl⟩ := (show sv = false ∧ sh = 0 ∧ sl < 4294967296 from hs4)
  obtain ⟨rfl, rfl, hdl⟩ := (show dv = false ∧ dh = 0 ∧ dl < 4294967296 from hd4)
  have hok := HOK.out.2 n8
  have HOKL := Lib.hid hok
  have HY1 := Lib.hid (fun (n : Nat) (hn : n ≤ 255) (W : World) => show Calls Try.prog 38 #[.int .i64 (n : Int)] W fun e w' => e = .returned (.bool true) ∧ W = w' from by
    have := rbyte11_any (n : Int) W
    rwa [decide_eq_true (by omega : 0 ≤ (n : Int) ∧ (n : Int) ≤ 255)] at this)
  have HAD := Lib.hid (fun (x : Nat) (hx : x < 4294967296) (W : World) => show Calls Try.prog 39 #[.agg #[.bool false, .int .u64 0, .int .u64 (x : Int)]] W fun e w' => e = .returned (.bool true) ∧ Below W.heap.size W w' from by
    have := raddr11_any false 0 x W
    rwa [decide_eq_true (show a4 ⟨false, 0, x⟩ from ⟨rfl, rfl, hx⟩)] at this)
  have HKI2 := Lib.hid (fun (W : World) (hb : Below w.heap.size w W) => by
    have := HKI.out W hb
    rwa [decide_eq_true hok] at this)
  clear n1 n2 n3 n4 n5 n6 n7 n8 hok HOK HKI hs4 hd4
  have i0 : ¬ (I : Int) < 0 := by omega
  have i1 : ¬ (65535 : Int) < (I : Int) := by omega
  have j0 : decide ((I : Int) < 0) = false := by simp
  have j1 : decide ((65535 : Int) < (I : Int)) = false := by simp; omega
  have i2 : ¬ (F : Int) < 0 := by omega
  have i3 : ¬ (65528 : Int) < (F : Int) := by omega
  have j2 : decide ((F : Int) < 0) = false := by simp
  have j3 : decide ((65528 : Int) < (F : Int)) = false := by simp; omega
  have i4 : (F : Int) % 8 = 0 := by omega
  have i5 : (F : Int).tmod 8 = 0 := by rw [Int.tmod_eq_emod_of_nonneg (by omega)]; exact i4
  have x0 := HV.out _ (Below.refl _ _) 0 (Value.int .i64 (T : Int)) rfl
  have x1 := HV.out _ (Below.refl _ _) 1 (Value.int .i64 (I : Int)) rfl
  have x2 := HV.out _ (Below.refl _ _) 2 (Value.int .i64 (L : Int)) rfl
  have x3 := HV.out _ (Below.refl _ _) 3 (Value.int .i64 (X : Int)) rfl
  have x4 := HV.out _ (Below.refl _ _) 4 (Value.bool dont) rfl
  have x5 := HV.out _ (Below.refl _ _) 5 (Value.bool more) rfl
  have x6 := HV.out _ (Below.refl _ _) 6 (Value.int .i64 (F : Int)) rfl
  have x7 := HV.out _ (Below.refl _ _) 7 (Value.bool false) rfl
  have x8 := HV.out _ (Below.refl _ _) 8 (Value.int .u64 0) rfl
  have x9 := HV.out _ (Below.refl _ _) 9 (Value.int .u64 (sl : Int)) rfl
  have x10 := HV.out _ (Below.refl _ _) 10 (Value.bool false) rfl
  have x11 := HV.out _ (Below.refl _ _) 11 (Value.int .u64 0) rfl
  have x12 := HV.out _ (Below.refl _ _) 12 (Value.int .u64 (dl : Int)) rfl
  have x13 := HV.out _ (Below.refl _ _) 13 (Value.slice A n c) rfl
  have x14 := HV.out _ (Below.refl _ _) 14 (Value.string P) rfl
  have hW2 : W1 = w.alloc (.cells #[.int .i64 (T : Int), .int .i64 (I : Int), .int .i64 (L : Int), .int .i64 (X : Int), .bool dont, .bool more, .int .i64 (F : Int), .bool false, .int .u64 0, .int .u64 (sl : Int), .bool false, .int .u64 0, .int .u64 (dl : Int), .slice A n c, .string P] 28) := hW1
  clear hW1
  go_enter Try.func16, Try.ntmps16
  go_wp2_with fail
  rw [← hW2, ← hg]
  clear hW2 hg
  go_wp2_with fail
  refine (HY1.out T hT _).mono ?_
  rintro e w1 ⟨rfl, rfl⟩
  go_wp2_with fail
  refine (HY1.out L hL _).mono ?_
  rintro e w1 ⟨rfl, rfl⟩
  go_wp2_with fail
  refine (HY1.out X hX8 _).mono ?_
  rintro e w1 ⟨rfl, rfl⟩
  go_wp2_with fail
  refine (HAD.out sl hsl _).mono ?_
  rintro e w2 ⟨rfl, hb2⟩
  have HB2 := Lib.hid hb2
  clear x0 x1 x2 x3 x4 x5 x6 x7 x8 x9 x10 x11 x12 x13 x14 hb2
  have x10 := HV.out _ HB2.out 10 (Value.bool false) rfl
  have x11 := HV.out _ HB2.out 11 (Value.int .u64 0) rfl
  have x12 := HV.out _ HB2.out 12 (Value.int .u64 (dl : Int)) rfl
  have x13 := HV.out _ HB2.out 13 (Value.slice A n c) rfl
  go_wp2_with fail
  refine (HAD.out dl hdl _).mono ?_
  rintro e w3 ⟨rfl, hb3⟩
  have HB3 := Lib.hid (HB2.out.trans (hb3.mono HB2.out.size))
  clear x10 x11 x12 x13 hb3 HB2
  have x13 := HV.out _ HB3.out 13 (Value.slice A n c) rfl
  go_wp2_with fail
  refine (HKI2.out _ (HW.out _ HB3.out)).mono ?_
  rintro e w1 ⟨rfl, rfl⟩
  clear i0 i1 j0 j1 i2 i3 j2 j3 i4 i5 HY1 HAD HKI2
  go_wp2_with fail
  refine (HNE.out _ (HW.out _ HB3.out)).mono ?_
  rintro e w1 ⟨rfl, rfl⟩
  clear HNE
  obtain ⟨q, hq⟩ : ∃ q, q = (wrOs l).length := ⟨_, rfl⟩
  by_cases h40 : 40 < q
  · have hR1 := Lib.hid (show R = ([], 3) by rw [hR, HOPS.out, ← hq, if_pos h40])
    rw [← hq, show min 41 q = 41 by omega]
    have HBW := Lib.hid (HW.out _ HB3.out)
    clear h40 hq
    go_wp2_with fail
    go_ret2
    exact ⟨by rw [hR1.out]; rfl, HBW.out⟩
  have mq : min 41 q = q := by omega
  have e40 : decide ((40 : Int) < (q : Int)) = false := by simp; omega
  have n40 : ¬ (40 : Int) < (q : Int) := by omega
  rw [HOPS.out, ← hq, if_neg (by omega)] at hR
  rw [← hq, mq]
  have HWR2 := Lib.hid (HWR.out (by omega) HOKL.out)
  have HWL := Lib.hid (show (wrP l).length ≤ 40 ∧ (wrP l).length % 4 = 0 by
    have h1 := wrP_len l
    have h2 := need_pad (n := (wrOs l).length) (by omega)
    omega)
  obtain ⟨O, hO⟩ : ∃ O, O = str (wrP l) := ⟨_, rfl⟩
  rw [← hO] at HWR2
  have hOs : O.size ≤ 40 := by have := HWL.out; rw [hO, str_size]; omega
  have hO4 : O.size % 4 = 0 := by have := HWL.out; rw [hO, str_size]; omega
  have HOO := Lib.hid hO
  clear HWR h40 mq hq hO
  go_wp2_with fail
  refine (HWR2.out _ (HW.out _ HB3.out)).mono ?_
  rintro e w4 ⟨rfl, hb4⟩
  have HB4 := Lib.hid (HB3.out.trans (hb4.mono HB3.out.size))
  clear x13 hb4 HB3 HWR2 e40 n40
  have x4 := HV.out _ HB4.out 4 (Value.bool dont) rfl
  have x5 := HV.out _ HB4.out 5 (Value.bool more) rfl
  have x6 := HV.out _ HB4.out 6 (Value.int .i64 (F : Int)) rfl
  have x14 := HV.out _ HB4.out 14 (Value.string P) rfl
  obtain ⟨hl20, hhl⟩ : ∃ h, h = 20 + O.size := ⟨_, rfl⟩
  have hli : (20 : Int) + (O.size : Int) = (hl20 : Int) := by omega
  have hl60 : hl20 ≤ 60 := by omega
  obtain ⟨tt, htt⟩ : ∃ t, t = hl20 + P.size := ⟨_, rfl⟩
  have hti : (hl20 : Int) + (P.size : Int) = (tt : Int) := by omega
  have HHL := Lib.hid hhl
  have HTT := Lib.hid htt
  have hO9 : O.size ≤ 40 := hOs
  by_cases h65 : 65535 < tt
  · have hR1 := Lib.hid (show R = ([], 3) by
      have e1 : hlI p = hl20 := by unfold hlI; rw [HOPS.out, HHL.out, HOO.out, str_size]
      have e2 : totI p = tt := by unfold totI; rw [e1, HPAY.out, HTT.out, HPS.out]
      rw [hR, e2, if_pos h65])
    have e65 : decide ((65535 : Int) < (tt : Int)) = true := by simp; omega
    have n65 : (65535 : Int) < (tt : Int) := by omega
    have HBW := Lib.hid (HW.out _ HB4.out)
    clear h65 hhl htt
    go_wp2_with fail
    go_ret2
    exact ⟨by rw [hR1.out]; rfl, HBW.out⟩
  have e65 : decide ((65535 : Int) < (tt : Int)) = false := by simp; omega
  have n65 : ¬ (65535 : Int) < (tt : Int) := by omega
  have htt5 : tt ≤ 65535 := by omega
  obtain ⟨q8, hq8⟩ : ∃ q, q = F / 8 := ⟨_, rfl⟩
  have k8 : (F : Int) / 8 = (q8 : Int) := by omega
  have l8 : (F : Int).tdiv 8 = (q8 : Int) := by rw [Int.tdiv_eq_ediv_of_nonneg (by omega)]; exact k8
  have hq8l : q8 ≤ 8191 := by omega
  have HQ8 := Lib.hid hq8
  clear hhl htt h65 hq8 hF8
  go_upto_if 90 with (fail)
  go_cut [6] from 10 (fun s6 wc => ∃ f1 : Nat, s6 = .int .i64 (f1 : Int) ∧ Hid (f1 = q8 + (if dont then 16384 else 0)) ∧ wc = w4)
  case first =>
    clear HX HV HW HB1 HB4
    cases dont with
    | true =>
      obtain ⟨f1, hf1⟩ : ∃ f1, f1 = q8 + 16384 := ⟨_, rfl⟩
      have f1i : (q8 : Int) + 16384 = (f1 : Int) := by omega
      have HF1 := Lib.hid (show f1 = q8 + (if true then 16384 else 0) by rw [hf1]; rfl)
      clear hf1
      go_wp2_with fail
      go_meet
      case rel => exact ⟨f1, rfl, HF1, rfl⟩
    | false =>
      go_wp2_with fail
      go_meet
      case rel => exact ⟨q8, rfl, Lib.hid rfl, rfl⟩
  case rest =>
    obtain ⟨f1, rfl, HF1, rfl⟩ := hcut
    have hf1l : f1 ≤ 24575 := by have := HF1.out; split at this <;> omega
    have x5 := HV.out _ HB4.out 5 (Value.bool more) rfl
    clear k8 l8 x4 x6
    go_upto_if 94 with (fail)
    go_cut [6] from 10 (fun s6 wd => ∃ fl : Nat, s6 = .int .i64 (fl : Int) ∧ Hid (fl = f1 + (if more then 8192 else 0)) ∧ wd = wc)
    case first =>
      clear HX HV HW HB1 HB4
      cases more with
      | true =>
        obtain ⟨fl, hfl⟩ : ∃ fl, fl = f1 + 8192 := ⟨_, rfl⟩
        have fli : (f1 : Int) + 8192 = (fl : Int) := by omega
        have HFL := Lib.hid (show fl = f1 + (if true then 8192 else 0) by rw [hfl]; rfl)
        clear hfl
        go_wp2_with fail
        go_meet
        case rel => exact ⟨fl, rfl, HFL, rfl⟩
      | false =>
        go_wp2_with fail
        go_meet
        case rel => exact ⟨f1, rfl, Lib.hid rfl, rfl⟩
    case rest =>
      obtain ⟨fl, rfl, HFL, rfl⟩ := hcut
      have hfl : fl ≤ 32767 := by have := HFL.out; split at this <;> omega
      clear x5 x14
      have HHI := Lib.hid (show hlI p = hl20 ∧ totI p = tt ∧ flagsI p = fl by
        have e1 : hlI p = hl20 := by unfold hlI; rw [HOPS.out, HHL.out, HOO.out, str_size]
        have e2 : totI p = tt := by unfold totI; rw [e1, HPAY.out, HTT.out, HPS.out]
        refine ⟨e1, e2, ?_⟩
        unfold flagsI
        rw [HPE.out]
        simp only [Int.toNat_natCast]
        rw [HFL.out, HF1.out, HQ8.out])
      have HPRE := Lib.hid (show preI p = UInt8.ofNat (64 + hl20 / 4) :: UInt8.ofNat T :: (beL 2 tt ++ (beL 2 I ++ (beL 2 fl ++ [UInt8.ofNat L, UInt8.ofNat X]))) by
        unfold preI
        rw [HHI.out.1, HHI.out.2.1, HHI.out.2.2, HPE.out]
        simp only [Int.toNat_natCast])
      obtain ⟨hq, hhq⟩ : ∃ h, h = hl20 / 4 := ⟨_, rfl⟩
      have hqi : (hl20 : Int) / 4 = (hq : Int) := by omega
      have hqt : (hl20 : Int).tdiv 4 = (hq : Int) := by rw [Int.tdiv_eq_ediv_of_nonneg (by omega)]; exact hqi
      obtain ⟨h64, hh64⟩ : ∃ h, h = 64 + hq := ⟨_, rfl⟩
      have h64i : (64 : Int) + (hq : Int) = (h64 : Int) := by omega
      have h64l : h64 ≤ 79 := by omega
      have u1 : IntKind.u8.wrap (h64 : Int) = (h64 : Int) := by rw [IntKind.wrap_u8]; omega
      have u2 : IntKind.u8.wrap (T : Int) = (T : Int) := by rw [IntKind.wrap_u8]; omega
      have u3 : IntKind.u8.wrap (L : Int) = (L : Int) := by rw [IntKind.wrap_u8]; omega
      have u4 : IntKind.u8.wrap (X : Int) = (X : Int) := by rw [IntKind.wrap_u8]; omega
      have HP1 := Lib.hid (fun (W : World) => putB_any 2 tt (tt : Int) 2 rfl rfl (by decide) (by decide) (by omega) W)
      have HP2 := Lib.hid (fun (W : World) => putB_any 2 I (I : Int) 2 rfl rfl (by decide) (by decide) (by omega) W)
      have HP3 := Lib.hid (fun (W : World) => putB_any 2 fl (fl : Int) 2 rfl rfl (by decide) (by decide) (by omega) W)
      obtain ⟨A1, hA1⟩ : ∃ A, A = str [UInt8.ofNat h64, UInt8.ofNat T] := ⟨_, rfl⟩
      obtain ⟨A2, hA2⟩ : ∃ A, A = str [UInt8.ofNat L, UInt8.ofNat X] := ⟨_, rfl⟩
      obtain ⟨B1, hB1⟩ : ∃ A, A = str (beL 2 tt) := ⟨_, rfl⟩
      obtain ⟨B2, hB2⟩ : ∃ A, A = str (beL 2 I) := ⟨_, rfl⟩
      obtain ⟨B3, hB3⟩ : ∃ A, A = str (beL 2 fl) := ⟨_, rfl⟩
      rw [← hB1] at HP1
      rw [← hB2] at HP2
      rw [← hB3] at HP3
      have sA1 : A1.size ≤ 2 := by rw [hA1, str_size]; simp
      have sA2 : A2.size ≤ 2 := by rw [hA2, str_size]; simp
      have sB1 : B1.size ≤ 2 := by rw [hB1, str_size, beL_len]; omega
      have sB2 : B2.size ≤ 2 := by rw [hB2, str_size, beL_len]; omega
      have sB3 : B3.size ≤ 2 := by rw [hB3, str_size, beL_len]; omega
      have HA1 := Lib.hid hA1
      have HA2 := Lib.hid hA2
      have HBB := Lib.hid (And.intro hB1 (And.intro hB2 hB3))
      have HH64 := Lib.hid (show h64 = 64 + hl20 / 4 by rw [hh64, hhq])
      clear hA1 hA2 hB1 hB2 hB3 hh64 hhq
      have qq1 := add_ok10 sA1 sB1 (by omega)
      have qq2 := add_ok10 (app_le10 sA1 sB1) sB2 (by omega)
      have qq3 := add_ok10 (app_le10 (app_le10 sA1 sB1) sB2) sB3 (by omega)
      have qq4 := add_ok10 (app_le10 (app_le10 (app_le10 sA1 sB1) sB2) sB3) sA2 (by omega)
      have wq1 : IntKind.i64.wrap (hq : Int) = (hq : Int) := by rw [IntKind.wrap_i64]; omega
      have wq2 : IntKind.i64.wrap (h64 : Int) = (h64 : Int) := by rw [IntKind.wrap_i64]; omega
      have wq3 : IntKind.i64.wrap (tt : Int) = (tt : Int) := by rw [IntKind.wrap_i64]; omega
      have pp2 : (9223372036854775807 < A1.size + B1.size + B2.size) = False := by simp only [eq_iff_iff, iff_false]; omega
      have pp3 : (9223372036854775807 < A1.size + B1.size + B2.size + B3.size) = False := by simp only [eq_iff_iff, iff_false]; omega
      have pp4 : (9223372036854775807 < A1.size + B1.size + B2.size + B3.size + A2.size) = False := by simp only [eq_iff_iff, iff_false]; omega
      go_upto_region 14 with fail
      refine wp_region_specs [.val (Value.int .i64 (hl20 : Int)), .val (Value.int .i64 (hq : Int)), .val (Value.int .i64 (h64 : Int)), .val (Value.int .u8 (h64 : Int)), .val (Value.pointer (some ⟨g, 0, none⟩)), .val (Value.int .i64 (T : Int)), .val (Value.int .u8 (T : Int)), .row #[Value.int .u8 (h64 : Int), Value.int .u8 (T : Int)] 5 2, .val (Value.string A1), .val (Value.int .i64 (hl20 : Int)), .val (Value.pointer (some ⟨g, 14, none⟩)), .val (Value.string P), .val (Value.int .i64 (P.size : Int)), .val (Value.int .i64 (tt : Int)), .val (Value.string B1), .val (Value.string (A1 ++ B1)), .val (Value.pointer (some ⟨g, 1, none⟩)), .val (Value.int .i64 (I : Int)), .val (Value.string B2), .val (Value.string (A1 ++ B1 ++ B2)), .val (Value.int .i64 (fl : Int)), .val (Value.string B3), .val (Value.string (A1 ++ B1 ++ B2 ++ B3)), .val (Value.pointer (some ⟨g, 2, none⟩)), .val (Value.int .i64 (L : Int)), .val (Value.int .u8 (L : Int)), .val (Value.pointer (some ⟨g, 3, none⟩)), .val (Value.int .i64 (X : Int)), .val (Value.int .u8 (X : Int)), .row #[Value.int .u8 (L : Int), Value.int .u8 (X : Int)] 5 2, .val (Value.string A2), .val (Value.string (A1 ++ B1 ++ B2 ++ B3 ++ A2)), .val (Value.string (A1 ++ B1 ++ B2 ++ B3 ++ A2))] (by kernel_rfl) (by kernel_rfl) (by kernel_rfl) (by kernel_rfl) ?_ ?_
      · refine ⟨⟨rfl, ?_⟩, ⟨rfl, ?_⟩, ⟨rfl, ?_⟩, ⟨rfl, ?_⟩, ⟨rfl, ?_⟩, ⟨rfl, ?_⟩, ⟨rfl, ?_⟩, ⟨rfl, ?_⟩, ⟨rfl, ?_⟩, ⟨rfl, ?_⟩, ⟨rfl, ?_⟩, ⟨rfl, ?_⟩, ⟨rfl, ?_⟩, ⟨rfl, ?_⟩, ⟨rfl, ?_⟩, ⟨rfl, ?_⟩, ⟨rfl, ?_⟩, ⟨rfl, ?_⟩, ⟨rfl, ?_⟩, ⟨rfl, ?_⟩, ⟨rfl, ?_⟩, ⟨rfl, ?_⟩, ⟨rfl, ?_⟩, ⟨rfl, ?_⟩, ⟨rfl, ?_⟩, ⟨rfl, ?_⟩, ⟨rfl, ?_⟩, ⟨rfl, ?_⟩, ⟨rfl, ?_⟩, ⟨rfl, ?_⟩, ⟨rfl, ?_⟩, ⟨rfl, ?_⟩, ⟨rfl, ?_⟩, trivial⟩
        · intro a W hbW hk K hK
          have e5 := kval hk 5 (Value.int .i64 (hl20 : Int)) (by kernel_rfl)
          clear hk
          go_simp
          exact ⟨_, rfl, hK _ _ rfl (Below.refl _ _)⟩
        · intro a W hbW hk K hK
          have e97 := kval hk 97 (Value.int .i64 (hl20 : Int)) (by kernel_rfl)
          clear hk
          go_simp
          exact ⟨_, rfl, hK _ _ rfl (Below.refl _ _)⟩
        · intro a W hbW hk K hK
          have e98 := kval hk 98 (Value.int .i64 (hq : Int)) (by kernel_rfl)
          clear hk
          go_simp
          exact ⟨_, rfl, hK _ _ rfl (Below.refl _ _)⟩
        · intro a W hbW hk K hK
          have e99 := kval hk 99 (Value.int .i64 (h64 : Int)) (by kernel_rfl)
          clear hk
          go_simp
          exact ⟨_, rfl, hK _ _ rfl (Below.refl _ _)⟩
        · intro a W hbW hk K hK
          have e1 := kval hk 1 (Value.pointer (some ⟨g, 0, none⟩)) (by kernel_rfl)
          clear hk
          go_simp
          exact ⟨_, rfl, hK _ _ rfl (Below.refl _ _)⟩
        · intro a W hbW hk K hK
          have e101 := kval hk 101 (Value.pointer (some ⟨g, 0, none⟩)) (by kernel_rfl)
          clear hk
          have xc := HV.out W (HB4.out.trans (hbW.mono HB4.out.size)) 0 (Value.int .i64 (T : Int)) rfl
          go_simp
          exact ⟨_, rfl, hK _ _ rfl (Below.refl _ _)⟩
        · intro a W hbW hk K hK
          have e102 := kval hk 102 (Value.int .i64 (T : Int)) (by kernel_rfl)
          clear hk
          go_simp
          exact ⟨_, rfl, hK _ _ rfl (Below.refl _ _)⟩
        · intro a W hbW hk K hK
          have e100 := kval hk 100 (Value.int .u8 (h64 : Int)) (by kernel_rfl)
          have e103 := kval hk 103 (Value.int .u8 (T : Int)) (by kernel_rfl)
          clear hk
          go_simp
          exact ⟨_, rfl, hK _ _ ⟨W.heap.size, rfl, hbW.size, heap_alloc_new W _⟩ (below_alloc6 W _)⟩
        · intro a W hbW hk K hK
          obtain ⟨gr, er, _, hgr⟩ := krow hk 104 #[Value.int .u8 (h64 : Int), Value.int .u8 (T : Int)] 5 2 (by kernel_rfl)
          clear hk
          have hcv := two_strW W gr h64 T (by omega) (by omega) hgr
          rw [← HA1.out] at hcv
          go_simp
          exact ⟨_, rfl, hK _ _ rfl (Below.refl _ _)⟩
        · intro a W hbW hk K hK
          have e5 := kval hk 5 (Value.int .i64 (hl20 : Int)) (by kernel_rfl)
          clear hk
          go_simp
          exact ⟨_, rfl, hK _ _ rfl (Below.refl _ _)⟩
        · intro a W hbW hk K hK
          have e1 := kval hk 1 (Value.pointer (some ⟨g, 0, none⟩)) (by kernel_rfl)
          clear hk
          go_simp
          exact ⟨_, rfl, hK _ _ rfl (Below.refl _ _)⟩
        · intro a W hbW hk K hK
          have e107 := kval hk 107 (Value.pointer (some ⟨g, 14, none⟩)) (by kernel_rfl)
          clear hk
          have xc := HV.out W (HB4.out.trans (hbW.mono HB4.out.size)) 14 (Value.string P) rfl
          go_simp
          exact ⟨_, rfl, hK _ _ rfl (Below.refl _ _)⟩
        · intro a W hbW hk K hK
          have e108 := kval hk 108 (Value.string P) (by kernel_rfl)
          clear hk
          go_simp
          exact ⟨_, rfl, hK _ _ rfl (Below.refl _ _)⟩
        · intro a W hbW hk K hK
          have e106 := kval hk 106 (Value.int .i64 (hl20 : Int)) (by kernel_rfl)
          have e109 := kval hk 109 (Value.int .i64 (P.size : Int)) (by kernel_rfl)
          clear hk
          go_simp
          exact ⟨_, rfl, hK _ _ rfl (Below.refl _ _)⟩
        · intro a W hbW hk K hK
          have e110 := kval hk 110 (Value.int .i64 (tt : Int)) (by kernel_rfl)
          clear hk
          go_simp
          refine (HP1.out W).mono ?_
          rintro e w9 ⟨rfl, hb9⟩
          exact ⟨_, rfl, hK _ _ rfl hb9⟩
        · intro a W hbW hk K hK
          have e105 := kval hk 105 (Value.string A1) (by kernel_rfl)
          have e111 := kval hk 111 (Value.string B1) (by kernel_rfl)
          clear hk
          go_simp
          exact ⟨_, rfl, hK _ _ rfl (Below.refl _ _)⟩
        · intro a W hbW hk K hK
          have e1 := kval hk 1 (Value.pointer (some ⟨g, 0, none⟩)) (by kernel_rfl)
          clear hk
          go_simp
          exact ⟨_, rfl, hK _ _ rfl (Below.refl _ _)⟩
        · intro a W hbW hk K hK
          have e113 := kval hk 113 (Value.pointer (some ⟨g, 1, none⟩)) (by kernel_rfl)
          clear hk
          have xc := HV.out W (HB4.out.trans (hbW.mono HB4.out.size)) 1 (Value.int .i64 (I : Int)) rfl
          go_simp
          exact ⟨_, rfl, hK _ _ rfl (Below.refl _ _)⟩
        · intro a W hbW hk K hK
          have e114 := kval hk 114 (Value.int .i64 (I : Int)) (by kernel_rfl)
          clear hk
          go_simp
          refine (HP2.out W).mono ?_
          rintro e w9 ⟨rfl, hb9⟩
          exact ⟨_, rfl, hK _ _ rfl hb9⟩
        · intro a W hbW hk K hK
          have e112 := kval hk 112 (Value.string (A1 ++ B1)) (by kernel_rfl)
          have e115 := kval hk 115 (Value.string B2) (by kernel_rfl)
          clear hk
          go_simp
          exact ⟨_, rfl, hK _ _ rfl (Below.refl _ _)⟩
        · intro a W hbW hk K hK
          have e6 := kval hk 6 (Value.int .i64 (fl : Int)) (by kernel_rfl)
          clear hk
          go_simp
          exact ⟨_, rfl, hK _ _ rfl (Below.refl _ _)⟩
        · intro a W hbW hk K hK
          have e117 := kval hk 117 (Value.int .i64 (fl : Int)) (by kernel_rfl)
          clear hk
          go_simp
          refine (HP3.out W).mono ?_
          rintro e w9 ⟨rfl, hb9⟩
          exact ⟨_, rfl, hK _ _ rfl hb9⟩
        · intro a W hbW hk K hK
          have e116 := kval hk 116 (Value.string (A1 ++ B1 ++ B2)) (by kernel_rfl)
          have e118 := kval hk 118 (Value.string B3) (by kernel_rfl)
          clear hk
          go_simp
          exact ⟨_, rfl, hK _ _ rfl (Below.refl _ _)⟩
        · intro a W hbW hk K hK
          have e1 := kval hk 1 (Value.pointer (some ⟨g, 0, none⟩)) (by kernel_rfl)
          clear hk
          go_simp
          exact ⟨_, rfl, hK _ _ rfl (Below.refl _ _)⟩
        · intro a W hbW hk K hK
          have e120 := kval hk 120 (Value.pointer (some ⟨g, 2, none⟩)) (by kernel_rfl)
          clear hk
          have xc := HV.out W (HB4.out.trans (hbW.mono HB4.out.size)) 2 (Value.int .i64 (L : Int)) rfl
          go_simp
          exact ⟨_, rfl, hK _ _ rfl (Below.refl _ _)⟩
        · intro a W hbW hk K hK
          have e121 := kval hk 121 (Value.int .i64 (L : Int)) (by kernel_rfl)
          clear hk
          go_simp
          exact ⟨_, rfl, hK _ _ rfl (Below.refl _ _)⟩
        · intro a W hbW hk K hK
          have e1 := kval hk 1 (Value.pointer (some ⟨g, 0, none⟩)) (by kernel_rfl)
          clear hk
          go_simp
          exact ⟨_, rfl, hK _ _ rfl (Below.refl _ _)⟩
        · intro a W hbW hk K hK
          have e123 := kval hk 123 (Value.pointer (some ⟨g, 3, none⟩)) (by kernel_rfl)
          clear hk
          have xc := HV.out W (HB4.out.trans (hbW.mono HB4.out.size)) 3 (Value.int .i64 (X : Int)) rfl
          go_simp
          exact ⟨_, rfl, hK _ _ rfl (Below.refl _ _)⟩
        · intro a W hbW hk K hK
          have e124 := kval hk 124 (Value.int .i64 (X : Int)) (by kernel_rfl)
          clear hk
          go_simp
          exact ⟨_, rfl, hK _ _ rfl (Below.refl _ _)⟩
        · intro a W hbW hk K hK
          have e122 := kval hk 122 (Value.int .u8 (L : Int)) (by kernel_rfl)
          have e125 := kval hk 125 (Value.int .u8 (X : Int)) (by kernel_rfl)
          clear hk
          go_simp
          exact ⟨_, rfl, hK _ _ ⟨W.heap.size, rfl, hbW.size, heap_alloc_new W _⟩ (below_alloc6 W _)⟩
        · intro a W hbW hk K hK
          obtain ⟨gr, er, _, hgr⟩ := krow hk 126 #[Value.int .u8 (L : Int), Value.int .u8 (X : Int)] 5 2 (by kernel_rfl)
          clear hk
          have hcv := two_strW W gr L X (by omega) (by omega) hgr
          rw [← HA2.out] at hcv
          go_simp
          exact ⟨_, rfl, hK _ _ rfl (Below.refl _ _)⟩
        · intro a W hbW hk K hK
          have e119 := kval hk 119 (Value.string (A1 ++ B1 ++ B2 ++ B3)) (by kernel_rfl)
          have e127 := kval hk 127 (Value.string A2) (by kernel_rfl)
          clear hk
          go_simp
          exact ⟨_, rfl, hK _ _ rfl (Below.refl _ _)⟩
        · intro a W hbW hk K hK
          have e128 := kval hk 128 (Value.string (A1 ++ B1 ++ B2 ++ B3 ++ A2)) (by kernel_rfl)
          clear hk
          go_simp
          exact ⟨_, rfl, hK _ _ rfl (Below.refl _ _)⟩
      · intro w5 hb5
        simp only [endS]
        intro ga hga gb hgb
        go_simp
        have HB5 := Lib.hid (HB4.out.trans (hb5.mono HB4.out.size))
        clear hb5 HP1 HP2 HP3 qq1 qq2 qq3 qq4 pp2 pp3 pp4 u1 u2 u3 u4 wq1 wq2 wq3
        have HC4 := Lib.hid (show A1 ++ B1 ++ B2 ++ B3 ++ A2 = str (preI p) by
          rw [HA1.out, HA2.out, HBB.out.1, HBB.out.2.1, HBB.out.2.2, HPRE.out, HH64.out]
          simp only [str_append, List.append_assoc]
          rfl)
        have hC4 : (A1 ++ B1 ++ B2 ++ B3 ++ A2).size = 10 := by rw [HC4.out, str_size, preI_len]
        generalize A1 ++ B1 ++ B2 ++ B3 ++ A2 = C4 at *
        have s4 : (str (beL 4 sl)).size = 4 := by rw [str_size, beL_len]
        have d4 : (str (beL 4 dl)).size = 4 := by rw [str_size, beL_len]
        have HPO := Lib.hid (show str (beL 4 sl) ++ str (beL 4 dl) ++ O = str (postI p) by
          unfold postI
          rw [HPE.out, HOO.out, str_append, str_append]
          simp only [List.append_assoc])
        have HBS := Lib.hid (fun (W : World) => bytes4_any sl W hsl)
        have HBD := Lib.hid (fun (W : World) => bytes4_any dl W hdl)
        obtain ⟨S4, hS4⟩ : ∃ A, A = str (beL 4 sl) := ⟨_, rfl⟩
        obtain ⟨D4, hD4⟩ : ∃ A, A = str (beL 4 dl) := ⟨_, rfl⟩
        rw [← hS4] at HPO HBS s4
        rw [← hD4] at HPO HBD d4
        clear hS4 hD4
        have r1 : (9223372036854775807 < S4.size + D4.size) = False := by simp only [eq_iff_iff, iff_false]; omega
        have r2 : (9223372036854775807 < S4.size + D4.size + O.size) = False := by simp only [eq_iff_iff, iff_false]; omega
        have r3 : (9223372036854775807 < (S4 ++ D4).size + O.size) = False := by rw [ByteArray.size_append]; exact r2
        go_wp2_with fail
        refine wp_region_pick (fun w' => Below w5.heap.size w5 w') (by kernel_rfl) (by kernel_rfl) (Below.refl _ _) ⟨rfl, rfl, rfl, Nat.le_refl _, fun _ _ => rfl⟩ (fun pw hp hq => ?_)
        have y7 : ∀ u, (pw u).cell? ⟨g, 7, none⟩ = some (.bool false) := fun u => HV.out _ (HB5.out.trans ((hp u).mono HB5.out.size)) 7 _ rfl
        have y8 : ∀ u, (pw u).cell? ⟨g, 8, none⟩ = some (.int .u64 0) := fun u => HV.out _ (HB5.out.trans ((hp u).mono HB5.out.size)) 8 _ rfl
        have y9 : ∀ u, (pw u).cell? ⟨g, 9, none⟩ = some (.int .u64 (sl : Int)) := fun u => HV.out _ (HB5.out.trans ((hp u).mono HB5.out.size)) 9 _ rfl
        have y10 : ∀ u, (pw u).cell? ⟨g, 10, none⟩ = some (.bool false) := fun u => HV.out _ (HB5.out.trans ((hp u).mono HB5.out.size)) 10 _ rfl
        have y11 : ∀ u, (pw u).cell? ⟨g, 11, none⟩ = some (.int .u64 0) := fun u => HV.out _ (HB5.out.trans ((hp u).mono HB5.out.size)) 11 _ rfl
        have y12 : ∀ u, (pw u).cell? ⟨g, 12, none⟩ = some (.int .u64 (dl : Int)) := fun u => HV.out _ (HB5.out.trans ((hp u).mono HB5.out.size)) 12 _ rfl
        have HP := Lib.hid hp
        have HQ := Lib.hid hq
        clear hp hq
        repeat (go_big_quiet_step ((first | with_reducible exact Calls.pick_of HQ.out (fun W' hb => (HP.out _).trans (hb.mono (HP.out _).size)) (HBS.out _) | with_reducible exact Calls.pick_of HQ.out (fun W' hb => (HP.out _).trans (hb.mono (HP.out _).size)) (HBD.out _))))
        refine wpQuiet_nil ?_
        rintro _ ⟨u, rfl⟩
        have HB6 := Lib.hid (HB5.out.trans ((HP.out u).mono HB5.out.size))
        generalize pw u = w6 at *
        clear HP HQ y7 y8 y9 y10 y11 y12 HB5 HBS HBD r1 r2 r3
        have hQ8 : (S4 ++ D4 ++ O).size ≤ 48 := by rw [ByteArray.size_append, ByteArray.size_append]; omega
        generalize S4 ++ D4 ++ O = Q8 at *
        clear s4 d4
        have HSUM := Lib.hid (fun (W : World) => show Calls Try.prog 28 #[.string (C4 ++ (⟨#[0, 0]⟩ : ByteArray) ++ Q8)] W fun e w' => e = .returned (.int .i64 (sumI p : Nat)) ∧ W = w' from by
          have e1 : C4 ++ (⟨#[0, 0]⟩ : ByteArray) ++ Q8 = str (preI p ++ (beL 2 0 ++ postI p)) := by
            rw [HC4.out, HPO.out, show (⟨#[0, 0]⟩ : ByteArray) = str (beL 2 0) from rfl, str_append, str_append]
            simp only [List.append_assoc]
          refine sum11_any _ _ e1 ?_ W
          rw [← str_size, ← e1, ByteArray.size_append, ByteArray.size_append]
          show C4.size + 2 + Q8.size ≤ 1000000
          omega)
        have r4 : (9223372036854775807 < C4.size + 2) = False := by simp only [eq_iff_iff, iff_false]; omega
        have r5 : (9223372036854775807 < C4.size + 2 + Q8.size) = False := by simp only [eq_iff_iff, iff_false]; omega
        have HS65 := Lib.hid (csum_le (preI p ++ (beL 2 0 ++ postI p)))
        obtain ⟨sm, hsm⟩ : ∃ s, s = sumI p := ⟨_, rfl⟩
        rw [← hsm] at HSUM
        have hsml : sm ≤ 65535 := by have := HS65.out; rw [hsm]; exact this
        have HSM := Lib.hid hsm
        clear hsm
        go_wp2_with fail
        refine (HSUM.out _).mono ?_
        rintro e w7 ⟨rfl, rfl⟩
        clear r4 r5 HSUM
        have HP6 := Lib.hid (fun (W : World) => putB_any 2 sm (sm : Int) 2 rfl rfl (by decide) (by decide) (by omega) W)
        obtain ⟨B6, hB6⟩ : ∃ A, A = str (beL 2 sm) := ⟨_, rfl⟩
        rw [← hB6] at HP6
        have hB62 : B6.size ≤ 2 := by rw [hB6, str_size, beL_len]; omega
        have HFIN := Lib.hid (show C4 ++ B6 ++ Q8 ++ P = str (headI p ++ p.pay) by
          unfold headI
          rw [HC4.out, HPO.out, HPP.out, hB6, HSM.out, HPAY.out, str_append, str_append, str_append]
          simp only [List.append_assoc])
        clear hB6
        have r6 : (9223372036854775807 < C4.size + B6.size) = False := by simp only [eq_iff_iff, iff_false]; omega
        have r7 : (9223372036854775807 < C4.size + B6.size + Q8.size) = False := by simp only [eq_iff_iff, iff_false]; omega
        have r8 : (9223372036854775807 < C4.size + B6.size + Q8.size + P.size) = False := by simp only [eq_iff_iff, iff_false]; omega
        have r9 : (9223372036854775807 < (C4 ++ B6).size + Q8.size) = False := by rw [ByteArray.size_append]; exact r7
        have r10 : (9223372036854775807 < (C4 ++ B6 ++ Q8).size + P.size) = False := by rw [ByteArray.size_append, ByteArray.size_append]; exact r8
        go_wp2_with fail
        refine wp_region_pick (fun w' => Below w6.heap.size w6 w') (by kernel_rfl) (by kernel_rfl) (Below.refl _ _) ⟨rfl, rfl, rfl, Nat.le_refl _, fun _ _ => rfl⟩ (fun pw hp hq => ?_)
        have y14 : ∀ u, (pw u).cell? ⟨g, 14, none⟩ = some (.string P) := fun u => HV.out _ (HB6.out.trans ((hp u).mono HB6.out.size)) 14 _ rfl
        have HP := Lib.hid hp
        have HQ := Lib.hid hq
        clear hp hq
        repeat (go_big_quiet_step ((first | with_reducible exact Calls.pick_of HQ.out (fun W' hb => (HP.out _).trans (hb.mono (HP.out _).size)) (HP6.out _))))
        refine wpQuiet_nil ?_
        rintro _ ⟨u, rfl⟩
        have HB7 := Lib.hid (HW.out _ (HB6.out.trans ((HP.out u).mono HB6.out.size)))
        generalize pw u = w8 at *
        clear HP HQ y14 HB6 r6 r7 r8 r9 r10
        have hR2 := hR
        rw [HHI.out.2.1, if_neg (by omega)] at hR2
        have HR2 := Lib.hid hR2
        clear hR2
        go_wp2_with fail
        go_ret2
        exact ⟨by rw [HR2.out, ← HFIN.out]; rfl, HB7.out⟩
end Go.Proofs.Ytimilcjlogcfhaa
