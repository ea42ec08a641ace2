/- Contracts of the functions, part 35: Ip6PChk. -/
import Derived.BigQuiet
import Derived.Deep.Cut
import Derived.Test.YtjjldolafnfpoaaPE5
import Derived.Test.YtjjldolafnfpoaaPE6
import Derived.Test.YtjjldolafnfpoaaPE33
import Derived.Test.YtjjldolafnfpoaaPE34
/- Contracts of the program of layer 12: check, fragmentBytes. -/
namespace Go.Proofs.Ytjjldolafnfpoaa
open Go.ChangeShapes Go.WideShapes Go.ChangeAt Go.RowKit
set_option linter.unusedVariables false

theorem encX_err (p : Ip6R) : (encX p).2 = if badX p then 4 else if 8 < p.exts.length then 9 else if ¬ okE6 p.exts then 2 else if 65535 < (bodX p).2.length then 3 else 0 := by
  have h4 : p.pay.length ≤ (bodX p).2.length := by rw [bodX_len]; omega
  unfold encX
  split
  · rfl
  · split
    · rfl
    · split
      · rfl
      · by_cases h1 : 65535 < p.pay.length
        · rw [if_pos h1, if_pos (by omega)]
        · rw [if_neg h1]
          split <;> rfl
set_option maxHeartbeats 8000000 in
set_option maxRecDepth 100000 in
theorem pcheck12_cell (cls lab hops nxt id off : Int) (sv dv frg more : Bool) (sh sl dh dl : Nat) (l : List OpR) (pay : List UInt8) (n : Nat) (A : Option Addr) (c : Nat) (D : ByteArray) (p : Ip6R) (E : Nat) (w : World) (hpe : p = ⟨cls, lab, hops, nxt, ⟨sv, sh, sl⟩, ⟨dv, dh, dl⟩, l, frg, id, off, more, pay⟩) (hD : D = str pay) (hnl : n = l.length) (hE : E = (encX p).2) (h : RowL EOpt w A l) (hd : ∀ x ∈ l, x.dat.length ≤ 4611686018427387904) (hl : l.length ≤ 1000) (hp : pay.length ≤ 1000000) :
    Calls Try.prog 30 #[.agg #[.int .i64 cls, .int .i64 lab, .int .i64 hops, .int .i64 nxt, .bool sv, .int .u64 (sh : Int), .int .u64 (sl : Int), .bool dv, .int .u64 (dh : Int), .int .u64 (dl : Int), .slice A n c, .bool frg, .int .i64 id, .int .i64 off, .bool more, .string D]] w fun e w' => e = .returned (.int .i64 (E : Int)) ∧ Below w.heap.size w w' := by
  rw [encX_err] at hE
  have hex : p.exts = l := by rw [hpe]
  have hbl : (bodX p).2.length = D.size + lenX l + (if frg then 8 else 0) := by rw [bodX_len, hpe, hD, str_size]; dsimp only; omega
  rw [hex, hbl] at hE
  obtain ⟨S, hS⟩ : ∃ S, S = D.size + lenX l + (if frg then 8 else 0) := ⟨_, rfl⟩
  rw [← hS] at hE
  have hDs : D.size ≤ 1000000 := by rw [hD, str_size]; exact hp
  have hbad : badX p ↔ ((cls < 0 ∨ 255 < cls) ∨ (hops < 0 ∨ 255 < hops) ∨ (lab < 0 ∨ 1048575 < lab) ∨ (nxt < 0 ∨ 255 < nxt) ∨ extK nxt ∨ nxt = 44 ∨ sv = false ∨ dv = false ∨ (frg = false ∧ (id ≠ 0 ∨ off ≠ 0 ∨ more = true)) ∨ (frg = true ∧ (id < 0 ∨ 4294967296 ≤ id ∨ off < 0 ∨ 65528 < off ∨ off % 8 ≠ 0))) := by rw [hpe]; exact Iff.rfl
  obtain ⟨q1, hq1⟩ : ∃ q, q = decide (¬ badX p) := ⟨_, rfl⟩
  have HRG := Lib.hid (fun (W : World) => show Calls Try.prog 51 #[.agg #[.int .i64 cls, .int .i64 lab, .int .i64 hops, .int .i64 nxt, .bool sv, .int .u64 (sh : Int), .int .u64 (sl : Int), .bool dv, .int .u64 (dh : Int), .int .u64 (dl : Int), .slice A n c, .bool frg, .int .i64 id, .int .i64 off, .bool more, .string D]] W fun e w' => e = .returned (.bool q1) ∧ Below W.heap.size W w' from prange12_any cls lab hops nxt id off sv dv frg more sh sl dh dl n A c D q1 W (by rw [hq1, decide_eq_true_iff, hbad]))
  obtain ⟨q2, hq2⟩ : ∃ q, q = decide (okE6 l) := ⟨_, rfl⟩
  have HEX := Lib.hid (fun (h8 : l.length ≤ 8) (W : World) (hb : Below w.heap.size w W) => show Calls Try.prog 52 #[.slice A n c] W fun e w' => e = .returned (.bool q2) ∧ Below W.heap.size W w' from by
    have := pexts12_any A c l q2 W (h.kept hb) h8 hd hq2.symm
    rwa [← hnl] at this)
  have HSZ := Lib.hid (fun (h8 : l.length ≤ 8) (hok : okE6 l) (W : World) (hb : Below w.heap.size w W) => show Calls Try.prog 53 #[.agg #[.int .i64 cls, .int .i64 lab, .int .i64 hops, .int .i64 nxt, .bool sv, .int .u64 (sh : Int), .int .u64 (sl : Int), .bool dv, .int .u64 (dh : Int), .int .u64 (dl : Int), .slice A n c, .bool frg, .int .i64 id, .int .i64 off, .bool more, .string D]] W fun e w' => e = .returned (.int .i64 (S : Int)) ∧ Below W.heap.size W w' from by
    have := psize12_any cls lab hops nxt id off sv dv frg more sh sl dh dl l A c D S W (h.kept hb) h8 (fun x hx => by
      obtain ⟨i, hi⟩ := List.mem_iff_getElem?.1 hx
      have := hok i x hi
      unfold badE6 at this
      omega) hDs hS
    rwa [← hnl] at this)
  have HQ1 := Lib.hid hq1
  have HQ2 := Lib.hid hq2
  have HE := Lib.hid hE
  have HNL := Lib.hid hnl
  have hn1 : n ≤ 1000 := by omega
  have HSB := Lib.hid (show l.length ≤ 8 → okE6 l → S ≤ 1100000 from fun h8 hok => by
    have hx : ∀ (m : List OpR), (∀ x ∈ m, x.dat.length ≤ 2046) → lenX m ≤ m.length * 2048 := by
      intro m
      induction m with
      | nil => intro _; simp [lenX]
      | cons a r ih =>
        intro hm
        rw [lenX_one, List.length_cons, Nat.add_mul]
        have h1 := ih (fun x hx => hm x (List.mem_cons_of_mem _ hx))
        have h2 := hm a (List.mem_cons_self ..)
        omega
    have h3 := hx l (fun x hx => by
      obtain ⟨i, hi⟩ := List.mem_iff_getElem?.1 hx
      have := hok i x hi
      unfold badE6 at this
      omega)
    rw [hS]
    split <;> omega)
  clear hpe hD hnl hE hq1 hq2 hbad hS hbl hex h hd hl hp
  obtain ⟨W1, hW1⟩ : ∃ W, W = w.alloc (.cells #[.int .i64 cls, .int .i64 lab, .int .i64 hops, .int .i64 nxt, .bool sv, .int .u64 (sh : Int), .int .u64 (sl : Int), .bool dv, .int .u64 (dh : Int), .int .u64 (dl : Int), .slice A n c, .bool frg, .int .i64 id, .int .i64 off, .bool more, .string D] 28) := ⟨_, rfl⟩
  obtain ⟨g, hg⟩ : ∃ g, g = w.heap.size := ⟨_, rfl⟩
  have HX := Lib.hid (show Cells W1 g 28 #[.int .i64 cls, .int .i64 lab, .int .i64 hops, .int .i64 nxt, .bool sv, .int .u64 (sh : Int), .int .u64 (sl : Int), .bool dv, .int .u64 (dh : Int), .int .u64 (dl : Int), .slice A n c, .bool frg, .int .i64 id, .int .i64 off, .bool more, .string D] by rw [hW1, hg]; exact heap_alloc_new w _)
  have HB1 := Lib.hid (show Below w.heap.size w W1 by rw [hW1]; exact below_alloc6 w _)
  have HV := Lib.hid (fun (W : World) (hb : Below W1.heap.size W1 W) (i : Nat) (v : Value) (hv : (#[.int .i64 cls, .int .i64 lab, .int .i64 hops, .int .i64 nxt, .bool sv, .int .u64 (sh : Int), .int .u64 (sl : Int), .bool dv, .int .u64 (dh : Int), .int .u64 (dl : Int), .slice A n c, .bool frg, .int .i64 id, .int .i64 off, .bool more, .string D])[i]? = some v) => show W.cell? ⟨g, i, none⟩ = some v from box_cell HX.out hb i v hv)
  have HW := Lib.hid (fun (W : World) (hb : Below W1.heap.size W1 W) => HB1.out.trans (hb.mono HB1.out.size))
  have x0 := HV.out _ (Below.refl _ _) 0 (Value.int .i64 cls) rfl
  have x1 := HV.out _ (Below.refl _ _) 1 (Value.int .i64 lab) rfl
  have x2 := HV.out _ (Below.refl _ _) 2 (Value.int .i64 hops) rfl
  have x3 := HV.out _ (Below.refl _ _) 3 (Value.int .i64 nxt) rfl
  have x4 := HV.out _ (Below.refl _ _) 4 (Value.bool sv) rfl
  have x5 := HV.out _ (Below.refl _ _) 5 (Value.int .u64 (sh : Int)) rfl
  have x6 := HV.out _ (Below.refl _ _) 6 (Value.int .u64 (sl : Int)) rfl
  have x7 := HV.out _ (Below.refl _ _) 7 (Value.bool dv) rfl
  have x8 := HV.out _ (Below.refl _ _) 8 (Value.int .u64 (dh : Int)) rfl
  have x9 := HV.out _ (Below.refl _ _) 9 (Value.int .u64 (dl : Int)) rfl
  have x10 := HV.out _ (Below.refl _ _) 10 (Value.slice A n c) rfl
  have x11 := HV.out _ (Below.refl _ _) 11 (Value.bool frg) rfl
  have x12 := HV.out _ (Below.refl _ _) 12 (Value.int .i64 id) rfl
  have x13 := HV.out _ (Below.refl _ _) 13 (Value.int .i64 off) rfl
  have x14 := HV.out _ (Below.refl _ _) 14 (Value.bool more) rfl
  have x15 := HV.out _ (Below.refl _ _) 15 (Value.string D) rfl
  go_enter Try.func30, Try.ntmps30
  go_upto_region 1 with fail
  rw [← hW1, ← hg]
  clear hW1 hg
  go_wp2_with fail
  refine (HRG.out _).mono ?_
  rintro e w2 ⟨rfl, hb2⟩
  have HB2 := Lib.hid (show Below W1.heap.size W1 w2 from hb2)
  clear hb2 HRG x0 x1 x2 x3 x4 x5 x6 x7 x8 x9 x10 x11 x12 x13 x14 x15
  cases q1
  · have HF := Lib.hid (show E = 4 by rw [HE.out, if_pos (Classical.not_not.1 (of_decide_eq_false HQ1.out.symm))])
    go_wp2_with fail
    go_ret
    exact ⟨by rw [HF.out]; rfl, HW.out _ HB2.out⟩
  have HE1 := Lib.hid (show E = if 8 < l.length then 9 else if ¬ okE6 l then 2 else if 65535 < S then 3 else 0 by rw [HE.out, if_neg (of_decide_eq_true HQ1.out.symm)])
  clear HE HQ1
  have x10 := HV.out _ HB2.out 10 (Value.slice A n c) rfl
  by_cases h8 : 8 < n
  · have d8 : decide ((8 : Int) < (n : Int)) = true := by simp; omega
    have n8 : (8 : Int) < (n : Int) := by omega
    have HF := Lib.hid (show E = 9 by rw [HE1.out, if_pos (by rw [← HNL.out]; exact h8)])
    clear h8
    go_wp2_with fail
    go_ret
    exact ⟨by rw [HF.out]; rfl, HW.out _ HB2.out⟩
  have d8 : decide ((8 : Int) < (n : Int)) = false := by simp; omega
  have n8 : ¬ (8 : Int) < (n : Int) := by omega
  have H8 := Lib.hid (show l.length ≤ 8 by rw [← HNL.out]; omega)
  have HE2 := Lib.hid (show E = if ¬ okE6 l then 2 else if 65535 < S then 3 else 0 by rw [HE1.out, if_neg (by have := H8.out; omega)])
  clear HE1 h8
  go_wp2_with fail
  refine (HEX.out H8.out _ (HW.out _ HB2.out)).mono ?_
  rintro e w3 ⟨rfl, hb3⟩
  have HB3 := Lib.hid (HB2.out.trans (hb3.mono HB2.out.size))
  clear hb3 HEX HB2 x10
  cases q2
  · have HF := Lib.hid (show E = 2 by rw [HE2.out, if_pos (of_decide_eq_false HQ2.out.symm)])
    go_wp2_with fail
    go_ret
    exact ⟨by rw [HF.out]; rfl, HW.out _ HB3.out⟩
  have HOK := Lib.hid (of_decide_eq_true HQ2.out.symm)
  have HE3 := Lib.hid (show E = if 65535 < S then 3 else 0 by rw [HE2.out, if_neg (fun e => e HOK.out)])
  have hS1 : S ≤ 1100000 := HSB.out H8.out HOK.out
  clear HE2 HQ2
  have x0 := HV.out _ HB3.out 0 (Value.int .i64 cls) rfl
  have x1 := HV.out _ HB3.out 1 (Value.int .i64 lab) rfl
  have x2 := HV.out _ HB3.out 2 (Value.int .i64 hops) rfl
  have x3 := HV.out _ HB3.out 3 (Value.int .i64 nxt) rfl
  have x4 := HV.out _ HB3.out 4 (Value.bool sv) rfl
  have x5 := HV.out _ HB3.out 5 (Value.int .u64 (sh : Int)) rfl
  have x6 := HV.out _ HB3.out 6 (Value.int .u64 (sl : Int)) rfl
  have x7 := HV.out _ HB3.out 7 (Value.bool dv) rfl
  have x8 := HV.out _ HB3.out 8 (Value.int .u64 (dh : Int)) rfl
  have x9 := HV.out _ HB3.out 9 (Value.int .u64 (dl : Int)) rfl
  have x10 := HV.out _ HB3.out 10 (Value.slice A n c) rfl
  have x11 := HV.out _ HB3.out 11 (Value.bool frg) rfl
  have x12 := HV.out _ HB3.out 12 (Value.int .i64 id) rfl
  have x13 := HV.out _ HB3.out 13 (Value.int .i64 off) rfl
  have x14 := HV.out _ HB3.out 14 (Value.bool more) rfl
  have x15 := HV.out _ HB3.out 15 (Value.string D) rfl
  go_wp2_with fail
  refine (HSZ.out H8.out HOK.out _ (HW.out _ HB3.out)).mono ?_
  rintro e w4 ⟨rfl, hb4⟩
  have HB4 := Lib.hid (HB3.out.trans (hb4.mono HB3.out.size))
  clear hb4 HSZ HB3 x0 x1 x2 x3 x4 x5 x6 x7 x8 x9 x10 x11 x12 x13 x14 x15
  by_cases h6 : 65535 < S
  · have d6 : decide ((65535 : Int) < (S : Int)) = true := by simp; omega
    have n6 : (65535 : Int) < (S : Int) := by omega
    have HF := Lib.hid (show E = 3 by rw [HE3.out, if_pos h6])
    clear h6
    go_wp2_with fail
    go_ret
    exact ⟨by rw [HF.out]; rfl, HW.out _ HB4.out⟩
  · have d6 : decide ((65535 : Int) < (S : Int)) = false := by simp; omega
    have n6 : ¬ (65535 : Int) < (S : Int) := by omega
    have HF := Lib.hid (show E = 0 by rw [HE3.out, if_neg h6])
    clear h6
    go_wp2_with fail
    go_ret
    exact ⟨by rw [HF.out]; rfl, HW.out _ HB4.out⟩
theorem pcheck12_any (p : Ip6R) (A : Option Addr) (c : Nat) (w : World) (h : RowL EOpt w A p.exts) (hd : ∀ x ∈ p.exts, x.dat.length ≤ 4611686018427387904) (hl : p.exts.length ≤ 1000) (hp : p.pay.length ≤ 1000000) :
    Calls Try.prog 30 #[.agg (ip6C p p.exts.length A c (str p.pay))] w fun e w' => e = .returned (.int .i64 ((encX p).2 : Int)) ∧ Below w.heap.size w w' := by
  obtain ⟨cls, lab, hops, nxt, ⟨sv, sh, sl⟩, ⟨dv, dh, dl⟩, l, frg, id, off, more, pay⟩ := p
  exact pcheck12_cell cls lab hops nxt id off sv dv frg more sh sl dh dl l pay _ A c (str pay) _ _ w rfl rfl rfl rfl h hd hl hp
theorem or1_12 (n : Nat) (h : n < 4611686018427387904) (he : n % 2 = 0) : bits .or .i64 (n : Int) 1 = ((n + 1 : Nat) : Int) := by
  have e : n ||| 1 = n + 1 := by
    have := Nat.two_pow_add_eq_or_of_lt (i := 1) (b := 1) (by decide) (n / 2)
    rw [show 2 ^ 1 * (n / 2) = n by omega] at this
    exact this.symm
  have ht : (2 : Nat) ^ IntKind.i64.bits = 18446744073709551616 := by decide
  show IntKind.i64.wrap (((((n : Int) % ((2 : Nat) ^ IntKind.i64.bits : Nat)).toNat ||| ((1 : Int) % ((2 : Nat) ^ IntKind.i64.bits : Nat)).toNat) : Nat) : Int) = _
  rw [ht]
  have e1 : ((n : Int) % (18446744073709551616 : Nat)).toNat = n := by omega
  have e2 : ((1 : Int) % (18446744073709551616 : Nat)).toNat = 1 := by decide
  rw [e1, e2, e]
  exact IntWalk.i64_in _ (by omega)
theorem beL_one12 (n : Nat) : beL 1 n = [UInt8.ofNat n] := by
  unfold beL
  simp [leL]
  apply UInt8.toNat_inj.mp
  rw [UInt8.toNat_ofNat', UInt8.toNat_ofNat']
  omega
set_option maxHeartbeats 8000000 in
set_option maxRecDepth 100000 in
theorem pfrgb12_any (cls lab hops : Int) (X I F : Nat) (sv dv frg more : Bool) (sh sl dh dl : Nat) (n : Nat) (A : Option Addr) (c : Nat) (D : ByteArray) (S : List UInt8) (w : World) (hX : X ≤ 255) (hI : I ≤ 4294967295) (hF : F ≤ 65528) (hF8 : F % 8 = 0) (hS : S = UInt8.ofNat X :: 0 :: (beL 2 (F + (if more then 1 else 0)) ++ beL 4 I)) :
    Calls Try.prog 31 #[.agg #[.int .i64 cls, .int .i64 lab, .int .i64 hops, .int .i64 (X : Int), .bool sv, .int .u64 (sh : Int), .int .u64 (sl : Int), .bool dv, .int .u64 (dh : Int), .int .u64 (dl : Int), .slice A n c, .bool frg, .int .i64 (I : Int), .int .i64 (F : Int), .bool more, .string D]] w fun e w' => e = .returned (.string (str S)) ∧ Below w.heap.size w w' := by
  have HS := Lib.hid hS
  have hor := or1_12 F (by omega) (by omega)
  obtain ⟨F1, hF1⟩ : ∃ f, f = F + 1 := ⟨_, rfl⟩
  rw [← hF1] at hor
  have hF1l : F1 ≤ 65529 := by omega
  have HF1 := Lib.hid hF1
  clear hS hF1 hF8
  obtain ⟨W1, hW1⟩ : ∃ W, W = w.alloc (.cells #[.int .i64 cls, .int .i64 lab, .int .i64 hops, .int .i64 (X : Int), .bool sv, .int .u64 (sh : Int), .int .u64 (sl : Int), .bool dv, .int .u64 (dh : Int), .int .u64 (dl : Int), .slice A n c, .bool frg, .int .i64 (I : Int), .int .i64 (F : Int), .bool more, .string D] 28) := ⟨_, rfl⟩
  obtain ⟨g, hg⟩ : ∃ g, g = w.heap.size := ⟨_, rfl⟩
  have HX := Lib.hid (show Cells W1 g 28 #[.int .i64 cls, .int .i64 lab, .int .i64 hops, .int .i64 (X : Int), .bool sv, .int .u64 (sh : Int), .int .u64 (sl : Int), .bool dv, .int .u64 (dh : Int), .int .u64 (dl : Int), .slice A n c, .bool frg, .int .i64 (I : Int), .int .i64 (F : Int), .bool more, .string D] by rw [hW1, hg]; exact heap_alloc_new w _)
  have HB1 := Lib.hid (show Below w.heap.size w W1 by rw [hW1]; exact below_alloc6 w _)
  have HV := Lib.hid (fun (W : World) (hb : Below W1.heap.size W1 W) (i : Nat) (v : Value) (hv : (#[.int .i64 cls, .int .i64 lab, .int .i64 hops, .int .i64 (X : Int), .bool sv, .int .u64 (sh : Int), .int .u64 (sl : Int), .bool dv, .int .u64 (dh : Int), .int .u64 (dl : Int), .slice A n c, .bool frg, .int .i64 (I : Int), .int .i64 (F : Int), .bool more, .string D])[i]? = some v) => show W.cell? ⟨g, i, none⟩ = some v from box_cell HX.out hb i v hv)
  have HW := Lib.hid (fun (W : World) (hb : Below W1.heap.size W1 W) => HB1.out.trans (hb.mono HB1.out.size))
  have x13 := HV.out _ (Below.refl _ _) 13 (Value.int .i64 (F : Int)) rfl
  have x14 := HV.out _ (Below.refl _ _) 14 (Value.bool more) rfl
  go_enter Try.func31, Try.ntmps31
  go_upto_region 1 with fail
  rw [← hW1, ← hg]
  clear hW1 hg
  cases more
  · have HR0 := Lib.hid (Below.refl W1.heap.size W1)
    have HP0 := Lib.hid (fun (W : World) => pputB_any 1 X (X : Int) 1 rfl rfl (by decide) (by decide) (by omega) (by omega) W)
    obtain ⟨A0, hA0⟩ : ∃ A, A = str (beL 1 X) := ⟨_, rfl⟩
    rw [← hA0] at HP0
    have sA0 : A0.size = 1 := by rw [hA0, str_size, beL_len]
    have HA0 := Lib.hid hA0
    clear hA0
    have HP1 := Lib.hid (fun (W : World) => pputB_any 1 0 0 1 rfl rfl (by decide) (by decide) (by omega) (by omega) W)
    obtain ⟨A1, hA1⟩ : ∃ A, A = str (beL 1 0) := ⟨_, rfl⟩
    rw [← hA1] at HP1
    have sA1 : A1.size = 1 := by rw [hA1, str_size, beL_len]
    have HA1 := Lib.hid hA1
    clear hA1
    have HP2 := Lib.hid (fun (W : World) => pputB_any 2 F (F : Int) 2 rfl rfl (by decide) (by decide) (by omega) (by omega) W)
    obtain ⟨A2, hA2⟩ : ∃ A, A = str (beL 2 F) := ⟨_, rfl⟩
    rw [← hA2] at HP2
    have sA2 : A2.size = 2 := by rw [hA2, str_size, beL_len]
    have HA2 := Lib.hid hA2
    clear hA2
    have HP3 := Lib.hid (fun (W : World) => pputB_any 4 I (I : Int) 4 rfl rfl (by decide) (by decide) (by omega) (by omega) W)
    obtain ⟨A3, hA3⟩ : ∃ A, A = str (beL 4 I) := ⟨_, rfl⟩
    rw [← hA3] at HP3
    have sA3 : A3.size = 4 := by rw [hA3, str_size, beL_len]
    have HA3 := Lib.hid hA3
    clear hA3
    have u0 : (9223372036854775807 < A0.size + A1.size) = False := by simp only [eq_iff_iff, iff_false]; omega
    have u1 : (9223372036854775807 < A0.size + A1.size + A2.size) = False := by simp only [eq_iff_iff, iff_false]; omega
    have u1a : (9223372036854775807 < (A0 ++ A1).size + A2.size) = False := by simp only [eq_iff_iff, iff_false, ByteArray.size_append]; omega
    have u2 : (9223372036854775807 < A0.size + A1.size + A2.size + A3.size) = False := by simp only [eq_iff_iff, iff_false]; omega
    have u2a : (9223372036854775807 < (A0 ++ A1 ++ A2).size + A3.size) = False := by simp only [eq_iff_iff, iff_false, ByteArray.size_append]; omega
    go_upto_region 4 with fail
    clear x13 x14
    refine wp_region_pick (fun w' => Below W1.heap.size W1 w') (by kernel_rfl) (by kernel_rfl) (Below.refl _ _) ⟨rfl, rfl, rfl, Nat.le_refl _, fun _ _ => rfl⟩ (fun pw hp hq => ?_)
    have y3 : ∀ u, (pw u).cell? ⟨g, 3, none⟩ = some (.int .i64 (X : Int)) := fun u => HV.out _ (HR0.out.trans ((hp u).mono HR0.out.size)) 3 _ rfl
    have y12 : ∀ u, (pw u).cell? ⟨g, 12, none⟩ = some (.int .i64 (I : Int)) := fun u => HV.out _ (HR0.out.trans ((hp u).mono HR0.out.size)) 12 _ rfl
    have HP := Lib.hid hp
    have HQ := Lib.hid hq
    clear hp hq
    repeat (go_big_quiet_step ((first | with_reducible exact Calls.pick_of HQ.out (fun W' hb => (HP.out _).trans (hb.mono (HP.out _).size)) (HP0.out _) | with_reducible exact Calls.pick_of HQ.out (fun W' hb => (HP.out _).trans (hb.mono (HP.out _).size)) (HP1.out _) | with_reducible exact Calls.pick_of HQ.out (fun W' hb => (HP.out _).trans (hb.mono (HP.out _).size)) (HP2.out _) | with_reducible exact Calls.pick_of HQ.out (fun W' hb => (HP.out _).trans (hb.mono (HP.out _).size)) (HP3.out _))))
    refine wpQuiet_nil ?_
    rintro _ ⟨u, rfl⟩
    have HB5 := Lib.hid (HR0.out.trans ((HP.out u).mono HR0.out.size))
    generalize pw u = w5 at *
    clear HP HQ y3 y12 HR0 HP0 HP1 HP2 HP3 u0 u1 u1a u2 u2a
    go_wp2_with fail
    go_ret
    refine ⟨?_, HW.out _ HB5.out⟩
    rw [HS.out, HA0.out, HA1.out, HA2.out, HA3.out, beL_one12, beL_one12]
    simp only [str_append, List.cons_append, List.nil_append]
    rfl
  · have HR0 := Lib.hid (Below.refl W1.heap.size W1)
    have HP0 := Lib.hid (fun (W : World) => pputB_any 1 X (X : Int) 1 rfl rfl (by decide) (by decide) (by omega) (by omega) W)
    obtain ⟨A0, hA0⟩ : ∃ A, A = str (beL 1 X) := ⟨_, rfl⟩
    rw [← hA0] at HP0
    have sA0 : A0.size = 1 := by rw [hA0, str_size, beL_len]
    have HA0 := Lib.hid hA0
    clear hA0
    have HP1 := Lib.hid (fun (W : World) => pputB_any 1 0 0 1 rfl rfl (by decide) (by decide) (by omega) (by omega) W)
    obtain ⟨A1, hA1⟩ : ∃ A, A = str (beL 1 0) := ⟨_, rfl⟩
    rw [← hA1] at HP1
    have sA1 : A1.size = 1 := by rw [hA1, str_size, beL_len]
    have HA1 := Lib.hid hA1
    clear hA1
    have HP2 := Lib.hid (fun (W : World) => pputB_any 2 F1 (F1 : Int) 2 rfl rfl (by decide) (by decide) (by omega) (by omega) W)
    obtain ⟨A2, hA2⟩ : ∃ A, A = str (beL 2 F1) := ⟨_, rfl⟩
    rw [← hA2] at HP2
    have sA2 : A2.size = 2 := by rw [hA2, str_size, beL_len]
    have HA2 := Lib.hid hA2
    clear hA2
    have HP3 := Lib.hid (fun (W : World) => pputB_any 4 I (I : Int) 4 rfl rfl (by decide) (by decide) (by omega) (by omega) W)
    obtain ⟨A3, hA3⟩ : ∃ A, A = str (beL 4 I) := ⟨_, rfl⟩
    rw [← hA3] at HP3
    have sA3 : A3.size = 4 := by rw [hA3, str_size, beL_len]
    have HA3 := Lib.hid hA3
    clear hA3
    have u0 : (9223372036854775807 < A0.size + A1.size) = False := by simp only [eq_iff_iff, iff_false]; omega
    have u1 : (9223372036854775807 < A0.size + A1.size + A2.size) = False := by simp only [eq_iff_iff, iff_false]; omega
    have u1a : (9223372036854775807 < (A0 ++ A1).size + A2.size) = False := by simp only [eq_iff_iff, iff_false, ByteArray.size_append]; omega
    have u2 : (9223372036854775807 < A0.size + A1.size + A2.size + A3.size) = False := by simp only [eq_iff_iff, iff_false]; omega
    have u2a : (9223372036854775807 < (A0 ++ A1 ++ A2).size + A3.size) = False := by simp only [eq_iff_iff, iff_false, ByteArray.size_append]; omega
    go_upto_region 4 with fail
    clear x13 x14
    refine wp_region_pick (fun w' => Below W1.heap.size W1 w') (by kernel_rfl) (by kernel_rfl) (Below.refl _ _) ⟨rfl, rfl, rfl, Nat.le_refl _, fun _ _ => rfl⟩ (fun pw hp hq => ?_)
    have y3 : ∀ u, (pw u).cell? ⟨g, 3, none⟩ = some (.int .i64 (X : Int)) := fun u => HV.out _ (HR0.out.trans ((hp u).mono HR0.out.size)) 3 _ rfl
    have y12 : ∀ u, (pw u).cell? ⟨g, 12, none⟩ = some (.int .i64 (I : Int)) := fun u => HV.out _ (HR0.out.trans ((hp u).mono HR0.out.size)) 12 _ rfl
    have HP := Lib.hid hp
    have HQ := Lib.hid hq
    clear hp hq
    repeat (go_big_quiet_step ((first | with_reducible exact Calls.pick_of HQ.out (fun W' hb => (HP.out _).trans (hb.mono (HP.out _).size)) (HP0.out _) | with_reducible exact Calls.pick_of HQ.out (fun W' hb => (HP.out _).trans (hb.mono (HP.out _).size)) (HP1.out _) | with_reducible exact Calls.pick_of HQ.out (fun W' hb => (HP.out _).trans (hb.mono (HP.out _).size)) (HP2.out _) | with_reducible exact Calls.pick_of HQ.out (fun W' hb => (HP.out _).trans (hb.mono (HP.out _).size)) (HP3.out _))))
    refine wpQuiet_nil ?_
    rintro _ ⟨u, rfl⟩
    have HB5 := Lib.hid (HR0.out.trans ((HP.out u).mono HR0.out.size))
    generalize pw u = w5 at *
    clear HP HQ y3 y12 HR0 HP0 HP1 HP2 HP3 u0 u1 u1a u2 u2a
    go_wp2_with fail
    go_ret
    refine ⟨?_, HW.out _ HB5.out⟩
    rw [HS.out, HA0.out, HA1.out, HA2.out, HA3.out, beL_one12, beL_one12, HF1.out]
    simp only [str_append, List.cons_append, List.nil_append]
    rfl
end Go.Proofs.Ytjjldolafnfpoaa
