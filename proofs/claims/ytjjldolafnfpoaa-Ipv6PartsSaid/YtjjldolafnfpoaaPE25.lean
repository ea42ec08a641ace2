/- Contracts of the functions, part 25: Ip6REnc. -/
import Derived.Deep.Cut
import Derived.BigQuiet
import Derived.Test.YtjjldolafnfpoaaPE6
import Derived.Test.YtjjldolafnfpoaaPE11
import Derived.Test.YtjjldolafnfpoaaPE19
import Derived.Test.YtjjldolafnfpoaaPE24
/- Contract of the reference of layer 12: Encode. -/
namespace Go.Proofs.Ytjjldolafnfpoaa
open Go.ChangeShapes Go.WideShapes Go.ChangeAt Go.RowKit
set_option linter.unusedVariables false

theorem or_shift (a k x : Nat) (hx : x < 2 ^ k) (h : a * 2 ^ k + x < 9223372036854775808) : bits .or .i64 ((a * 2 ^ k : Nat) : Int) (x : Int) = ((a * 2 ^ k + x : Nat) : Int) := by
  have nn : ∀ x : Nat, x < 18446744073709551616 → (BitVec.ofInt 64 (x : Int)).toNat = x := fun x hx => by
    rw [BitVec.ofInt_natCast, BitVec.toNat_ofNat]
    exact Nat.mod_eq_of_lt (by omega)
  have e : a * 2 ^ k ||| x = a * 2 ^ k + x := by
    have h := Nat.shiftLeft_add_eq_or_of_lt (i := k) (b := x) hx a
    rw [Nat.shiftLeft_eq] at h
    omega
  show IntKind.i64.wrap ((BitVec.ofInt 64 ((a * 2 ^ k : Nat) : Int) ||| BitVec.ofInt 64 (x : Int)).toNat : Int) = _
  rw [BitVec.toNat_or, nn _ (by omega), nn _ (by omega), e]
  exact IntWalk.i64_in _ (by omega)
theorem bytes16_any (hi lo : Nat) (w : World) (h1 : hi < 18446744073709551616) (h2 : lo < 18446744073709551616) :
    Calls Try.prog 37 #[.agg #[.bool true, .int .u64 (hi : Int), .int .u64 (lo : Int)]] w fun e w' => e = .returned (.string (str (beL 8 hi ++ beL 8 lo))) ∧ Below w.heap.size w w' := by
  have := rbytes_any true hi lo w h1 h2
  exact this
theorem ok6_next {l : List OpR} {k : Nat} {x : OpR} (h : ∀ (i : Nat) (y : OpR), i < k → l[i]? = some y → ¬ badE6 y i) (hx : l[k]? = some x) (hb : ¬ badE6 x k) : ∀ (i : Nat) (y : OpR), i < k + 1 → l[i]? = some y → ¬ badE6 y i := fun i y hi hy => by
  rcases Nat.lt_or_ge i k with h1 | h1
  · exact h i y h1 hy
  · obtain rfl : i = k := by omega
    rw [hx] at hy
    obtain rfl := Option.some.inj hy
    exact hb
theorem wrX_drop {l : List OpR} {i : Nat} {x : OpR} (hx : l[i]? = some x) (nx : Nat) (b : List UInt8) : wrX (l.drop i) nx b = (x.kd.toNat, UInt8.ofNat (wrX (l.drop (i + 1)) nx b).1 :: UInt8.ofNat ((x.dat.length - 6) / 8) :: (x.dat ++ (wrX (l.drop (i + 1)) nx b).2)) := by
  obtain ⟨hi, e⟩ := List.getElem?_eq_some_iff.1 hx
  rw [List.drop_eq_getElem_cons hi, e]
  rfl
theorem beL_one (v : Nat) : beL 1 v = [UInt8.ofNat (v % 256)] := by unfold beL; simp [leL]
theorem ofNat_mod (v : Nat) : UInt8.ofNat (v % 256) = UInt8.ofNat v := by apply UInt8.toNat.inj; simp only [UInt8.toNat_ofNat']; omega
theorem lenX_le (l : List OpR) (h : ∀ x ∈ l, x.dat.length ≤ 2046) : lenX l ≤ 2048 * l.length := by
  induction l with
  | nil => simp [lenX]
  | cons x r ih =>
    rw [lenX_one, List.length_cons]
    have h1 := h x (by simp)
    have h2 := ih (fun y hy => h y (by simp [hy]))
    omega
set_option maxHeartbeats 16000000 in
set_option maxRecDepth 100000 in
theorem renc12_any (cls lab hops nxt id off : Int) (sv dv frg more : Bool) (sh sl dh dl : Nat) (l : List OpR) (pay : List UInt8) (A : Option Addr) (c : Nat) (w : World) (h : RowL EOpt w A l) (h1 : sh < 18446744073709551616) (h2 : sl < 18446744073709551616) (h3 : dh < 18446744073709551616) (h4 : dl < 18446744073709551616) (hl : l.length ≤ 1000000) (hd : ∀ x ∈ l, x.dat.length ≤ 4611686018427387904) (hp : pay.length ≤ 1000000) :
    Calls Try.prog 16 #[.agg #[.int .i64 cls, .int .i64 lab, .int .i64 hops, .int .i64 nxt, .bool sv, .int .u64 (sh : Int), .int .u64 (sl : Int), .bool dv, .int .u64 (dh : Int), .int .u64 (dl : Int), .slice A l.length c, .bool frg, .int .i64 id, .int .i64 off, .bool more, .string (str pay)]] w fun e w' => e = .returned (.tuple #[.string (str (encX (⟨cls, lab, hops, nxt, ⟨sv, sh, sl⟩, ⟨dv, dh, dl⟩, l, frg, id, off, more, pay⟩ : Ip6R)).1), .int .i64 ((encX (⟨cls, lab, hops, nxt, ⟨sv, sh, sl⟩, ⟨dv, dh, dl⟩, l, frg, id, off, more, pay⟩ : Ip6R)).2 : Int)]) ∧ Below w.heap.size w w' := by
  obtain ⟨p, hpe⟩ : ∃ p, p = (⟨cls, lab, hops, nxt, ⟨sv, sh, sl⟩, ⟨dv, dh, dl⟩, l, frg, id, off, more, pay⟩ : Ip6R) := ⟨_, rfl⟩
  rw [← hpe]
  obtain ⟨Q, hR⟩ : ∃ Q, Q = encX p := ⟨_, rfl⟩
  rw [← hR]
  have HPE := Lib.hid hpe
  have HRR := Lib.hid hR
  have HS := Lib.hid h
  have HDD := Lib.hid hd
  have H64 := Lib.hid (And.intro h1 (And.intro h2 (And.intro h3 h4)))
  obtain ⟨n, hnl⟩ : ∃ n, n = l.length := ⟨_, rfl⟩
  rw [← hnl] at hl ⊢
  have HN := Lib.hid hnl
  obtain ⟨P, hP⟩ : ∃ P, P = str pay := ⟨_, rfl⟩
  have hPs : P.size = pay.length := by rw [hP, str_size]
  rw [← hP]
  have hP6 : P.size ≤ 1000000 := by omega
  have HPP := Lib.hid (And.intro hP hPs)
  obtain ⟨rb, hrb⟩ : ∃ b : Bool, b = decide (¬ badX p) := ⟨_, rfl⟩
  have HRB := Lib.hid hrb
  have HRG := Lib.hid (fun (W : World) => show Calls Try.prog 35 #[.agg #[.int .i64 cls, .int .i64 lab, .int .i64 hops, .int .i64 nxt, .bool sv, .int .u64 (sh : Int), .int .u64 (sl : Int), .bool dv, .int .u64 (dh : Int), .int .u64 (dl : Int), .slice A n c, .bool frg, .int .i64 id, .int .i64 off, .bool more, .string P]] W fun e w' => e = .returned (.bool rb) ∧ Below W.heap.size W w' from rranges12_any cls lab hops nxt id off sv dv frg more sh sl dh dl n A c P rb W (by rw [hrb, decide_eq_true_eq, hpe]; exact Iff.rfl))
  clear hpe hR h hd h1 h2 h3 h4 hnl hP hPs hp hrb
  obtain ⟨W1, hW1⟩ : ∃ W, W = w.alloc (.cells #[.int .i64 cls, .int .i64 lab, .int .i64 hops, .int .i64 nxt, .bool sv, .int .u64 (sh : Int), .int .u64 (sl : Int), .bool dv, .int .u64 (dh : Int), .int .u64 (dl : Int), .slice A n c, .bool frg, .int .i64 id, .int .i64 off, .bool more, .string P] 28) := ⟨_, rfl⟩
  obtain ⟨g, hg⟩ : ∃ g, g = w.heap.size := ⟨_, rfl⟩
  have HX := Lib.hid (show Cells W1 g 28 #[.int .i64 cls, .int .i64 lab, .int .i64 hops, .int .i64 nxt, .bool sv, .int .u64 (sh : Int), .int .u64 (sl : Int), .bool dv, .int .u64 (dh : Int), .int .u64 (dl : Int), .slice A n c, .bool frg, .int .i64 id, .int .i64 off, .bool more, .string P] by rw [hW1, hg]; exact heap_alloc_new w _)
  have HB1 := Lib.hid (show Below w.heap.size w W1 by rw [hW1]; exact below_alloc6 w _)
  have HV := Lib.hid (fun (W : World) (hb : Below W1.heap.size W1 W) (i : Nat) (v : Value) (hv : (#[.int .i64 cls, .int .i64 lab, .int .i64 hops, .int .i64 nxt, .bool sv, .int .u64 (sh : Int), .int .u64 (sl : Int), .bool dv, .int .u64 (dh : Int), .int .u64 (dl : Int), .slice A n c, .bool frg, .int .i64 id, .int .i64 off, .bool more, .string P])[i]? = some v) => show W.cell? ⟨g, i, none⟩ = some v from box_cell HX.out hb i v hv)
  have HW := Lib.hid (fun (W : World) (hb : Below W1.heap.size W1 W) => HB1.out.trans (hb.mono HB1.out.size))
  have HLO := Lib.hid (fun (W : World) (hb : Below W1.heap.size W1 W) (k : Nat) (x : OpR) (hx : l[k]? = some x) (g9 ob : Nat) (hA : A = some ⟨g9, ob, none⟩) => show W.cell? ⟨g9, ob + k * 2, none⟩ = some (.int .i64 x.kd) ∧ W.cell? ⟨g9, ob + k * 2 + 1, none⟩ = some (.string (str x.dat)) from by subst hA; exact opt_at HS.out hx (HW.out W hb))
  cases rb
  · have hR1 := Lib.hid (show Q = ([], 4) by
      rw [HRR.out]
      unfold encX
      exact if_pos (Classical.byContradiction fun e => by have := HRB.out; rw [decide_eq_true e] at this; cases this))
    go_enter Try.func16, Try.ntmps16
    go_upto_region 1 with fail
    rw [← hW1, ← hg]
    clear hW1 hg
    go_wp2_with (refine wpList_load_row (by rfl) 28 _ (by rfl) g (by rfl) 28 #[.int .i64 cls, .int .i64 lab, .int .i64 hops, .int .i64 nxt, .bool sv, .int .u64 (sh : Int), .int .u64 (sl : Int), .bool dv, .int .u64 (dh : Int), .int .u64 (dl : Int), .slice A n c, .bool frg, .int .i64 id, .int .i64 off, .bool more, .string P] (0, 0) _ HX.out Try.underlying28 (by rfl) (by kernel_rfl) ?_)
    refine (HRG.out _).mono ?_
    rintro e w2 ⟨rfl, hb2⟩
    have HB2 := Lib.hid hb2
    clear hb2 HRG
    go_wp2_with fail
    go_ret2
    exact ⟨by rw [hR1.out]; rfl, HW.out _ HB2.out⟩
  have hbad : ¬ badX p := of_decide_eq_true HRB.out.symm
  have hnb := hbad
  rw [HPE.out] at hnb
  unfold badX at hnb
  dsimp only at hnb
  simp only [not_or] at hnb
  obtain ⟨n1, n2, n3, n4, n5, n6, n7, n8, n9, n10⟩ := hnb
  have hsv : sv = true := by simpa using n7
  have hdv : dv = true := by simpa using n8
  obtain ⟨C, rfl⟩ : ∃ T : Nat, cls = (T : Int) := ⟨cls.toNat, by omega⟩
  obtain ⟨L, rfl⟩ : ∃ T : Nat, lab = (T : Int) := ⟨lab.toNat, by omega⟩
  obtain ⟨H, rfl⟩ : ∃ T : Nat, hops = (T : Int) := ⟨hops.toNat, by omega⟩
  obtain ⟨N, rfl⟩ : ∃ T : Nat, nxt = (T : Int) := ⟨nxt.toNat, by omega⟩
  have hC : C ≤ 255 := by omega
  have hL : L ≤ 1048575 := by omega
  have hH : H ≤ 255 := by omega
  have hN : N ≤ 255 := by omega
  subst hsv hdv
  have H9 := Lib.hid (And.intro n9 n10)
  have HBAD := Lib.hid hbad
  clear n1 n2 n3 n4 n5 n6 n7 n8 n9 n10 hbad
  go_enter Try.func16, Try.ntmps16
  go_upto_region 1 with fail
  rw [← hW1, ← hg]
  clear hW1 hg
  go_wp2_with (refine wpList_load_row (by rfl) 28 _ (by rfl) g (by rfl) 28 #[.int .i64 (C : Int), .int .i64 (L : Int), .int .i64 (H : Int), .int .i64 (N : Int), .bool true, .int .u64 (sh : Int), .int .u64 (sl : Int), .bool true, .int .u64 (dh : Int), .int .u64 (dl : Int), .slice A n c, .bool frg, .int .i64 id, .int .i64 off, .bool more, .string P] (0, 0) _ HX.out Try.underlying28 (by rfl) (by kernel_rfl) ?_)
  refine (HRG.out _).mono ?_
  rintro e w2 ⟨rfl, hb2⟩
  have HB2 := Lib.hid hb2
  clear hb2 HRG
  have x10 := HV.out w2 HB2.out 10 (.slice A n c) rfl
  by_cases c9 : 8 < n
  · have d9 : decide ((8 : Int) < (n : Int)) = true := by simp; omega
    have i9 : (8 : Int) < (n : Int) := by omega
    have hR1 := Lib.hid (show Q = ([], 9) by
      rw [HRR.out]
      unfold encX
      rw [if_neg HBAD.out]
      have hpx : p.exts = l := by rw [HPE.out]
      rw [hpx, ← HN.out]
      rw [if_pos c9])
    clear c9
    go_wp2_with fail
    go_ret2
    exact ⟨by rw [hR1.out]; rfl, HW.out _ HB2.out⟩
  have d9 : decide ((8 : Int) < (n : Int)) = false := by simp; omega
  have i9 : ¬ (8 : Int) < (n : Int) := by omega
  have hn8 : n ≤ 8 := by omega
  have HC9 := Lib.hid c9
  clear c9
  go_wp2_with fail
  go_loopw [4] (fun i wr => ∃ k : Nat, i = .int .i64 (k : Int) ∧ k ≤ n ∧ Hid (∀ (i : Nat) (y : OpR), i < k → l[i]? = some y → ¬ badE6 y i) ∧ Hid (Below W1.heap.size W1 wr)) (fun i _ => n - (intOf i).toNat)
  case atStart => exact ⟨0, rfl, Nat.zero_le _, Lib.hid (fun i y hi => absurd hi (Nat.not_lt_zero _)), HB2⟩
  case round =>
    obtain ⟨k, rfl, hk, HK, HB⟩ := hrel
    clear x10
    have x10 := HV.out wr HB.out 10 (.slice A n c) rfl
    by_cases hlt : k < n
    · have hki : (k : Int) < (n : Int) := by omega
      have hki0 : (0 : Int) ≤ (k : Int) := by omega
      have dlt : decide ((k : Int) < (n : Int)) = true := by simp; omega
      obtain ⟨x, hget⟩ : ∃ x, l[k]? = some x := ⟨l[k]'(by have := HN.out; omega), List.getElem?_eq_getElem _⟩
      obtain ⟨g9, ob, hA, hg9⟩ := HS.out.shapeA (by have := HN.out; omega)
      obtain ⟨c0, c1⟩ := HLO.out wr HB.out k x hget g9 ob hA
      have HAA := Lib.hid hA
      subst hA
      have hmem := List.mem_of_getElem? hget
      have hxl := HDD.out x hmem
      have HBA := Lib.hid (HB.out.alloc HB.out.size (.cells #[.int .i64 x.kd, .string (str x.dat)] 59))
      obtain ⟨D, hD⟩ : ∃ D, D = str x.dat := ⟨_, rfl⟩
      have hDs : D.size = x.dat.length := by rw [hD, str_size]
      rw [← hD] at c1 HBA
      obtain ⟨T, hT⟩ : ∃ T, T = x.kd := ⟨_, rfl⟩
      rw [← hT] at c0 HBA
      obtain ⟨d, hdd⟩ : ∃ d, d = D.size := ⟨_, rfl⟩
      have hd62 : D.size ≤ 4611686018427387904 := by omega
      obtain ⟨e8, he8⟩ : ∃ e, e = D.size % 8 := ⟨_, rfl⟩
      have m8 : (D.size : Int) % 8 = (e8 : Int) := by omega
      have m8' : (D.size : Int).tmod 8 = (e8 : Int) := by rw [Int.tmod_eq_emod_of_nonneg (by omega)]; exact m8
      have HXX := Lib.hid (show T = x.kd ∧ D.size = x.dat.length ∧ e8 = D.size % 8 from ⟨hT, hDs, he8⟩)
      have HGT := Lib.hid hget
      have HLB := Lib.hid (show ∀ hb : badE6 x k, Q = ([], 2) from fun hb => by
        rw [HRR.out]
        unfold encX
        rw [if_neg HBAD.out]
        have hpx : p.exts = l := by rw [HPE.out]
        rw [hpx, ← HN.out, if_neg HC9.out, if_pos (fun h => h k x hget hb)])
      clear hT hDs he8 hget hmem hxl hD hdd d
      by_cases hce : ¬ extK T
      · have HCE := Lib.hid hce
        have hR1 := Lib.hid (HLB.out (by obtain ⟨h1, h2, h3⟩ := HXX.out; unfold badE6; rw [← h1, ← h2]; exact .inl hce))
        have HE := Lib.hid (fun (W : World) => show Calls Try.prog 29 #[.int .i64 T] W fun e w' => e = .returned (.bool false) ∧ W = w' from by
          have := rextension12_any T W
          rwa [decide_eq_false HCE.out] at this)
        clear hce
        go_wp2_with fail
        refine (HE.out _).mono ?_
        rintro e w5 ⟨rfl, rfl⟩
        go_wp2_with fail
        go_ret2
        exact ⟨by rw [hR1.out]; rfl, HW.out _ HBA.out⟩
      have HCE := Lib.hid (Classical.not_not.1 hce)
      clear hce
      have HE := Lib.hid (fun (W : World) => show Calls Try.prog 29 #[.int .i64 T] W fun e w' => e = .returned (.bool true) ∧ W = w' from by
        have := rextension12_any T W
        rwa [decide_eq_true HCE.out] at this)
      by_cases hc0 : T = 0 ∧ 0 < k
      · obtain ⟨hc1, hc2⟩ := hc0
        have tz : (T == 0) = true := by simpa using hc1
        have kz : decide ((0 : Int) < (k : Int)) = true := by simp; omega
        have kz' : (0 : Int) < (k : Int) := by omega
        have hR1 := Lib.hid (HLB.out (by obtain ⟨h1, h2, h3⟩ := HXX.out; unfold badE6; rw [← h1, ← h2]; exact .inr (.inl ⟨hc1, hc2⟩)))
        clear hc1 hc2
        go_wp2_with fail
        refine (HE.out _).mono ?_
        rintro e w5 ⟨rfl, rfl⟩
        go_wp2_with fail
        go_ret2
        exact ⟨by rw [hR1.out]; rfl, HW.out _ HBA.out⟩
      by_cases hc6 : e8 ≠ 6
      · have e6 : ((e8 : Int) != 6) = true := by rw [bne_iff_ne]; omega
        have hR1 := Lib.hid (HLB.out (by obtain ⟨h1, h2, h3⟩ := HXX.out; unfold badE6; rw [← h1, ← h2]; exact .inr (.inr (.inl (by rw [← h3]; exact hc6)))))
        by_cases hc1 : T = 0
        · have tz : (T == 0) = true := by simpa using hc1
          have kz : decide ((0 : Int) < (k : Int)) = false := by have : ¬ 0 < k := fun e => hc0 ⟨hc1, e⟩; simp; omega
          have kz' : ¬ (0 : Int) < (k : Int) := by have : ¬ 0 < k := fun e => hc0 ⟨hc1, e⟩; omega
          clear hc0 hc1 hc6
          go_wp2_with fail
          refine (HE.out _).mono ?_
          rintro e w5 ⟨rfl, rfl⟩
          go_wp2_with fail
          go_ret2
          exact ⟨by rw [hR1.out]; rfl, HW.out _ HBA.out⟩
        · have tz : (T == 0) = false := by simpa using hc1
          clear hc0 hc1 hc6
          go_wp2_with fail
          refine (HE.out _).mono ?_
          rintro e w5 ⟨rfl, rfl⟩
          go_wp2_with fail
          go_ret2
          exact ⟨by rw [hR1.out]; rfl, HW.out _ HBA.out⟩
      have e6 : ((e8 : Int) != 6) = false := by rw [bne_eq_false_iff_eq]; omega
      by_cases hc7 : 2046 < D.size
      · have s7 : decide ((2046 : Int) < (D.size : Int)) = true := by simp; omega
        have s7' : (2046 : Int) < (D.size : Int) := by omega
        have hR1 := Lib.hid (HLB.out (by obtain ⟨h1, h2, h3⟩ := HXX.out; unfold badE6; rw [← h1, ← h2]; exact .inr (.inr (.inr hc7))))
        by_cases hc1 : T = 0
        · have tz : (T == 0) = true := by simpa using hc1
          have kz : decide ((0 : Int) < (k : Int)) = false := by have : ¬ 0 < k := fun e => hc0 ⟨hc1, e⟩; simp; omega
          have kz' : ¬ (0 : Int) < (k : Int) := by have : ¬ 0 < k := fun e => hc0 ⟨hc1, e⟩; omega
          clear hc0 hc1 hc6 hc7
          go_wp2_with fail
          refine (HE.out _).mono ?_
          rintro e w5 ⟨rfl, rfl⟩
          go_wp2_with fail
          go_ret2
          exact ⟨by rw [hR1.out]; rfl, HW.out _ HBA.out⟩
        · have tz : (T == 0) = false := by simpa using hc1
          clear hc0 hc1 hc6 hc7
          go_wp2_with fail
          refine (HE.out _).mono ?_
          rintro e w5 ⟨rfl, rfl⟩
          go_wp2_with fail
          go_ret2
          exact ⟨by rw [hR1.out]; rfl, HW.out _ HBA.out⟩
      have s7 : decide ((2046 : Int) < (D.size : Int)) = false := by simp; omega
      have s7' : ¬ (2046 : Int) < (D.size : Int) := by omega
      have HK1 := Lib.hid (ok6_next HK.out HGT.out (by
        obtain ⟨h1, h2, h3⟩ := HXX.out
        unfold badE6
        rw [← h1, ← h2]
        rintro (h | h | h | h)
        · exact h HCE.out
        · exact hc0 h
        · omega
        · exact hc7 h))
      by_cases hc1 : T = 0
      · have tz : (T == 0) = true := by simpa using hc1
        have kz : decide ((0 : Int) < (k : Int)) = false := by have : ¬ 0 < k := fun e => hc0 ⟨hc1, e⟩; simp; omega
        have kz' : ¬ (0 : Int) < (k : Int) := by have : ¬ 0 < k := fun e => hc0 ⟨hc1, e⟩; omega
        clear hc0 hc1 hc6 hc7
        go_wp2_with fail
        refine (HE.out _).mono ?_
        rintro e w5 ⟨rfl, rfl⟩
        go_wp2_with fail
        go_roundw
        case rel => exact ⟨k + 1, by go_num, by omega, HK1, HBA⟩
        case measure => simp [intOf]; omega
      · have tz : (T == 0) = false := by simpa using hc1
        clear hc0 hc1 hc6 hc7
        go_wp2_with fail
        refine (HE.out _).mono ?_
        rintro e w5 ⟨rfl, rfl⟩
        go_wp2_with fail
        go_roundw
        case rel => exact ⟨k + 1, by go_num, by omega, HK1, HBA⟩
        case measure => simp [intOf]; omega
    · obtain rfl : k = n := by omega
      have dlt : decide ((k : Int) < (k : Int)) = false := by simp
      have nlt : ¬ (k : Int) < (k : Int) := by omega
      have HOK := Lib.hid (show okE6 l from fun i y hy => HK.out i y (by have h1 := (List.getElem?_eq_some_iff.1 hy).1; have := HN.out; omega) hy)
      have x3 := HV.out wr HB.out 3 (.int .i64 (N : Int)) rfl
      have x15 := HV.out wr HB.out 15 (.string P) rfl
      have x11 := HV.out wr HB.out 11 (.bool frg) rfl
      clear HK
      by_cases cP : 65535 < P.size
      · have dP : decide ((65535 : Int) < (P.size : Int)) = true := by simp; omega
        have iP : (65535 : Int) < (P.size : Int) := by omega
        have hR1 := Lib.hid (show Q = ([], 3) by
          rw [HRR.out]
          unfold encX
          rw [if_neg HBAD.out]
          have hpx : p.exts = l := by rw [HPE.out]
          have hpy : p.pay.length = P.size := by rw [HPE.out]; exact HPP.out.2.symm
          rw [hpx, ← HN.out, if_neg HC9.out, if_neg (Classical.not_not.2 HOK.out), hpy]
          rw [if_pos cP])
        clear cP
        go_wp2_with fail
        go_ret2
        exact ⟨by rw [hR1.out]; rfl, HW.out _ HB.out⟩
      have dP : decide ((65535 : Int) < (P.size : Int)) = false := by simp; omega
      have iP : ¬ (65535 : Int) < (P.size : Int) := by omega
      have hP5 : P.size ≤ 65535 := by omega
      have HCP := Lib.hid cP
      clear cP
      go_upto_if 64 with (fail)
      go_cut [6, 7, 8] from 11 (fun s6 s7 s8 wc => ∃ (nx : Nat) (bd : List UInt8) (Bd : ByteArray) (lo : Int), s6 = .int .i64 (nx : Int) ∧ s7 = .string Bd ∧ nx < 256 ∧ Bd.size ≤ 65543 ∧ Hid ((nx, bd) = tlX p) ∧ Hid (Bd = str bd) ∧ Hid (Below W1.heap.size W1 wc))
      case first =>
        clear HX HLO HRR
        cases frg with
        | false =>
          have HTL := Lib.hid (show (N, pay) = tlX p by unfold tlX; rw [HPE.out]; rfl)
          go_wp2_with fail
          go_meet
          case rel => exact ⟨N, pay, P, 0, rfl, rfl, by omega, by omega, HTL, Lib.hid HPP.out.1, HB⟩
        | true =>
          have h910 := H9.out.2
          have hnn : ¬ (id < 0 ∨ 4294967296 ≤ id ∨ off < 0 ∨ 65528 < off ∨ off % 8 ≠ 0) := fun e => h910 ⟨rfl, e⟩
          obtain ⟨I, hI⟩ : ∃ T : Nat, id = (T : Int) := ⟨id.toNat, by omega⟩
          obtain ⟨F, hF⟩ : ∃ T : Nat, off = (T : Int) := ⟨off.toNat, by omega⟩
          have hIl : I < 4294967296 := by omega
          have hFl : F ≤ 65528 := by omega
          obtain ⟨lw, hlw⟩ : ∃ x : Nat, x = (if more then 1 else 0) := ⟨_, rfl⟩
          have hlw1 : lw ≤ 1 := by rw [hlw]; split <;> omega
          obtain ⟨fl, hfl⟩ : ∃ x, x = F + lw := ⟨_, rfl⟩
          have kfl : (F : Int) + (lw : Int) = (fl : Int) := by omega
          have hfl6 : fl < 65536 := by omega
          have HTL := Lib.hid (show (44, UInt8.ofNat N :: 0 :: (beL 2 fl ++ beL 4 I) ++ pay) = tlX p by
            unfold tlX frB
            rw [HPE.out]
            simp only [if_true]
            rw [hI, hF, Int.toNat_natCast, Int.toNat_natCast, Int.toNat_natCast, hfl, hlw])
          have HP1 := Lib.hid (fun (W : World) => rput12_any N 1 (N : Int) 1 rfl rfl (by omega) (by decide) W)
          have HP0 := Lib.hid (fun (W : World) => rput12_any 0 1 0 1 rfl rfl (by decide) (by decide) W)
          have HP2 := Lib.hid (fun (W : World) => rput12_any fl 2 (fl : Int) 2 rfl rfl (by omega) (by decide) W)
          have HP4 := Lib.hid (fun (W : World) => rput12_any I 4 (I : Int) 4 rfl rfl (by omega) (by decide) W)
          have HBD := Lib.hid (show str (beL 1 N) ++ str (beL 1 0) ++ str (beL 2 fl) ++ str (beL 4 I) ++ P = str (UInt8.ofNat N :: 0 :: (beL 2 fl ++ beL 4 I) ++ pay) by
            rw [HPP.out.1, str_append, str_append, str_append, str_append, beL_one, beL_one, ofNat_mod]
            simp)
          obtain ⟨T1, hT1⟩ : ∃ t, t = str (beL 1 N) := ⟨_, rfl⟩
          obtain ⟨T0, hT0⟩ : ∃ t, t = str (beL 1 0) := ⟨_, rfl⟩
          obtain ⟨T2, hT2⟩ : ∃ t, t = str (beL 2 fl) := ⟨_, rfl⟩
          obtain ⟨T4, hT4⟩ : ∃ t, t = str (beL 4 I) := ⟨_, rfl⟩
          have s1 : T1.size = 1 := by rw [hT1, str_size, beL_len]
          have s0 : T0.size = 1 := by rw [hT0, str_size, beL_len]
          have s2 : T2.size = 2 := by rw [hT2, str_size, beL_len]
          have s4 : T4.size = 4 := by rw [hT4, str_size, beL_len]
          rw [← hT1] at HP1 HBD
          rw [← hT0] at HP0 HBD
          rw [← hT2] at HP2 HBD
          rw [← hT4] at HP4 HBD
          have HBZ := Lib.hid (show (T1 ++ T0 ++ T2 ++ T4 ++ P).size ≤ 65543 by simp only [ByteArray.size_append]; omega)
          have r1 : (9223372036854775807 < T1.size + T0.size) = False := by simp only [eq_iff_iff, iff_false]; omega
          have r2 : (9223372036854775807 < T1.size + T0.size + T2.size) = False := by simp only [eq_iff_iff, iff_false]; omega
          have r3 : (9223372036854775807 < T1.size + T0.size + T2.size + T4.size) = False := by simp only [eq_iff_iff, iff_false]; omega
          have r4 : (9223372036854775807 < T1.size + T0.size + T2.size + T4.size + P.size) = False := by simp only [eq_iff_iff, iff_false]; omega
          have r2' : (9223372036854775807 < (T1 ++ T0).size + T2.size) = False := by rw [ByteArray.size_append]; exact r2
          have r3' : (9223372036854775807 < (T1 ++ T0 ++ T2).size + T4.size) = False := by rw [ByteArray.size_append, ByteArray.size_append]; exact r3
          have r4' : (9223372036854775807 < (T1 ++ T0 ++ T2 ++ T4).size + P.size) = False := by rw [ByteArray.size_append, ByteArray.size_append, ByteArray.size_append]; exact r4
          have x10m := HV.out wr HB.out 14 (.bool more) rfl
          have ufl : IntKind.i64.wrap (fl : Int) = (fl : Int) := by rw [IntKind.wrap_i64]; omega
          have HF9 := Lib.hid (And.intro hI hF)
          have hlw2 := hlw
          clear hT1 hT0 hT2 hT4 hfl h910 hnn hlw s1 s0 s2 s4
          have HLW := Lib.hid hlw2
          clear hlw2
          have HCUT := Lib.hid (show True from trivial)
          cases more with
          | false =>
            have hz : lw = 0 := HLW.out
            have efl : F = fl := by omega
            subst efl
            clear kfl
            go_upto_region 19 with fail
            refine wp_region_pick (fun w' => Below wr.heap.size wr w') (by kernel_rfl) (by kernel_rfl) (Below.refl _ _) ⟨rfl, rfl, rfl, Nat.le_refl _, fun _ _ => rfl⟩ (fun pw hp hq => ?_)
            have hI := HF9.out.1
            have hF := HF9.out.2
            subst hI hF
            clear hz
            have y12 : ∀ u, (pw u).cell? ⟨g, 12, none⟩ = some (.int .i64 (I : Int)) := fun u => HV.out _ (HB.out.trans ((hp u).mono HB.out.size)) 12 _ rfl
            have y13 : ∀ u, (pw u).cell? ⟨g, 13, none⟩ = some (.int .i64 (F : Int)) := fun u => HV.out _ (HB.out.trans ((hp u).mono HB.out.size)) 13 _ rfl
            have HP := Lib.hid hp
            have HQ := Lib.hid hq
            clear hp hq
            repeat (go_big_quiet_step ((first | with_reducible exact Calls.pick_of HQ.out (fun W' hb => (HP.out _).trans (hb.mono (HP.out _).size)) (HP1.out _) | with_reducible exact Calls.pick_of HQ.out (fun W' hb => (HP.out _).trans (hb.mono (HP.out _).size)) (HP0.out _) | with_reducible exact Calls.pick_of HQ.out (fun W' hb => (HP.out _).trans (hb.mono (HP.out _).size)) (HP2.out _) | with_reducible exact Calls.pick_of HQ.out (fun W' hb => (HP.out _).trans (hb.mono (HP.out _).size)) (HP4.out _))))
            refine wpQuiet_nil ?_
            rintro _ ⟨u, rfl⟩
            have HB5 := Lib.hid (HB.out.trans ((HP.out u).mono HB.out.size))
            generalize pw u = w5 at *
            clear HP HQ y12 y13
            go_wp2_with fail
            go_meet
            case rel => exact ⟨44, _, T1 ++ T0 ++ T2 ++ T4 ++ P, 0, rfl, rfl, by omega, HBZ.out, HTL, HBD, HB5⟩
          | true =>
            have hz : lw = 1 := HLW.out
            have kfl1 : (F : Int) + 1 = (fl : Int) := by omega
            clear kfl
            go_upto_region 19 with fail
            refine wp_region_pick (fun w' => Below wr.heap.size wr w') (by kernel_rfl) (by kernel_rfl) (Below.refl _ _) ⟨rfl, rfl, rfl, Nat.le_refl _, fun _ _ => rfl⟩ (fun pw hp hq => ?_)
            have hI := HF9.out.1
            have hF := HF9.out.2
            subst hI hF
            clear hz
            have y12 : ∀ u, (pw u).cell? ⟨g, 12, none⟩ = some (.int .i64 (I : Int)) := fun u => HV.out _ (HB.out.trans ((hp u).mono HB.out.size)) 12 _ rfl
            have y13 : ∀ u, (pw u).cell? ⟨g, 13, none⟩ = some (.int .i64 (F : Int)) := fun u => HV.out _ (HB.out.trans ((hp u).mono HB.out.size)) 13 _ rfl
            have HP := Lib.hid hp
            have HQ := Lib.hid hq
            clear hp hq
            repeat (go_big_quiet_step ((first | with_reducible exact Calls.pick_of HQ.out (fun W' hb => (HP.out _).trans (hb.mono (HP.out _).size)) (HP1.out _) | with_reducible exact Calls.pick_of HQ.out (fun W' hb => (HP.out _).trans (hb.mono (HP.out _).size)) (HP0.out _) | with_reducible exact Calls.pick_of HQ.out (fun W' hb => (HP.out _).trans (hb.mono (HP.out _).size)) (HP2.out _) | with_reducible exact Calls.pick_of HQ.out (fun W' hb => (HP.out _).trans (hb.mono (HP.out _).size)) (HP4.out _))))
            refine wpQuiet_nil ?_
            rintro _ ⟨u, rfl⟩
            have HB5 := Lib.hid (HB.out.trans ((HP.out u).mono HB.out.size))
            generalize pw u = w5 at *
            clear HP HQ y12 y13
            go_wp2_with fail
            go_meet
            case rel => exact ⟨44, _, T1 ++ T0 ++ T2 ++ T4 ++ P, 0, rfl, rfl, by omega, HBZ.out, HTL, HBD, HB5⟩
      case rest =>
        obtain ⟨nx, bd, Bd, lo, rfl, rfl, hnx, hBd, HTL, HBd, HB3⟩ := hcut
        have x10 := HV.out wc HB3.out 10 (.slice A k c) rfl
        have HK8 := Lib.hid hn8
        clear x3 x15 x11 dP iP HB HB2 d9 i9 dlt nlt
        go_wp2_with fail
        go_loopw [6, 7, 9] (fun v6 v7 v9 wr => ∃ (i : Int) (j nx2 : Nat) (bd2 : List UInt8) (Bd2 : ByteArray), v6 = .int .i64 (nx2 : Int) ∧ v7 = .string Bd2 ∧ v9 = .int .i64 i ∧ i = (j : Int) - 1 ∧ j ≤ k ∧ nx2 < 256 ∧ Bd2.size ≤ 65543 + 2048 * (k - j) ∧ Hid ((nx2, bd2) = wrX (l.drop j) nx bd) ∧ Hid (Bd2 = str bd2) ∧ Hid (Below W1.heap.size W1 wr)) (fun _ _ v9 _ => (intOf v9 + 1).toNat)
        case atStart => exact ⟨(k : Int) - 1, k, nx, bd, Bd, rfl, rfl, rfl, rfl, Nat.le_refl _, hnx, by omega, Lib.hid (by rw [HN.out, List.drop_length]; rfl), HBd, HB3⟩
        case round =>
          obtain ⟨i, j, nx2, bd2, Bd2, rfl, rfl, rfl, hij, hj, hnx2, hBd2, HW2, HBS2, HB⟩ := hrel
          clear x10
          have x10 := HV.out wr HB.out 10 (.slice A k c) rfl
          by_cases hj0 : 0 < j
          · obtain ⟨q, hq⟩ : ∃ q, j = q + 1 := ⟨j - 1, by omega⟩
            subst hq
            have hiq : i = (q : Int) := by omega
            subst hiq
            have hq0 : (0 : Int) ≤ (q : Int) := by omega
            have dq : decide ((0 : Int) ≤ (q : Int)) = true := by simp
            have hqk : (q : Int) < (k : Int) := by omega
            obtain ⟨x, hget⟩ : ∃ x, l[q]? = some x := ⟨l[q]'(by have := HN.out; omega), List.getElem?_eq_getElem _⟩
            obtain ⟨g9, ob, hA, hg9⟩ := HS.out.shapeA (by have := HN.out; omega)
            obtain ⟨c0, c1⟩ := HLO.out wr HB.out q x hget g9 ob hA
            subst hA
            have hbx := HOK.out q x hget
            unfold badE6 at hbx
            simp only [not_or] at hbx
            obtain ⟨b1, -, b3, b4⟩ := hbx
            have hkx : extK x.kd := Classical.not_not.1 b1
            obtain ⟨T, hT⟩ : ∃ T : Nat, x.kd = (T : Int) := ⟨x.kd.toNat, by unfold extK at hkx; omega⟩
            have hT6 : T < 256 := by unfold extK at hkx; omega
            obtain ⟨D, hD⟩ : ∃ D, D = str x.dat := ⟨_, rfl⟩
            have hDs : D.size = x.dat.length := by rw [hD, str_size]
            rw [← hD] at c1
            rw [hT] at c0
            obtain ⟨d6, hd6⟩ : ∃ e, e = D.size - 6 := ⟨_, rfl⟩
            obtain ⟨q8, hq8⟩ : ∃ e, e = d6 / 8 := ⟨_, rfl⟩
            have kd6 : (D.size : Int) - 6 = (d6 : Int) := by omega
            have kq8 : (d6 : Int) / 8 = (q8 : Int) := by omega
            have kq8' : (d6 : Int).tdiv 8 = (q8 : Int) := by rw [Int.tdiv_eq_ediv_of_nonneg (by omega)]; exact kq8
            have hDl : D.size ≤ 2046 := by omega
            have hq8l : q8 < 256 := by omega
            have HP1 := Lib.hid (fun (W : World) => rput12_any nx2 1 (nx2 : Int) 1 rfl rfl (by omega) (by decide) W)
            have HP2 := Lib.hid (fun (W : World) => rput12_any q8 1 (q8 : Int) 1 rfl rfl (by omega) (by decide) W)
            have hwd := wrX_drop hget nx bd
            rw [← HW2.out] at hwd
            have HW3 := Lib.hid (show (T, UInt8.ofNat nx2 :: UInt8.ofNat q8 :: (x.dat ++ bd2)) = wrX (l.drop q) nx bd by
              rw [hwd, show x.kd.toNat = T by omega, show (x.dat.length - 6) / 8 = q8 by omega])
            have HBD := Lib.hid (show str (beL 1 nx2) ++ str (beL 1 q8) ++ D ++ Bd2 = str (UInt8.ofNat nx2 :: UInt8.ofNat q8 :: (x.dat ++ bd2)) by
              rw [hD, HBS2.out, str_append, str_append, str_append, beL_one, beL_one, ofNat_mod, ofNat_mod]
              simp)
            obtain ⟨T1, hT1⟩ : ∃ t, t = str (beL 1 nx2) := ⟨_, rfl⟩
            obtain ⟨T2, hT2⟩ : ∃ t, t = str (beL 1 q8) := ⟨_, rfl⟩
            have s1 : T1.size = 1 := by rw [hT1, str_size, beL_len]
            have s2 : T2.size = 1 := by rw [hT2, str_size, beL_len]
            rw [← hT1] at HP1 HBD
            rw [← hT2] at HP2 HBD
            have HBZ := Lib.hid (show (T1 ++ T2 ++ D ++ Bd2).size ≤ 65543 + 2048 * (k - q) by simp only [ByteArray.size_append]; omega)
            have r1 : (9223372036854775807 < T1.size + T2.size) = False := by simp only [eq_iff_iff, iff_false]; omega
            have r2 : (9223372036854775807 < T1.size + T2.size + D.size) = False := by simp only [eq_iff_iff, iff_false]; omega
            have r3 : (9223372036854775807 < T1.size + T2.size + D.size + Bd2.size) = False := by simp only [eq_iff_iff, iff_false]; omega
            have r2' : (9223372036854775807 < (T1 ++ T2).size + D.size) = False := by rw [ByteArray.size_append]; exact r2
            have r3' : (9223372036854775807 < (T1 ++ T2 ++ D).size + Bd2.size) = False := by rw [ByteArray.size_append, ByteArray.size_append]; exact r3
            obtain ⟨W5, hW5⟩ : ∃ W, W = wr.alloc (.cells #[.int .i64 (T : Int), .string D] 59) := ⟨_, rfl⟩
            obtain ⟨ge, hge⟩ : ∃ e, e = wr.heap.size := ⟨_, rfl⟩
            have HE5 := Lib.hid (show Cells W5 ge 59 #[.int .i64 (T : Int), .string D] by rw [hW5, hge]; exact heap_alloc_new wr _)
            have HB5 := Lib.hid (show Below W1.heap.size W1 W5 by rw [hW5]; exact HB.out.alloc HB.out.size _)
            clear hwd hT1 hT2 hget hT hD hd6 hq8 b1 b3 b4 hkx hDs hBd2 s1 s2 hj0 hij
            go_upto_region 25 with fail
            rw [← hW5, ← hge]
            clear hW5 hge c0 c1 x10
            refine wp_region_pick (fun w' => Below W5.heap.size W5 w') (by kernel_rfl) (by kernel_rfl) (Below.refl _ _) ⟨rfl, rfl, rfl, Nat.le_refl _, fun _ _ => rfl⟩ (fun pw hp hq => ?_)
            have y1 : ∀ u, (pw u).cell? ⟨ge, 1, none⟩ = some (.string D) := fun u => box_cell HE5.out (hp u) 1 _ rfl
            have HP := Lib.hid hp
            have HQ := Lib.hid hq
            clear hp hq
            repeat (go_big_quiet_step ((first | with_reducible exact Calls.pick_of HQ.out (fun W' hb => (HP.out _).trans (hb.mono (HP.out _).size)) (HP1.out _) | with_reducible exact Calls.pick_of HQ.out (fun W' hb => (HP.out _).trans (hb.mono (HP.out _).size)) (HP2.out _))))
            refine wpQuiet_nil ?_
            rintro _ ⟨u, rfl⟩
            have HB6 := Lib.hid (HB5.out.trans ((HP.out u).mono HB5.out.size))
            have y0 := box_cell HE5.out (HP.out u) 0 (.int .i64 (T : Int)) rfl
            generalize pw u = w6 at *
            clear HP HQ y1 HE5 HB5 r1 r2 r3 r2' r3'
            go_wp2_with fail
            go_roundw
            case rel => exact ⟨(q : Int) - 1, q, T, _, T1 ++ T2 ++ D ++ Bd2, rfl, rfl, by first | rfl | go_num, rfl, by omega, hT6, HBZ.out, HW3, HBD, HB6⟩
            case measure => simp [intOf]
          · have hj00 : j = 0 := by omega
            subst hj00
            have hi1 : i = -1 := by omega
            subst hi1
            have HBO := Lib.hid (show bodX p = (nx2, bd2) by
              unfold bodX
              rw [HW2.out, List.drop_zero, ← HTL.out, HPE.out])
            have hBl : Bd2.size = bd2.length := by rw [HBS2.out, str_size]
            have HBL := Lib.hid hBl
            have hBs : Bd2.size ≤ 100000 := by omega
            clear x10
            by_cases cB : 65535 < Bd2.size
            · have dB : decide ((65535 : Int) < (Bd2.size : Int)) = true := by simp; omega
              have iB : (65535 : Int) < (Bd2.size : Int) := by omega
              have hR1 := Lib.hid (show Q = ([], 3) by
                rw [HRR.out]
                unfold encX
                rw [if_neg HBAD.out]
                have hpx : p.exts = l := by rw [HPE.out]
                have hpy : p.pay.length = P.size := by rw [HPE.out]; exact HPP.out.2.symm
                rw [hpx, ← show k = l.length from HN.out, if_neg HC9.out, if_neg (Classical.not_not.2 HOK.out), hpy]
                rw [if_neg HCP.out, show (bodX p).2.length = Bd2.size by rw [HBO.out]; exact HBL.out.symm]
                rw [if_pos cB])
              clear cB hij hj hBl
              go_wp2_with fail
              go_ret2
              exact ⟨by rw [hR1.out]; rfl, HW.out _ HB.out⟩
            have dB : decide ((65535 : Int) < (Bd2.size : Int)) = false := by simp; omega
            have iB : ¬ (65535 : Int) < (Bd2.size : Int) := by omega
            have hB5 : Bd2.size ≤ 65535 := by omega
            have HR0 := Lib.hid (show Q = (hdX p ++ (bodX p).2, 0) by
              rw [HRR.out]
              unfold encX
              rw [if_neg HBAD.out]
              have hpx : p.exts = l := by rw [HPE.out]
              have hpy : p.pay.length = P.size := by rw [HPE.out]; exact HPP.out.2.symm
              rw [hpx, ← show k = l.length from HN.out, if_neg HC9.out, if_neg (Classical.not_not.2 HOK.out), hpy]
              rw [if_neg HCP.out, show (bodX p).2.length = Bd2.size by rw [HBO.out]; exact HBL.out.symm]
              rw [if_neg cB])
            obtain ⟨c2, hc2⟩ : ∃ c, c = C * 1048576 := ⟨_, rfl⟩
            obtain ⟨v1, hv1⟩ : ∃ v, v = 1610612736 + c2 := ⟨_, rfl⟩
            obtain ⟨V, hV⟩ : ∃ v, v = v1 + L := ⟨_, rfl⟩
            have kc2 : (C : Int) * 1048576 = (c2 : Int) := by omega
            have kc2' : (C : Int) * 2 ^ 20 = (c2 : Int) := by omega
            have uc2 : IntKind.i64.wrap (c2 : Int) = (c2 : Int) := by rw [IntKind.wrap_i64]; omega
            have a1 : bits .or .i64 1610612736 (c2 : Int) = (v1 : Int) := by
              have := or_shift 6 28 c2 (by omega) (by omega)
              rw [show 6 * 2 ^ 28 + c2 = v1 by omega] at this
              exact this
            have a2 : bits .or .i64 (v1 : Int) (L : Int) = (V : Int) := by
              have := or_shift (6 * 256 + C) 20 L (by omega) (by omega)
              rw [show (6 * 256 + C) * 2 ^ 20 = v1 by omega, show v1 + L = V by omega] at this
              exact this
            have hVl : V < 4294967296 := by omega
            obtain ⟨bz, hbz⟩ : ∃ b, b = Bd2.size := ⟨_, rfl⟩
            have HP4 := Lib.hid (fun (W : World) => rput12_any V 4 (V : Int) 4 rfl rfl (by omega) (by decide) W)
            have HP2 := Lib.hid (fun (W : World) => rput12_any Bd2.size 2 (Bd2.size : Int) 2 rfl rfl (by omega) (by decide) W)
            have HP1 := Lib.hid (fun (W : World) => rput12_any nx2 1 (nx2 : Int) 1 rfl rfl (by omega) (by decide) W)
            have HPh := Lib.hid (fun (W : World) => rput12_any H 1 (H : Int) 1 rfl rfl (by omega) (by decide) W)
            have HBs := Lib.hid (fun (W : World) => bytes16_any sh sl W H64.out.1 H64.out.2.1)
            have HBt := Lib.hid (fun (W : World) => bytes16_any dh dl W H64.out.2.2.1 H64.out.2.2.2)
            have HFIN := Lib.hid (show str (beL 4 V) ++ str (beL 2 Bd2.size) ++ str (beL 1 nx2) ++ str (beL 1 H) ++ str (beL 8 sh ++ beL 8 sl) ++ str (beL 8 dh ++ beL 8 dl) ++ Bd2 = str (hdX p ++ (bodX p).2) by
              unfold hdX
              rw [HBO.out, HBS2.out, HPE.out]
              simp only [Int.toNat_natCast]
              rw [show 6 * 268435456 + C * 1048576 + L = V by omega, show (str bd2).size = bd2.length from str_size _, beL_one, beL_one, ofNat_mod, ofNat_mod]
              simp only [str_append, List.append_assoc]
              rfl)
            obtain ⟨T4, hT4⟩ : ∃ t, t = str (beL 4 V) := ⟨_, rfl⟩
            have zT4 : T4.size = 4 := by rw [hT4, str_size]; simp [beL_len]
            rw [← hT4] at HP4 HFIN
            clear hT4
            obtain ⟨T2, hT2⟩ : ∃ t, t = str (beL 2 Bd2.size) := ⟨_, rfl⟩
            have zT2 : T2.size = 2 := by rw [hT2, str_size]; simp [beL_len]
            rw [← hT2] at HP2 HFIN
            clear hT2
            obtain ⟨T1, hT1⟩ : ∃ t, t = str (beL 1 nx2) := ⟨_, rfl⟩
            have zT1 : T1.size = 1 := by rw [hT1, str_size]; simp [beL_len]
            rw [← hT1] at HP1 HFIN
            clear hT1
            obtain ⟨Th, hTh⟩ : ∃ t, t = str (beL 1 H) := ⟨_, rfl⟩
            have zTh : Th.size = 1 := by rw [hTh, str_size]; simp [beL_len]
            rw [← hTh] at HPh HFIN
            clear hTh
            obtain ⟨Ss, hSs⟩ : ∃ t, t = str (beL 8 sh ++ beL 8 sl) := ⟨_, rfl⟩
            have zSs : Ss.size = 16 := by rw [hSs, str_size]; simp [beL_len]
            rw [← hSs] at HBs HFIN
            clear hSs
            obtain ⟨St, hSt⟩ : ∃ t, t = str (beL 8 dh ++ beL 8 dl) := ⟨_, rfl⟩
            have zSt : St.size = 16 := by rw [hSt, str_size]; simp [beL_len]
            rw [← hSt] at HBt HFIN
            clear hSt
            have r1 : (9223372036854775807 < T4.size + T2.size) = False := by simp only [eq_iff_iff, iff_false]; omega
            have r2 : (9223372036854775807 < T4.size + T2.size + T1.size) = False := by simp only [eq_iff_iff, iff_false]; omega
            have r3 : (9223372036854775807 < T4.size + T2.size + T1.size + Th.size) = False := by simp only [eq_iff_iff, iff_false]; omega
            have r4 : (9223372036854775807 < T4.size + T2.size + T1.size + Th.size + Ss.size) = False := by simp only [eq_iff_iff, iff_false]; omega
            have r5 : (9223372036854775807 < T4.size + T2.size + T1.size + Th.size + Ss.size + St.size) = False := by simp only [eq_iff_iff, iff_false]; omega
            have r6 : (9223372036854775807 < T4.size + T2.size + T1.size + Th.size + Ss.size + St.size + Bd2.size) = False := by simp only [eq_iff_iff, iff_false]; omega
            have r2' : (9223372036854775807 < (T4 ++ T2).size + T1.size) = False := by simp only [ByteArray.size_append]; exact r2
            have r3' : (9223372036854775807 < (T4 ++ T2 ++ T1).size + Th.size) = False := by simp only [ByteArray.size_append]; exact r3
            have r4' : (9223372036854775807 < (T4 ++ T2 ++ T1 ++ Th).size + Ss.size) = False := by simp only [ByteArray.size_append]; exact r4
            have r5' : (9223372036854775807 < (T4 ++ T2 ++ T1 ++ Th ++ Ss).size + St.size) = False := by simp only [ByteArray.size_append]; exact r5
            have r6' : (9223372036854775807 < (T4 ++ T2 ++ T1 ++ Th ++ Ss ++ St).size + Bd2.size) = False := by simp only [ByteArray.size_append]; exact r6
            clear hc2 hv1 hV hbz hBl hij hj
            go_upto_region 29 with fail
            refine wp_region_pick (fun w' => Below wr.heap.size wr w') (by kernel_rfl) (by kernel_rfl) (Below.refl _ _) ⟨rfl, rfl, rfl, Nat.le_refl _, fun _ _ => rfl⟩ (fun pw hp hq => ?_)
            have y0 : ∀ u, (pw u).cell? ⟨g, 0, none⟩ = some (Value.int .i64 (C : Int)) := fun u => HV.out _ (HB.out.trans ((hp u).mono HB.out.size)) 0 _ rfl
            have y1 : ∀ u, (pw u).cell? ⟨g, 1, none⟩ = some (Value.int .i64 (L : Int)) := fun u => HV.out _ (HB.out.trans ((hp u).mono HB.out.size)) 1 _ rfl
            have y2 : ∀ u, (pw u).cell? ⟨g, 2, none⟩ = some (Value.int .i64 (H : Int)) := fun u => HV.out _ (HB.out.trans ((hp u).mono HB.out.size)) 2 _ rfl
            have y4 : ∀ u, (pw u).cell? ⟨g, 4, none⟩ = some (Value.bool true) := fun u => HV.out _ (HB.out.trans ((hp u).mono HB.out.size)) 4 _ rfl
            have y5 : ∀ u, (pw u).cell? ⟨g, 5, none⟩ = some (Value.int .u64 (sh : Int)) := fun u => HV.out _ (HB.out.trans ((hp u).mono HB.out.size)) 5 _ rfl
            have y6 : ∀ u, (pw u).cell? ⟨g, 6, none⟩ = some (Value.int .u64 (sl : Int)) := fun u => HV.out _ (HB.out.trans ((hp u).mono HB.out.size)) 6 _ rfl
            have y7 : ∀ u, (pw u).cell? ⟨g, 7, none⟩ = some (Value.bool true) := fun u => HV.out _ (HB.out.trans ((hp u).mono HB.out.size)) 7 _ rfl
            have y8 : ∀ u, (pw u).cell? ⟨g, 8, none⟩ = some (Value.int .u64 (dh : Int)) := fun u => HV.out _ (HB.out.trans ((hp u).mono HB.out.size)) 8 _ rfl
            have y9 : ∀ u, (pw u).cell? ⟨g, 9, none⟩ = some (Value.int .u64 (dl : Int)) := fun u => HV.out _ (HB.out.trans ((hp u).mono HB.out.size)) 9 _ rfl
            have HP := Lib.hid hp
            have HQ := Lib.hid hq
            clear hp hq
            repeat (go_big_quiet_step ((first | with_reducible exact Calls.pick_of HQ.out (fun W' hb => (HP.out _).trans (hb.mono (HP.out _).size)) (HP4.out _) | with_reducible exact Calls.pick_of HQ.out (fun W' hb => (HP.out _).trans (hb.mono (HP.out _).size)) (HP2.out _) | with_reducible exact Calls.pick_of HQ.out (fun W' hb => (HP.out _).trans (hb.mono (HP.out _).size)) (HP1.out _) | with_reducible exact Calls.pick_of HQ.out (fun W' hb => (HP.out _).trans (hb.mono (HP.out _).size)) (HPh.out _) | with_reducible exact Calls.pick_of HQ.out (fun W' hb => (HP.out _).trans (hb.mono (HP.out _).size)) (HBs.out _) | with_reducible exact Calls.pick_of HQ.out (fun W' hb => (HP.out _).trans (hb.mono (HP.out _).size)) (HBt.out _))))
            refine wpQuiet_nil ?_
            rintro _ ⟨u, rfl⟩
            have HB6 := Lib.hid (HB.out.trans ((HP.out u).mono HB.out.size))
            generalize pw u = w6 at *
            clear HP HQ y0 y1 y2 y4 y5 y6 y7 y8 y9
            go_wp2_with fail
            go_ret2
            exact ⟨by rw [HR0.out, ← HFIN.out]; rfl, HW.out _ HB6.out⟩
end Go.Proofs.Ytjjldolafnfpoaa
