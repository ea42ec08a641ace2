/- Contracts of the functions, part 33: Ip4RDec. -/
import Derived.Laws.Tables
import Derived.StillTailTactics
import Derived.Test.YtimilcjlogcfhaaPE13
import Derived.Test.YtimilcjlogcfhaaPE25
import Derived.Test.YtimilcjlogcfhaaPE26
import Derived.Test.YtimilcjlogcfhaaPE29
/- Contract of the reference of layer 11: Decode. -/
namespace Go.Proofs.Ytimilcjlogcfhaa
open Go.ChangeShapes Go.WideShapes Go.ChangeAt Go.RowKit
set_option linter.unusedVariables false

/-- FromBytes of four bytes, met by text. -/
theorem from4_any (D : ByteArray) (L : List UInt8) (h : D = str L) (hl : L.length = 4) (w : World) :
    Calls Try.prog 30 #[.string D] w fun e w' => e = .returned (.tuple #[.agg #[.bool false, .int .u64 0, .int .u64 (num L : Nat)], .int .i64 0]) ∧ Below w.heap.size w w' := by
  subst h
  refine (rfrom6_false (str L) w (by rw [str_size]; exact hl)).mono ?_
  rintro e w' ⟨⟨hi, lo, rfl, hf⟩, hb⟩
  rw [str_toList, str_size] at hf
  obtain ⟨h1, h2⟩ := (show hi = 0 ∧ lo = num (L.take L.length) from hf)
  rw [List.take_length] at h2
  subst h1 h2
  exact ⟨rfl, hb⟩
theorem sum11_any (D : ByteArray) (L : List UInt8) (h : D = str L) (hl : L.length ≤ 1000000) (w : World) :
    Calls Try.prog 28 #[.string D] w fun e w' => e = .returned (.int .i64 (csum L : Nat)) ∧ w = w' := by
  subst h
  have := rsum_any (str L) w (by rw [str_size]; omega)
  rwa [str_toList] at this
theorem opts11_any (D : ByteArray) (L : List UInt8) (h : D = str L) (hl : L.length ≤ 1000000) (w : World) :
    Calls Try.prog 29 #[.string D] w (OptP w (optsD L)) := by
  subst h
  exact ropts11_any L w hl
/-- What Decode leaves. -/
def Dec4P (w : World) (R : Ip4R × Nat) (e : Ending) (w' : World) : Prop :=
  ∃ A cap, e = .returned (.tuple #[.agg #[.int .i64 R.1.tos, .int .i64 R.1.id, .int .i64 R.1.ttl, .int .i64 R.1.proto, .bool R.1.dont, .bool R.1.more, .int .i64 R.1.off, .bool R.1.src.v6, .int .u64 (R.1.src.hi : Int), .int .u64 (R.1.src.lo : Int), .bool R.1.dst.v6, .int .u64 (R.1.dst.hi : Int), .int .u64 (R.1.dst.lo : Int), .slice A R.1.ops.length cap, .string (str R.1.pay)], .int .i64 (R.2 : Int)]) ∧ RowL EOpt w' A R.1.ops ∧ (A = none → cap = 0) ∧ Below w.heap.size w w'
def zC4 : Array Value := #[.int .i64 0, .int .i64 0, .int .i64 0, .int .i64 0, .bool false, .bool false, .int .i64 0, .bool false, .int .u64 0, .int .u64 0, .bool false, .int .u64 0, .int .u64 0, .slice none 0 0, .string ⟨#[]⟩]
theorem s0_at {s : ByteArray} {S : List UInt8} (h : s = str S) (i : Nat) (h1 : i < s.size) : s[i].toNat = byt S i := by
  subst h
  have h2 : i < S.length := by rw [str_size] at h1; exact h1
  unfold byt
  rw [List.getD_eq_getElem?_getD, List.getElem?_eq_getElem h2]
  show ((str S).data[i]).toNat = _
  simp [str]
theorem dec4_err {w wz : World} {R : Ip4R × Nat} {er : Nat} {E : Int} (hE : (er : Int) = E) (hr : R = (zeroI, er)) (hb : Below w.heap.size w wz) :
    Dec4P w R (.returned (.tuple #[.agg #[.int .i64 0, .int .i64 0, .int .i64 0, .int .i64 0, .bool false, .bool false, .int .i64 0, .bool false, .int .u64 0, .int .u64 0, .bool false, .int .u64 0, .int .u64 0, .slice none 0 0, .string ⟨#[]⟩], .int .i64 E])) wz := by
  subst hE hr
  exact ⟨none, 0, rfl, RowL.nil _ _, fun _ => rfl, hb⟩
theorem cdrew11 (w : World) (a : Addr) : w.drew.cell? a = w.cell? a := rfl
theorem cfar11 {g b : Nat} (h : b ≠ g) (w : World) (i j : Nat) (v : Value) : (w.setCell ⟨g, i, none⟩ v).cell? ⟨b, j, none⟩ = w.cell? ⟨b, j, none⟩ :=
  World.cell?_of_block (Below.heap_setCell w ⟨g, i, none⟩ v b h)
set_option maxHeartbeats 4000000 in
set_option maxRecDepth 100000 in
theorem rdec11_any (S : List UInt8) (w : World) (hs : S.length ≤ 1000000) :
    Calls Try.prog 12 #[.string (str S)] w (Dec4P w (decI S)) := by
  have hsz : (str S).size = S.length := str_size S
  obtain ⟨s, hS⟩ : ∃ s, s = str S := ⟨_, rfl⟩
  rw [← hS] at hsz ⊢
  obtain ⟨R, hR⟩ : ∃ R, R = decI S := ⟨_, rfl⟩
  rw [← hR]
  have HB0 := Lib.hid (below_alloc6 w (.cells zC4 28))
  have HG0 := Lib.hid (show Cells (w.alloc (.cells zC4 28)) w.heap.size 28 zC4 from heap_alloc_new w _)
  unfold zC4 at HB0 HG0
  unfold decI at hR
  by_cases h20 : S.length < 20
  · have hR2 := Lib.hid (show R = (zeroI, 1) by rw [hR, if_pos h20])
    have d14 : decide ((s.size : Int) < 20) = true := by simp; omega
    have n14 : (s.size : Int) < 20 := by omega
    clear hR hS hsz h20
    go_enter Try.func12, Try.ntmps12
    go_wp2_with fail
    refine bodyPost_ret (res_box2 ipTy rfl _ _ rfl HG0.out) rfl ?_
    exact dec4_err (er := 1) rfl hR2.out HB0.out
  rw [if_neg h20] at hR
  have d14 : decide ((s.size : Int) < 20) = false := by simp; omega
  have n14 : ¬ (s.size : Int) < 20 := by omega
  have i0 : (0 : Int) < (s.size : Int) := by omega
  have hs0 : 0 < s.size := by omega
  obtain ⟨u0, hu0⟩ : ∃ u, s[0]'hs0 = u := ⟨_, rfl⟩
  have hx0 := s0_at hS 0 hs0
  rw [hu0] at hx0
  obtain ⟨b0, hb0⟩ : ∃ b, u0.toNat = b := ⟨_, rfl⟩
  rw [hb0] at hx0
  have hb0l : b0 < 256 := by rw [← hb0]; exact u8_lt u0
  obtain ⟨hd, hhd⟩ : ∃ h, h = hdL S := ⟨_, rfl⟩
  have hhd2 : hd = b0 % 16 * 4 := by rw [hhd]; unfold hdL; rw [hx0]
  rw [← hx0, ← hhd] at hR
  have khd : (b0 : Int) % 16 * 4 = (hd : Int) := by omega
  obtain ⟨q0, hq0⟩ : ∃ q, q = b0 / 16 := ⟨_, rfl⟩
  have kq0 : (b0 : Int) / 16 = (q0 : Int) := by omega
  rw [← hq0] at hR
  have hhd60 : hd ≤ 60 := by omega
  have hq16 : q0 < 16 := by omega
  go_enter Try.func12, Try.ntmps12
  by_cases h4 : q0 ≠ 4 ∨ hd < 20
  · have hR2 := Lib.hid (show R = (zeroI, 2) by rw [hR, if_pos h4])
    have hcs : (((q0 : Int) != 4) = true) ∨ (((q0 : Int) != 4) = false ∧ (hd : Int) < 20 ∧ decide ((hd : Int) < 20) = true) := by
      by_cases h : q0 = 4
      · right; exact ⟨by rw [bne_eq_false_iff_eq]; omega, by omega, by simp; omega⟩
      · left; rw [bne_iff_ne]; omega
    clear hR hS hsz h20 h4 hx0 hhd hhd2 hq0
    rcases hcs with y1 | ⟨y1, y2, y3⟩
    · go_wp2_with fail
      refine bodyPost_ret (res_box2 ipTy rfl _ _ rfl HG0.out) rfl ?_
      exact dec4_err (er := 2) rfl hR2.out HB0.out
    · go_wp2_with fail
      refine bodyPost_ret (res_box2 ipTy rfl _ _ rfl HG0.out) rfl ?_
      exact dec4_err (er := 2) rfl hR2.out HB0.out
  rw [if_neg h4] at hR
  have e4 : ((q0 : Int) != 4) = false := by rw [bne_eq_false_iff_eq]; omega
  have d20 : decide ((hd : Int) < 20) = false := by simp; omega
  have n20 : ¬ (hd : Int) < 20 := by omega
  have hd20 : 20 ≤ hd := by omega
  obtain ⟨tt, htt⟩ : ∃ t, t = nm2 S 2 := ⟨_, rfl⟩
  have htl : tt < 65536 := by rw [htt]; exact nm2_lt S 2
  rw [← htt] at hR
  have HNT := Lib.hid (fun (W : World) => show Calls Try.prog 27 #[.string s, .int .i64 2, .int .i64 2] W fun e w' => e = .returned (.int .i64 (tt : Int)) ∧ W = w' from by rw [hS, htt]; exact rnum11_any S 2 2 2 2 rfl rfl (by decide) (by omega) hs W)
  clear h4 hq0
  by_cases h5 : S.length < hd ∨ S.length < tt
  · have hR2 := Lib.hid (show R = (zeroI, 1) by rw [hR, if_pos h5])
    have hcs : ((s.size : Int) < (hd : Int) ∧ decide ((s.size : Int) < (hd : Int)) = true) ∨ (¬ (s.size : Int) < (hd : Int) ∧ decide ((s.size : Int) < (hd : Int)) = false ∧ (s.size : Int) < (tt : Int) ∧ decide ((s.size : Int) < (tt : Int)) = true) := by
      simp only [decide_eq_true_eq, decide_eq_false_iff_not]
      omega
    clear hR hS hsz h20 h5 hx0 hhd hhd2 htt
    rcases hcs with ⟨y1, y2⟩ | ⟨y1, y2, y3, y4⟩
    · go_wp2_with fail
      refine (HNT.out _).mono ?_
      rintro e w1 ⟨rfl, rfl⟩
      go_wp2_with fail
      refine bodyPost_ret (res_box2 ipTy rfl _ _ rfl HG0.out) rfl ?_
      exact dec4_err (er := 1) rfl hR2.out HB0.out
    · go_wp2_with fail
      refine (HNT.out _).mono ?_
      rintro e w1 ⟨rfl, rfl⟩
      go_wp2_with fail
      refine bodyPost_ret (res_box2 ipTy rfl _ _ rfl HG0.out) rfl ?_
      exact dec4_err (er := 1) rfl hR2.out HB0.out
  rw [if_neg h5] at hR
  have y1 : ¬ (s.size : Int) < (hd : Int) := by omega
  have y2 : decide ((s.size : Int) < (hd : Int)) = false := by simp; omega
  have y3 : ¬ (s.size : Int) < (tt : Int) := by omega
  have y4 : decide ((s.size : Int) < (tt : Int)) = false := by simp; omega
  have hds : hd ≤ s.size := by omega
  have hts : tt ≤ s.size := by omega
  clear h5
  by_cases h6 : tt < hd
  · have hR2 := Lib.hid (show R = (zeroI, 2) by rw [hR, if_pos h6])
    have y5 : (tt : Int) < (hd : Int) := by omega
    have y6 : decide ((tt : Int) < (hd : Int)) = true := by simp; omega
    clear hR hS hsz h20 h6 hx0 hhd hhd2 htt
    go_wp2_with fail
    refine (HNT.out _).mono ?_
    rintro e w1 ⟨rfl, rfl⟩
    go_wp2_with fail
    refine bodyPost_ret (res_box2 ipTy rfl _ _ rfl HG0.out) rfl ?_
    exact dec4_err (er := 2) rfl hR2.out HB0.out
  rw [if_neg h6] at hR
  have y5 : ¬ (tt : Int) < (hd : Int) := by omega
  have y6 : decide ((tt : Int) < (hd : Int)) = false := by simp; omega
  have hdt : hd ≤ tt := by omega
  clear h6
  have hex0 : s.extract 0 hd = str (S.take hd) := by rw [extract_str11 s S hS]; simp
  have HSM := Lib.hid (fun (W : World) => sum11_any (str (S.take hd)) (S.take hd) rfl (by rw [List.length_take]; omega) W)
  obtain ⟨cs, hcs⟩ : ∃ c, c = csum (S.take hd) := ⟨_, rfl⟩
  rw [← hcs] at HSM hR
  have hcl : cs ≤ 65535 := by rw [hcs]; exact csum_le _
  have hdsi : (hd : Int) ≤ (s.size : Int) := by omega
  by_cases h7 : cs = 0
  · have y7 : ((cs : Int) != 0) = false := by rw [bne_eq_false_iff_eq]; omega
    have n7 : (cs : Int) = 0 := by omega
    obtain ⟨o, ho⟩ : ∃ o, o = optsD ((S.take hd).drop 20) := ⟨_, rfl⟩
    rw [← ho, if_neg (by omega)] at hR
    have hex1 : s.extract 20 hd = str ((S.take hd).drop 20) := by rw [extract_str11 s S hS, List.drop_take]
    have HOP := Lib.hid (fun (W : World) => show Calls Try.prog 29 #[.string (str ((S.take hd).drop 20))] W (OptP W o) from by rw [ho]; exact opts11_any _ _ rfl (by rw [List.length_drop, List.length_take]; omega) W)
    obtain ⟨fl, hfl⟩ : ∃ t, t = nm2 S 6 := ⟨_, rfl⟩
    have hfll : fl < 65536 := by rw [hfl]; exact nm2_lt S 6
    rw [← hfl] at hR
    have HNF := Lib.hid (fun (W : World) => show Calls Try.prog 27 #[.string s, .int .i64 6, .int .i64 2] W fun e w' => e = .returned (.int .i64 (fl : Int)) ∧ W = w' from by rw [hS, hfl]; exact rnum11_any S 6 2 6 2 rfl rfl (by decide) (by omega) hs W)
    have h20i : (20 : Int) ≤ (hd : Int) := by omega
    generalize str (S.take hd) = D1 at *
    generalize hDO : str ((S.take hd).drop 20) = D2 at *
    obtain ⟨g0, hg0⟩ : ∃ g, g = w.heap.size := ⟨_, rfl⟩
    have HGE := Lib.hid hg0
    have HRH := Lib.hid hR
    have HSS := Lib.hid hS
    have HSZ := Lib.hid hsz
    have HXX := Lib.hid (show b0 = byt S 0 ∧ hd = hdL S ∧ tt = nm2 S 2 ∧ fl = nm2 S 6 from ⟨hx0, hhd, htt, hfl⟩)
    clear hg0 hDO hcs h7 ho hR hS hsz hx0 hhd hhd2 htt hfl h20
    go_wp2_with fail
    refine (HNT.out _).mono ?_
    rintro e w1 ⟨rfl, rfl⟩
    go_wp2_with fail
    refine (HSM.out _).mono ?_
    rintro e w1 ⟨rfl, rfl⟩
    go_wp2_with fail
    refine (HOP.out _).mono ?_
    clear HNT HSM HOP
    rw [← HGE.out]
    cases o with
    | none =>
      rintro e w2 ⟨rfl, hb⟩
      have HG2 := Lib.hid (show Cells w2 g0 28 zC4 by rw [HGE.out]; exact Cells.kept HG0.out hb HG0.out.lt)
      have HB2 := Lib.hid (HB0.out.trans (hb.mono HB0.out.size))
      have hR2 := Lib.hid (show R = (zeroI, 2) from HRH.out)
      have x0 := (Cells.cell HG2.out 0).trans (show _ = some (Value.int .i64 0) from rfl)
      have z0 := Cells.frozen HG2.out 0
      have x1 := (Cells.cell HG2.out 1).trans (show _ = some (Value.int .i64 0) from rfl)
      have z1 := Cells.frozen HG2.out 1
      have x2 := (Cells.cell HG2.out 2).trans (show _ = some (Value.int .i64 0) from rfl)
      have z2 := Cells.frozen HG2.out 2
      have x3 := (Cells.cell HG2.out 3).trans (show _ = some (Value.int .i64 0) from rfl)
      have z3 := Cells.frozen HG2.out 3
      have x4 := (Cells.cell HG2.out 4).trans (show _ = some (Value.bool false) from rfl)
      have z4 := Cells.frozen HG2.out 4
      have x5 := (Cells.cell HG2.out 5).trans (show _ = some (Value.bool false) from rfl)
      have z5 := Cells.frozen HG2.out 5
      have x6 := (Cells.cell HG2.out 6).trans (show _ = some (Value.int .i64 0) from rfl)
      have z6 := Cells.frozen HG2.out 6
      have x7 := (Cells.cell HG2.out 7).trans (show _ = some (Value.bool false) from rfl)
      have z7 := Cells.frozen HG2.out 7
      have x8 := (Cells.cell HG2.out 8).trans (show _ = some (Value.int .u64 0) from rfl)
      have z8 := Cells.frozen HG2.out 8
      have x9 := (Cells.cell HG2.out 9).trans (show _ = some (Value.int .u64 0) from rfl)
      have z9 := Cells.frozen HG2.out 9
      have x10 := (Cells.cell HG2.out 10).trans (show _ = some (Value.bool false) from rfl)
      have z10 := Cells.frozen HG2.out 10
      have x11 := (Cells.cell HG2.out 11).trans (show _ = some (Value.int .u64 0) from rfl)
      have z11 := Cells.frozen HG2.out 11
      have x12 := (Cells.cell HG2.out 12).trans (show _ = some (Value.int .u64 0) from rfl)
      have z12 := Cells.frozen HG2.out 12
      have x13 := (Cells.cell HG2.out 13).trans (show _ = some (Value.slice none 0 0) from rfl)
      have z13 := Cells.frozen HG2.out 13
      have x14 := (Cells.cell HG2.out 14).trans (show _ = some (Value.string ⟨#[]⟩) from rfl)
      have z14 := Cells.frozen HG2.out 14
      have hgl := HG2.out.lt
      clear hb HG0 HB0 HRH
      go_wp2_with fail
      refine (HNF.out _).mono ?_
      rintro e w3 ⟨rfl, rfl⟩
      go_wp2_with fail
      refine bodyPost_ret (res_box2 ipTy rfl _ _ rfl (HG2.out.put [.int .i64 0, .int .i64 0, .int .i64 0, .int .i64 0, .bool false, .bool false, .int .i64 0, .bool false, .int .u64 0, .int .u64 0, .bool false, .int .u64 0, .int .u64 0, .slice none 0 0, .string ⟨#[]⟩] rfl)) rfl ?_
      exact dec4_err (er := 2) rfl hR2.out (putB_below (Nat.le_of_eq HGE.out.symm) [.int .i64 0, .int .i64 0, .int .i64 0, .int .i64 0, .bool false, .bool false, .int .i64 0, .bool false, .int .u64 0, .int .u64 0, .bool false, .int .u64 0, .int .u64 0, .slice none 0 0, .string ⟨#[]⟩] 0 _ HB2.out)
    | some l =>
      rintro e w2 ⟨A, c, rfl, hrow, hnil, hnew, hb⟩
      have HNW := Lib.hid (show ∀ a, A = some a → g0 < a.block from fun a ha => by have h1 := hnew a ha; have h2 := HG0.out.lt; rw [← HGE.out] at h2; omega)
      have HG2 := Lib.hid (show Cells w2 g0 28 zC4 by rw [HGE.out]; exact Cells.kept HG0.out hb HG0.out.lt)
      have HB2 := Lib.hid (HB0.out.trans (hb.mono HB0.out.size))
      have HRO := Lib.hid hrow
      have HNI := Lib.hid hnil
      clear hb HG0 HB0 hrow hnil hnew
      by_cases h8 : 32768 ≤ fl
      · have hR2 := Lib.hid (show R = (zeroI, 2) by rw [HRH.out]; simp only; rw [if_pos h8])
        have y8 : decide ((32768 : Int) ≤ (fl : Int)) = true := by simp; omega
        have n8 : (32768 : Int) ≤ (fl : Int) := by omega
        have x0 := (Cells.cell HG2.out 0).trans (show _ = some (Value.int .i64 0) from rfl)
        have z0 := Cells.frozen HG2.out 0
        have x1 := (Cells.cell HG2.out 1).trans (show _ = some (Value.int .i64 0) from rfl)
        have z1 := Cells.frozen HG2.out 1
        have x2 := (Cells.cell HG2.out 2).trans (show _ = some (Value.int .i64 0) from rfl)
        have z2 := Cells.frozen HG2.out 2
        have x3 := (Cells.cell HG2.out 3).trans (show _ = some (Value.int .i64 0) from rfl)
        have z3 := Cells.frozen HG2.out 3
        have x4 := (Cells.cell HG2.out 4).trans (show _ = some (Value.bool false) from rfl)
        have z4 := Cells.frozen HG2.out 4
        have x5 := (Cells.cell HG2.out 5).trans (show _ = some (Value.bool false) from rfl)
        have z5 := Cells.frozen HG2.out 5
        have x6 := (Cells.cell HG2.out 6).trans (show _ = some (Value.int .i64 0) from rfl)
        have z6 := Cells.frozen HG2.out 6
        have x7 := (Cells.cell HG2.out 7).trans (show _ = some (Value.bool false) from rfl)
        have z7 := Cells.frozen HG2.out 7
        have x8 := (Cells.cell HG2.out 8).trans (show _ = some (Value.int .u64 0) from rfl)
        have z8 := Cells.frozen HG2.out 8
        have x9 := (Cells.cell HG2.out 9).trans (show _ = some (Value.int .u64 0) from rfl)
        have z9 := Cells.frozen HG2.out 9
        have x10 := (Cells.cell HG2.out 10).trans (show _ = some (Value.bool false) from rfl)
        have z10 := Cells.frozen HG2.out 10
        have x11 := (Cells.cell HG2.out 11).trans (show _ = some (Value.int .u64 0) from rfl)
        have z11 := Cells.frozen HG2.out 11
        have x12 := (Cells.cell HG2.out 12).trans (show _ = some (Value.int .u64 0) from rfl)
        have z12 := Cells.frozen HG2.out 12
        have x13 := (Cells.cell HG2.out 13).trans (show _ = some (Value.slice none 0 0) from rfl)
        have z13 := Cells.frozen HG2.out 13
        have x14 := (Cells.cell HG2.out 14).trans (show _ = some (Value.string ⟨#[]⟩) from rfl)
        have z14 := Cells.frozen HG2.out 14
        have hgl := HG2.out.lt
        clear HRH h8
        go_wp2_with fail
        refine (HNF.out _).mono ?_
        rintro e w3 ⟨rfl, rfl⟩
        go_wp2_with fail
        refine bodyPost_ret (res_box2 ipTy rfl _ _ rfl (HG2.out.put [.int .i64 0, .int .i64 0, .int .i64 0, .int .i64 0, .bool false, .bool false, .int .i64 0, .bool false, .int .u64 0, .int .u64 0, .bool false, .int .u64 0, .int .u64 0, .slice none 0 0, .string ⟨#[]⟩] rfl)) rfl ?_
        exact dec4_err (er := 2) rfl hR2.out (putB_below (Nat.le_of_eq HGE.out.symm) [.int .i64 0, .int .i64 0, .int .i64 0, .int .i64 0, .bool false, .bool false, .int .i64 0, .bool false, .int .u64 0, .int .u64 0, .bool false, .int .u64 0, .int .u64 0, .slice none 0 0, .string ⟨#[]⟩] 0 _ HB2.out)
      · have y8 : decide ((32768 : Int) ≤ (fl : Int)) = false := by simp; omega
        have n8 : ¬ (32768 : Int) ≤ (fl : Int) := by omega
        have hR2 := Lib.hid (show R = (outI S l, 0) by rw [HRH.out]; simp only; rw [if_neg h8])
        have hex2 : s.extract 12 16 = str ((S.drop 12).take 4) := extract_str11 s S HSS.out 12 16
        have hex3 : s.extract 16 20 = str ((S.drop 16).take 4) := extract_str11 s S HSS.out 16 20
        obtain ⟨sa, hsa⟩ : ∃ x, x = nm4 S 12 := ⟨_, rfl⟩
        obtain ⟨da, hda⟩ : ∃ x, x = nm4 S 16 := ⟨_, rfl⟩
        have HF1 := Lib.hid (fun (W : World) => show Calls Try.prog 30 #[.string (str ((S.drop 12).take 4))] W fun e w' => e = .returned (.tuple #[.agg #[.bool false, .int .u64 0, .int .u64 (sa : Int)], .int .i64 0]) ∧ Below W.heap.size W w' from by rw [hsa]; exact from4_any _ _ rfl (by have := HSZ.out; rw [List.length_take, List.length_drop]; omega) W)
        have HF2 := Lib.hid (fun (W : World) => show Calls Try.prog 30 #[.string (str ((S.drop 16).take 4))] W fun e w' => e = .returned (.tuple #[.agg #[.bool false, .int .u64 0, .int .u64 (da : Int)], .int .i64 0]) ∧ Below W.heap.size W w' from by rw [hda]; exact from4_any _ _ rfl (by have := HSZ.out; rw [List.length_take, List.length_drop]; omega) W)
        generalize hE2 : str ((S.drop 12).take 4) = D12 at *
        generalize hE3 : str ((S.drop 16).take 4) = D16 at *
        have i16 : (16 : Int) ≤ (s.size : Int) := by omega
        have i20 : (20 : Int) ≤ (s.size : Int) := by omega
        have HSD := Lib.hid (show sa = nm4 S 12 ∧ da = nm4 S 16 from ⟨hsa, hda⟩)
        clear hE2 hE3 hsa hda
        go_wp2_with fail
        refine (HNF.out _).mono ?_
        rintro e w3 ⟨rfl, rfl⟩
        go_wp2_with fail
        refine (HF1.out _).mono ?_
        rintro e w3 ⟨rfl, hb3⟩
        have HG3 := Lib.hid (Cells.kept HG2.out hb3 HG2.out.lt)
        have HB3 := Lib.hid (HB2.out.trans (hb3.mono HB2.out.size))
        have HRO3 := Lib.hid (HRO.out.kept hb3)
        clear hb3 HG2 HB2 HRO HF1 HNF
        obtain ⟨g1, hg1⟩ : ∃ g, g = w3.heap.size := ⟨_, rfl⟩
        obtain ⟨W3, hW3⟩ : ∃ W, W = w3.alloc (.cells #[.bool false, .int .u64 0, .int .u64 (sa : Int)] 25) := ⟨_, rfl⟩
        have hb4 : Below w3.heap.size w3 W3 := by rw [hW3]; exact below_alloc6 w3 _
        have HS1 := Lib.hid (show Cells W3 g1 25 #[.bool false, .int .u64 0, .int .u64 (sa : Int)] by rw [hW3, hg1]; exact heap_alloc_new w3 _)
        have HG4 := Lib.hid (Cells.kept HG3.out hb4 HG3.out.lt)
        have HB4 := Lib.hid (HB3.out.trans (hb4.mono HB3.out.size))
        have HRO4 := Lib.hid (HRO3.out.kept hb4)
        have HNE := Lib.hid (show g0 ≠ g1 by have := HG3.out.lt; omega)
        clear hb4 HG3 HB3 HRO3
        go_wp2_with fail
        rw [← hW3, ← hg1]
        clear hW3 hg1
        refine (HF2.out _).mono ?_
        rintro e w5 ⟨rfl, hb5⟩
        have HS5 := Lib.hid (Cells.kept HS1.out hb5 HS1.out.lt)
        have HG5 := Lib.hid (Cells.kept HG4.out hb5 HG4.out.lt)
        have HB5 := Lib.hid (HB4.out.trans (hb5.mono HB4.out.size))
        have HRO5 := Lib.hid (HRO4.out.kept hb5)
        clear hb5 HS1 HG4 HB4 HRO4 HF2
        obtain ⟨g2, hg2⟩ : ∃ g, g = w5.heap.size := ⟨_, rfl⟩
        obtain ⟨W5, hW5⟩ : ∃ W, W = w5.alloc (.cells #[.bool false, .int .u64 0, .int .u64 (da : Int)] 25) := ⟨_, rfl⟩
        have hb6 : Below w5.heap.size w5 W5 := by rw [hW5]; exact below_alloc6 w5 _
        have HD6 := Lib.hid (show Cells W5 g2 25 #[.bool false, .int .u64 0, .int .u64 (da : Int)] by rw [hW5, hg2]; exact heap_alloc_new w5 _)
        have HS6 := Lib.hid (Cells.kept HS5.out hb6 HS5.out.lt)
        have HG6 := Lib.hid (Cells.kept HG5.out hb6 HG5.out.lt)
        have HB6 := Lib.hid (HB5.out.trans (hb6.mono HB5.out.size))
        have HRO6 := Lib.hid (HRO5.out.kept hb6)
        have HNE2 := Lib.hid (show g0 ≠ g2 by have := HG5.out.lt; omega)
        clear hb6 HS5 HG5 HB5 HRO5
        go_wp2_with fail
        rw [← hW5, ← hg2]
        clear hW5 hg2
        have hl1 : 1 < s.size := by omega
        have hl8 : 8 < s.size := by omega
        have hl9 : 9 < s.size := by omega
        have j1 : (1 : Int) < (s.size : Int) := by omega
        have j8 : (8 : Int) < (s.size : Int) := by omega
        have j9 : (9 : Int) < (s.size : Int) := by omega
        obtain ⟨v1, hv1⟩ : ∃ u, s[1]'hl1 = u := ⟨_, rfl⟩
        obtain ⟨v8, hv8⟩ : ∃ u, s[8]'hl8 = u := ⟨_, rfl⟩
        obtain ⟨v9, hv9⟩ : ∃ u, s[9]'hl9 = u := ⟨_, rfl⟩
        have q1 := s0_at HSS.out 1 hl1
        have q8 := s0_at HSS.out 8 hl8
        have q9 := s0_at HSS.out 9 hl9
        rw [hv1] at q1
        rw [hv8] at q8
        rw [hv9] at q9
        have hk1 := u8_lt v1
        have hk8 := u8_lt v8
        have hk9 := u8_lt v9
        obtain ⟨a1, ha1⟩ : ∃ b, v1.toNat = b := ⟨_, rfl⟩
        obtain ⟨a8, ha8⟩ : ∃ b, v8.toNat = b := ⟨_, rfl⟩
        obtain ⟨a9, ha9⟩ : ∃ b, v9.toNat = b := ⟨_, rfl⟩
        rw [ha1] at q1 hk1
        rw [ha8] at q8 hk8
        rw [ha9] at q9 hk9
        have HQQ := Lib.hid (show a1 = byt S 1 ∧ a8 = byt S 8 ∧ a9 = byt S 9 from ⟨q1, q8, q9⟩)
        clear q1 q8 q9
        have p1 : IntKind.i64.wrap (a1 : Int) = (a1 : Int) := by rw [IntKind.wrap_i64]; omega
        have p8 : IntKind.i64.wrap (a8 : Int) = (a8 : Int) := by rw [IntKind.wrap_i64]; omega
        have p9 : IntKind.i64.wrap (a9 : Int) = (a9 : Int) := by rw [IntKind.wrap_i64]; omega
        obtain ⟨id, hid⟩ : ∃ x, x = nm2 S 4 := ⟨_, rfl⟩
        have HNI4 := Lib.hid (fun (W : World) => show Calls Try.prog 27 #[.string s, .int .i64 4, .int .i64 2] W fun e w' => e = .returned (.int .i64 (id : Int)) ∧ W = w' from by rw [HSS.out, hid]; exact rnum11_any S 4 2 4 2 rfl rfl (by decide) (by have := HSZ.out; omega) hs W)
        have HID := Lib.hid hid
        clear hid
        obtain ⟨f1, hf1⟩ : ∃ x, x = fl / 16384 := ⟨_, rfl⟩
        obtain ⟨f2, hf2⟩ : ∃ x, x = f1 % 2 := ⟨_, rfl⟩
        obtain ⟨f3, hf3⟩ : ∃ x, x = fl / 8192 := ⟨_, rfl⟩
        obtain ⟨f4, hf4⟩ : ∃ x, x = f3 % 2 := ⟨_, rfl⟩
        obtain ⟨f5, hf5⟩ : ∃ x, x = fl % 8192 := ⟨_, rfl⟩
        obtain ⟨f6, hf6⟩ : ∃ x, x = f5 * 8 := ⟨_, rfl⟩
        have k1 : (fl : Int) / 16384 = (f1 : Int) := by omega
        have k2 : (f1 : Int) % 2 = (f2 : Int) := by omega
        have k3 : (fl : Int) / 8192 = (f3 : Int) := by omega
        have k4 : (f3 : Int) % 2 = (f4 : Int) := by omega
        have k5 : (fl : Int) % 8192 = (f5 : Int) := by omega
        have k6 : (f5 : Int) * 8 = (f6 : Int) := by omega
        have l1 : (fl : Int).tdiv 16384 = (f1 : Int) := by rw [Int.tdiv_eq_ediv_of_nonneg (by omega)]; exact k1
        have l2 : (f1 : Int).tmod 2 = (f2 : Int) := by rw [Int.tmod_eq_emod_of_nonneg (by omega)]; exact k2
        have l3 : (fl : Int).tdiv 8192 = (f3 : Int) := by rw [Int.tdiv_eq_ediv_of_nonneg (by omega)]; exact k3
        have l4 : (f3 : Int).tmod 2 = (f4 : Int) := by rw [Int.tmod_eq_emod_of_nonneg (by omega)]; exact k4
        have l5 : (fl : Int).tmod 8192 = (f5 : Int) := by rw [Int.tmod_eq_emod_of_nonneg (by omega)]; exact k5
        have m1 : IntKind.i64.wrap (f1 : Int) = (f1 : Int) := by rw [IntKind.wrap_i64]; omega
        have m2 : IntKind.i64.wrap (f2 : Int) = (f2 : Int) := by rw [IntKind.wrap_i64]; omega
        have m3 : IntKind.i64.wrap (f3 : Int) = (f3 : Int) := by rw [IntKind.wrap_i64]; omega
        have m4 : IntKind.i64.wrap (f4 : Int) = (f4 : Int) := by rw [IntKind.wrap_i64]; omega
        have m5 : IntKind.i64.wrap (f5 : Int) = (f5 : Int) := by rw [IntKind.wrap_i64]; omega
        have m6 : IntKind.i64.wrap (f6 : Int) = (f6 : Int) := by rw [IntKind.wrap_i64]; omega
        have m7 : IntKind.i64.wrap ((f5 : Int) * 8) = (f6 : Int) := by rw [IntKind.wrap_i64]; omega
        obtain ⟨bd, hbd⟩ : ∃ b : Bool, b = ((f2 : Int) == 1) := ⟨_, rfl⟩
        obtain ⟨bm, hbm⟩ : ∃ b : Bool, b = ((f4 : Int) == 1) := ⟨_, rfl⟩
        have HBD := Lib.hid (show bd = decide (fl / 16384 % 2 = 1) by rw [hbd, ← hf1, ← hf2]; by_cases h : f2 = 1 <;> simp [h] <;> omega)
        have HBM := Lib.hid (show bm = decide (fl / 8192 % 2 = 1) by rw [hbm, ← hf3, ← hf4]; by_cases h : f4 = 1 <;> simp [h] <;> omega)
        have HOF := Lib.hid (show f6 = fl % 8192 * 8 by rw [hf6, hf5])
        have hbd' := hbd.symm
        have hbm' := hbm.symm
        have hex4 : s.extract hd tt = str ((S.drop hd).take (tt - hd)) := extract_str11 s S HSS.out hd tt
        generalize hE4 : str ((S.drop hd).take (tt - hd)) = D4 at *
        have HE4 := Lib.hid hE4
        have htsi : (tt : Int) ≤ (s.size : Int) := by omega
        have hdti : (hd : Int) ≤ (tt : Int) := by omega
        have hd0i : (0 : Int) ≤ (hd : Int) := by omega
        clear hE4 hbd hbm hf1 hf2 hf3 hf4 hf5 hf6 hex0 hex1 hex2 hex3
        have s0 := (Cells.cell HS6.out 0).trans (show _ = some (Value.bool false) from rfl)
        have s1 := (Cells.cell HS6.out 1).trans (show _ = some (Value.int .u64 0) from rfl)
        have s2 := (Cells.cell HS6.out 2).trans (show _ = some (Value.int .u64 (sa : Int)) from rfl)
        have t0 := (Cells.cell HD6.out 0).trans (show _ = some (Value.bool false) from rfl)
        have t1 := (Cells.cell HD6.out 1).trans (show _ = some (Value.int .u64 0) from rfl)
        have t2 := (Cells.cell HD6.out 2).trans (show _ = some (Value.int .u64 (da : Int)) from rfl)
        have hgl := HG6.out.lt
        have ne1 := HNE.out
        have ne1' := HNE.out.symm
        have ne2 := HNE2.out
        have ne2' := HNE2.out.symm
        have s0' : W5.drew.cell? ⟨g1, 0, none⟩ = some (.bool false) := s0
        have s1' : W5.drew.cell? ⟨g1, 1, none⟩ = some (.int .u64 0) := s1
        have s2' : W5.drew.cell? ⟨g1, 2, none⟩ = some (.int .u64 (sa : Int)) := s2
        have t0' : W5.drew.cell? ⟨g2, 0, none⟩ = some (.bool false) := t0
        have t1' : W5.drew.cell? ⟨g2, 1, none⟩ = some (.int .u64 0) := t1
        have t2' : W5.drew.cell? ⟨g2, 2, none⟩ = some (.int .u64 (da : Int)) := t2
        have hgl' : g0 < W5.drew.heap.size := hgl
        have HNC := Lib.hid (fun (W : World) => (HNI4.out W).mono (fun e w' (h : e = .returned (.int .i64 (id : Int)) ∧ W = w') => show e = .returned (.int .i64 (id : Int)) ∧ w' = W from ⟨h.1, h.2.symm⟩))
        have HG7 := Lib.hid (Cells.drew HG6.out)
        have HS7 := Lib.hid (Cells.drew HS6.out)
        have HD7 := Lib.hid (Cells.drew HD6.out)
        have HB7 := Lib.hid HB6.out.drew
        have HRO7 := Lib.hid (show RowL EOpt W5.drew A l from HRO6.out)
        refine wp_region_still_tail 30 (by kernel_rfl) (by kernel_rfl) ?_
        simp only [List.take_succ_cons, List.take_zero, List.drop_succ_cons, List.drop_zero]
        clear s0 s1 s2 t0 t1 t2 hgl HG6 HS6 HD6 HB6 HRO6 HNI4
        change wpStill _ _ W5.drew _ _ _
        repeat (first | still_step | still_call (HNC.out W5.drew))
        refine wpStill_nil ?_
        change wpList _ _ _ _ _ W5.drew
        clear s0' s1' s2' t0' t1' t2' HNC
        generalize W5.drew = W7 at *
        refine wpList_store_row (by rfl) 28 _ _ (by rfl) g0 #[.int .i64 (a1 : Int), .int .i64 (id : Int), .int .i64 (a8 : Int), .int .i64 (a9 : Int), .bool bd, .bool bm, .int .i64 (f6 : Int), .bool false, .int .u64 0, .int .u64 (sa : Int), .bool false, .int .u64 0, .int .u64 (da : Int), .slice A l.length c, .string D4] (by rfl) (by rfl) 28 zC4 HG7.out (by kernel_rfl) (by rfl) (by simp [Value.oneCell']) ?_
        have HGZ := Lib.hid (HG7.out.row #[.int .i64 (a1 : Int), .int .i64 (id : Int), .int .i64 (a8 : Int), .int .i64 (a9 : Int), .bool bd, .bool bm, .int .i64 (f6 : Int), .bool false, .int .u64 0, .int .u64 (sa : Int), .bool false, .int .u64 0, .int .u64 (da : Int), .slice A l.length c, .string D4])
        have HBZ := Lib.hid (below_row HB7.out g0 (Nat.le_of_eq HGE.out.symm) #[.int .i64 (a1 : Int), .int .i64 (id : Int), .int .i64 (a8 : Int), .int .i64 (a9 : Int), .bool bd, .bool bm, .int .i64 (f6 : Int), .bool false, .int .u64 0, .int .u64 (sa : Int), .bool false, .int .u64 0, .int .u64 (da : Int), .slice A l.length c, .string D4])
        have HRZ := Lib.hid (HRO7.out.blocks (fun a ha => setRow_other W7 g0 a.block #[.int .i64 (a1 : Int), .int .i64 (id : Int), .int .i64 (a8 : Int), .int .i64 (a9 : Int), .bool bd, .bool bm, .int .i64 (f6 : Int), .bool false, .int .u64 0, .int .u64 (sa : Int), .bool false, .int .u64 0, .int .u64 (da : Int), .slice A l.length c, .string D4] (by have := HNW.out a ha; omega)))
        obtain ⟨WZ, hWZ⟩ : ∃ W, W = W7.setRow g0 #[.int .i64 (a1 : Int), .int .i64 (id : Int), .int .i64 (a8 : Int), .int .i64 (a9 : Int), .bool bd, .bool bm, .int .i64 (f6 : Int), .bool false, .int .u64 0, .int .u64 (sa : Int), .bool false, .int .u64 0, .int .u64 (da : Int), .slice A l.length c, .string D4] := ⟨_, rfl⟩
        rw [← hWZ] at HGZ HBZ HRZ ⊢
        clear hWZ HG7 HB7 HRO7
        go_wp2_with fail
        refine bodyPost_ret (res_box2 ipTy rfl _ _ rfl HGZ.out) rfl ?_
        obtain ⟨hx0', hhd', htt', hfl'⟩ := HXX.out
        obtain ⟨q1, q8, q9⟩ := HQQ.out
        obtain ⟨hsa, hda⟩ := HSD.out
        have hout : outI S l = ⟨(a1 : Int), (id : Int), (a8 : Int), (a9 : Int), bd, bm, (f6 : Int), ⟨false, 0, sa⟩, ⟨false, 0, da⟩, l, (S.drop hd).take (tt - hd)⟩ := by
          unfold outI
          rw [← q1, ← q8, ← q9, ← HID.out, ← hfl', ← hsa, ← hda, ← htt', ← hhd', HBD.out, HBM.out, HOF.out, List.drop_take]
        rw [hR2.out, hout]
        refine ⟨A, c, ?_, HRZ.out, HNI.out, HBZ.out⟩
        · simp only
          rw [HE4.out]
          rfl
  · have hR2 := Lib.hid (show R = (zeroI, 8) by rw [hR, if_pos h7])
    have y7 : ((cs : Int) != 0) = true := by rw [bne_iff_ne]; omega
    clear hR hS hsz h20 hx0 hhd hhd2 htt hcs
    generalize str (S.take hd) = D1 at *
    go_wp2_with fail
    refine (HNT.out _).mono ?_
    rintro e w1 ⟨rfl, rfl⟩
    go_wp2_with fail
    refine (HSM.out _).mono ?_
    rintro e w1 ⟨rfl, rfl⟩
    go_wp2_with fail
    refine bodyPost_ret (res_box2 ipTy rfl _ _ rfl HG0.out) rfl ?_
    exact dec4_err (er := 8) rfl hR2.out HB0.out
end Go.Proofs.Ytimilcjlogcfhaa
