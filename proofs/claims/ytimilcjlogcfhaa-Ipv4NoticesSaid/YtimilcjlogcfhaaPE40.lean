/- Contracts of the functions, part 40: Ip4RSpl. -/
import Derived.Test.YtimilcjlogcfhaaPE29
import Derived.Test.YtimilcjlogcfhaaPE38
import Derived.Test.YtimilcjlogcfhaaPE39
/- Contract of the reference of layer 11: Split. -/
namespace Go.Proofs.Ytimilcjlogcfhaa
open Go.ChangeShapes Go.WideShapes Go.ChangeAt Go.RowKit
set_option linter.unusedVariables false
set_option linter.unusedSimpArgs false

theorem ip_one {w : World} {g : Nat} {x : IpE} {cs : Array Value} (h : Cells w g 28 cs) (hc : cs.toList = EIp.c x) : RowL EIp w (some ⟨g, 0, none⟩) [x] :=
  rowl_block h (by rw [hc]; simp [Enc.cells])
theorem SplP.one {w w3 : World} {R : List Ip4R × Nat} {y : Ip4R} {A2 : Option Addr} {c2 : Nat} {cs : Array Value} (h : R = ([y], 0)) (hcs : cs.toList = EIp.c (y, A2, c2)) (h0 : A2 = none → c2 = 0) (hr : RowL EOpt w3 A2 y.ops) (hb : Below w.heap.size w w3) : SplP w R (.returned (.tuple #[.slice (some ⟨w3.heap.size, 0, none⟩) 1 1, .int .i64 0])) (w3.alloc (.cells cs 28)) := by
  subst h
  refine ⟨_, 1, [(y, A2, c2)], rfl, rfl, ip_one (heap_alloc_new w3 _) hcs, fun x hx => ?_, (fun e => by cases e), hb.trans ((below_alloc6 w3 _).mono hb.size)⟩
  obtain rfl := List.mem_singleton.1 hx
  exact ⟨h0, hr.kept (below_alloc6 w3 _)⟩
set_option maxHeartbeats 8000000 in
set_option maxRecDepth 20000 in
theorem rsplit11_any (tos id ttl proto off : Int) (dont more sv dv : Bool) (sh sl dh dl : Nat) (l : List OpR) (pay : List UInt8) (size : Int) (A : Option Addr) (c : Nat) (w : World) (h : RowL EOpt w A l) (h1 : sh < 18446744073709551616) (h2 : sl < 18446744073709551616) (h3 : dh < 18446744073709551616) (h4 : dl < 18446744073709551616) (hl : l.length ≤ 1000000) (hd : ∀ x ∈ l, x.dat.length ≤ 4611686018427387904) (hp : pay.length ≤ 1000000) (hs0 : -9223372036854775808 ≤ size) (hs1 : size ≤ 9223372036854775807) :
    Calls Try.prog 22 #[.agg #[.int .i64 tos, .int .i64 id, .int .i64 ttl, .int .i64 proto, .bool dont, .bool more, .int .i64 off, .bool sv, .int .u64 (sh : Int), .int .u64 (sl : Int), .bool dv, .int .u64 (dh : Int), .int .u64 (dl : Int), .slice A l.length c, .string (str pay)], .int .i64 size] w (SplP w (splitI ⟨tos, id, ttl, proto, dont, more, off, ⟨sv, sh, sl⟩, ⟨dv, dh, dl⟩, l, pay⟩ size)) := by
  obtain ⟨p, hpe⟩ : ∃ p, p = (⟨tos, id, ttl, proto, dont, more, off, ⟨sv, sh, sl⟩, ⟨dv, dh, dl⟩, l, pay⟩ : Ip4R) := ⟨_, rfl⟩
  rw [← hpe]
  obtain ⟨R, hR⟩ : ∃ R, R = splitI p size := ⟨_, rfl⟩
  rw [← hR]
  have HRS := Lib.hid hR
  unfold splitI at hR
  have HPE := Lib.hid hpe
  have HPAY := Lib.hid (show p.pay = pay by rw [hpe])
  have HDN := Lib.hid (show p.dont = dont by rw [hpe])
  obtain ⟨n, hnl⟩ : ∃ n, n = l.length := ⟨_, rfl⟩
  obtain ⟨P, hP⟩ : ∃ P, P = str pay := ⟨_, rfl⟩
  have hPs : P.size = pay.length := by rw [hP, str_size]
  have hPs6 : P.size ≤ 1000000 := by omega
  have HPS := Lib.hid hPs
  have HPP := Lib.hid hP
  have HENC := Lib.hid (fun (W : World) (hb : Below w.heap.size w W) => by
    have := renc11_any tos id ttl proto off dont more sv dv sh sl dh dl l pay A c W (h.kept hb) h1 h2 h3 h4 hl hd hp
    rwa [← hpe, ← hnl, ← hP] at this)
  have HCOP := Lib.hid (fun (E : ByteArray) (o2 : Int) (m2 : Bool) (a : Nat) (ha : a ≤ 1000000) (W : World) (hb : Below w.heap.size w W) => by
    have := rcopied11_any tos id ttl proto off dont more sv dv sh sl dh dl l pay A c P E o2 m2 a ha W (h.kept hb) hl
    rw [← hnl] at this
    exact this.mono (fun e W' ⟨A2, c2, he, h1, h2, h3, h4⟩ => show ∃ m A2 c2, e = Ending.returned (.agg #[.int .i64 tos, .int .i64 id, .int .i64 ttl, .int .i64 proto, .bool dont, .bool m2, .int .i64 o2, .bool sv, .int .u64 (sh : Int), .int .u64 (sl : Int), .bool dv, .int .u64 (dh : Int), .int .u64 (dl : Int), .slice A2 m c2, .string E]) ∧ Hid (m = (opsAt l a).length ∧ RowL EOpt W' A2 (opsAt l a) ∧ (A2 = none → c2 = 0) ∧ (∀ b, A2 = some b → W.heap.size ≤ b.block)) ∧ Below W.heap.size W W' from ⟨_, A2, c2, he, Lib.hid ⟨rfl, h1, h2, h3⟩, h4⟩))
  rw [← hP, ← hnl]
  obtain ⟨W1, hW1⟩ : ∃ W, W = w.alloc (.cells #[.int .i64 tos, .int .i64 id, .int .i64 ttl, .int .i64 proto, .bool dont, .bool more, .int .i64 off, .bool sv, .int .u64 (sh : Int), .int .u64 (sl : Int), .bool dv, .int .u64 (dh : Int), .int .u64 (dl : Int), .slice A n c, .string P] 28) := ⟨_, rfl⟩
  obtain ⟨g, hg⟩ : ∃ g, g = w.heap.size := ⟨_, rfl⟩
  have HX := Lib.hid (show Cells W1 g 28 #[.int .i64 tos, .int .i64 id, .int .i64 ttl, .int .i64 proto, .bool dont, .bool more, .int .i64 off, .bool sv, .int .u64 (sh : Int), .int .u64 (sl : Int), .bool dv, .int .u64 (dh : Int), .int .u64 (dl : Int), .slice A n c, .string P] by rw [hW1, hg]; exact heap_alloc_new w _)
  have HB1 := Lib.hid (show Below w.heap.size w W1 by rw [hW1]; exact below_alloc6 w _)
  have HV := Lib.hid (fun (W : World) (hb : Below W1.heap.size W1 W) (i : Nat) (v : Value) (hv : (#[.int .i64 tos, .int .i64 id, .int .i64 ttl, .int .i64 proto, .bool dont, .bool more, .int .i64 off, .bool sv, .int .u64 (sh : Int), .int .u64 (sl : Int), .bool dv, .int .u64 (dh : Int), .int .u64 (dl : Int), .slice A n c, .string P])[i]? = some v) => show W.cell? ⟨g, i, none⟩ = some v from box_cell HX.out hb i v hv)
  have HW := Lib.hid (fun (W : World) (hb : Below W1.heap.size W1 W) => HB1.out.trans (hb.mono HB1.out.size))
  clear h hnl hP hPs hd h1 h2 h3 h4 hl hp hpe
  by_cases c0 : size < 8
  · have HR := Lib.hid (show R = ([], 4) by rw [hR, if_pos (Or.inl c0)])
    have HBW := HB1
    have d0 : decide (size < 8) = true := by simp; omega
    clear hR HRS HENC HCOP
    have hW2 : W1 = w.alloc (.cells #[.int .i64 tos, .int .i64 id, .int .i64 ttl, .int .i64 proto, .bool dont, .bool more, .int .i64 off, .bool sv, .int .u64 (sh : Int), .int .u64 (sl : Int), .bool dv, .int .u64 (dh : Int), .int .u64 (dl : Int), .slice A n c, .string P] 28) := hW1
    clear hW1
    go_enter Try.func22, Try.ntmps22
    go_wp2_with fail
    rw [← hW2, ← hg]
    clear hW2 hg
    go_ret2
    exact SplP.err HR.out rfl HBW.out
  have d0 : decide (size < 8) = false := by simp; omega
  have hsz : 8 ≤ size := by omega
  have htm : size.tmod 8 = size % 8 := Int.tmod_eq_emod_of_nonneg (by omega)
  by_cases c1 : size % 8 ≠ 0
  · have HR := Lib.hid (show R = ([], 4) by rw [hR, if_pos (Or.inr c1)])
    have HBW := HB1
    have m1 : (size % 8 != 0) = true := by rw [bne_iff_ne]; exact c1
    have m2 : (size.tmod 8 != 0) = true := by rw [htm]; exact m1
    clear hR HRS HENC HCOP htm
    have hW2 : W1 = w.alloc (.cells #[.int .i64 tos, .int .i64 id, .int .i64 ttl, .int .i64 proto, .bool dont, .bool more, .int .i64 off, .bool sv, .int .u64 (sh : Int), .int .u64 (sl : Int), .bool dv, .int .u64 (dh : Int), .int .u64 (dl : Int), .slice A n c, .string P] 28) := hW1
    clear hW1
    go_enter Try.func22, Try.ntmps22
    go_wp2_with fail
    rw [← hW2, ← hg]
    clear hW2 hg
    go_ret2
    exact SplP.err HR.out rfl HBW.out
  have c1' : size % 8 = 0 := by omega
  have m1 : (size % 8 != 0) = false := by rw [bne_eq_false_iff_eq]; exact c1'
  have m2 : (size.tmod 8 != 0) = false := by rw [htm]; exact m1
  rw [if_neg (show ¬ (size < 8 ∨ size % 8 ≠ 0) by omega)] at hR
  have HR0 := Lib.hid hR
  clear c1 htm hR
  have hW2 : W1 = w.alloc (.cells #[.int .i64 tos, .int .i64 id, .int .i64 ttl, .int .i64 proto, .bool dont, .bool more, .int .i64 off, .bool sv, .int .u64 (sh : Int), .int .u64 (sl : Int), .bool dv, .int .u64 (dh : Int), .int .u64 (dl : Int), .slice A n c, .string P] 28) := hW1
  clear hW1
  have x0 := HV.out _ (Below.refl _ _) 0 (Value.int .i64 tos) rfl
  have x1 := HV.out _ (Below.refl _ _) 1 (Value.int .i64 id) rfl
  have x2 := HV.out _ (Below.refl _ _) 2 (Value.int .i64 ttl) rfl
  have x3 := HV.out _ (Below.refl _ _) 3 (Value.int .i64 proto) rfl
  have x4 := HV.out _ (Below.refl _ _) 4 (Value.bool dont) rfl
  have x5 := HV.out _ (Below.refl _ _) 5 (Value.bool more) rfl
  have x6 := HV.out _ (Below.refl _ _) 6 (Value.int .i64 off) rfl
  have x7 := HV.out _ (Below.refl _ _) 7 (Value.bool sv) rfl
  have x8 := HV.out _ (Below.refl _ _) 8 (Value.int .u64 (sh : Int)) rfl
  have x9 := HV.out _ (Below.refl _ _) 9 (Value.int .u64 (sl : Int)) rfl
  have x10 := HV.out _ (Below.refl _ _) 10 (Value.bool dv) rfl
  have x11 := HV.out _ (Below.refl _ _) 11 (Value.int .u64 (dh : Int)) rfl
  have x12 := HV.out _ (Below.refl _ _) 12 (Value.int .u64 (dl : Int)) rfl
  have x13 := HV.out _ (Below.refl _ _) 13 (Value.slice A n c) rfl
  have x14 := HV.out _ (Below.refl _ _) 14 (Value.string P) rfl
  go_enter Try.func22, Try.ntmps22
  go_wp2_with fail
  rw [← hW2, ← hg]
  clear hW2 hg
  refine (HENC.out _ HB1.out).mono ?_
  rintro e w2 ⟨rfl, hb2⟩
  have HB2 := Lib.hid hb2
  clear x0 x1 x2 x3 x4 x5 x6 x7 x8 x9 x10 x11 x12 x13 x14 hb2 HENC
  obtain ⟨er, her⟩ : ∃ er, er = (encI p).2 := ⟨_, rfl⟩
  obtain ⟨es, hes⟩ : ∃ es, es = str (encI p).1 := ⟨_, rfl⟩
  have hR := HR0.out
  rw [← her] at hR ⊢
  rw [← hes]
  clear HR0
  have HER := Lib.hid her
  clear her hes
  by_cases c2 : er ≠ 0
  · have HR := Lib.hid (show R = ([], er) by rw [hR, if_pos c2])
    have HBW := Lib.hid (HW.out _ HB2.out)
    have m3 : ((er : Int) != 0) = true := by rw [bne_iff_ne]; omega
    clear hR HRS HCOP
    go_wp2_with fail
    go_ret2
    exact SplP.err HR.out rfl HBW.out
  rw [if_neg c2] at hR
  obtain rfl : er = 0 := by omega
  clear c2
  have HBX := Lib.hid (HW.out _ HB2.out)
  by_cases c3 : (p.pay.length : Int) ≤ size
  · have HR := Lib.hid (show R = ([partI p p.pay p.off p.more 0], 0) by rw [hR, if_pos c3])
    have d3 : decide ((P.size : Int) ≤ size) = true := by have := HPS.out; rw [HPAY.out] at c3; simp; omega
    have d3' : ¬ size < (P.size : Int) := by simpa using d3
    clear hR HRS c3
    have HC := Lib.hid (HCOP.out P off more 0 (by omega) w2 HBX.out)
    have x0 := HV.out _ HB2.out 0 (Value.int .i64 tos) rfl
    have x1 := HV.out _ HB2.out 1 (Value.int .i64 id) rfl
    have x2 := HV.out _ HB2.out 2 (Value.int .i64 ttl) rfl
    have x3 := HV.out _ HB2.out 3 (Value.int .i64 proto) rfl
    have x4 := HV.out _ HB2.out 4 (Value.bool dont) rfl
    have x5 := HV.out _ HB2.out 5 (Value.bool more) rfl
    have x6 := HV.out _ HB2.out 6 (Value.int .i64 off) rfl
    have x7 := HV.out _ HB2.out 7 (Value.bool sv) rfl
    have x8 := HV.out _ HB2.out 8 (Value.int .u64 (sh : Int)) rfl
    have x9 := HV.out _ HB2.out 9 (Value.int .u64 (sl : Int)) rfl
    have x10 := HV.out _ HB2.out 10 (Value.bool dv) rfl
    have x11 := HV.out _ HB2.out 11 (Value.int .u64 (dh : Int)) rfl
    have x12 := HV.out _ HB2.out 12 (Value.int .u64 (dl : Int)) rfl
    have x13 := HV.out _ HB2.out 13 (Value.slice A n c) rfl
    have x14 := HV.out _ HB2.out 14 (Value.string P) rfl
    go_wp2_with fail
    refine HC.out.mono ?_
    rintro e w3 ⟨m, A2, c2, rfl, HM, hb3⟩
    have HB3 := Lib.hid hb3
    clear hb3 x0 x1 x2 x3 x4 x5 x6 x7 x8 x9 x10 x11 x12 x13 x14
    go_wp2_with fail
    go_ret2
    obtain ⟨hm, hr, h0, -⟩ := HM.out
    refine SplP.one HR.out ?_ h0 ?_ (HBX.out.trans (HB3.out.mono HBX.out.size))
    · rw [HPE.out, hm, HPP.out]; rfl
    · rw [HPE.out]; exact hr
  have d3 : decide ((P.size : Int) ≤ size) = false := by have := HPS.out; rw [HPAY.out] at c3; simp; omega
  have d3' : size < (P.size : Int) := by simpa using d3
  rw [if_neg c3] at hR
  by_cases c4 : p.dont = true
  · have HR := Lib.hid (show R = ([], 10) by rw [hR, if_pos c4])
    have HBW := HBX
    have hdn : dont = true := by rw [← HDN.out]; exact c4
    subst hdn
    clear hR HRS c4 HCOP
    have x4 := HV.out _ HB2.out 4 (Value.bool true) rfl
    have x14 := HV.out _ HB2.out 14 (Value.string P) rfl
    go_wp2_with fail
    go_ret2
    exact SplP.err HR.out rfl HBW.out
  have hdn : dont = false := by have := HDN.out; cases dont; rfl; exact absurd this c4
  subst hdn
  clear c4 hR
  have x4 := HV.out _ HB2.out 4 (Value.bool false) rfl
  have x14 := HV.out _ HB2.out 14 (Value.string P) rfl
  obtain ⟨N, rfl⟩ : ∃ N : Nat, size = (N : Int) := ⟨size.toNat, by omega⟩
  have HS0 := Lib.hid (show SplS p N R [] 0 by
    have := SplS.start (p := p) (size := (N : Int)) (by omega) (by rw [← HER.out]; decide) c3 (by rw [HDN.out]; decide)
    rwa [Int.toNat_natCast, ← HRS.out] at this)
  have hoff : 0 ≤ off ∧ off ≤ 65528 := by
    have hb : ¬ badI p := (encI_ok (show encI p = ((encI p).1, 0) by rw [HER.out])).1
    have e : p.off = off := by rw [HPE.out]
    unfold badI at hb
    rw [e] at hb
    omega
  have HLEN := Lib.hid (show p.pay.length = P.size by rw [HPAY.out, HPS.out])
  obtain ⟨F, rfl⟩ : ∃ F : Nat, off = (F : Int) := ⟨off.toNat, by omega⟩
  have hF : F ≤ 65528 := by omega
  have HOFF := Lib.hid (show p.off = (F : Int) by rw [HPE.out])
  have hN8 : 8 ≤ N := by omega
  have hN9 : N < P.size := by omega
  have HO0 := Lib.hid (own_empty EIp w2 28 (Nat.le_refl w2.heap.size))
  obtain ⟨w3, hw3⟩ : ∃ W, W = w2.alloc (.cells #[] 28) := ⟨_, rfl⟩
  have HB3 := Lib.hid (show Below w2.heap.size w2 w3 by rw [hw3]; exact below_alloc6 w2 _)
  have hz3 : w3.heap.size = w2.heap.size + 1 := by rw [hw3]; simp
  rw [← hw3] at HO0
  have HW3 := Lib.hid hw3
  obtain ⟨B, hB⟩ : ∃ B, B = w2.heap.size := ⟨_, rfl⟩
  rw [← hB] at HO0 hz3
  have HBB := Lib.hid hB
  have HBT := Lib.hid (fun (W : World) (hb : Below B w2 W) => show Below W1.heap.size W1 W from HB2.out.trans (hb.mono (by rw [hB]; exact HB2.out.size)))
  clear hw3 hB hoff hs0 hs1 c0 c1' m1 m2 c3 HRS
  go_wp2_with fail
  go_loopw [8, 9, 10, 11] (fun v8 v9 v10 v11 wr => ∃ (at_ m : Nat) (A8 : Option Addr) (c8 : Nat) (es : List IpE), v8 = .slice A8 m c8 ∧ v9 = .int .i64 (at_ : Int) ∧ at_ < P.size ∧ m ≤ at_ ∧ Hid (m = es.length) ∧ Hid (SplS p N R es at_) ∧ Hid (wr.ownsRow B 28 15 (.slice A8 m c8) m (EIp.cells es)) ∧ Hid (OpsIn wr (.slice A8 m c8) es) ∧ Hid (Below B w2 wr)) (fun _ v9 _ _ _ => P.size - (intOf v9).toNat)
  case atStart => exact ⟨0, 0, _, 0, [], rfl, rfl, by omega, Nat.le_refl _, Lib.hid rfl, HS0, by rw [← HW3.out, ← HBB.out]; exact HO0, Lib.hid (OpsIn.nil _ _), by rw [← HW3.out]; exact Lib.hid (HBB.out ▸ HB3.out)⟩
  case round =>
    clear HS0 HO0 HB3 HW3
    obtain ⟨at_, m, A8, c8, es8, rfl, rfl, hat, hma, HM8, HS8, HO8, HI8, HB8⟩ := hrel
    have HBR := Lib.hid (HBT.out _ HB8.out)
    have HBW := Lib.hid (HW.out _ HBR.out)
    have dlt : decide ((at_ : Int) < (P.size : Int)) = true := by simp; omega
    have y14 := HV.out _ HBR.out 14 (.string P) rfl
    have y6 := HV.out _ HBR.out 6 (.int .i64 (F : Int)) rfl
    by_cases c5 : 65528 < F + at_
    · have HR := Lib.hid (HS8.out.none (by rw [HOFF.out]; omega))
      have d5 : decide ((65528 : Int) < (F : Int) + (at_ : Int)) = true := by simp; omega
      have d5' : (65528 : Int) < (F : Int) + (at_ : Int) := by omega
      go_wp2_with fail
      go_ret2
      exact SplP.err HR.out rfl HBW.out
    have d5 : decide ((65528 : Int) < (F : Int) + (at_ : Int)) = false := by simp; omega
    have d5' : ¬ (65528 : Int) < (F : Int) + (at_ : Int) := by omega
    obtain ⟨fa, hfa⟩ : ∃ f, f = F + at_ := ⟨_, rfl⟩
    have hfi : (F : Int) + (at_ : Int) = (fa : Int) := by omega
    rw [hfi] at d5 d5'
    have HFA := Lib.hid hfa
    have hfa6 : fa ≤ 65528 := by omega
    by_cases c6 : P.size - at_ ≤ N
    · skip
      clear c5 hfa
      obtain ⟨q, hq⟩ : ∃ q, q = P.size - at_ := ⟨_, rfl⟩
      have hqi : (P.size : Int) - (at_ : Int) = (q : Int) := by omega
      have d6 : decide ((q : Int) ≤ (N : Int)) = true := by simp; omega
      have d6' : ¬ (N : Int) < (q : Int) := by omega
      have d6n : decide (q ≤ N) = true := by rw [decide_eq_true_iff]; omega
      have d6m : q ≤ N := by omega
      have hti : (at_ : Int) + (q : Int) = (P.size : Int) := by omega
      obtain ⟨t, ht⟩ : ∃ t, t = P.size := ⟨_, rfl⟩
      have ht2 : t ≤ P.size := by omega
      have hat2 : at_ ≤ t := by omega
      have HPLN := Lib.hid (show pay.length = P.size by rw [HPS.out])
      obtain ⟨E, hE⟩ : ∃ E, E = P.extract at_ P.size := ⟨_, rfl⟩
      have hE' := hE.symm
      have HY := Lib.hid (show str (partI p (p.pay.drop at_) (p.off + (at_ : Int)) p.more at_).pay = E by
        rw [hE, extract_str11 P pay HPP.out, HPAY.out]
        show str (pay.drop at_) = _
        rw [List.take_of_length_le (by rw [List.length_drop, HPLN.out]; exact Nat.le_refl _)])
      obtain ⟨y, hy⟩ : ∃ y, y = partI p (p.pay.drop at_) (p.off + (at_ : Int)) p.more at_ := ⟨_, rfl⟩
      rw [← hy] at HY
      have HXY := Lib.hid (fun (A2 : Option Addr) (m2 c2 : Nat) (hm : m2 = (opsAt l at_).length) => show EIp.cells [(y, A2, c2)] = [.int .i64 tos, .int .i64 id, .int .i64 ttl, .int .i64 proto, .bool false, .bool more, .int .i64 (fa : Int), .bool sv, .int .u64 (sh : Int), .int .u64 (sl : Int), .bool dv, .int .u64 (dh : Int), .int .u64 (dl : Int), .slice A2 m2 c2, .string E] from by
        subst hm
        rw [show (fa : Int) = (F : Int) + (at_ : Int) by have := HFA.out; omega, ← HOFF.out, ← HY.out, hy, HPE.out]
        rfl)
      have HYO := Lib.hid (show y.ops = opsAt l at_ by rw [hy, HPE.out]; rfl)
      have HRF := Lib.hid (HS8.out.last (by rw [HOFF.out]; omega) (by rw [HLEN.out]; exact c6))
      rw [← hy] at HRF
      have HC := Lib.hid (fun (W : World) (hb : Below B w2 W) => HCOP.out E (fa : Int) more at_ (by omega) W (HW.out _ (HBT.out _ hb)))
      have HYY := Lib.hid hy
      have hatz : at_ ≤ 1000000 := by omega
      clear hE hy HCOP HPE HS8 c6
      have s0 : (0 : Int) ≤ (at_ : Int) := by omega
      have s1 : (at_ : Int) ≤ (P.size : Int) := by omega
      have s2 : (P.size : Int) ≤ (P.size : Int) := by omega
      have x0 := HV.out _ HBR.out 0 (Value.int .i64 tos) rfl
      have x1 := HV.out _ HBR.out 1 (Value.int .i64 id) rfl
      have x2 := HV.out _ HBR.out 2 (Value.int .i64 ttl) rfl
      have x3 := HV.out _ HBR.out 3 (Value.int .i64 proto) rfl
      have x4 := HV.out _ HBR.out 4 (Value.bool false) rfl
      have x5 := HV.out _ HBR.out 5 (Value.bool more) rfl
      have x6x := HV.out _ HBR.out 6 (Value.int .i64 (F : Int)) rfl
      have x7 := HV.out _ HBR.out 7 (Value.bool sv) rfl
      have x8 := HV.out _ HBR.out 8 (Value.int .u64 (sh : Int)) rfl
      have x9 := HV.out _ HBR.out 9 (Value.int .u64 (sl : Int)) rfl
      have x10 := HV.out _ HBR.out 10 (Value.bool dv) rfl
      have x11 := HV.out _ HBR.out 11 (Value.int .u64 (dh : Int)) rfl
      have x12 := HV.out _ HBR.out 12 (Value.int .u64 (dl : Int)) rfl
      have x13 := HV.out _ HBR.out 13 (Value.slice A n c) rfl
      have x14x := HV.out _ HBR.out 14 (Value.string P) rfl
      have wt : IntKind.i64.wrap (P.size : Int) = (P.size : Int) := by rw [IntKind.wrap_i64]; omega
      have wf : IntKind.i64.wrap (fa : Int) = (fa : Int) := by rw [IntKind.wrap_i64]; omega
      have HT := Lib.hid (And.intro hq ht)
      clear hq ht
      go_upto_region 20 with fail
      have x0' : wr.drew.cell? ⟨g, 0, none⟩ = some (Value.int .i64 tos) := HV.out _ HBR.out 0 _ rfl
      have x1' : wr.drew.cell? ⟨g, 1, none⟩ = some (Value.int .i64 id) := HV.out _ HBR.out 1 _ rfl
      have x2' : wr.drew.cell? ⟨g, 2, none⟩ = some (Value.int .i64 ttl) := HV.out _ HBR.out 2 _ rfl
      have x3' : wr.drew.cell? ⟨g, 3, none⟩ = some (Value.int .i64 proto) := HV.out _ HBR.out 3 _ rfl
      have x4' : wr.drew.cell? ⟨g, 4, none⟩ = some (Value.bool false) := HV.out _ HBR.out 4 _ rfl
      have x5' : wr.drew.cell? ⟨g, 5, none⟩ = some (Value.bool more) := HV.out _ HBR.out 5 _ rfl
      have x6' : wr.drew.cell? ⟨g, 6, none⟩ = some (Value.int .i64 (F : Int)) := HV.out _ HBR.out 6 _ rfl
      have x7' : wr.drew.cell? ⟨g, 7, none⟩ = some (Value.bool sv) := HV.out _ HBR.out 7 _ rfl
      have x8' : wr.drew.cell? ⟨g, 8, none⟩ = some (Value.int .u64 (sh : Int)) := HV.out _ HBR.out 8 _ rfl
      have x9' : wr.drew.cell? ⟨g, 9, none⟩ = some (Value.int .u64 (sl : Int)) := HV.out _ HBR.out 9 _ rfl
      have x10' : wr.drew.cell? ⟨g, 10, none⟩ = some (Value.bool dv) := HV.out _ HBR.out 10 _ rfl
      have x11' : wr.drew.cell? ⟨g, 11, none⟩ = some (Value.int .u64 (dh : Int)) := HV.out _ HBR.out 11 _ rfl
      have x12' : wr.drew.cell? ⟨g, 12, none⟩ = some (Value.int .u64 (dl : Int)) := HV.out _ HBR.out 12 _ rfl
      have x13' : wr.drew.cell? ⟨g, 13, none⟩ = some (Value.slice A n c) := HV.out _ HBR.out 13 _ rfl
      have x14' : wr.drew.cell? ⟨g, 14, none⟩ = some (Value.string P) := HV.out _ HBR.out 14 _ rfl
      have HB7 := Lib.hid HB8.out.drew
      have HO7 := Lib.hid (show wr.drew.ownsRow B 28 15 (.slice A8 m c8) m (EIp.cells es8) from HO8.out)
      have HI7 := Lib.hid (show OpsIn wr.drew (.slice A8 m c8) es8 from HI8.out)
      clear x0 x1 x2 x3 x4 x5 x7 x8 x9 x10 x11 x12 x13 x6x x14x y6 y14 HB8 HO8 HI8 HBR HBW
      have hS : (fun W : World => W.cell? ⟨g, 0, none⟩ = some (Value.int .i64 tos) ∧ W.cell? ⟨g, 1, none⟩ = some (Value.int .i64 id) ∧ W.cell? ⟨g, 2, none⟩ = some (Value.int .i64 ttl) ∧ W.cell? ⟨g, 3, none⟩ = some (Value.int .i64 proto) ∧ W.cell? ⟨g, 4, none⟩ = some (Value.bool false) ∧ W.cell? ⟨g, 5, none⟩ = some (Value.bool more) ∧ W.cell? ⟨g, 6, none⟩ = some (Value.int .i64 (F : Int)) ∧ W.cell? ⟨g, 7, none⟩ = some (Value.bool sv) ∧ W.cell? ⟨g, 8, none⟩ = some (Value.int .u64 (sh : Int)) ∧ W.cell? ⟨g, 9, none⟩ = some (Value.int .u64 (sl : Int)) ∧ W.cell? ⟨g, 10, none⟩ = some (Value.bool dv) ∧ W.cell? ⟨g, 11, none⟩ = some (Value.int .u64 (dh : Int)) ∧ W.cell? ⟨g, 12, none⟩ = some (Value.int .u64 (dl : Int)) ∧ W.cell? ⟨g, 13, none⟩ = some (Value.slice A n c) ∧ W.cell? ⟨g, 14, none⟩ = some (Value.string P)) wr.drew := ⟨x0', x1', x2', x3', x4', x5', x6', x7', x8', x9', x10', x11', x12', x13', x14'⟩
      have HSA := Lib.hid (fun (W : World) (hb : Below B w2 W) => show (fun W : World => W.cell? ⟨g, 0, none⟩ = some (Value.int .i64 tos) ∧ W.cell? ⟨g, 1, none⟩ = some (Value.int .i64 id) ∧ W.cell? ⟨g, 2, none⟩ = some (Value.int .i64 ttl) ∧ W.cell? ⟨g, 3, none⟩ = some (Value.int .i64 proto) ∧ W.cell? ⟨g, 4, none⟩ = some (Value.bool false) ∧ W.cell? ⟨g, 5, none⟩ = some (Value.bool more) ∧ W.cell? ⟨g, 6, none⟩ = some (Value.int .i64 (F : Int)) ∧ W.cell? ⟨g, 7, none⟩ = some (Value.bool sv) ∧ W.cell? ⟨g, 8, none⟩ = some (Value.int .u64 (sh : Int)) ∧ W.cell? ⟨g, 9, none⟩ = some (Value.int .u64 (sl : Int)) ∧ W.cell? ⟨g, 10, none⟩ = some (Value.bool dv) ∧ W.cell? ⟨g, 11, none⟩ = some (Value.int .u64 (dh : Int)) ∧ W.cell? ⟨g, 12, none⟩ = some (Value.int .u64 (dl : Int)) ∧ W.cell? ⟨g, 13, none⟩ = some (Value.slice A n c) ∧ W.cell? ⟨g, 14, none⟩ = some (Value.string P)) W from ⟨HV.out _ (HBT.out _ hb) 0 _ rfl, HV.out _ (HBT.out _ hb) 1 _ rfl, HV.out _ (HBT.out _ hb) 2 _ rfl, HV.out _ (HBT.out _ hb) 3 _ rfl, HV.out _ (HBT.out _ hb) 4 _ rfl, HV.out _ (HBT.out _ hb) 5 _ rfl, HV.out _ (HBT.out _ hb) 6 _ rfl, HV.out _ (HBT.out _ hb) 7 _ rfl, HV.out _ (HBT.out _ hb) 8 _ rfl, HV.out _ (HBT.out _ hb) 9 _ rfl, HV.out _ (HBT.out _ hb) 10 _ rfl, HV.out _ (HBT.out _ hb) 11 _ rfl, HV.out _ (HBT.out _ hb) 12 _ rfl, HV.out _ (HBT.out _ hb) 13 _ rfl, HV.out _ (HBT.out _ hb) 14 _ rfl⟩)
      clear x0' x1' x2' x3' x4' x5' x6' x7' x8' x9' x10' x11' x12' x13' x14'
      refine wp_region_held (S := (fun W : World => W.cell? ⟨g, 0, none⟩ = some (Value.int .i64 tos) ∧ W.cell? ⟨g, 1, none⟩ = some (Value.int .i64 id) ∧ W.cell? ⟨g, 2, none⟩ = some (Value.int .i64 ttl) ∧ W.cell? ⟨g, 3, none⟩ = some (Value.int .i64 proto) ∧ W.cell? ⟨g, 4, none⟩ = some (Value.bool false) ∧ W.cell? ⟨g, 5, none⟩ = some (Value.bool more) ∧ W.cell? ⟨g, 6, none⟩ = some (Value.int .i64 (F : Int)) ∧ W.cell? ⟨g, 7, none⟩ = some (Value.bool sv) ∧ W.cell? ⟨g, 8, none⟩ = some (Value.int .u64 (sh : Int)) ∧ W.cell? ⟨g, 9, none⟩ = some (Value.int .u64 (sl : Int)) ∧ W.cell? ⟨g, 10, none⟩ = some (Value.bool dv) ∧ W.cell? ⟨g, 11, none⟩ = some (Value.int .u64 (dh : Int)) ∧ W.cell? ⟨g, 12, none⟩ = some (Value.int .u64 (dl : Int)) ∧ W.cell? ⟨g, 13, none⟩ = some (Value.slice A n c) ∧ W.cell? ⟨g, 14, none⟩ = some (Value.string P))) (by kernel_rfl) ?_
      change wpAnyH _ _ _ _ _ _ _ _ wr.drew
      generalize wr.drew = W7 at *
      refine wpAnyH_take (i := 0) (v := .slice A8 m c8) rfl (by kernel_rfl) (by kernel_rfl) (by kernel_rfl) (fun _ _ _ h => h) (Or.inl ⟨by kernel_rfl, fun W hW => ?_⟩) hS ?_
      · obtain ⟨y0, y1, y2, y3, y4, y5, y6, y7, y8, y9, y10, y11, y12, y13, y14⟩ := hW
        go_simp
      try simp only [Act.put, List.setIfInBounds_toArray, List.set_cons_zero, List.set_cons_succ]
      refine wpAnyH_take (i := 1) (v := .agg #[.int .i64 tos, .int .i64 id, .int .i64 ttl, .int .i64 proto, .bool false, .bool more, .int .i64 (F : Int), .bool sv, .int .u64 (sh : Int), .int .u64 (sl : Int), .bool dv, .int .u64 (dh : Int), .int .u64 (dl : Int), .slice A n c, .string P]) rfl (by kernel_rfl) (by kernel_rfl) (by kernel_rfl) (fun _ _ _ h => h) (Or.inl ⟨by kernel_rfl, fun W hW => ?_⟩) hS ?_
      · obtain ⟨y0, y1, y2, y3, y4, y5, y6, y7, y8, y9, y10, y11, y12, y13, y14⟩ := hW
        go_simp
      try simp only [Act.put, List.setIfInBounds_toArray, List.set_cons_zero, List.set_cons_succ]
      refine wpAnyH_take (i := 2) (v := .pointer (some ⟨g, 14, none⟩)) rfl (by kernel_rfl) (by kernel_rfl) (by kernel_rfl) (fun _ _ _ h => h) (Or.inl ⟨by kernel_rfl, fun W hW => ?_⟩) hS ?_
      · obtain ⟨y0, y1, y2, y3, y4, y5, y6, y7, y8, y9, y10, y11, y12, y13, y14⟩ := hW
        go_simp
      try simp only [Act.put, List.setIfInBounds_toArray, List.set_cons_zero, List.set_cons_succ]
      refine wpAnyH_take (i := 3) (v := .string P) rfl (by kernel_rfl) (by kernel_rfl) (by kernel_rfl) (fun _ _ _ h => h) (Or.inl ⟨by kernel_rfl, fun W hW => ?_⟩) hS ?_
      · obtain ⟨y0, y1, y2, y3, y4, y5, y6, y7, y8, y9, y10, y11, y12, y13, y14⟩ := hW
        go_simp
      try simp only [Act.put, List.setIfInBounds_toArray, List.set_cons_zero, List.set_cons_succ]
      refine wpAnyH_take (i := 4) (v := .int .i64 (at_ : Int)) rfl (by kernel_rfl) (by kernel_rfl) (by kernel_rfl) (fun _ _ _ h => h) (Or.inl ⟨by kernel_rfl, fun W hW => ?_⟩) hS ?_
      · obtain ⟨y0, y1, y2, y3, y4, y5, y6, y7, y8, y9, y10, y11, y12, y13, y14⟩ := hW
        go_simp
      try simp only [Act.put, List.setIfInBounds_toArray, List.set_cons_zero, List.set_cons_succ]
      refine wpAnyH_take (i := 5) (v := .int .i64 (at_ : Int)) rfl (by kernel_rfl) (by kernel_rfl) (by kernel_rfl) (fun _ _ _ h => h) (Or.inl ⟨by kernel_rfl, fun W hW => ?_⟩) hS ?_
      · obtain ⟨y0, y1, y2, y3, y4, y5, y6, y7, y8, y9, y10, y11, y12, y13, y14⟩ := hW
        go_simp
      try simp only [Act.put, List.setIfInBounds_toArray, List.set_cons_zero, List.set_cons_succ]
      refine wpAnyH_take (i := 6) (v := .int .i64 (q : Int)) rfl (by kernel_rfl) (by kernel_rfl) (by kernel_rfl) (fun _ _ _ h => h) (Or.inl ⟨by kernel_rfl, fun W hW => ?_⟩) hS ?_
      · obtain ⟨y0, y1, y2, y3, y4, y5, y6, y7, y8, y9, y10, y11, y12, y13, y14⟩ := hW
        go_simp
      try simp only [Act.put, List.setIfInBounds_toArray, List.set_cons_zero, List.set_cons_succ]
      refine wpAnyH_take (i := 7) (v := .int .i64 (P.size : Int)) rfl (by kernel_rfl) (by kernel_rfl) (by kernel_rfl) (fun _ _ _ h => h) (Or.inl ⟨by kernel_rfl, fun W hW => ?_⟩) hS ?_
      · obtain ⟨y0, y1, y2, y3, y4, y5, y6, y7, y8, y9, y10, y11, y12, y13, y14⟩ := hW
        go_simp
      try simp only [Act.put, List.setIfInBounds_toArray, List.set_cons_zero, List.set_cons_succ]
      refine wpAnyH_take (i := 8) (v := .string E) rfl (by kernel_rfl) (by kernel_rfl) (by kernel_rfl) (fun _ _ _ h => h) (Or.inl ⟨by kernel_rfl, fun W hW => ?_⟩) hS ?_
      · obtain ⟨y0, y1, y2, y3, y4, y5, y6, y7, y8, y9, y10, y11, y12, y13, y14⟩ := hW
        go_simp
      try simp only [Act.put, List.setIfInBounds_toArray, List.set_cons_zero, List.set_cons_succ]
      refine wpAnyH_take (i := 9) (v := .pointer (some ⟨g, 6, none⟩)) rfl (by kernel_rfl) (by kernel_rfl) (by kernel_rfl) (fun _ _ _ h => h) (Or.inl ⟨by kernel_rfl, fun W hW => ?_⟩) hS ?_
      · obtain ⟨y0, y1, y2, y3, y4, y5, y6, y7, y8, y9, y10, y11, y12, y13, y14⟩ := hW
        go_simp
      try simp only [Act.put, List.setIfInBounds_toArray, List.set_cons_zero, List.set_cons_succ]
      refine wpAnyH_take (i := 10) (v := .int .i64 (F : Int)) rfl (by kernel_rfl) (by kernel_rfl) (by kernel_rfl) (fun _ _ _ h => h) (Or.inl ⟨by kernel_rfl, fun W hW => ?_⟩) hS ?_
      · obtain ⟨y0, y1, y2, y3, y4, y5, y6, y7, y8, y9, y10, y11, y12, y13, y14⟩ := hW
        go_simp
      try simp only [Act.put, List.setIfInBounds_toArray, List.set_cons_zero, List.set_cons_succ]
      refine wpAnyH_take (i := 11) (v := .int .i64 (at_ : Int)) rfl (by kernel_rfl) (by kernel_rfl) (by kernel_rfl) (fun _ _ _ h => h) (Or.inl ⟨by kernel_rfl, fun W hW => ?_⟩) hS ?_
      · obtain ⟨y0, y1, y2, y3, y4, y5, y6, y7, y8, y9, y10, y11, y12, y13, y14⟩ := hW
        go_simp
      try simp only [Act.put, List.setIfInBounds_toArray, List.set_cons_zero, List.set_cons_succ]
      refine wpAnyH_take (i := 12) (v := .int .i64 (fa : Int)) rfl (by kernel_rfl) (by kernel_rfl) (by kernel_rfl) (fun _ _ _ h => h) (Or.inl ⟨by kernel_rfl, fun W hW => ?_⟩) hS ?_
      · obtain ⟨y0, y1, y2, y3, y4, y5, y6, y7, y8, y9, y10, y11, y12, y13, y14⟩ := hW
        go_simp
      try simp only [Act.put, List.setIfInBounds_toArray, List.set_cons_zero, List.set_cons_succ]
      refine wpAnyH_take (i := 13) (v := .bool true) rfl (by kernel_rfl) (by kernel_rfl) (by kernel_rfl) (fun _ _ _ h => h) (Or.inl ⟨by kernel_rfl, fun W hW => ?_⟩) hS ?_
      · obtain ⟨y0, y1, y2, y3, y4, y5, y6, y7, y8, y9, y10, y11, y12, y13, y14⟩ := hW
        go_simp
      try simp only [Act.put, List.setIfInBounds_toArray, List.set_cons_zero, List.set_cons_succ]
      refine wpAnyH_take (i := 14) (v := .bool false) rfl (by kernel_rfl) (by kernel_rfl) (by kernel_rfl) (fun _ _ _ h => h) (Or.inl ⟨by kernel_rfl, fun W hW => ?_⟩) hS ?_
      · obtain ⟨y0, y1, y2, y3, y4, y5, y6, y7, y8, y9, y10, y11, y12, y13, y14⟩ := hW
        go_simp
      try simp only [Act.put, List.setIfInBounds_toArray, List.set_cons_zero, List.set_cons_succ]
      refine wpAnyH_take (i := 15) (v := .bool false) rfl (by kernel_rfl) (by kernel_rfl) (by kernel_rfl) (fun _ _ _ h => h) (Or.inl ⟨by kernel_rfl, fun W hW => ?_⟩) hS ?_
      · obtain ⟨y0, y1, y2, y3, y4, y5, y6, y7, y8, y9, y10, y11, y12, y13, y14⟩ := hW
        go_simp
      try simp only [Act.put, List.setIfInBounds_toArray, List.set_cons_zero, List.set_cons_succ]
      refine wpAnyH_take (i := 16) (v := .pointer (some ⟨g, 5, none⟩)) rfl (by kernel_rfl) (by kernel_rfl) (by kernel_rfl) (fun _ _ _ h => h) (Or.inl ⟨by kernel_rfl, fun W hW => ?_⟩) hS ?_
      · obtain ⟨y0, y1, y2, y3, y4, y5, y6, y7, y8, y9, y10, y11, y12, y13, y14⟩ := hW
        go_simp
      try simp only [Act.put, List.setIfInBounds_toArray, List.set_cons_zero, List.set_cons_succ]
      refine wpAnyH_take (i := 17) (v := .bool more) rfl (by kernel_rfl) (by kernel_rfl) (by kernel_rfl) (fun _ _ _ h => h) (Or.inl ⟨by kernel_rfl, fun W hW => ?_⟩) hS ?_
      · obtain ⟨y0, y1, y2, y3, y4, y5, y6, y7, y8, y9, y10, y11, y12, y13, y14⟩ := hW
        go_simp
      try simp only [Act.put, List.setIfInBounds_toArray, List.set_cons_zero, List.set_cons_succ]
      refine wpAnyH_take (i := 18) (v := .bool more) rfl (by kernel_rfl) (by kernel_rfl) (by kernel_rfl) (fun _ _ _ h => h) (Or.inl ⟨by kernel_rfl, fun W hW => ?_⟩) hS ?_
      · obtain ⟨y0, y1, y2, y3, y4, y5, y6, y7, y8, y9, y10, y11, y12, y13, y14⟩ := hW
        go_simp
      try simp only [Act.put, List.setIfInBounds_toArray, List.set_cons_zero, List.set_cons_succ]
      refine wpAnyH_take (i := 19) (v := .int .i64 (at_ : Int)) rfl (by kernel_rfl) (by kernel_rfl) (by kernel_rfl) (fun _ _ _ h => h) (Or.inl ⟨by kernel_rfl, fun W hW => ?_⟩) hS ?_
      · obtain ⟨y0, y1, y2, y3, y4, y5, y6, y7, y8, y9, y10, y11, y12, y13, y14⟩ := hW
        go_simp
      try simp only [Act.put, List.setIfInBounds_toArray, List.set_cons_zero, List.set_cons_succ]
      refine wpAnyH_ready (rs := [20]) (by kernel_rfl) (by simp) ?_
      refine AllReadyH.cons rfl (fun K hK => ?_) AllReadyH.nil
      rw [if_pos (by rfl)]
      go_simp
      refine (HC.out _ HB7.out).mono ?_
      rintro e w9 ⟨m2, A2, c2, rfl, HM, hb9⟩
      have hsz7 : B ≤ W7.heap.size := by rw [HBB.out]; exact HB7.out.size
      have HB9 := Lib.hid (HB7.out.trans (hb9.mono hsz7))
      have hsz9 : B ≤ w9.heap.size := Nat.le_trans hsz7 hb9.size
      have HO9 := Lib.hid (own_kept HO7.out hb9 (Nat.le_refl _))
      refine hK.out _ _ (HSA.out _ HB9.out) (fun hS9 => ?_)
      clear hK K
      try simp only [Act.put, List.setIfInBounds_toArray, List.set_cons_zero, List.set_cons_succ]
      refine wpAnyH_ready (rs := [21]) (by kernel_rfl) (by simp) ?_
      refine AllReadyH.cons rfl (fun K hK => ?_) AllReadyH.nil
      rw [if_pos (by rfl)]
      go_simp
      obtain ⟨hm2, hr2, h02, hf2⟩ := HM.out
      have HB10 := Lib.hid (HB9.out.alloc hsz9 (.cells #[.int .i64 tos, .int .i64 id, .int .i64 ttl, .int .i64 proto, .bool false, .bool more, .int .i64 (fa : Int), .bool sv, .int .u64 (sh : Int), .int .u64 (sl : Int), .bool dv, .int .u64 (dh : Int), .int .u64 (dl : Int), .slice A2 m2 c2, .string E] 28))
      refine hK.out _ _ (HSA.out _ HB10.out) (fun hS10 => ?_)
      clear hK K hS9 hS
      try simp only [Act.put, List.setIfInBounds_toArray, List.set_cons_zero, List.set_cons_succ]
      refine wpAnyH_ready (rs := [22]) (by kernel_rfl) (by simp) ?_
      refine AllReadyH.cons rfl (fun K hK => ?_) AllReadyH.nil
      refine wp_of_list rfl ?_
      refine wpList_push (E := EIp) ipsTy (by rfl) _ _ (by rfl) B _ m es8 [(y, A2, c2)] (by rfl) (HO9.out.alloc _) _ 1 1 #[.int .i64 tos, .int .i64 id, .int .i64 ttl, .int .i64 proto, .bool false, .bool more, .int .i64 (fa : Int), .bool sv, .int .u64 (sh : Int), .int .u64 (sl : Int), .bool dv, .int .u64 (dh : Int), .int .u64 (dl : Int), .slice A2 m2 c2, .string E] (0, 0) (by rfl) (heap_alloc_new _ _) (HXY.out A2 m2 c2 hm2).symm rfl (by omega) (by omega) (by decide) (by simp; omega) ?_
      intro g2 cap2 w11 hown hgrow hat3 hlt3
      have HB11 := Lib.hid (HB10.out.grown hgrow (by simp; omega) (fun j hj => (own_blk_in HO9.out _ hj).1))
      have HI11 := Lib.hid (OpsIn.push (x := (y, A2, c2)) (n := m + 1) (c := cap2) HI7.out (fun j hj => (own_blk_in HO7.out _ hj).2) hb9 h02 (by rw [HYO.out]; exact hr2) hf2 hgrow hat3)
      have HO11 := Lib.hid hown
      have HL11 := Lib.hid (show m + 1 = (es8 ++ [(y, A2, c2)]).length by rw [List.length_append, HM8.out]; rfl)
      clear hown hgrow hat3 hlt3 hm2 hr2 h02 hf2 hb9 HXY HO9 HO7 HI7 HB9 HB7 HB10 hS10
      refine ⟨rfl, hK.out _ _ (HSA.out _ HB11.out) (fun hS11 => ?_)⟩
      clear hK K
      try simp only [Act.put, List.setIfInBounds_toArray, List.set_cons_zero, List.set_cons_succ]
      refine wpAnyH_ready (rs := [23]) (by kernel_rfl) (by simp) ?_
      refine AllReadyH.cons rfl (fun K hK => ?_) AllReadyH.nil
      rw [if_pos (by rfl)]
      go_simp
      refine hK.out _ _ hS11 (fun _ => ?_)
      clear hK K
      try simp only [Act.put, List.setIfInBounds_toArray, List.set_cons_zero, List.set_cons_succ]
      refine wpAnyH_done (by kernel_rfl) ?_ _
      clear hS11 HC HSA
      go_wp2_with fail
      go_ret2
      exact ⟨some ⟨g2, 0, none⟩, cap2, es8 ++ [(y, A2, c2)], by rw [HRF.out, List.length_append, List.length_map, HM8.out]; rfl, by rw [HRF.out, List.map_append]; rfl, rowl_of_own HO11.out HL11.out, (fun x hx => ⟨(HI11.out x hx).1, (HI11.out x hx).2.1⟩), (fun e => by cases e), HW.out _ (HBT.out _ HB11.out)⟩
    · skip
      clear c5 hfa
      obtain ⟨q, hq⟩ : ∃ q, q = P.size - at_ := ⟨_, rfl⟩
      have hqi : (P.size : Int) - (at_ : Int) = (q : Int) := by omega
      have d6 : decide ((q : Int) ≤ (N : Int)) = false := by simp; omega
      have d6' : (N : Int) < (q : Int) := by omega
      have d6n : decide (q ≤ N) = false := by rw [decide_eq_false_iff_not]; omega
      have d6m : ¬ q ≤ N := by omega
      obtain ⟨t, ht⟩ : ∃ t, t = at_ + N := ⟨_, rfl⟩
      have hti : (at_ : Int) + (N : Int) = (t : Int) := by omega
      have ht2 : t ≤ P.size := by omega
      have hat2 : at_ ≤ t := by omega
      have HPLN := Lib.hid (show pay.length = P.size by rw [HPS.out])
      obtain ⟨E, hE⟩ : ∃ E, E = P.extract at_ t := ⟨_, rfl⟩
      have hE' := hE.symm
      have HY := Lib.hid (show str (partI p ((p.pay.drop at_).take N) (p.off + (at_ : Int)) true at_).pay = E by
        rw [hE, extract_str11 P pay HPP.out, HPAY.out]
        show str ((pay.drop at_).take N) = _
        rw [show t - at_ = N by omega])
      obtain ⟨y, hy⟩ : ∃ y, y = partI p ((p.pay.drop at_).take N) (p.off + (at_ : Int)) true at_ := ⟨_, rfl⟩
      rw [← hy] at HY
      have HXY := Lib.hid (fun (A2 : Option Addr) (m2 c2 : Nat) (hm : m2 = (opsAt l at_).length) => show EIp.cells [(y, A2, c2)] = [.int .i64 tos, .int .i64 id, .int .i64 ttl, .int .i64 proto, .bool false, .bool true, .int .i64 (fa : Int), .bool sv, .int .u64 (sh : Int), .int .u64 (sl : Int), .bool dv, .int .u64 (dh : Int), .int .u64 (dl : Int), .slice A2 m2 c2, .string E] from by
        subst hm
        rw [show (fa : Int) = (F : Int) + (at_ : Int) by have := HFA.out; omega, ← HOFF.out, ← HY.out, hy, HPE.out]
        rfl)
      have HYO := Lib.hid (show y.ops = opsAt l at_ by rw [hy, HPE.out]; rfl)
      have HSN := Lib.hid (fun (A2 : Option Addr) (c2 : Nat) => HS8.out.next (x := (y, A2, c2)) (by rw [HOFF.out]; omega) (by rw [HLEN.out]; exact c6) hN8 hy)
      have HC := Lib.hid (fun (W : World) (hb : Below B w2 W) => HCOP.out E (fa : Int) true at_ (by omega) W (HW.out _ (HBT.out _ hb)))
      have HYY := Lib.hid hy
      have hatz : at_ ≤ 1000000 := by omega
      clear hE hy HCOP HPE HS8 c6
      have s0 : (0 : Int) ≤ (at_ : Int) := by omega
      have s1 : (at_ : Int) ≤ (t : Int) := by omega
      have s2 : (t : Int) ≤ (P.size : Int) := by omega
      have x0 := HV.out _ HBR.out 0 (Value.int .i64 tos) rfl
      have x1 := HV.out _ HBR.out 1 (Value.int .i64 id) rfl
      have x2 := HV.out _ HBR.out 2 (Value.int .i64 ttl) rfl
      have x3 := HV.out _ HBR.out 3 (Value.int .i64 proto) rfl
      have x4 := HV.out _ HBR.out 4 (Value.bool false) rfl
      have x5 := HV.out _ HBR.out 5 (Value.bool more) rfl
      have x6x := HV.out _ HBR.out 6 (Value.int .i64 (F : Int)) rfl
      have x7 := HV.out _ HBR.out 7 (Value.bool sv) rfl
      have x8 := HV.out _ HBR.out 8 (Value.int .u64 (sh : Int)) rfl
      have x9 := HV.out _ HBR.out 9 (Value.int .u64 (sl : Int)) rfl
      have x10 := HV.out _ HBR.out 10 (Value.bool dv) rfl
      have x11 := HV.out _ HBR.out 11 (Value.int .u64 (dh : Int)) rfl
      have x12 := HV.out _ HBR.out 12 (Value.int .u64 (dl : Int)) rfl
      have x13 := HV.out _ HBR.out 13 (Value.slice A n c) rfl
      have x14x := HV.out _ HBR.out 14 (Value.string P) rfl
      have wt : IntKind.i64.wrap (t : Int) = (t : Int) := by rw [IntKind.wrap_i64]; omega
      have wf : IntKind.i64.wrap (fa : Int) = (fa : Int) := by rw [IntKind.wrap_i64]; omega
      have HT := Lib.hid (And.intro hq ht)
      clear hq ht
      go_upto_region 20 with fail
      have x0' : wr.drew.cell? ⟨g, 0, none⟩ = some (Value.int .i64 tos) := HV.out _ HBR.out 0 _ rfl
      have x1' : wr.drew.cell? ⟨g, 1, none⟩ = some (Value.int .i64 id) := HV.out _ HBR.out 1 _ rfl
      have x2' : wr.drew.cell? ⟨g, 2, none⟩ = some (Value.int .i64 ttl) := HV.out _ HBR.out 2 _ rfl
      have x3' : wr.drew.cell? ⟨g, 3, none⟩ = some (Value.int .i64 proto) := HV.out _ HBR.out 3 _ rfl
      have x4' : wr.drew.cell? ⟨g, 4, none⟩ = some (Value.bool false) := HV.out _ HBR.out 4 _ rfl
      have x5' : wr.drew.cell? ⟨g, 5, none⟩ = some (Value.bool more) := HV.out _ HBR.out 5 _ rfl
      have x6' : wr.drew.cell? ⟨g, 6, none⟩ = some (Value.int .i64 (F : Int)) := HV.out _ HBR.out 6 _ rfl
      have x7' : wr.drew.cell? ⟨g, 7, none⟩ = some (Value.bool sv) := HV.out _ HBR.out 7 _ rfl
      have x8' : wr.drew.cell? ⟨g, 8, none⟩ = some (Value.int .u64 (sh : Int)) := HV.out _ HBR.out 8 _ rfl
      have x9' : wr.drew.cell? ⟨g, 9, none⟩ = some (Value.int .u64 (sl : Int)) := HV.out _ HBR.out 9 _ rfl
      have x10' : wr.drew.cell? ⟨g, 10, none⟩ = some (Value.bool dv) := HV.out _ HBR.out 10 _ rfl
      have x11' : wr.drew.cell? ⟨g, 11, none⟩ = some (Value.int .u64 (dh : Int)) := HV.out _ HBR.out 11 _ rfl
      have x12' : wr.drew.cell? ⟨g, 12, none⟩ = some (Value.int .u64 (dl : Int)) := HV.out _ HBR.out 12 _ rfl
      have x13' : wr.drew.cell? ⟨g, 13, none⟩ = some (Value.slice A n c) := HV.out _ HBR.out 13 _ rfl
      have x14' : wr.drew.cell? ⟨g, 14, none⟩ = some (Value.string P) := HV.out _ HBR.out 14 _ rfl
      have HB7 := Lib.hid HB8.out.drew
      have HO7 := Lib.hid (show wr.drew.ownsRow B 28 15 (.slice A8 m c8) m (EIp.cells es8) from HO8.out)
      have HI7 := Lib.hid (show OpsIn wr.drew (.slice A8 m c8) es8 from HI8.out)
      clear x0 x1 x2 x3 x4 x5 x7 x8 x9 x10 x11 x12 x13 x6x x14x y6 y14 HB8 HO8 HI8 HBR HBW
      have hS : (fun W : World => W.cell? ⟨g, 0, none⟩ = some (Value.int .i64 tos) ∧ W.cell? ⟨g, 1, none⟩ = some (Value.int .i64 id) ∧ W.cell? ⟨g, 2, none⟩ = some (Value.int .i64 ttl) ∧ W.cell? ⟨g, 3, none⟩ = some (Value.int .i64 proto) ∧ W.cell? ⟨g, 4, none⟩ = some (Value.bool false) ∧ W.cell? ⟨g, 5, none⟩ = some (Value.bool more) ∧ W.cell? ⟨g, 6, none⟩ = some (Value.int .i64 (F : Int)) ∧ W.cell? ⟨g, 7, none⟩ = some (Value.bool sv) ∧ W.cell? ⟨g, 8, none⟩ = some (Value.int .u64 (sh : Int)) ∧ W.cell? ⟨g, 9, none⟩ = some (Value.int .u64 (sl : Int)) ∧ W.cell? ⟨g, 10, none⟩ = some (Value.bool dv) ∧ W.cell? ⟨g, 11, none⟩ = some (Value.int .u64 (dh : Int)) ∧ W.cell? ⟨g, 12, none⟩ = some (Value.int .u64 (dl : Int)) ∧ W.cell? ⟨g, 13, none⟩ = some (Value.slice A n c) ∧ W.cell? ⟨g, 14, none⟩ = some (Value.string P)) wr.drew := ⟨x0', x1', x2', x3', x4', x5', x6', x7', x8', x9', x10', x11', x12', x13', x14'⟩
      have HSA := Lib.hid (fun (W : World) (hb : Below B w2 W) => show (fun W : World => W.cell? ⟨g, 0, none⟩ = some (Value.int .i64 tos) ∧ W.cell? ⟨g, 1, none⟩ = some (Value.int .i64 id) ∧ W.cell? ⟨g, 2, none⟩ = some (Value.int .i64 ttl) ∧ W.cell? ⟨g, 3, none⟩ = some (Value.int .i64 proto) ∧ W.cell? ⟨g, 4, none⟩ = some (Value.bool false) ∧ W.cell? ⟨g, 5, none⟩ = some (Value.bool more) ∧ W.cell? ⟨g, 6, none⟩ = some (Value.int .i64 (F : Int)) ∧ W.cell? ⟨g, 7, none⟩ = some (Value.bool sv) ∧ W.cell? ⟨g, 8, none⟩ = some (Value.int .u64 (sh : Int)) ∧ W.cell? ⟨g, 9, none⟩ = some (Value.int .u64 (sl : Int)) ∧ W.cell? ⟨g, 10, none⟩ = some (Value.bool dv) ∧ W.cell? ⟨g, 11, none⟩ = some (Value.int .u64 (dh : Int)) ∧ W.cell? ⟨g, 12, none⟩ = some (Value.int .u64 (dl : Int)) ∧ W.cell? ⟨g, 13, none⟩ = some (Value.slice A n c) ∧ W.cell? ⟨g, 14, none⟩ = some (Value.string P)) W from ⟨HV.out _ (HBT.out _ hb) 0 _ rfl, HV.out _ (HBT.out _ hb) 1 _ rfl, HV.out _ (HBT.out _ hb) 2 _ rfl, HV.out _ (HBT.out _ hb) 3 _ rfl, HV.out _ (HBT.out _ hb) 4 _ rfl, HV.out _ (HBT.out _ hb) 5 _ rfl, HV.out _ (HBT.out _ hb) 6 _ rfl, HV.out _ (HBT.out _ hb) 7 _ rfl, HV.out _ (HBT.out _ hb) 8 _ rfl, HV.out _ (HBT.out _ hb) 9 _ rfl, HV.out _ (HBT.out _ hb) 10 _ rfl, HV.out _ (HBT.out _ hb) 11 _ rfl, HV.out _ (HBT.out _ hb) 12 _ rfl, HV.out _ (HBT.out _ hb) 13 _ rfl, HV.out _ (HBT.out _ hb) 14 _ rfl⟩)
      clear x0' x1' x2' x3' x4' x5' x6' x7' x8' x9' x10' x11' x12' x13' x14'
      refine wp_region_held (S := (fun W : World => W.cell? ⟨g, 0, none⟩ = some (Value.int .i64 tos) ∧ W.cell? ⟨g, 1, none⟩ = some (Value.int .i64 id) ∧ W.cell? ⟨g, 2, none⟩ = some (Value.int .i64 ttl) ∧ W.cell? ⟨g, 3, none⟩ = some (Value.int .i64 proto) ∧ W.cell? ⟨g, 4, none⟩ = some (Value.bool false) ∧ W.cell? ⟨g, 5, none⟩ = some (Value.bool more) ∧ W.cell? ⟨g, 6, none⟩ = some (Value.int .i64 (F : Int)) ∧ W.cell? ⟨g, 7, none⟩ = some (Value.bool sv) ∧ W.cell? ⟨g, 8, none⟩ = some (Value.int .u64 (sh : Int)) ∧ W.cell? ⟨g, 9, none⟩ = some (Value.int .u64 (sl : Int)) ∧ W.cell? ⟨g, 10, none⟩ = some (Value.bool dv) ∧ W.cell? ⟨g, 11, none⟩ = some (Value.int .u64 (dh : Int)) ∧ W.cell? ⟨g, 12, none⟩ = some (Value.int .u64 (dl : Int)) ∧ W.cell? ⟨g, 13, none⟩ = some (Value.slice A n c) ∧ W.cell? ⟨g, 14, none⟩ = some (Value.string P))) (by kernel_rfl) ?_
      change wpAnyH _ _ _ _ _ _ _ _ wr.drew
      generalize wr.drew = W7 at *
      refine wpAnyH_take (i := 0) (v := .slice A8 m c8) rfl (by kernel_rfl) (by kernel_rfl) (by kernel_rfl) (fun _ _ _ h => h) (Or.inl ⟨by kernel_rfl, fun W hW => ?_⟩) hS ?_
      · obtain ⟨y0, y1, y2, y3, y4, y5, y6, y7, y8, y9, y10, y11, y12, y13, y14⟩ := hW
        go_simp
      try simp only [Act.put, List.setIfInBounds_toArray, List.set_cons_zero, List.set_cons_succ]
      refine wpAnyH_take (i := 1) (v := .agg #[.int .i64 tos, .int .i64 id, .int .i64 ttl, .int .i64 proto, .bool false, .bool more, .int .i64 (F : Int), .bool sv, .int .u64 (sh : Int), .int .u64 (sl : Int), .bool dv, .int .u64 (dh : Int), .int .u64 (dl : Int), .slice A n c, .string P]) rfl (by kernel_rfl) (by kernel_rfl) (by kernel_rfl) (fun _ _ _ h => h) (Or.inl ⟨by kernel_rfl, fun W hW => ?_⟩) hS ?_
      · obtain ⟨y0, y1, y2, y3, y4, y5, y6, y7, y8, y9, y10, y11, y12, y13, y14⟩ := hW
        go_simp
      try simp only [Act.put, List.setIfInBounds_toArray, List.set_cons_zero, List.set_cons_succ]
      refine wpAnyH_take (i := 2) (v := .pointer (some ⟨g, 14, none⟩)) rfl (by kernel_rfl) (by kernel_rfl) (by kernel_rfl) (fun _ _ _ h => h) (Or.inl ⟨by kernel_rfl, fun W hW => ?_⟩) hS ?_
      · obtain ⟨y0, y1, y2, y3, y4, y5, y6, y7, y8, y9, y10, y11, y12, y13, y14⟩ := hW
        go_simp
      try simp only [Act.put, List.setIfInBounds_toArray, List.set_cons_zero, List.set_cons_succ]
      refine wpAnyH_take (i := 3) (v := .string P) rfl (by kernel_rfl) (by kernel_rfl) (by kernel_rfl) (fun _ _ _ h => h) (Or.inl ⟨by kernel_rfl, fun W hW => ?_⟩) hS ?_
      · obtain ⟨y0, y1, y2, y3, y4, y5, y6, y7, y8, y9, y10, y11, y12, y13, y14⟩ := hW
        go_simp
      try simp only [Act.put, List.setIfInBounds_toArray, List.set_cons_zero, List.set_cons_succ]
      refine wpAnyH_take (i := 4) (v := .int .i64 (at_ : Int)) rfl (by kernel_rfl) (by kernel_rfl) (by kernel_rfl) (fun _ _ _ h => h) (Or.inl ⟨by kernel_rfl, fun W hW => ?_⟩) hS ?_
      · obtain ⟨y0, y1, y2, y3, y4, y5, y6, y7, y8, y9, y10, y11, y12, y13, y14⟩ := hW
        go_simp
      try simp only [Act.put, List.setIfInBounds_toArray, List.set_cons_zero, List.set_cons_succ]
      refine wpAnyH_take (i := 5) (v := .int .i64 (at_ : Int)) rfl (by kernel_rfl) (by kernel_rfl) (by kernel_rfl) (fun _ _ _ h => h) (Or.inl ⟨by kernel_rfl, fun W hW => ?_⟩) hS ?_
      · obtain ⟨y0, y1, y2, y3, y4, y5, y6, y7, y8, y9, y10, y11, y12, y13, y14⟩ := hW
        go_simp
      try simp only [Act.put, List.setIfInBounds_toArray, List.set_cons_zero, List.set_cons_succ]
      refine wpAnyH_take (i := 6) (v := .int .i64 (N : Int)) rfl (by kernel_rfl) (by kernel_rfl) (by kernel_rfl) (fun _ _ _ h => h) (Or.inl ⟨by kernel_rfl, fun W hW => ?_⟩) hS ?_
      · obtain ⟨y0, y1, y2, y3, y4, y5, y6, y7, y8, y9, y10, y11, y12, y13, y14⟩ := hW
        go_simp
      try simp only [Act.put, List.setIfInBounds_toArray, List.set_cons_zero, List.set_cons_succ]
      refine wpAnyH_take (i := 7) (v := .int .i64 (t : Int)) rfl (by kernel_rfl) (by kernel_rfl) (by kernel_rfl) (fun _ _ _ h => h) (Or.inl ⟨by kernel_rfl, fun W hW => ?_⟩) hS ?_
      · obtain ⟨y0, y1, y2, y3, y4, y5, y6, y7, y8, y9, y10, y11, y12, y13, y14⟩ := hW
        go_simp
      try simp only [Act.put, List.setIfInBounds_toArray, List.set_cons_zero, List.set_cons_succ]
      refine wpAnyH_take (i := 8) (v := .string E) rfl (by kernel_rfl) (by kernel_rfl) (by kernel_rfl) (fun _ _ _ h => h) (Or.inl ⟨by kernel_rfl, fun W hW => ?_⟩) hS ?_
      · obtain ⟨y0, y1, y2, y3, y4, y5, y6, y7, y8, y9, y10, y11, y12, y13, y14⟩ := hW
        go_simp
      try simp only [Act.put, List.setIfInBounds_toArray, List.set_cons_zero, List.set_cons_succ]
      refine wpAnyH_take (i := 9) (v := .pointer (some ⟨g, 6, none⟩)) rfl (by kernel_rfl) (by kernel_rfl) (by kernel_rfl) (fun _ _ _ h => h) (Or.inl ⟨by kernel_rfl, fun W hW => ?_⟩) hS ?_
      · obtain ⟨y0, y1, y2, y3, y4, y5, y6, y7, y8, y9, y10, y11, y12, y13, y14⟩ := hW
        go_simp
      try simp only [Act.put, List.setIfInBounds_toArray, List.set_cons_zero, List.set_cons_succ]
      refine wpAnyH_take (i := 10) (v := .int .i64 (F : Int)) rfl (by kernel_rfl) (by kernel_rfl) (by kernel_rfl) (fun _ _ _ h => h) (Or.inl ⟨by kernel_rfl, fun W hW => ?_⟩) hS ?_
      · obtain ⟨y0, y1, y2, y3, y4, y5, y6, y7, y8, y9, y10, y11, y12, y13, y14⟩ := hW
        go_simp
      try simp only [Act.put, List.setIfInBounds_toArray, List.set_cons_zero, List.set_cons_succ]
      refine wpAnyH_take (i := 11) (v := .int .i64 (at_ : Int)) rfl (by kernel_rfl) (by kernel_rfl) (by kernel_rfl) (fun _ _ _ h => h) (Or.inl ⟨by kernel_rfl, fun W hW => ?_⟩) hS ?_
      · obtain ⟨y0, y1, y2, y3, y4, y5, y6, y7, y8, y9, y10, y11, y12, y13, y14⟩ := hW
        go_simp
      try simp only [Act.put, List.setIfInBounds_toArray, List.set_cons_zero, List.set_cons_succ]
      refine wpAnyH_take (i := 12) (v := .int .i64 (fa : Int)) rfl (by kernel_rfl) (by kernel_rfl) (by kernel_rfl) (fun _ _ _ h => h) (Or.inl ⟨by kernel_rfl, fun W hW => ?_⟩) hS ?_
      · obtain ⟨y0, y1, y2, y3, y4, y5, y6, y7, y8, y9, y10, y11, y12, y13, y14⟩ := hW
        go_simp
      try simp only [Act.put, List.setIfInBounds_toArray, List.set_cons_zero, List.set_cons_succ]
      refine wpAnyH_take (i := 13) (v := .bool false) rfl (by kernel_rfl) (by kernel_rfl) (by kernel_rfl) (fun _ _ _ h => h) (Or.inl ⟨by kernel_rfl, fun W hW => ?_⟩) hS ?_
      · obtain ⟨y0, y1, y2, y3, y4, y5, y6, y7, y8, y9, y10, y11, y12, y13, y14⟩ := hW
        go_simp
      try simp only [Act.put, List.setIfInBounds_toArray, List.set_cons_zero, List.set_cons_succ]
      refine wpAnyH_take (i := 14) (v := .bool true) rfl (by kernel_rfl) (by kernel_rfl) (by kernel_rfl) (fun _ _ _ h => h) (Or.inl ⟨by kernel_rfl, fun W hW => ?_⟩) hS ?_
      · obtain ⟨y0, y1, y2, y3, y4, y5, y6, y7, y8, y9, y10, y11, y12, y13, y14⟩ := hW
        go_simp
      try simp only [Act.put, List.setIfInBounds_toArray, List.set_cons_zero, List.set_cons_succ]
      refine wpAnyH_take (i := 15) (v := .bool true) rfl (by kernel_rfl) (by kernel_rfl) (by kernel_rfl) (fun _ _ _ h => h) (Or.inl ⟨by kernel_rfl, fun W hW => ?_⟩) hS ?_
      · obtain ⟨y0, y1, y2, y3, y4, y5, y6, y7, y8, y9, y10, y11, y12, y13, y14⟩ := hW
        go_simp
      try simp only [Act.put, List.setIfInBounds_toArray, List.set_cons_zero, List.set_cons_succ]
      refine wpAnyH_take (i := 16) (v := undef) rfl (by kernel_rfl) (by kernel_rfl) (by kernel_rfl) (fun _ _ _ h => h) (Or.inr ⟨by kernel_rfl, rfl⟩) hS ?_
      try simp only [Act.put, List.setIfInBounds_toArray, List.set_cons_zero, List.set_cons_succ]
      refine wpAnyH_take (i := 17) (v := undef) rfl (by kernel_rfl) (by kernel_rfl) (by kernel_rfl) (fun _ _ _ h => h) (Or.inr ⟨by kernel_rfl, rfl⟩) hS ?_
      try simp only [Act.put, List.setIfInBounds_toArray, List.set_cons_zero, List.set_cons_succ]
      refine wpAnyH_take (i := 18) (v := .bool true) rfl (by kernel_rfl) (by kernel_rfl) (by kernel_rfl) (fun _ _ _ h => h) (Or.inl ⟨by kernel_rfl, fun W hW => ?_⟩) hS ?_
      · obtain ⟨y0, y1, y2, y3, y4, y5, y6, y7, y8, y9, y10, y11, y12, y13, y14⟩ := hW
        go_simp
      try simp only [Act.put, List.setIfInBounds_toArray, List.set_cons_zero, List.set_cons_succ]
      refine wpAnyH_take (i := 19) (v := .int .i64 (at_ : Int)) rfl (by kernel_rfl) (by kernel_rfl) (by kernel_rfl) (fun _ _ _ h => h) (Or.inl ⟨by kernel_rfl, fun W hW => ?_⟩) hS ?_
      · obtain ⟨y0, y1, y2, y3, y4, y5, y6, y7, y8, y9, y10, y11, y12, y13, y14⟩ := hW
        go_simp
      try simp only [Act.put, List.setIfInBounds_toArray, List.set_cons_zero, List.set_cons_succ]
      refine wpAnyH_ready (rs := [20]) (by kernel_rfl) (by simp) ?_
      refine AllReadyH.cons rfl (fun K hK => ?_) AllReadyH.nil
      rw [if_pos (by rfl)]
      go_simp
      refine (HC.out _ HB7.out).mono ?_
      rintro e w9 ⟨m2, A2, c2, rfl, HM, hb9⟩
      have hsz7 : B ≤ W7.heap.size := by rw [HBB.out]; exact HB7.out.size
      have HB9 := Lib.hid (HB7.out.trans (hb9.mono hsz7))
      have hsz9 : B ≤ w9.heap.size := Nat.le_trans hsz7 hb9.size
      have HO9 := Lib.hid (own_kept HO7.out hb9 (Nat.le_refl _))
      refine hK.out _ _ (HSA.out _ HB9.out) (fun hS9 => ?_)
      clear hK K
      try simp only [Act.put, List.setIfInBounds_toArray, List.set_cons_zero, List.set_cons_succ]
      refine wpAnyH_ready (rs := [21]) (by kernel_rfl) (by simp) ?_
      refine AllReadyH.cons rfl (fun K hK => ?_) AllReadyH.nil
      rw [if_pos (by rfl)]
      go_simp
      obtain ⟨hm2, hr2, h02, hf2⟩ := HM.out
      have HB10 := Lib.hid (HB9.out.alloc hsz9 (.cells #[.int .i64 tos, .int .i64 id, .int .i64 ttl, .int .i64 proto, .bool false, .bool true, .int .i64 (fa : Int), .bool sv, .int .u64 (sh : Int), .int .u64 (sl : Int), .bool dv, .int .u64 (dh : Int), .int .u64 (dl : Int), .slice A2 m2 c2, .string E] 28))
      refine hK.out _ _ (HSA.out _ HB10.out) (fun hS10 => ?_)
      clear hK K hS9 hS
      try simp only [Act.put, List.setIfInBounds_toArray, List.set_cons_zero, List.set_cons_succ]
      refine wpAnyH_ready (rs := [22]) (by kernel_rfl) (by simp) ?_
      refine AllReadyH.cons rfl (fun K hK => ?_) AllReadyH.nil
      refine wp_of_list rfl ?_
      refine wpList_push (E := EIp) ipsTy (by rfl) _ _ (by rfl) B _ m es8 [(y, A2, c2)] (by rfl) (HO9.out.alloc _) _ 1 1 #[.int .i64 tos, .int .i64 id, .int .i64 ttl, .int .i64 proto, .bool false, .bool true, .int .i64 (fa : Int), .bool sv, .int .u64 (sh : Int), .int .u64 (sl : Int), .bool dv, .int .u64 (dh : Int), .int .u64 (dl : Int), .slice A2 m2 c2, .string E] (0, 0) (by rfl) (heap_alloc_new _ _) (HXY.out A2 m2 c2 hm2).symm rfl (by omega) (by omega) (by decide) (by simp; omega) ?_
      intro g2 cap2 w11 hown hgrow hat3 hlt3
      have HB11 := Lib.hid (HB10.out.grown hgrow (by simp; omega) (fun j hj => (own_blk_in HO9.out _ hj).1))
      have HI11 := Lib.hid (OpsIn.push (x := (y, A2, c2)) (n := m + 1) (c := cap2) HI7.out (fun j hj => (own_blk_in HO7.out _ hj).2) hb9 h02 (by rw [HYO.out]; exact hr2) hf2 hgrow hat3)
      have HO11 := Lib.hid hown
      have HL11 := Lib.hid (show m + 1 = (es8 ++ [(y, A2, c2)]).length by rw [List.length_append, HM8.out]; rfl)
      clear hown hgrow hat3 hlt3 hm2 hr2 h02 hf2 hb9 HXY HO9 HO7 HI7 HB9 HB7 HB10 hS10
      refine ⟨rfl, hK.out _ _ (HSA.out _ HB11.out) (fun hS11 => ?_)⟩
      clear hK K
      try simp only [Act.put, List.setIfInBounds_toArray, List.set_cons_zero, List.set_cons_succ]
      refine wpAnyH_ready (rs := [23]) (by kernel_rfl) (by simp) ?_
      refine AllReadyH.cons rfl (fun K hK => ?_) AllReadyH.nil
      rw [if_pos (by rfl)]
      go_simp
      refine hK.out _ _ hS11 (fun _ => ?_)
      clear hK K
      try simp only [Act.put, List.setIfInBounds_toArray, List.set_cons_zero, List.set_cons_succ]
      refine wpAnyH_done (by kernel_rfl) ?_ _
      clear hS11 HC HSA
      go_wp2_with fail
      go_roundw
      case rel => exact ⟨_, _, _, _, ⟨t, m + 1, some ⟨g2, 0, none⟩, cap2, rfl, rfl, by have := HT.out; omega, by have := HT.out; omega, es8 ++ [(y, A2, c2)], HL11, by have := HT.out; rw [this.2]; exact Lib.hid (HSN.out A2 c2), HO11, HI11⟩, rfl, rfl, rfl, rfl⟩
      case measure => have := HT.out; simp [intOf]; omega
end Go.Proofs.Ytimilcjlogcfhaa
