/- Contracts of the functions, part 30: Ip4PSpl. -/
import Derived.Deep.WholeRow
import Derived.Test.YtimilcjlogcfhaaPE28
import Derived.Test.YtimilcjlogcfhaaPE29
/- Contract of the program of layer 11: Split. -/
namespace Go.Proofs.Ytimilcjlogcfhaa
open Go.ChangeShapes Go.WideShapes Go.ChangeAt Go.RowKit
set_option linter.unusedVariables false

theorem SplS.start2 {p : Ip4R} {size : Int} (h1 : ¬ (size < 8 ∨ size % 8 ≠ 0)) (h2 : (encI p).2 = 0) (h3 : ¬ (p.dont = true ∧ size < (p.pay.length : Int))) (ho : p.off ≤ 65528) : SplS p size.toNat (splitI p size) [] 0 := by
  by_cases hs : (p.pay.length : Int) ≤ size
  · refine ⟨p.pay.length, by omega, ?_⟩
    unfold splitI
    rw [if_neg h1, if_neg (by omega), if_pos hs, partsI, if_neg (by omega), if_pos (by omega)]
    simp
  · exact SplS.start h1 (by omega) hs (fun e => h3 ⟨e, by omega⟩)
/-- How far the program's loop is. -/
def SplT (p : Ip4R) (size : Nat) (R : List Ip4R × Nat) (es : List IpE) (at_ : Nat) : Prop :=
  (R = (es.map (·.1), 0) ∧ p.pay.length ≤ at_ ∧ 0 < at_) ∨ (SplS p size R es at_ ∧ (at_ = 0 ∨ at_ < p.pay.length))
/-- A round: the part that it makes, and what then is. -/
theorem SplT.next {p : Ip4R} {size : Nat} {R : List Ip4R × Nat} {es : List IpE} {at_ e : Nat} (h : SplT p size R es at_) (ht : at_ = 0 ∨ at_ < p.pay.length) (h8 : 8 ≤ size) (h1 : ¬ 65528 < p.off + at_) (he : e = min (at_ + size) p.pay.length) {x : IpE}
    (hx : x.1 = partI p ((p.pay.drop at_).take (e - at_)) (p.off + at_) (p.more || decide (e < p.pay.length)) at_) : SplT p size R (es ++ [x]) (at_ + size) := by
  rcases h with ⟨_, h2, h3⟩ | ⟨hs, _⟩
  · omega
  by_cases hl : p.pay.length - at_ ≤ size
  · refine .inl ⟨?_, by omega, by omega⟩
    rw [hs.last h1 hl, List.map_append, List.map_singleton, hx]
    have e1 : e = p.pay.length := by omega
    rw [e1, decide_eq_false (by omega), Bool.or_false, List.take_of_length_le (by rw [List.length_drop]; omega)]
  · have e1 : e = at_ + size := by omega
    refine .inr ⟨hs.next h1 hl h8 ?_, .inr (by omega)⟩
    rw [hx, e1, decide_eq_true (by omega), Bool.or_true, show at_ + size - at_ = size by omega]
theorem SplT.stop {p : Ip4R} {size : Nat} {R : List Ip4R × Nat} {es : List IpE} {at_ : Nat} (h : SplT p size R es at_) (ht : ¬ (at_ = 0 ∨ at_ < p.pay.length)) : R = (es.map (·.1), 0) := by
  rcases h with ⟨h, _⟩ | ⟨_, h⟩
  · exact h
  · exact absurd h ht
theorem SplT.bad {p : Ip4R} {size : Nat} {R : List Ip4R × Nat} {es : List IpE} {at_ : Nat} (h : SplT p size R es at_) (ht : at_ = 0 ∨ at_ < p.pay.length) (h1 : 65528 < p.off + at_) : R = ([], 4) := by
  rcases h with ⟨_, h2, h3⟩ | ⟨hs, _⟩
  · omega
  · exact hs.none h1
set_option maxHeartbeats 8000000 in
set_option maxRecDepth 20000 in
theorem psplit11_any (tos id ttl proto off : Int) (dont more sv dv : Bool) (sh sl dh dl : Nat) (l : List OpR) (pay : List UInt8) (size : Int) (A : Option Addr) (c : Nat) (w : World) (h : RowL EOpt w A l) (hl : l.length ≤ 1000) (hd : ∀ x ∈ l, x.dat.length ≤ 281474976710656) (hp : pay.length ≤ 1000000) (hsw : size ≤ 9223372036854775807) (hsw0 : -9223372036854775808 ≤ size) :
    Calls Try.prog 21 #[.agg #[.int .i64 tos, .int .i64 id, .int .i64 ttl, .int .i64 proto, .bool dont, .bool more, .int .i64 off, .bool sv, .int .u64 (sh : Int), .int .u64 (sl : Int), .bool dv, .int .u64 (dh : Int), .int .u64 (dl : Int), .slice A l.length c, .string (str pay)], .int .i64 size] w (SplP w (splitI ⟨tos, id, ttl, proto, dont, more, off, ⟨sv, sh, sl⟩, ⟨dv, dh, dl⟩, l, pay⟩ size)) := by
  obtain ⟨p, hpe⟩ : ∃ p, p = (⟨tos, id, ttl, proto, dont, more, off, ⟨sv, sh, sl⟩, ⟨dv, dh, dl⟩, l, pay⟩ : Ip4R) := ⟨_, rfl⟩
  rw [← hpe]
  obtain ⟨R, hR⟩ : ∃ R, R = splitI p size := ⟨_, rfl⟩
  rw [← hR]
  have HRS := Lib.hid hR
  unfold splitI at hR
  have HPE := Lib.hid hpe
  have HPAY := Lib.hid (show p.pay = pay by rw [hpe])
  have HDN := Lib.hid (show p.dont = dont by rw [hpe])
  have HOPS := Lib.hid (show p.ops = l by rw [hpe])
  have HOFF := Lib.hid (show p.off = off by rw [hpe])
  have HMOR := Lib.hid (show p.more = more by rw [hpe])
  obtain ⟨n, hnl⟩ : ∃ n, n = l.length := ⟨_, rfl⟩
  obtain ⟨P, hP⟩ : ∃ P, P = str pay := ⟨_, rfl⟩
  have hPs : P.size = pay.length := by rw [hP, str_size]
  have hPs6 : P.size ≤ 1000000 := by omega
  have HPS := Lib.hid hPs
  have HPP := Lib.hid hP
  obtain ⟨er, her⟩ : ∃ e, e = (encI p).2 := ⟨_, rfl⟩
  obtain ⟨ES, hES⟩ : ∃ e, e = str (encI p).1 := ⟨_, rfl⟩
  have HENC := Lib.hid (fun (W : World) (hb : Below w.heap.size w W) => show Calls Try.prog 15 #[.agg #[.int .i64 tos, .int .i64 id, .int .i64 ttl, .int .i64 proto, .bool dont, .bool more, .int .i64 off, .bool sv, .int .u64 (sh : Int), .int .u64 (sl : Int), .bool dv, .int .u64 (dh : Int), .int .u64 (dl : Int), .slice A n c, .string P]] W fun e w' => e = .returned (.tuple #[.string ES, .int .i64 (er : Int)]) ∧ Below W.heap.size W w' from by
    have := penc11_any p A c W (by rw [HOPS.out]; exact h.kept hb) (by rw [HOPS.out]; exact hl) (by rw [HOPS.out]; exact hd) (by rw [HPAY.out]; exact hp)
    rw [hpe] at this
    dsimp only at this
    rw [← hP, ← hnl] at this
    refine this.mono ?_
    rintro e w' ⟨h1, h2⟩
    rw [← hpe, ← her, ← hES] at h1
    exact ⟨h1, h2⟩)
  rw [← her] at hR
  have HPAR := Lib.hid (fun (a : Nat) (b : Bool) (hb : (a == 0) = b) (W : World) (hW : Below w.heap.size w W) => by
    have := ppart11_any A c l a b hb W (h.kept hW) hl
    rwa [← hnl] at this)
  rw [← hP, ← hnl]
  obtain ⟨W1, hW1⟩ : ∃ W, W = w.alloc (.cells #[.int .i64 tos, .int .i64 id, .int .i64 ttl, .int .i64 proto, .bool dont, .bool more, .int .i64 off, .bool sv, .int .u64 (sh : Int), .int .u64 (sl : Int), .bool dv, .int .u64 (dh : Int), .int .u64 (dl : Int), .slice A n c, .string P] 28) := ⟨_, rfl⟩
  obtain ⟨g, hg⟩ : ∃ g, g = w.heap.size := ⟨_, rfl⟩
  have HX := Lib.hid (show Cells W1 g 28 #[.int .i64 tos, .int .i64 id, .int .i64 ttl, .int .i64 proto, .bool dont, .bool more, .int .i64 off, .bool sv, .int .u64 (sh : Int), .int .u64 (sl : Int), .bool dv, .int .u64 (dh : Int), .int .u64 (dl : Int), .slice A n c, .string P] by rw [hW1, hg]; exact heap_alloc_new w _)
  have HB1 := Lib.hid (show Below w.heap.size w W1 by rw [hW1]; exact below_alloc6 w _)
  have HV := Lib.hid (fun (W : World) (hb : Below W1.heap.size W1 W) (i : Nat) (v : Value) (hv : (#[.int .i64 tos, .int .i64 id, .int .i64 ttl, .int .i64 proto, .bool dont, .bool more, .int .i64 off, .bool sv, .int .u64 (sh : Int), .int .u64 (sl : Int), .bool dv, .int .u64 (dh : Int), .int .u64 (dl : Int), .slice A n c, .string P])[i]? = some v) => show W.cell? ⟨g, i, none⟩ = some v from box_cell HX.out hb i v hv)
  have HW := Lib.hid (fun (W : World) (hb : Below W1.heap.size W1 W) => HB1.out.trans (hb.mono HB1.out.size))
  have HGL := Lib.hid HX.out.lt
  have HXX := HX
  have HWG := Lib.hid (And.intro hW1.symm hg.symm)
  have HER := Lib.hid her
  clear h hnl hP hPs hd hl hp hpe hES her hW1 hg HX
  have htm : 0 < size → size.tmod 8 = size % 8 := fun h => Int.tmod_eq_emod_of_nonneg (by omega)
  by_cases c0 : size ≤ 0
  · have HR := Lib.hid (show R = ([], 4) by rw [hR, if_pos (Or.inl (by omega))])
    have d0 : decide (size ≤ 0) = true := by simp; omega
    clear hR HRS HENC HPAR htm
    go_enter Try.func21, Try.ntmps21
    go_wp2_with fail
    rw [HWG.out.1]
    go_ret2
    exact SplP.err HR.out rfl HB1.out
  have d0 : decide (size ≤ 0) = false := by simp; omega
  have htm2 := htm (by omega)
  by_cases c1 : size % 8 ≠ 0
  · have HR := Lib.hid (show R = ([], 4) by rw [hR, if_pos (Or.inr c1)])
    have m1 : (size % 8 != 0) = true := by rw [bne_iff_ne]; exact c1
    have m2 : (size.tmod 8 != 0) = true := by rw [htm2]; exact m1
    clear hR HRS HENC HPAR htm htm2
    go_enter Try.func21, Try.ntmps21
    go_wp2_with fail
    rw [HWG.out.1]
    go_ret2
    exact SplP.err HR.out rfl HB1.out
  have c1' : size % 8 = 0 := by omega
  have m1 : (size % 8 != 0) = false := by rw [bne_eq_false_iff_eq]; exact c1'
  have m2 : (size.tmod 8 != 0) = false := by rw [htm2]; exact m1
  have HN1 := Lib.hid (show ¬ (size < 8 ∨ size % 8 ≠ 0) by omega)
  rw [if_neg HN1.out] at hR
  have HR0 := Lib.hid hR
  have c18 : 8 ≤ size := by omega
  clear c1 htm htm2 hR
  go_enter Try.func21, Try.ntmps21
  go_wp2_with fail
  rw [HWG.out.1, HWG.out.2]
  refine (HENC.out _ HB1.out).mono ?_
  rintro e w2 ⟨rfl, hb2⟩
  have HB2 := Lib.hid (show Below W1.heap.size W1 w2 from hb2)
  clear hb2 HENC m1 m2 c1'
  by_cases c2 : er ≠ 0
  · have HR := Lib.hid (show R = ([], er) by rw [HR0.out, if_pos c2])
    have z1 : ((er : Int) != 0) = true := by rw [bne_iff_ne]; omega
    have z2 : ¬ (er : Int) = 0 := by omega
    clear c2
    go_wp2_with fail
    go_ret2
    exact SplP.err HR.out rfl (HW.out _ HB2.out)
  have z1 : ((er : Int) != 0) = false := by rw [bne_eq_false_iff_eq]; omega
  have z2 : (er : Int) = 0 := by omega
  have HE0 := Lib.hid (show (encI p).2 = 0 by rw [← HER.out]; omega)
  have HNB := Lib.hid (show ¬ badI p by
    intro hb
    have := HE0.out
    unfold encI at this
    rw [if_pos hb] at this
    cases this)
  have hoff : 0 ≤ off ∧ off ≤ 65528 := by
    have h1 : ¬ (p.off < 0 ∨ 65528 < p.off ∨ p.off % 8 ≠ 0) := fun e => HNB.out (.inr (.inr (.inr (.inr (.inl e)))))
    rw [HOFF.out] at h1
    omega
  have hR1 := HR0.out
  rw [if_neg c2] at hR1
  have HR1 := Lib.hid hR1
  clear hR1
  clear c2 HR0
  have x4 := HV.out w2 HB2.out 4 (.bool dont) rfl
  have x14 := HV.out w2 HB2.out 14 (.string P) rfl
  by_cases c3 : dont = true ∧ size < (P.size : Int)
  · obtain ⟨c3a, c3⟩ := c3
    have HR := Lib.hid (show R = ([], 10) by rw [HR1.out, if_neg (by rw [HPAY.out, ← HPS.out]; omega), if_pos (by rw [HDN.out]; exact c3a)])
    have e1 : decide (size < (P.size : Int)) = true := by simpa using c3
    subst c3a
    clear HR1
    go_wp2_with fail
    go_ret2
    exact SplP.err HR.out rfl (HW.out _ HB2.out)
  have HST := Lib.hid (show SplT p size.toNat R [] 0 from .inr ⟨by
    rw [HRS.out]
    exact SplS.start2 HN1.out HE0.out (by rw [HDN.out, HPAY.out, ← HPS.out]; exact c3) (by rw [HOFF.out]; exact hoff.2), .inl rfl⟩)
  have hdd : dont = false ∨ (dont = true ∧ decide (size < (P.size : Int)) = false ∧ ¬ size < (P.size : Int)) := by
    cases dont
    · exact .inl rfl
    · refine .inr ⟨rfl, ?_, fun e => c3 ⟨rfl, e⟩⟩
      rw [decide_eq_false_iff_not]
      exact fun e => c3 ⟨rfl, e⟩
  obtain ⟨F, hF⟩ : ∃ F : Nat, off = F := ⟨off.toNat, by omega⟩
  subst hF
  obtain ⟨S, hS⟩ : ∃ S : Nat, size = S := ⟨size.toNat, by omega⟩
  subst hS
  rw [Int.toNat_natCast] at HST
  have hF16 : F ≤ 65528 := by omega
  have hS8 : 8 ≤ S := by omega
  have hS63 : S ≤ 9223372036854775807 := by omega
  obtain ⟨B, hBE⟩ : ∃ B, B = w2.heap.size := ⟨_, rfl⟩
  have HBE := Lib.hid hBE
  have HO0 := Lib.hid (show w2.ownsRow B 28 15 (.slice none 0 0) 0 (EIp.cells []) from World.ownsRow_nil w2 B 28 15)
  have HBR0 := Lib.hid (show Below B w2 w2 by rw [hBE]; exact Below.refl _ _)
  have HGB := Lib.hid (show g < B by have h1 := HGL.out; have h2 := HB2.out.size; omega)
  clear c3 hoff HR1 HN1 HRS hBE c0 c18
  have HLOOP : True := trivial
  rcases hdd with rfl | ⟨rfl, hd1, hd2⟩
  · skip
    go_wp2_with fail
    clear x4 x14
    go_loopw [8, 9] (fun v8 v9 wr => ∃ (k m : Nat) (A2 : Option Addr) (c2 : Nat) (es : List IpE), v8 = .slice A2 m c2 ∧ v9 = .int .i64 (k : Int) ∧ k ≤ 9223372036854775807 ∧ (k = 0 ∨ S ≤ k) ∧ m * 8 ≤ k ∧ m ≤ 200000 ∧ Hid (m = es.length) ∧ Hid (SplT p S R es k) ∧ Hid (wr.ownsRow B 28 15 (.slice A2 m c2) m (EIp.cells es)) ∧ Hid (OpsIn wr (.slice A2 m c2) es) ∧ Hid (Below B w2 wr)) (fun _ v9 _ => (1 - (intOf v9).toNat) + (P.size - (intOf v9).toNat))
    case atStart => exact ⟨0, 0, none, 0, [], rfl, rfl, by omega, .inl rfl, by omega, by omega, Lib.hid rfl, HST, HO0, Lib.hid (OpsIn.nil _ _), HBR0⟩
    case round =>
      clear HO0 HBR0 HST
      obtain ⟨k, m, A2, c2, es, rfl, rfl, hk63, hkS, hmk, hm2, HM, HT, HO, HI, HB⟩ := hrel
      have hBr : B ≤ wr.heap.size := by have h1 := HBE.out; have h2 := HB.out.size; omega
      have HBR := Lib.hid (show Below W1.heap.size W1 wr from HB2.out.trans (HB.out.mono (by rw [HBE.out]; exact HB2.out.size)))
      have x14 := HV.out wr HBR.out 14 (.string P) rfl
      by_cases ht : k = 0 ∨ k < P.size
      · have HTP := Lib.hid (show k = 0 ∨ k < p.pay.length by rw [HPAY.out, ← HPS.out]; exact ht)
        have hk6 : k ≤ 1000000 := by omega
        have hks : k ≤ P.size := by omega
        have hdk : (((k : Int) == 0) = true ∧ k = 0 ∧ (k : Int) = 0) ∨ (((k : Int) == 0) = false ∧ ¬ (k : Int) = 0 ∧ decide ((k : Int) < (P.size : Int)) = true ∧ (k : Int) < (P.size : Int) ∧ 0 < k) := by
          by_cases hz : k = 0
          · left; exact ⟨by rw [beq_iff_eq]; omega, hz, by omega⟩
          · right; exact ⟨by rw [beq_eq_false_iff_ne]; omega, by omega, by simp; omega, by omega, by omega⟩
        obtain ⟨kb, hkb⟩ : ∃ b, (k == 0) = b := ⟨_, rfl⟩
        have hkbi : ((k : Int) == 0) = kb := by rw [← hkb, Bool.eq_iff_iff, beq_iff_eq, beq_iff_eq]; omega
        have HPA := Lib.hid (HPAR.out k kb hkb)
        have HKB := Lib.hid hkb
        have HKBI := Lib.hid hkbi
        obtain ⟨fa, hfa⟩ : ∃ f, f = F + k := ⟨_, rfl⟩
        have hfai : (F : Int) + (k : Int) = (fa : Int) := by omega
        have hfa9 : fa ≤ 2000000 := by omega
        have HFA := Lib.hid hfa
        obtain ⟨en, hen⟩ : ∃ e, e = min (k + S) P.size := ⟨_, rfl⟩
        obtain ⟨ks, hks2⟩ : ∃ e, e = k + S := ⟨_, rfl⟩
        have hksi : (k : Int) + (S : Int) = (ks : Int) := by omega
        have hks63 : ks ≤ 9223372036854775807 := by omega
        have hmn : min (ks : Int) (P.size : Int) = (en : Int) := by omega
        have hken : k ≤ en := by omega
        have henP : en ≤ P.size := by omega
        have hkeni : (k : Int) ≤ (en : Int) := by omega
        have henPi : (en : Int) ≤ (P.size : Int) := by omega
        have hki0 : (0 : Int) ≤ (k : Int) := by omega
        have hex : P.extract k en = str ((pay.drop k).take (en - k)) := extract_str11 P pay HPP.out k en
        obtain ⟨E, hE⟩ : ∃ E, E = str ((pay.drop k).take (en - k)) := ⟨_, rfl⟩
        rw [← hE] at hex
        obtain ⟨mb, hmb⟩ : ∃ b, b = decide (en < P.size) := ⟨_, rfl⟩
        have hmbi : decide ((en : Int) < (P.size : Int)) = mb := by rw [hmb]; by_cases hz : en < P.size <;> simp [hz]
        have hmb2 : (mb = true ∧ (en : Int) < (P.size : Int)) ∨ (mb = false ∧ ¬ (en : Int) < (P.size : Int)) := by
          rw [hmb]
          by_cases hz : en < P.size
          · left; exact ⟨decide_eq_true hz, by omega⟩
          · right; exact ⟨decide_eq_false hz, by omega⟩
        obtain ⟨y, hy⟩ : ∃ y, y = partI p ((p.pay.drop k).take (en - k)) (p.off + k) (p.more || decide (en < p.pay.length)) k := ⟨_, rfl⟩
        have HEN := Lib.hid (show en = min (k + S) p.pay.length by rw [HPAY.out, ← HPS.out]; exact hen)
        have HYO := Lib.hid (show y.ops = opsAt l k by rw [hy, ← HOPS.out]; rfl)
        have HYC := Lib.hid (fun (A3 : Option Addr) (c3 : Nat) => show EIp.cells [(y, A3, c3)] = [.int .i64 tos, .int .i64 id, .int .i64 ttl, .int .i64 proto, .bool false, .bool (more || mb), .int .i64 (fa : Int), .bool sv, .int .u64 (sh : Int), .int .u64 (sl : Int), .bool dv, .int .u64 (dh : Int), .int .u64 (dl : Int), .slice A3 (opsAt l k).length c3, .string E] by
          rw [hE, hmb, hfa, hy, HOFF.out, HMOR.out, HPAY.out, ← HPS.out, HPE.out, Enc.cells_one]
          rfl)
        have HY := Lib.hid hy
        have HSM := Lib.hid hks2
        have x0 := HV.out wr HBR.out 0 (.int .i64 tos) rfl
        have x1 := HV.out wr HBR.out 1 (.int .i64 id) rfl
        have x2 := HV.out wr HBR.out 2 (.int .i64 ttl) rfl
        have x3 := HV.out wr HBR.out 3 (.int .i64 proto) rfl
        have x4 := HV.out wr HBR.out 4 (.bool false) rfl
        have x5 := HV.out wr HBR.out 5 (.bool more) rfl
        have x6 := HV.out wr HBR.out 6 (.int .i64 (F : Int)) rfl
        have x7 := HV.out wr HBR.out 7 (.bool sv) rfl
        have x8 := HV.out wr HBR.out 8 (.int .u64 (sh : Int)) rfl
        have x9 := HV.out wr HBR.out 9 (.int .u64 (sl : Int)) rfl
        have x10 := HV.out wr HBR.out 10 (.bool dv) rfl
        have x11 := HV.out wr HBR.out 11 (.int .u64 (dh : Int)) rfl
        have x12 := HV.out wr HBR.out 12 (.int .u64 (dl : Int)) rfl
        have x13 := HV.out wr HBR.out 13 (.slice A n c) rfl
        obtain ⟨gp, hgp⟩ : ∃ q, q = wr.heap.size := ⟨_, rfl⟩
        obtain ⟨W5, hW5⟩ : ∃ W, W = wr.alloc (.cells #[.int .i64 tos, .int .i64 id, .int .i64 ttl, .int .i64 proto, .bool false, .bool more, .int .i64 (F : Int), .bool sv, .int .u64 (sh : Int), .int .u64 (sl : Int), .bool dv, .int .u64 (dh : Int), .int .u64 (dl : Int), .slice A n c, .string P] 28) := ⟨_, rfl⟩
        have hb5 : Below wr.heap.size wr W5 := by rw [hW5]; exact below_alloc6 wr _
        have hP5 : Cells W5 gp 28 #[.int .i64 tos, .int .i64 id, .int .i64 ttl, .int .i64 proto, .bool false, .bool more, .int .i64 (F : Int), .bool sv, .int .u64 (sh : Int), .int .u64 (sl : Int), .bool dv, .int .u64 (dh : Int), .int .u64 (dl : Int), .slice A n c, .string P] := by rw [hW5, hgp]; exact heap_alloc_new wr _
        have HP5 := Lib.hid hP5
        have HB5 := Lib.hid (HB.out.trans (hb5.mono hBr))
        have HBR5 := Lib.hid (HBR.out.trans (hb5.mono HBR.out.size))
        have HO5 := Lib.hid (show W5.ownsRow B 28 15 (.slice A2 m c2) m (EIp.cells es) by rw [hW5]; exact HO.out.alloc _)
        have HJ := Lib.hid (show ∀ j, (Value.slice A2 m c2).ownBlock = some j → j < gp from fun j hj => by rw [hgp]; exact (own_blk_in HO.out j hj).2)
        have HI5 := Lib.hid (HI.out.kept hb5)
        have hne : g ≠ gp := by have := HGB.out; omega
        have hne' : gp ≠ g := fun e => hne e.symm
        have HW5 := Lib.hid hW5
        have HGP := Lib.hid hgp.symm
        have HGPB := Lib.hid (show B ≤ gp by omega)
        have HGPL := Lib.hid (show gp < W5.heap.size from hP5.lt)
        have HX5 := Lib.hid (show Cells W5 g 28 #[.int .i64 tos, .int .i64 id, .int .i64 ttl, .int .i64 proto, .bool false, .bool more, .int .i64 (F : Int), .bool sv, .int .u64 (sh : Int), .int .u64 (sl : Int), .bool dv, .int .u64 (dh : Int), .int .u64 (dl : Int), .slice A n c, .string P] from HXX.out.kept HBR5.out HXX.out.lt)
        have HTT := HT
        have HBW5 := Lib.hid hb5
        clear hb5 hP5 hW5 hgp hkb hkbi hfa hen hks2 hE hmb hy HPAR ht HI5 HO5 HJ
        rcases hdk with ⟨q1, q2, q3⟩ | ⟨q1, q2, q3, q4, q5⟩
        · have HK0 := Lib.hid q2
          clear q2 q3
          go_upto_region 13 with (refine wpList_store_row (by rfl) 28 _ _ (by rfl) wr.heap.size #[.int .i64 tos, .int .i64 id, .int .i64 ttl, .int .i64 proto, .bool false, .bool more, .int .i64 (F : Int), .bool sv, .int .u64 (sh : Int), .int .u64 (sl : Int), .bool dv, .int .u64 (dh : Int), .int .u64 (dl : Int), .slice A n c, .string P] (by rfl) (by rfl) 28 #[.int .i64 0, .int .i64 0, .int .i64 0, .int .i64 0, .bool false, .bool false, .int .i64 0, .bool false, .int .u64 0, .int .u64 0, .bool false, .int .u64 0, .int .u64 0, .slice none 0 0, .string ⟨#[]⟩] (heap_alloc_new _ _) (by kernel_rfl) (by rfl) (by simp [Value.oneCell']) ?_; rw [World.setRow_alloc_new, ← HW5.out])
          rw [HGP.out]
          clear x0 x1 x2 x3 x4 x5 x6 x7 x8 x9 x10 x11 x12 x13 x14
          have y6 := (Cells.cell HP5.out 6).trans (show _ = some (Value.int .i64 (F : Int)) from rfl)
          have z6 := Cells.frozen HP5.out 6
          have hgpl := HGPL.out
          by_cases hbad : 65528 < fa
          · exfalso
            have := HFA.out
            have := HK0.out
            omega
          have b1 : decide ((65528 : Int) < (fa : Int)) = false := by simp; omega
          have b2 : ¬ (65528 : Int) < (fa : Int) := by omega
          have HB65 := Lib.hid (show ¬ 65528 < p.off + (k : Int) by rw [HOFF.out]; have := HFA.out; omega)
          clear hbad
          have x5 := box_cell (show Cells W5 g 28 _ from (HX5.out)) (Below.refl _ _) 5 (.bool more) rfl
          have x13 := box_cell (show Cells W5 g 28 _ from (HX5.out)) (Below.refl _ _) 13 (.slice A n c) rfl
          have x14 := box_cell (show Cells W5 g 28 _ from (HX5.out)) (Below.refl _ _) 14 (.string P) rfl
          have y5 := (Cells.cell HP5.out 5).trans (show _ = some (Value.bool more) from rfl)
          have y14 := (Cells.cell HP5.out 14).trans (show _ = some (Value.string P) from rfl)
          have z5 := Cells.frozen HP5.out 5
          have z14 := Cells.frozen HP5.out 14
          have hgl5 := HX5.out.lt
          rcases hmb2 with ⟨rfl, w1⟩ | ⟨rfl, w1⟩ <;> cases more
          · skip
            go_upto_region 19 with fail
            have HMB := Lib.hid w1
            have hkbt : kb = true := by rw [← HKBI.out]; exact q1
            subst hkbt
            have hM6 : Cells ((((W5.setCell ⟨gp, 6, none⟩ (.int .i64 (fa : Int))).setCell ⟨gp, 14, none⟩ (.string E))).setCell ⟨gp, 5, none⟩ (.bool true)) gp 28 #[.int .i64 tos, .int .i64 id, .int .i64 ttl, .int .i64 proto, .bool false, .bool true, .int .i64 (fa : Int), .bool sv, .int .u64 (sh : Int), .int .u64 (sl : Int), .bool dv, .int .u64 (dh : Int), .int .u64 (dl : Int), .slice A n c, .string E] := ((HP5.out.set 6 _).set 14 _).set 5 _
            have hbk : Below gp W5 ((((W5.setCell ⟨gp, 6, none⟩ (.int .i64 (fa : Int))).setCell ⟨gp, 14, none⟩ (.string E))).setCell ⟨gp, 5, none⟩ (.bool true)) := (((Below.refl gp W5).setCell (p := ⟨gp, 6, none⟩) (Nat.le_refl _) _).setCell (p := ⟨gp, 14, none⟩) (Nat.le_refl _) _).setCell (p := ⟨gp, 5, none⟩) (Nat.le_refl _) _
            obtain ⟨W6, hW6⟩ : ∃ W, W = ((((W5.setCell ⟨gp, 6, none⟩ (.int .i64 (fa : Int))).setCell ⟨gp, 14, none⟩ (.string E))).setCell ⟨gp, 5, none⟩ (.bool true)) := ⟨_, rfl⟩
            rw [← hW6] at hM6 hbk ⊢
            have HM6 := Lib.hid hM6
            have HBW6 := Lib.hid (show Below wr.heap.size wr W6 from HBW5.out.trans (hbk.mono (Nat.le_of_eq HGP.out)))
            have HB6 := Lib.hid (HB5.out.trans (hbk.mono HGPB.out))
            have hX6 := HX5.out.kept hbk (show g < gp by have h1 := HGB.out; have h2 := HGPB.out; omega)
            have HGP6 := Lib.hid hM6.lt
            clear hW6 hM6 hbk x5 x13 x14 y5 y6 y14 z5 z6 z14 hgl5 hgpl b1 b2 HP5 HX5 HW5
            have x13 := box_cell hX6 (Below.refl _ _) 13 (.slice A n c) rfl
            clear hX6
            go_wp2_with fail
            refine (HPA.out W6 (HW.out _ (HB2.out.trans (HB6.out.mono (by rw [HBE.out]; exact HB2.out.size))))).mono ?_
            rintro e w7 ⟨A3, c3, rfl, hrow, hn0, hnew, hb7⟩
            obtain ⟨n3, hn3⟩ : ∃ n, n = (opsAt l k).length := ⟨_, rfl⟩
            rw [← hn3]
            have hM7 := HM6.out.kept hb7 HM6.out.lt
            have y13 := (Cells.cell hM7 13).trans (show _ = some (Value.slice A n c) from rfl)
            have z13 := Cells.frozen hM7 13
            have hgp7 := hM7.lt
            have HM8 := Lib.hid (show Cells (w7.setCell ⟨gp, 13, none⟩ (.slice A3 n3 c3)) gp 28 #[.int .i64 tos, .int .i64 id, .int .i64 ttl, .int .i64 proto, .bool false, .bool true, .int .i64 (fa : Int), .bool sv, .int .u64 (sh : Int), .int .u64 (sl : Int), .bool dv, .int .u64 (dh : Int), .int .u64 (dl : Int), .slice A3 n3 c3, .string E] from hM7.set 13 _)
            have hb68 : Below W6.heap.size W6 w7 := hb7
            have HBW8 := Lib.hid (show Below wr.heap.size wr (w7.setCell ⟨gp, 13, none⟩ (.slice A3 n3 c3)) from (HBW6.out.trans (hb7.mono HBW6.out.size)).setCell (p := ⟨gp, 13, none⟩) (Nat.le_of_eq HGP.out) _)
            have HB8 := Lib.hid (show Below B w2 (w7.setCell ⟨gp, 13, none⟩ (.slice A3 n3 c3)) from (HB6.out.trans (hb7.mono (by have h1 := HGPB.out; have h2 := HGP6.out; omega))).setCell (p := ⟨gp, 13, none⟩) HGPB.out _)
            have HRO8 := Lib.hid (show RowL EOpt (w7.setCell ⟨gp, 13, none⟩ (.slice A3 n3 c3)) A3 y.ops by
              rw [HYO.out]
              exact hrow.only (only_set ..) (fun a ha e => by
                have h1 := hnew a ha
                have h2 := HGP6.out
                injection e with e
                omega))
            have HNW := Lib.hid (show ∀ a, A3 = some a → wr.heap.size ≤ a.block from fun a ha => by have h1 := hnew a ha; have h2 := HGP6.out; have h3 := HGP.out; omega)
            have HN0 := Lib.hid hn0
            have HYC2 := Lib.hid (HYC.out A3 c3)
            rw [← hn3] at HYC2
            clear hrow hn0 hnew hb7 hb68 hM7 hn3 HM6 HYC x13
            go_upto_region 20 with fail
            obtain ⟨W8, hW8⟩ : ∃ W, W = w7.setCell ⟨gp, 13, none⟩ (.slice A3 n3 c3) := ⟨_, rfl⟩
            rw [← hW8] at HM8 HBW8 HB8 HRO8 ⊢
            have HO8 := Lib.hid (own_kept HO.out HBW8.out (Nat.le_refl _))
            clear hW8 y13 z13 hgp7
            have hm9 : m + 1 ≤ 1000000 := by omega
            have hbz : B ≤ W8.heap.size := by have h1 := HM8.out.lt; have h2 := HGPB.out; omega
            go_wp2_with (first | (refine wpList_load_row (by rfl) 28 _ (by rfl) gp (by rfl) 28 #[.int .i64 tos, .int .i64 id, .int .i64 ttl, .int .i64 proto, .bool false, .bool true, .int .i64 (fa : Int), .bool sv, .int .u64 (sh : Int), .int .u64 (sl : Int), .bool dv, .int .u64 (dh : Int), .int .u64 (dl : Int), .slice A3 n3 c3, .string E] (0, 0) _ HM8.out Try.underlying28 (by rfl) (by kernel_rfl) ?_) | (at_builtin; refine wpList_push (E := EIp) ipsTy (by rfl) _ _ (by rfl) B _ m es [(y, A3, c3)] (by rfl) (HO8.out.alloc _) _ 1 1 #[.int .i64 tos, .int .i64 id, .int .i64 ttl, .int .i64 proto, .bool false, .bool true, .int .i64 (fa : Int), .bool sv, .int .u64 (sh : Int), .int .u64 (sl : Int), .bool dv, .int .u64 (dh : Int), .int .u64 (dl : Int), .slice A3 n3 c3, .string E] (0, 0) (by rfl) (heap_alloc_new _ _) HYC2.out.symm rfl (by omega) (by omega) (by decide) ?hb ?_))
            case hb => exact Nat.le_trans hbz (Nat.le_of_lt (alloc_lt6 _ _))
            intro g2 cap2 w9 hown hgrow hat hlt2
            have HI9 := Lib.hid (OpsIn.push (x := (y, A3, c3)) (g := g2) (n := m + 1) (c := cap2) HI.out (fun j hj => (own_blk_in HO.out j hj).2) HBW8.out HN0.out HRO8.out HNW.out hgrow (hat.imp (fun h => h) (fun h => by rw [h]; simp)))
            have HB9 := Lib.hid (show Below B w2 w9 from (HB8.out.alloc (by rw [HBE.out]; have := HB8.out.size; exact this) _).grown hgrow (by rw [HBE.out]; have := HB8.out.size; simp; omega) (fun j hj => (own_blk_in HO8.out _ hj).1))
            have HO9 := Lib.hid (show w9.ownsRow B 28 15 (.slice (some ⟨g2, 0, none⟩) (m + 1) cap2) (m + 1) (EIp.cells (es ++ [(y, A3, c3)])) from hown)
            have HT9 := Lib.hid (show SplT p S R (es ++ [(y, A3, c3)]) ks by rw [HSM.out]; exact HTT.out.next HTP.out hS8 (by have h := HB65.out; omega) HEN.out HY.out)
            have HN9 := Lib.hid (show m + 1 = (es ++ [(y, A3, c3)]).length by rw [List.length_append, HM.out]; rfl)
            have HKS := Lib.hid (show S ≤ ks ∧ (m + 1) * 8 ≤ ks ∧ m + 1 ≤ 200000 by have := HSM.out; omega)
            clear hown hgrow hat hlt2 HI HO HO8 HBW8 HB8 HRO8 HNW HN0 HYC2 HM8 HM HT
            go_wp2_with fail
            go_roundw
            case rel => exact ⟨ks, m + 1, _, cap2, es ++ [(y, A3, c3)], rfl, rfl, hks63, .inr HKS.out.1, HKS.out.2.1, HKS.out.2.2, HN9, HT9, HO9, HI9, HB9⟩
            case measure =>
              have h1 := HSM.out
              have h2 := HTP.out
              have h3 := HPS.out
              rw [HPAY.out, ← h3] at h2
              simp only [intOf, Int.toNat_natCast]
              have h4 := HKS.out.1
              omega
          · skip
            go_upto_region 19 with fail
            have HMB := Lib.hid w1
            have hkbt : kb = true := by rw [← HKBI.out]; exact q1
            subst hkbt
            have hM6 : Cells ((((W5.setCell ⟨gp, 6, none⟩ (.int .i64 (fa : Int))).setCell ⟨gp, 14, none⟩ (.string E))).setCell ⟨gp, 5, none⟩ (.bool true)) gp 28 #[.int .i64 tos, .int .i64 id, .int .i64 ttl, .int .i64 proto, .bool false, .bool true, .int .i64 (fa : Int), .bool sv, .int .u64 (sh : Int), .int .u64 (sl : Int), .bool dv, .int .u64 (dh : Int), .int .u64 (dl : Int), .slice A n c, .string E] := ((HP5.out.set 6 _).set 14 _).set 5 _
            have hbk : Below gp W5 ((((W5.setCell ⟨gp, 6, none⟩ (.int .i64 (fa : Int))).setCell ⟨gp, 14, none⟩ (.string E))).setCell ⟨gp, 5, none⟩ (.bool true)) := (((Below.refl gp W5).setCell (p := ⟨gp, 6, none⟩) (Nat.le_refl _) _).setCell (p := ⟨gp, 14, none⟩) (Nat.le_refl _) _).setCell (p := ⟨gp, 5, none⟩) (Nat.le_refl _) _
            obtain ⟨W6, hW6⟩ : ∃ W, W = ((((W5.setCell ⟨gp, 6, none⟩ (.int .i64 (fa : Int))).setCell ⟨gp, 14, none⟩ (.string E))).setCell ⟨gp, 5, none⟩ (.bool true)) := ⟨_, rfl⟩
            rw [← hW6] at hM6 hbk ⊢
            have HM6 := Lib.hid hM6
            have HBW6 := Lib.hid (show Below wr.heap.size wr W6 from HBW5.out.trans (hbk.mono (Nat.le_of_eq HGP.out)))
            have HB6 := Lib.hid (HB5.out.trans (hbk.mono HGPB.out))
            have hX6 := HX5.out.kept hbk (show g < gp by have h1 := HGB.out; have h2 := HGPB.out; omega)
            have HGP6 := Lib.hid hM6.lt
            clear hW6 hM6 hbk x5 x13 x14 y5 y6 y14 z5 z6 z14 hgl5 hgpl b1 b2 HP5 HX5 HW5
            have x13 := box_cell hX6 (Below.refl _ _) 13 (.slice A n c) rfl
            clear hX6
            go_wp2_with fail
            refine (HPA.out W6 (HW.out _ (HB2.out.trans (HB6.out.mono (by rw [HBE.out]; exact HB2.out.size))))).mono ?_
            rintro e w7 ⟨A3, c3, rfl, hrow, hn0, hnew, hb7⟩
            obtain ⟨n3, hn3⟩ : ∃ n, n = (opsAt l k).length := ⟨_, rfl⟩
            rw [← hn3]
            have hM7 := HM6.out.kept hb7 HM6.out.lt
            have y13 := (Cells.cell hM7 13).trans (show _ = some (Value.slice A n c) from rfl)
            have z13 := Cells.frozen hM7 13
            have hgp7 := hM7.lt
            have HM8 := Lib.hid (show Cells (w7.setCell ⟨gp, 13, none⟩ (.slice A3 n3 c3)) gp 28 #[.int .i64 tos, .int .i64 id, .int .i64 ttl, .int .i64 proto, .bool false, .bool true, .int .i64 (fa : Int), .bool sv, .int .u64 (sh : Int), .int .u64 (sl : Int), .bool dv, .int .u64 (dh : Int), .int .u64 (dl : Int), .slice A3 n3 c3, .string E] from hM7.set 13 _)
            have hb68 : Below W6.heap.size W6 w7 := hb7
            have HBW8 := Lib.hid (show Below wr.heap.size wr (w7.setCell ⟨gp, 13, none⟩ (.slice A3 n3 c3)) from (HBW6.out.trans (hb7.mono HBW6.out.size)).setCell (p := ⟨gp, 13, none⟩) (Nat.le_of_eq HGP.out) _)
            have HB8 := Lib.hid (show Below B w2 (w7.setCell ⟨gp, 13, none⟩ (.slice A3 n3 c3)) from (HB6.out.trans (hb7.mono (by have h1 := HGPB.out; have h2 := HGP6.out; omega))).setCell (p := ⟨gp, 13, none⟩) HGPB.out _)
            have HRO8 := Lib.hid (show RowL EOpt (w7.setCell ⟨gp, 13, none⟩ (.slice A3 n3 c3)) A3 y.ops by
              rw [HYO.out]
              exact hrow.only (only_set ..) (fun a ha e => by
                have h1 := hnew a ha
                have h2 := HGP6.out
                injection e with e
                omega))
            have HNW := Lib.hid (show ∀ a, A3 = some a → wr.heap.size ≤ a.block from fun a ha => by have h1 := hnew a ha; have h2 := HGP6.out; have h3 := HGP.out; omega)
            have HN0 := Lib.hid hn0
            have HYC2 := Lib.hid (HYC.out A3 c3)
            rw [← hn3] at HYC2
            clear hrow hn0 hnew hb7 hb68 hM7 hn3 HM6 HYC x13
            go_upto_region 20 with fail
            obtain ⟨W8, hW8⟩ : ∃ W, W = w7.setCell ⟨gp, 13, none⟩ (.slice A3 n3 c3) := ⟨_, rfl⟩
            rw [← hW8] at HM8 HBW8 HB8 HRO8 ⊢
            have HO8 := Lib.hid (own_kept HO.out HBW8.out (Nat.le_refl _))
            clear hW8 y13 z13 hgp7
            have hm9 : m + 1 ≤ 1000000 := by omega
            have hbz : B ≤ W8.heap.size := by have h1 := HM8.out.lt; have h2 := HGPB.out; omega
            go_wp2_with (first | (refine wpList_load_row (by rfl) 28 _ (by rfl) gp (by rfl) 28 #[.int .i64 tos, .int .i64 id, .int .i64 ttl, .int .i64 proto, .bool false, .bool true, .int .i64 (fa : Int), .bool sv, .int .u64 (sh : Int), .int .u64 (sl : Int), .bool dv, .int .u64 (dh : Int), .int .u64 (dl : Int), .slice A3 n3 c3, .string E] (0, 0) _ HM8.out Try.underlying28 (by rfl) (by kernel_rfl) ?_) | (at_builtin; refine wpList_push (E := EIp) ipsTy (by rfl) _ _ (by rfl) B _ m es [(y, A3, c3)] (by rfl) (HO8.out.alloc _) _ 1 1 #[.int .i64 tos, .int .i64 id, .int .i64 ttl, .int .i64 proto, .bool false, .bool true, .int .i64 (fa : Int), .bool sv, .int .u64 (sh : Int), .int .u64 (sl : Int), .bool dv, .int .u64 (dh : Int), .int .u64 (dl : Int), .slice A3 n3 c3, .string E] (0, 0) (by rfl) (heap_alloc_new _ _) HYC2.out.symm rfl (by omega) (by omega) (by decide) ?hb ?_))
            case hb => exact Nat.le_trans hbz (Nat.le_of_lt (alloc_lt6 _ _))
            intro g2 cap2 w9 hown hgrow hat hlt2
            have HI9 := Lib.hid (OpsIn.push (x := (y, A3, c3)) (g := g2) (n := m + 1) (c := cap2) HI.out (fun j hj => (own_blk_in HO.out j hj).2) HBW8.out HN0.out HRO8.out HNW.out hgrow (hat.imp (fun h => h) (fun h => by rw [h]; simp)))
            have HB9 := Lib.hid (show Below B w2 w9 from (HB8.out.alloc (by rw [HBE.out]; have := HB8.out.size; exact this) _).grown hgrow (by rw [HBE.out]; have := HB8.out.size; simp; omega) (fun j hj => (own_blk_in HO8.out _ hj).1))
            have HO9 := Lib.hid (show w9.ownsRow B 28 15 (.slice (some ⟨g2, 0, none⟩) (m + 1) cap2) (m + 1) (EIp.cells (es ++ [(y, A3, c3)])) from hown)
            have HT9 := Lib.hid (show SplT p S R (es ++ [(y, A3, c3)]) ks by rw [HSM.out]; exact HTT.out.next HTP.out hS8 (by have h := HB65.out; omega) HEN.out HY.out)
            have HN9 := Lib.hid (show m + 1 = (es ++ [(y, A3, c3)]).length by rw [List.length_append, HM.out]; rfl)
            have HKS := Lib.hid (show S ≤ ks ∧ (m + 1) * 8 ≤ ks ∧ m + 1 ≤ 200000 by have := HSM.out; omega)
            clear hown hgrow hat hlt2 HI HO HO8 HBW8 HB8 HRO8 HNW HN0 HYC2 HM8 HM HT
            go_wp2_with fail
            go_roundw
            case rel => exact ⟨ks, m + 1, _, cap2, es ++ [(y, A3, c3)], rfl, rfl, hks63, .inr HKS.out.1, HKS.out.2.1, HKS.out.2.2, HN9, HT9, HO9, HI9, HB9⟩
            case measure =>
              have h1 := HSM.out
              have h2 := HTP.out
              have h3 := HPS.out
              rw [HPAY.out, ← h3] at h2
              simp only [intOf, Int.toNat_natCast]
              have h4 := HKS.out.1
              omega
          · skip
            go_upto_region 19 with fail
            have HMB := Lib.hid w1
            have hkbt : kb = true := by rw [← HKBI.out]; exact q1
            subst hkbt
            have hM6 : Cells ((((W5.setCell ⟨gp, 6, none⟩ (.int .i64 (fa : Int))).setCell ⟨gp, 14, none⟩ (.string E))).setCell ⟨gp, 5, none⟩ (.bool false)) gp 28 #[.int .i64 tos, .int .i64 id, .int .i64 ttl, .int .i64 proto, .bool false, .bool false, .int .i64 (fa : Int), .bool sv, .int .u64 (sh : Int), .int .u64 (sl : Int), .bool dv, .int .u64 (dh : Int), .int .u64 (dl : Int), .slice A n c, .string E] := ((HP5.out.set 6 _).set 14 _).set 5 _
            have hbk : Below gp W5 ((((W5.setCell ⟨gp, 6, none⟩ (.int .i64 (fa : Int))).setCell ⟨gp, 14, none⟩ (.string E))).setCell ⟨gp, 5, none⟩ (.bool false)) := (((Below.refl gp W5).setCell (p := ⟨gp, 6, none⟩) (Nat.le_refl _) _).setCell (p := ⟨gp, 14, none⟩) (Nat.le_refl _) _).setCell (p := ⟨gp, 5, none⟩) (Nat.le_refl _) _
            obtain ⟨W6, hW6⟩ : ∃ W, W = ((((W5.setCell ⟨gp, 6, none⟩ (.int .i64 (fa : Int))).setCell ⟨gp, 14, none⟩ (.string E))).setCell ⟨gp, 5, none⟩ (.bool false)) := ⟨_, rfl⟩
            rw [← hW6] at hM6 hbk ⊢
            have HM6 := Lib.hid hM6
            have HBW6 := Lib.hid (show Below wr.heap.size wr W6 from HBW5.out.trans (hbk.mono (Nat.le_of_eq HGP.out)))
            have HB6 := Lib.hid (HB5.out.trans (hbk.mono HGPB.out))
            have hX6 := HX5.out.kept hbk (show g < gp by have h1 := HGB.out; have h2 := HGPB.out; omega)
            have HGP6 := Lib.hid hM6.lt
            clear hW6 hM6 hbk x5 x13 x14 y5 y6 y14 z5 z6 z14 hgl5 hgpl b1 b2 HP5 HX5 HW5
            have x13 := box_cell hX6 (Below.refl _ _) 13 (.slice A n c) rfl
            clear hX6
            go_wp2_with fail
            refine (HPA.out W6 (HW.out _ (HB2.out.trans (HB6.out.mono (by rw [HBE.out]; exact HB2.out.size))))).mono ?_
            rintro e w7 ⟨A3, c3, rfl, hrow, hn0, hnew, hb7⟩
            obtain ⟨n3, hn3⟩ : ∃ n, n = (opsAt l k).length := ⟨_, rfl⟩
            rw [← hn3]
            have hM7 := HM6.out.kept hb7 HM6.out.lt
            have y13 := (Cells.cell hM7 13).trans (show _ = some (Value.slice A n c) from rfl)
            have z13 := Cells.frozen hM7 13
            have hgp7 := hM7.lt
            have HM8 := Lib.hid (show Cells (w7.setCell ⟨gp, 13, none⟩ (.slice A3 n3 c3)) gp 28 #[.int .i64 tos, .int .i64 id, .int .i64 ttl, .int .i64 proto, .bool false, .bool false, .int .i64 (fa : Int), .bool sv, .int .u64 (sh : Int), .int .u64 (sl : Int), .bool dv, .int .u64 (dh : Int), .int .u64 (dl : Int), .slice A3 n3 c3, .string E] from hM7.set 13 _)
            have hb68 : Below W6.heap.size W6 w7 := hb7
            have HBW8 := Lib.hid (show Below wr.heap.size wr (w7.setCell ⟨gp, 13, none⟩ (.slice A3 n3 c3)) from (HBW6.out.trans (hb7.mono HBW6.out.size)).setCell (p := ⟨gp, 13, none⟩) (Nat.le_of_eq HGP.out) _)
            have HB8 := Lib.hid (show Below B w2 (w7.setCell ⟨gp, 13, none⟩ (.slice A3 n3 c3)) from (HB6.out.trans (hb7.mono (by have h1 := HGPB.out; have h2 := HGP6.out; omega))).setCell (p := ⟨gp, 13, none⟩) HGPB.out _)
            have HRO8 := Lib.hid (show RowL EOpt (w7.setCell ⟨gp, 13, none⟩ (.slice A3 n3 c3)) A3 y.ops by
              rw [HYO.out]
              exact hrow.only (only_set ..) (fun a ha e => by
                have h1 := hnew a ha
                have h2 := HGP6.out
                injection e with e
                omega))
            have HNW := Lib.hid (show ∀ a, A3 = some a → wr.heap.size ≤ a.block from fun a ha => by have h1 := hnew a ha; have h2 := HGP6.out; have h3 := HGP.out; omega)
            have HN0 := Lib.hid hn0
            have HYC2 := Lib.hid (HYC.out A3 c3)
            rw [← hn3] at HYC2
            clear hrow hn0 hnew hb7 hb68 hM7 hn3 HM6 HYC x13
            go_upto_region 20 with fail
            obtain ⟨W8, hW8⟩ : ∃ W, W = w7.setCell ⟨gp, 13, none⟩ (.slice A3 n3 c3) := ⟨_, rfl⟩
            rw [← hW8] at HM8 HBW8 HB8 HRO8 ⊢
            have HO8 := Lib.hid (own_kept HO.out HBW8.out (Nat.le_refl _))
            clear hW8 y13 z13 hgp7
            have hm9 : m + 1 ≤ 1000000 := by omega
            have hbz : B ≤ W8.heap.size := by have h1 := HM8.out.lt; have h2 := HGPB.out; omega
            go_wp2_with (first | (refine wpList_load_row (by rfl) 28 _ (by rfl) gp (by rfl) 28 #[.int .i64 tos, .int .i64 id, .int .i64 ttl, .int .i64 proto, .bool false, .bool false, .int .i64 (fa : Int), .bool sv, .int .u64 (sh : Int), .int .u64 (sl : Int), .bool dv, .int .u64 (dh : Int), .int .u64 (dl : Int), .slice A3 n3 c3, .string E] (0, 0) _ HM8.out Try.underlying28 (by rfl) (by kernel_rfl) ?_) | (at_builtin; refine wpList_push (E := EIp) ipsTy (by rfl) _ _ (by rfl) B _ m es [(y, A3, c3)] (by rfl) (HO8.out.alloc _) _ 1 1 #[.int .i64 tos, .int .i64 id, .int .i64 ttl, .int .i64 proto, .bool false, .bool false, .int .i64 (fa : Int), .bool sv, .int .u64 (sh : Int), .int .u64 (sl : Int), .bool dv, .int .u64 (dh : Int), .int .u64 (dl : Int), .slice A3 n3 c3, .string E] (0, 0) (by rfl) (heap_alloc_new _ _) HYC2.out.symm rfl (by omega) (by omega) (by decide) ?hb ?_))
            case hb => exact Nat.le_trans hbz (Nat.le_of_lt (alloc_lt6 _ _))
            intro g2 cap2 w9 hown hgrow hat hlt2
            have HI9 := Lib.hid (OpsIn.push (x := (y, A3, c3)) (g := g2) (n := m + 1) (c := cap2) HI.out (fun j hj => (own_blk_in HO.out j hj).2) HBW8.out HN0.out HRO8.out HNW.out hgrow (hat.imp (fun h => h) (fun h => by rw [h]; simp)))
            have HB9 := Lib.hid (show Below B w2 w9 from (HB8.out.alloc (by rw [HBE.out]; have := HB8.out.size; exact this) _).grown hgrow (by rw [HBE.out]; have := HB8.out.size; simp; omega) (fun j hj => (own_blk_in HO8.out _ hj).1))
            have HO9 := Lib.hid (show w9.ownsRow B 28 15 (.slice (some ⟨g2, 0, none⟩) (m + 1) cap2) (m + 1) (EIp.cells (es ++ [(y, A3, c3)])) from hown)
            have HT9 := Lib.hid (show SplT p S R (es ++ [(y, A3, c3)]) ks by rw [HSM.out]; exact HTT.out.next HTP.out hS8 (by have h := HB65.out; omega) HEN.out HY.out)
            have HN9 := Lib.hid (show m + 1 = (es ++ [(y, A3, c3)]).length by rw [List.length_append, HM.out]; rfl)
            have HKS := Lib.hid (show S ≤ ks ∧ (m + 1) * 8 ≤ ks ∧ m + 1 ≤ 200000 by have := HSM.out; omega)
            clear hown hgrow hat hlt2 HI HO HO8 HBW8 HB8 HRO8 HNW HN0 HYC2 HM8 HM HT
            go_wp2_with fail
            go_roundw
            case rel => exact ⟨ks, m + 1, _, cap2, es ++ [(y, A3, c3)], rfl, rfl, hks63, .inr HKS.out.1, HKS.out.2.1, HKS.out.2.2, HN9, HT9, HO9, HI9, HB9⟩
            case measure =>
              have h1 := HSM.out
              have h2 := HTP.out
              have h3 := HPS.out
              rw [HPAY.out, ← h3] at h2
              simp only [intOf, Int.toNat_natCast]
              have h4 := HKS.out.1
              omega
          · skip
            go_upto_region 19 with fail
            have HMB := Lib.hid w1
            have hkbt : kb = true := by rw [← HKBI.out]; exact q1
            subst hkbt
            have hM6 : Cells ((((W5.setCell ⟨gp, 6, none⟩ (.int .i64 (fa : Int))).setCell ⟨gp, 14, none⟩ (.string E))).setCell ⟨gp, 5, none⟩ (.bool true)) gp 28 #[.int .i64 tos, .int .i64 id, .int .i64 ttl, .int .i64 proto, .bool false, .bool true, .int .i64 (fa : Int), .bool sv, .int .u64 (sh : Int), .int .u64 (sl : Int), .bool dv, .int .u64 (dh : Int), .int .u64 (dl : Int), .slice A n c, .string E] := ((HP5.out.set 6 _).set 14 _).set 5 _
            have hbk : Below gp W5 ((((W5.setCell ⟨gp, 6, none⟩ (.int .i64 (fa : Int))).setCell ⟨gp, 14, none⟩ (.string E))).setCell ⟨gp, 5, none⟩ (.bool true)) := (((Below.refl gp W5).setCell (p := ⟨gp, 6, none⟩) (Nat.le_refl _) _).setCell (p := ⟨gp, 14, none⟩) (Nat.le_refl _) _).setCell (p := ⟨gp, 5, none⟩) (Nat.le_refl _) _
            obtain ⟨W6, hW6⟩ : ∃ W, W = ((((W5.setCell ⟨gp, 6, none⟩ (.int .i64 (fa : Int))).setCell ⟨gp, 14, none⟩ (.string E))).setCell ⟨gp, 5, none⟩ (.bool true)) := ⟨_, rfl⟩
            rw [← hW6] at hM6 hbk ⊢
            have HM6 := Lib.hid hM6
            have HBW6 := Lib.hid (show Below wr.heap.size wr W6 from HBW5.out.trans (hbk.mono (Nat.le_of_eq HGP.out)))
            have HB6 := Lib.hid (HB5.out.trans (hbk.mono HGPB.out))
            have hX6 := HX5.out.kept hbk (show g < gp by have h1 := HGB.out; have h2 := HGPB.out; omega)
            have HGP6 := Lib.hid hM6.lt
            clear hW6 hM6 hbk x5 x13 x14 y5 y6 y14 z5 z6 z14 hgl5 hgpl b1 b2 HP5 HX5 HW5
            have x13 := box_cell hX6 (Below.refl _ _) 13 (.slice A n c) rfl
            clear hX6
            go_wp2_with fail
            refine (HPA.out W6 (HW.out _ (HB2.out.trans (HB6.out.mono (by rw [HBE.out]; exact HB2.out.size))))).mono ?_
            rintro e w7 ⟨A3, c3, rfl, hrow, hn0, hnew, hb7⟩
            obtain ⟨n3, hn3⟩ : ∃ n, n = (opsAt l k).length := ⟨_, rfl⟩
            rw [← hn3]
            have hM7 := HM6.out.kept hb7 HM6.out.lt
            have y13 := (Cells.cell hM7 13).trans (show _ = some (Value.slice A n c) from rfl)
            have z13 := Cells.frozen hM7 13
            have hgp7 := hM7.lt
            have HM8 := Lib.hid (show Cells (w7.setCell ⟨gp, 13, none⟩ (.slice A3 n3 c3)) gp 28 #[.int .i64 tos, .int .i64 id, .int .i64 ttl, .int .i64 proto, .bool false, .bool true, .int .i64 (fa : Int), .bool sv, .int .u64 (sh : Int), .int .u64 (sl : Int), .bool dv, .int .u64 (dh : Int), .int .u64 (dl : Int), .slice A3 n3 c3, .string E] from hM7.set 13 _)
            have hb68 : Below W6.heap.size W6 w7 := hb7
            have HBW8 := Lib.hid (show Below wr.heap.size wr (w7.setCell ⟨gp, 13, none⟩ (.slice A3 n3 c3)) from (HBW6.out.trans (hb7.mono HBW6.out.size)).setCell (p := ⟨gp, 13, none⟩) (Nat.le_of_eq HGP.out) _)
            have HB8 := Lib.hid (show Below B w2 (w7.setCell ⟨gp, 13, none⟩ (.slice A3 n3 c3)) from (HB6.out.trans (hb7.mono (by have h1 := HGPB.out; have h2 := HGP6.out; omega))).setCell (p := ⟨gp, 13, none⟩) HGPB.out _)
            have HRO8 := Lib.hid (show RowL EOpt (w7.setCell ⟨gp, 13, none⟩ (.slice A3 n3 c3)) A3 y.ops by
              rw [HYO.out]
              exact hrow.only (only_set ..) (fun a ha e => by
                have h1 := hnew a ha
                have h2 := HGP6.out
                injection e with e
                omega))
            have HNW := Lib.hid (show ∀ a, A3 = some a → wr.heap.size ≤ a.block from fun a ha => by have h1 := hnew a ha; have h2 := HGP6.out; have h3 := HGP.out; omega)
            have HN0 := Lib.hid hn0
            have HYC2 := Lib.hid (HYC.out A3 c3)
            rw [← hn3] at HYC2
            clear hrow hn0 hnew hb7 hb68 hM7 hn3 HM6 HYC x13
            go_upto_region 20 with fail
            obtain ⟨W8, hW8⟩ : ∃ W, W = w7.setCell ⟨gp, 13, none⟩ (.slice A3 n3 c3) := ⟨_, rfl⟩
            rw [← hW8] at HM8 HBW8 HB8 HRO8 ⊢
            have HO8 := Lib.hid (own_kept HO.out HBW8.out (Nat.le_refl _))
            clear hW8 y13 z13 hgp7
            have hm9 : m + 1 ≤ 1000000 := by omega
            have hbz : B ≤ W8.heap.size := by have h1 := HM8.out.lt; have h2 := HGPB.out; omega
            go_wp2_with (first | (refine wpList_load_row (by rfl) 28 _ (by rfl) gp (by rfl) 28 #[.int .i64 tos, .int .i64 id, .int .i64 ttl, .int .i64 proto, .bool false, .bool true, .int .i64 (fa : Int), .bool sv, .int .u64 (sh : Int), .int .u64 (sl : Int), .bool dv, .int .u64 (dh : Int), .int .u64 (dl : Int), .slice A3 n3 c3, .string E] (0, 0) _ HM8.out Try.underlying28 (by rfl) (by kernel_rfl) ?_) | (at_builtin; refine wpList_push (E := EIp) ipsTy (by rfl) _ _ (by rfl) B _ m es [(y, A3, c3)] (by rfl) (HO8.out.alloc _) _ 1 1 #[.int .i64 tos, .int .i64 id, .int .i64 ttl, .int .i64 proto, .bool false, .bool true, .int .i64 (fa : Int), .bool sv, .int .u64 (sh : Int), .int .u64 (sl : Int), .bool dv, .int .u64 (dh : Int), .int .u64 (dl : Int), .slice A3 n3 c3, .string E] (0, 0) (by rfl) (heap_alloc_new _ _) HYC2.out.symm rfl (by omega) (by omega) (by decide) ?hb ?_))
            case hb => exact Nat.le_trans hbz (Nat.le_of_lt (alloc_lt6 _ _))
            intro g2 cap2 w9 hown hgrow hat hlt2
            have HI9 := Lib.hid (OpsIn.push (x := (y, A3, c3)) (g := g2) (n := m + 1) (c := cap2) HI.out (fun j hj => (own_blk_in HO.out j hj).2) HBW8.out HN0.out HRO8.out HNW.out hgrow (hat.imp (fun h => h) (fun h => by rw [h]; simp)))
            have HB9 := Lib.hid (show Below B w2 w9 from (HB8.out.alloc (by rw [HBE.out]; have := HB8.out.size; exact this) _).grown hgrow (by rw [HBE.out]; have := HB8.out.size; simp; omega) (fun j hj => (own_blk_in HO8.out _ hj).1))
            have HO9 := Lib.hid (show w9.ownsRow B 28 15 (.slice (some ⟨g2, 0, none⟩) (m + 1) cap2) (m + 1) (EIp.cells (es ++ [(y, A3, c3)])) from hown)
            have HT9 := Lib.hid (show SplT p S R (es ++ [(y, A3, c3)]) ks by rw [HSM.out]; exact HTT.out.next HTP.out hS8 (by have h := HB65.out; omega) HEN.out HY.out)
            have HN9 := Lib.hid (show m + 1 = (es ++ [(y, A3, c3)]).length by rw [List.length_append, HM.out]; rfl)
            have HKS := Lib.hid (show S ≤ ks ∧ (m + 1) * 8 ≤ ks ∧ m + 1 ≤ 200000 by have := HSM.out; omega)
            clear hown hgrow hat hlt2 HI HO HO8 HBW8 HB8 HRO8 HNW HN0 HYC2 HM8 HM HT
            go_wp2_with fail
            go_roundw
            case rel => exact ⟨ks, m + 1, _, cap2, es ++ [(y, A3, c3)], rfl, rfl, hks63, .inr HKS.out.1, HKS.out.2.1, HKS.out.2.2, HN9, HT9, HO9, HI9, HB9⟩
            case measure =>
              have h1 := HSM.out
              have h2 := HTP.out
              have h3 := HPS.out
              rw [HPAY.out, ← h3] at h2
              simp only [intOf, Int.toNat_natCast]
              have h4 := HKS.out.1
              omega
        · skip
          go_upto_region 13 with (refine wpList_store_row (by rfl) 28 _ _ (by rfl) wr.heap.size #[.int .i64 tos, .int .i64 id, .int .i64 ttl, .int .i64 proto, .bool false, .bool more, .int .i64 (F : Int), .bool sv, .int .u64 (sh : Int), .int .u64 (sl : Int), .bool dv, .int .u64 (dh : Int), .int .u64 (dl : Int), .slice A n c, .string P] (by rfl) (by rfl) 28 #[.int .i64 0, .int .i64 0, .int .i64 0, .int .i64 0, .bool false, .bool false, .int .i64 0, .bool false, .int .u64 0, .int .u64 0, .bool false, .int .u64 0, .int .u64 0, .slice none 0 0, .string ⟨#[]⟩] (heap_alloc_new _ _) (by kernel_rfl) (by rfl) (by simp [Value.oneCell']) ?_; rw [World.setRow_alloc_new, ← HW5.out])
          rw [HGP.out]
          clear x0 x1 x2 x3 x4 x5 x6 x7 x8 x9 x10 x11 x12 x13 x14
          have y6 := (Cells.cell HP5.out 6).trans (show _ = some (Value.int .i64 (F : Int)) from rfl)
          have z6 := Cells.frozen HP5.out 6
          have hgpl := HGPL.out
          by_cases hbad : 65528 < fa
          · have b1 : decide ((65528 : Int) < (fa : Int)) = true := by simp; omega
            have b2 : (65528 : Int) < (fa : Int) := by omega
            have HR := Lib.hid (HTT.out.bad HTP.out (by rw [HOFF.out]; have := HFA.out; omega))
            have HBE5 := Lib.hid (HW.out _ (HBR5.out.setCell (p := ⟨gp, 6, none⟩) (by have h1 := HGPB.out; have h2 := HBE.out; have h3 := HB2.out.size; simp only; omega) (.int .i64 (fa : Int))))
            clear hbad
            go_wp2_with fail
            go_ret2
            exact SplP.err HR.out rfl HBE5.out
          have b1 : decide ((65528 : Int) < (fa : Int)) = false := by simp; omega
          have b2 : ¬ (65528 : Int) < (fa : Int) := by omega
          have HB65 := Lib.hid (show ¬ 65528 < p.off + (k : Int) by rw [HOFF.out]; have := HFA.out; omega)
          clear hbad
          have x5 := box_cell (show Cells W5 g 28 _ from (HX5.out)) (Below.refl _ _) 5 (.bool more) rfl
          have x13 := box_cell (show Cells W5 g 28 _ from (HX5.out)) (Below.refl _ _) 13 (.slice A n c) rfl
          have x14 := box_cell (show Cells W5 g 28 _ from (HX5.out)) (Below.refl _ _) 14 (.string P) rfl
          have y5 := (Cells.cell HP5.out 5).trans (show _ = some (Value.bool more) from rfl)
          have y14 := (Cells.cell HP5.out 14).trans (show _ = some (Value.string P) from rfl)
          have z5 := Cells.frozen HP5.out 5
          have z14 := Cells.frozen HP5.out 14
          have hgl5 := HX5.out.lt
          rcases hmb2 with ⟨rfl, w1⟩ | ⟨rfl, w1⟩ <;> cases more
          · skip
            go_upto_region 19 with fail
            have HMB := Lib.hid w1
            have hkbt : kb = false := by rw [← HKBI.out]; exact q1
            subst hkbt
            have hM6 : Cells ((((W5.setCell ⟨gp, 6, none⟩ (.int .i64 (fa : Int))).setCell ⟨gp, 14, none⟩ (.string E))).setCell ⟨gp, 5, none⟩ (.bool true)) gp 28 #[.int .i64 tos, .int .i64 id, .int .i64 ttl, .int .i64 proto, .bool false, .bool true, .int .i64 (fa : Int), .bool sv, .int .u64 (sh : Int), .int .u64 (sl : Int), .bool dv, .int .u64 (dh : Int), .int .u64 (dl : Int), .slice A n c, .string E] := ((HP5.out.set 6 _).set 14 _).set 5 _
            have hbk : Below gp W5 ((((W5.setCell ⟨gp, 6, none⟩ (.int .i64 (fa : Int))).setCell ⟨gp, 14, none⟩ (.string E))).setCell ⟨gp, 5, none⟩ (.bool true)) := (((Below.refl gp W5).setCell (p := ⟨gp, 6, none⟩) (Nat.le_refl _) _).setCell (p := ⟨gp, 14, none⟩) (Nat.le_refl _) _).setCell (p := ⟨gp, 5, none⟩) (Nat.le_refl _) _
            obtain ⟨W6, hW6⟩ : ∃ W, W = ((((W5.setCell ⟨gp, 6, none⟩ (.int .i64 (fa : Int))).setCell ⟨gp, 14, none⟩ (.string E))).setCell ⟨gp, 5, none⟩ (.bool true)) := ⟨_, rfl⟩
            rw [← hW6] at hM6 hbk ⊢
            have HM6 := Lib.hid hM6
            have HBW6 := Lib.hid (show Below wr.heap.size wr W6 from HBW5.out.trans (hbk.mono (Nat.le_of_eq HGP.out)))
            have HB6 := Lib.hid (HB5.out.trans (hbk.mono HGPB.out))
            have hX6 := HX5.out.kept hbk (show g < gp by have h1 := HGB.out; have h2 := HGPB.out; omega)
            have HGP6 := Lib.hid hM6.lt
            clear hW6 hM6 hbk x5 x13 x14 y5 y6 y14 z5 z6 z14 hgl5 hgpl b1 b2 HP5 HX5 HW5
            have x13 := box_cell hX6 (Below.refl _ _) 13 (.slice A n c) rfl
            clear hX6
            go_wp2_with fail
            refine (HPA.out W6 (HW.out _ (HB2.out.trans (HB6.out.mono (by rw [HBE.out]; exact HB2.out.size))))).mono ?_
            rintro e w7 ⟨A3, c3, rfl, hrow, hn0, hnew, hb7⟩
            obtain ⟨n3, hn3⟩ : ∃ n, n = (opsAt l k).length := ⟨_, rfl⟩
            rw [← hn3]
            have hM7 := HM6.out.kept hb7 HM6.out.lt
            have y13 := (Cells.cell hM7 13).trans (show _ = some (Value.slice A n c) from rfl)
            have z13 := Cells.frozen hM7 13
            have hgp7 := hM7.lt
            have HM8 := Lib.hid (show Cells (w7.setCell ⟨gp, 13, none⟩ (.slice A3 n3 c3)) gp 28 #[.int .i64 tos, .int .i64 id, .int .i64 ttl, .int .i64 proto, .bool false, .bool true, .int .i64 (fa : Int), .bool sv, .int .u64 (sh : Int), .int .u64 (sl : Int), .bool dv, .int .u64 (dh : Int), .int .u64 (dl : Int), .slice A3 n3 c3, .string E] from hM7.set 13 _)
            have hb68 : Below W6.heap.size W6 w7 := hb7
            have HBW8 := Lib.hid (show Below wr.heap.size wr (w7.setCell ⟨gp, 13, none⟩ (.slice A3 n3 c3)) from (HBW6.out.trans (hb7.mono HBW6.out.size)).setCell (p := ⟨gp, 13, none⟩) (Nat.le_of_eq HGP.out) _)
            have HB8 := Lib.hid (show Below B w2 (w7.setCell ⟨gp, 13, none⟩ (.slice A3 n3 c3)) from (HB6.out.trans (hb7.mono (by have h1 := HGPB.out; have h2 := HGP6.out; omega))).setCell (p := ⟨gp, 13, none⟩) HGPB.out _)
            have HRO8 := Lib.hid (show RowL EOpt (w7.setCell ⟨gp, 13, none⟩ (.slice A3 n3 c3)) A3 y.ops by
              rw [HYO.out]
              exact hrow.only (only_set ..) (fun a ha e => by
                have h1 := hnew a ha
                have h2 := HGP6.out
                injection e with e
                omega))
            have HNW := Lib.hid (show ∀ a, A3 = some a → wr.heap.size ≤ a.block from fun a ha => by have h1 := hnew a ha; have h2 := HGP6.out; have h3 := HGP.out; omega)
            have HN0 := Lib.hid hn0
            have HYC2 := Lib.hid (HYC.out A3 c3)
            rw [← hn3] at HYC2
            clear hrow hn0 hnew hb7 hb68 hM7 hn3 HM6 HYC x13
            go_upto_region 20 with fail
            obtain ⟨W8, hW8⟩ : ∃ W, W = w7.setCell ⟨gp, 13, none⟩ (.slice A3 n3 c3) := ⟨_, rfl⟩
            rw [← hW8] at HM8 HBW8 HB8 HRO8 ⊢
            have HO8 := Lib.hid (own_kept HO.out HBW8.out (Nat.le_refl _))
            clear hW8 y13 z13 hgp7
            have hm9 : m + 1 ≤ 1000000 := by omega
            have hbz : B ≤ W8.heap.size := by have h1 := HM8.out.lt; have h2 := HGPB.out; omega
            go_wp2_with (first | (refine wpList_load_row (by rfl) 28 _ (by rfl) gp (by rfl) 28 #[.int .i64 tos, .int .i64 id, .int .i64 ttl, .int .i64 proto, .bool false, .bool true, .int .i64 (fa : Int), .bool sv, .int .u64 (sh : Int), .int .u64 (sl : Int), .bool dv, .int .u64 (dh : Int), .int .u64 (dl : Int), .slice A3 n3 c3, .string E] (0, 0) _ HM8.out Try.underlying28 (by rfl) (by kernel_rfl) ?_) | (at_builtin; refine wpList_push (E := EIp) ipsTy (by rfl) _ _ (by rfl) B _ m es [(y, A3, c3)] (by rfl) (HO8.out.alloc _) _ 1 1 #[.int .i64 tos, .int .i64 id, .int .i64 ttl, .int .i64 proto, .bool false, .bool true, .int .i64 (fa : Int), .bool sv, .int .u64 (sh : Int), .int .u64 (sl : Int), .bool dv, .int .u64 (dh : Int), .int .u64 (dl : Int), .slice A3 n3 c3, .string E] (0, 0) (by rfl) (heap_alloc_new _ _) HYC2.out.symm rfl (by omega) (by omega) (by decide) ?hb ?_))
            case hb => exact Nat.le_trans hbz (Nat.le_of_lt (alloc_lt6 _ _))
            intro g2 cap2 w9 hown hgrow hat hlt2
            have HI9 := Lib.hid (OpsIn.push (x := (y, A3, c3)) (g := g2) (n := m + 1) (c := cap2) HI.out (fun j hj => (own_blk_in HO.out j hj).2) HBW8.out HN0.out HRO8.out HNW.out hgrow (hat.imp (fun h => h) (fun h => by rw [h]; simp)))
            have HB9 := Lib.hid (show Below B w2 w9 from (HB8.out.alloc (by rw [HBE.out]; have := HB8.out.size; exact this) _).grown hgrow (by rw [HBE.out]; have := HB8.out.size; simp; omega) (fun j hj => (own_blk_in HO8.out _ hj).1))
            have HO9 := Lib.hid (show w9.ownsRow B 28 15 (.slice (some ⟨g2, 0, none⟩) (m + 1) cap2) (m + 1) (EIp.cells (es ++ [(y, A3, c3)])) from hown)
            have HT9 := Lib.hid (show SplT p S R (es ++ [(y, A3, c3)]) ks by rw [HSM.out]; exact HTT.out.next HTP.out hS8 (by have h := HB65.out; omega) HEN.out HY.out)
            have HN9 := Lib.hid (show m + 1 = (es ++ [(y, A3, c3)]).length by rw [List.length_append, HM.out]; rfl)
            have HKS := Lib.hid (show S ≤ ks ∧ (m + 1) * 8 ≤ ks ∧ m + 1 ≤ 200000 by have := HSM.out; omega)
            clear hown hgrow hat hlt2 HI HO HO8 HBW8 HB8 HRO8 HNW HN0 HYC2 HM8 HM HT
            go_wp2_with fail
            go_roundw
            case rel => exact ⟨ks, m + 1, _, cap2, es ++ [(y, A3, c3)], rfl, rfl, hks63, .inr HKS.out.1, HKS.out.2.1, HKS.out.2.2, HN9, HT9, HO9, HI9, HB9⟩
            case measure =>
              have h1 := HSM.out
              have h2 := HTP.out
              have h3 := HPS.out
              rw [HPAY.out, ← h3] at h2
              simp only [intOf, Int.toNat_natCast]
              have h4 := HKS.out.1
              omega
          · skip
            go_upto_region 19 with fail
            have HMB := Lib.hid w1
            have hkbt : kb = false := by rw [← HKBI.out]; exact q1
            subst hkbt
            have hM6 : Cells ((((W5.setCell ⟨gp, 6, none⟩ (.int .i64 (fa : Int))).setCell ⟨gp, 14, none⟩ (.string E))).setCell ⟨gp, 5, none⟩ (.bool true)) gp 28 #[.int .i64 tos, .int .i64 id, .int .i64 ttl, .int .i64 proto, .bool false, .bool true, .int .i64 (fa : Int), .bool sv, .int .u64 (sh : Int), .int .u64 (sl : Int), .bool dv, .int .u64 (dh : Int), .int .u64 (dl : Int), .slice A n c, .string E] := ((HP5.out.set 6 _).set 14 _).set 5 _
            have hbk : Below gp W5 ((((W5.setCell ⟨gp, 6, none⟩ (.int .i64 (fa : Int))).setCell ⟨gp, 14, none⟩ (.string E))).setCell ⟨gp, 5, none⟩ (.bool true)) := (((Below.refl gp W5).setCell (p := ⟨gp, 6, none⟩) (Nat.le_refl _) _).setCell (p := ⟨gp, 14, none⟩) (Nat.le_refl _) _).setCell (p := ⟨gp, 5, none⟩) (Nat.le_refl _) _
            obtain ⟨W6, hW6⟩ : ∃ W, W = ((((W5.setCell ⟨gp, 6, none⟩ (.int .i64 (fa : Int))).setCell ⟨gp, 14, none⟩ (.string E))).setCell ⟨gp, 5, none⟩ (.bool true)) := ⟨_, rfl⟩
            rw [← hW6] at hM6 hbk ⊢
            have HM6 := Lib.hid hM6
            have HBW6 := Lib.hid (show Below wr.heap.size wr W6 from HBW5.out.trans (hbk.mono (Nat.le_of_eq HGP.out)))
            have HB6 := Lib.hid (HB5.out.trans (hbk.mono HGPB.out))
            have hX6 := HX5.out.kept hbk (show g < gp by have h1 := HGB.out; have h2 := HGPB.out; omega)
            have HGP6 := Lib.hid hM6.lt
            clear hW6 hM6 hbk x5 x13 x14 y5 y6 y14 z5 z6 z14 hgl5 hgpl b1 b2 HP5 HX5 HW5
            have x13 := box_cell hX6 (Below.refl _ _) 13 (.slice A n c) rfl
            clear hX6
            go_wp2_with fail
            refine (HPA.out W6 (HW.out _ (HB2.out.trans (HB6.out.mono (by rw [HBE.out]; exact HB2.out.size))))).mono ?_
            rintro e w7 ⟨A3, c3, rfl, hrow, hn0, hnew, hb7⟩
            obtain ⟨n3, hn3⟩ : ∃ n, n = (opsAt l k).length := ⟨_, rfl⟩
            rw [← hn3]
            have hM7 := HM6.out.kept hb7 HM6.out.lt
            have y13 := (Cells.cell hM7 13).trans (show _ = some (Value.slice A n c) from rfl)
            have z13 := Cells.frozen hM7 13
            have hgp7 := hM7.lt
            have HM8 := Lib.hid (show Cells (w7.setCell ⟨gp, 13, none⟩ (.slice A3 n3 c3)) gp 28 #[.int .i64 tos, .int .i64 id, .int .i64 ttl, .int .i64 proto, .bool false, .bool true, .int .i64 (fa : Int), .bool sv, .int .u64 (sh : Int), .int .u64 (sl : Int), .bool dv, .int .u64 (dh : Int), .int .u64 (dl : Int), .slice A3 n3 c3, .string E] from hM7.set 13 _)
            have hb68 : Below W6.heap.size W6 w7 := hb7
            have HBW8 := Lib.hid (show Below wr.heap.size wr (w7.setCell ⟨gp, 13, none⟩ (.slice A3 n3 c3)) from (HBW6.out.trans (hb7.mono HBW6.out.size)).setCell (p := ⟨gp, 13, none⟩) (Nat.le_of_eq HGP.out) _)
            have HB8 := Lib.hid (show Below B w2 (w7.setCell ⟨gp, 13, none⟩ (.slice A3 n3 c3)) from (HB6.out.trans (hb7.mono (by have h1 := HGPB.out; have h2 := HGP6.out; omega))).setCell (p := ⟨gp, 13, none⟩) HGPB.out _)
            have HRO8 := Lib.hid (show RowL EOpt (w7.setCell ⟨gp, 13, none⟩ (.slice A3 n3 c3)) A3 y.ops by
              rw [HYO.out]
              exact hrow.only (only_set ..) (fun a ha e => by
                have h1 := hnew a ha
                have h2 := HGP6.out
                injection e with e
                omega))
            have HNW := Lib.hid (show ∀ a, A3 = some a → wr.heap.size ≤ a.block from fun a ha => by have h1 := hnew a ha; have h2 := HGP6.out; have h3 := HGP.out; omega)
            have HN0 := Lib.hid hn0
            have HYC2 := Lib.hid (HYC.out A3 c3)
            rw [← hn3] at HYC2
            clear hrow hn0 hnew hb7 hb68 hM7 hn3 HM6 HYC x13
            go_upto_region 20 with fail
            obtain ⟨W8, hW8⟩ : ∃ W, W = w7.setCell ⟨gp, 13, none⟩ (.slice A3 n3 c3) := ⟨_, rfl⟩
            rw [← hW8] at HM8 HBW8 HB8 HRO8 ⊢
            have HO8 := Lib.hid (own_kept HO.out HBW8.out (Nat.le_refl _))
            clear hW8 y13 z13 hgp7
            have hm9 : m + 1 ≤ 1000000 := by omega
            have hbz : B ≤ W8.heap.size := by have h1 := HM8.out.lt; have h2 := HGPB.out; omega
            go_wp2_with (first | (refine wpList_load_row (by rfl) 28 _ (by rfl) gp (by rfl) 28 #[.int .i64 tos, .int .i64 id, .int .i64 ttl, .int .i64 proto, .bool false, .bool true, .int .i64 (fa : Int), .bool sv, .int .u64 (sh : Int), .int .u64 (sl : Int), .bool dv, .int .u64 (dh : Int), .int .u64 (dl : Int), .slice A3 n3 c3, .string E] (0, 0) _ HM8.out Try.underlying28 (by rfl) (by kernel_rfl) ?_) | (at_builtin; refine wpList_push (E := EIp) ipsTy (by rfl) _ _ (by rfl) B _ m es [(y, A3, c3)] (by rfl) (HO8.out.alloc _) _ 1 1 #[.int .i64 tos, .int .i64 id, .int .i64 ttl, .int .i64 proto, .bool false, .bool true, .int .i64 (fa : Int), .bool sv, .int .u64 (sh : Int), .int .u64 (sl : Int), .bool dv, .int .u64 (dh : Int), .int .u64 (dl : Int), .slice A3 n3 c3, .string E] (0, 0) (by rfl) (heap_alloc_new _ _) HYC2.out.symm rfl (by omega) (by omega) (by decide) ?hb ?_))
            case hb => exact Nat.le_trans hbz (Nat.le_of_lt (alloc_lt6 _ _))
            intro g2 cap2 w9 hown hgrow hat hlt2
            have HI9 := Lib.hid (OpsIn.push (x := (y, A3, c3)) (g := g2) (n := m + 1) (c := cap2) HI.out (fun j hj => (own_blk_in HO.out j hj).2) HBW8.out HN0.out HRO8.out HNW.out hgrow (hat.imp (fun h => h) (fun h => by rw [h]; simp)))
            have HB9 := Lib.hid (show Below B w2 w9 from (HB8.out.alloc (by rw [HBE.out]; have := HB8.out.size; exact this) _).grown hgrow (by rw [HBE.out]; have := HB8.out.size; simp; omega) (fun j hj => (own_blk_in HO8.out _ hj).1))
            have HO9 := Lib.hid (show w9.ownsRow B 28 15 (.slice (some ⟨g2, 0, none⟩) (m + 1) cap2) (m + 1) (EIp.cells (es ++ [(y, A3, c3)])) from hown)
            have HT9 := Lib.hid (show SplT p S R (es ++ [(y, A3, c3)]) ks by rw [HSM.out]; exact HTT.out.next HTP.out hS8 (by have h := HB65.out; omega) HEN.out HY.out)
            have HN9 := Lib.hid (show m + 1 = (es ++ [(y, A3, c3)]).length by rw [List.length_append, HM.out]; rfl)
            have HKS := Lib.hid (show S ≤ ks ∧ (m + 1) * 8 ≤ ks ∧ m + 1 ≤ 200000 by have := HSM.out; omega)
            clear hown hgrow hat hlt2 HI HO HO8 HBW8 HB8 HRO8 HNW HN0 HYC2 HM8 HM HT
            go_wp2_with fail
            go_roundw
            case rel => exact ⟨ks, m + 1, _, cap2, es ++ [(y, A3, c3)], rfl, rfl, hks63, .inr HKS.out.1, HKS.out.2.1, HKS.out.2.2, HN9, HT9, HO9, HI9, HB9⟩
            case measure =>
              have h1 := HSM.out
              have h2 := HTP.out
              have h3 := HPS.out
              rw [HPAY.out, ← h3] at h2
              simp only [intOf, Int.toNat_natCast]
              have h4 := HKS.out.1
              omega
          · skip
            go_upto_region 19 with fail
            have HMB := Lib.hid w1
            have hkbt : kb = false := by rw [← HKBI.out]; exact q1
            subst hkbt
            have hM6 : Cells ((((W5.setCell ⟨gp, 6, none⟩ (.int .i64 (fa : Int))).setCell ⟨gp, 14, none⟩ (.string E))).setCell ⟨gp, 5, none⟩ (.bool false)) gp 28 #[.int .i64 tos, .int .i64 id, .int .i64 ttl, .int .i64 proto, .bool false, .bool false, .int .i64 (fa : Int), .bool sv, .int .u64 (sh : Int), .int .u64 (sl : Int), .bool dv, .int .u64 (dh : Int), .int .u64 (dl : Int), .slice A n c, .string E] := ((HP5.out.set 6 _).set 14 _).set 5 _
            have hbk : Below gp W5 ((((W5.setCell ⟨gp, 6, none⟩ (.int .i64 (fa : Int))).setCell ⟨gp, 14, none⟩ (.string E))).setCell ⟨gp, 5, none⟩ (.bool false)) := (((Below.refl gp W5).setCell (p := ⟨gp, 6, none⟩) (Nat.le_refl _) _).setCell (p := ⟨gp, 14, none⟩) (Nat.le_refl _) _).setCell (p := ⟨gp, 5, none⟩) (Nat.le_refl _) _
            obtain ⟨W6, hW6⟩ : ∃ W, W = ((((W5.setCell ⟨gp, 6, none⟩ (.int .i64 (fa : Int))).setCell ⟨gp, 14, none⟩ (.string E))).setCell ⟨gp, 5, none⟩ (.bool false)) := ⟨_, rfl⟩
            rw [← hW6] at hM6 hbk ⊢
            have HM6 := Lib.hid hM6
            have HBW6 := Lib.hid (show Below wr.heap.size wr W6 from HBW5.out.trans (hbk.mono (Nat.le_of_eq HGP.out)))
            have HB6 := Lib.hid (HB5.out.trans (hbk.mono HGPB.out))
            have hX6 := HX5.out.kept hbk (show g < gp by have h1 := HGB.out; have h2 := HGPB.out; omega)
            have HGP6 := Lib.hid hM6.lt
            clear hW6 hM6 hbk x5 x13 x14 y5 y6 y14 z5 z6 z14 hgl5 hgpl b1 b2 HP5 HX5 HW5
            have x13 := box_cell hX6 (Below.refl _ _) 13 (.slice A n c) rfl
            clear hX6
            go_wp2_with fail
            refine (HPA.out W6 (HW.out _ (HB2.out.trans (HB6.out.mono (by rw [HBE.out]; exact HB2.out.size))))).mono ?_
            rintro e w7 ⟨A3, c3, rfl, hrow, hn0, hnew, hb7⟩
            obtain ⟨n3, hn3⟩ : ∃ n, n = (opsAt l k).length := ⟨_, rfl⟩
            rw [← hn3]
            have hM7 := HM6.out.kept hb7 HM6.out.lt
            have y13 := (Cells.cell hM7 13).trans (show _ = some (Value.slice A n c) from rfl)
            have z13 := Cells.frozen hM7 13
            have hgp7 := hM7.lt
            have HM8 := Lib.hid (show Cells (w7.setCell ⟨gp, 13, none⟩ (.slice A3 n3 c3)) gp 28 #[.int .i64 tos, .int .i64 id, .int .i64 ttl, .int .i64 proto, .bool false, .bool false, .int .i64 (fa : Int), .bool sv, .int .u64 (sh : Int), .int .u64 (sl : Int), .bool dv, .int .u64 (dh : Int), .int .u64 (dl : Int), .slice A3 n3 c3, .string E] from hM7.set 13 _)
            have hb68 : Below W6.heap.size W6 w7 := hb7
            have HBW8 := Lib.hid (show Below wr.heap.size wr (w7.setCell ⟨gp, 13, none⟩ (.slice A3 n3 c3)) from (HBW6.out.trans (hb7.mono HBW6.out.size)).setCell (p := ⟨gp, 13, none⟩) (Nat.le_of_eq HGP.out) _)
            have HB8 := Lib.hid (show Below B w2 (w7.setCell ⟨gp, 13, none⟩ (.slice A3 n3 c3)) from (HB6.out.trans (hb7.mono (by have h1 := HGPB.out; have h2 := HGP6.out; omega))).setCell (p := ⟨gp, 13, none⟩) HGPB.out _)
            have HRO8 := Lib.hid (show RowL EOpt (w7.setCell ⟨gp, 13, none⟩ (.slice A3 n3 c3)) A3 y.ops by
              rw [HYO.out]
              exact hrow.only (only_set ..) (fun a ha e => by
                have h1 := hnew a ha
                have h2 := HGP6.out
                injection e with e
                omega))
            have HNW := Lib.hid (show ∀ a, A3 = some a → wr.heap.size ≤ a.block from fun a ha => by have h1 := hnew a ha; have h2 := HGP6.out; have h3 := HGP.out; omega)
            have HN0 := Lib.hid hn0
            have HYC2 := Lib.hid (HYC.out A3 c3)
            rw [← hn3] at HYC2
            clear hrow hn0 hnew hb7 hb68 hM7 hn3 HM6 HYC x13
            go_upto_region 20 with fail
            obtain ⟨W8, hW8⟩ : ∃ W, W = w7.setCell ⟨gp, 13, none⟩ (.slice A3 n3 c3) := ⟨_, rfl⟩
            rw [← hW8] at HM8 HBW8 HB8 HRO8 ⊢
            have HO8 := Lib.hid (own_kept HO.out HBW8.out (Nat.le_refl _))
            clear hW8 y13 z13 hgp7
            have hm9 : m + 1 ≤ 1000000 := by omega
            have hbz : B ≤ W8.heap.size := by have h1 := HM8.out.lt; have h2 := HGPB.out; omega
            go_wp2_with (first | (refine wpList_load_row (by rfl) 28 _ (by rfl) gp (by rfl) 28 #[.int .i64 tos, .int .i64 id, .int .i64 ttl, .int .i64 proto, .bool false, .bool false, .int .i64 (fa : Int), .bool sv, .int .u64 (sh : Int), .int .u64 (sl : Int), .bool dv, .int .u64 (dh : Int), .int .u64 (dl : Int), .slice A3 n3 c3, .string E] (0, 0) _ HM8.out Try.underlying28 (by rfl) (by kernel_rfl) ?_) | (at_builtin; refine wpList_push (E := EIp) ipsTy (by rfl) _ _ (by rfl) B _ m es [(y, A3, c3)] (by rfl) (HO8.out.alloc _) _ 1 1 #[.int .i64 tos, .int .i64 id, .int .i64 ttl, .int .i64 proto, .bool false, .bool false, .int .i64 (fa : Int), .bool sv, .int .u64 (sh : Int), .int .u64 (sl : Int), .bool dv, .int .u64 (dh : Int), .int .u64 (dl : Int), .slice A3 n3 c3, .string E] (0, 0) (by rfl) (heap_alloc_new _ _) HYC2.out.symm rfl (by omega) (by omega) (by decide) ?hb ?_))
            case hb => exact Nat.le_trans hbz (Nat.le_of_lt (alloc_lt6 _ _))
            intro g2 cap2 w9 hown hgrow hat hlt2
            have HI9 := Lib.hid (OpsIn.push (x := (y, A3, c3)) (g := g2) (n := m + 1) (c := cap2) HI.out (fun j hj => (own_blk_in HO.out j hj).2) HBW8.out HN0.out HRO8.out HNW.out hgrow (hat.imp (fun h => h) (fun h => by rw [h]; simp)))
            have HB9 := Lib.hid (show Below B w2 w9 from (HB8.out.alloc (by rw [HBE.out]; have := HB8.out.size; exact this) _).grown hgrow (by rw [HBE.out]; have := HB8.out.size; simp; omega) (fun j hj => (own_blk_in HO8.out _ hj).1))
            have HO9 := Lib.hid (show w9.ownsRow B 28 15 (.slice (some ⟨g2, 0, none⟩) (m + 1) cap2) (m + 1) (EIp.cells (es ++ [(y, A3, c3)])) from hown)
            have HT9 := Lib.hid (show SplT p S R (es ++ [(y, A3, c3)]) ks by rw [HSM.out]; exact HTT.out.next HTP.out hS8 (by have h := HB65.out; omega) HEN.out HY.out)
            have HN9 := Lib.hid (show m + 1 = (es ++ [(y, A3, c3)]).length by rw [List.length_append, HM.out]; rfl)
            have HKS := Lib.hid (show S ≤ ks ∧ (m + 1) * 8 ≤ ks ∧ m + 1 ≤ 200000 by have := HSM.out; omega)
            clear hown hgrow hat hlt2 HI HO HO8 HBW8 HB8 HRO8 HNW HN0 HYC2 HM8 HM HT
            go_wp2_with fail
            go_roundw
            case rel => exact ⟨ks, m + 1, _, cap2, es ++ [(y, A3, c3)], rfl, rfl, hks63, .inr HKS.out.1, HKS.out.2.1, HKS.out.2.2, HN9, HT9, HO9, HI9, HB9⟩
            case measure =>
              have h1 := HSM.out
              have h2 := HTP.out
              have h3 := HPS.out
              rw [HPAY.out, ← h3] at h2
              simp only [intOf, Int.toNat_natCast]
              have h4 := HKS.out.1
              omega
          · skip
            go_upto_region 19 with fail
            have HMB := Lib.hid w1
            have hkbt : kb = false := by rw [← HKBI.out]; exact q1
            subst hkbt
            have hM6 : Cells ((((W5.setCell ⟨gp, 6, none⟩ (.int .i64 (fa : Int))).setCell ⟨gp, 14, none⟩ (.string E))).setCell ⟨gp, 5, none⟩ (.bool true)) gp 28 #[.int .i64 tos, .int .i64 id, .int .i64 ttl, .int .i64 proto, .bool false, .bool true, .int .i64 (fa : Int), .bool sv, .int .u64 (sh : Int), .int .u64 (sl : Int), .bool dv, .int .u64 (dh : Int), .int .u64 (dl : Int), .slice A n c, .string E] := ((HP5.out.set 6 _).set 14 _).set 5 _
            have hbk : Below gp W5 ((((W5.setCell ⟨gp, 6, none⟩ (.int .i64 (fa : Int))).setCell ⟨gp, 14, none⟩ (.string E))).setCell ⟨gp, 5, none⟩ (.bool true)) := (((Below.refl gp W5).setCell (p := ⟨gp, 6, none⟩) (Nat.le_refl _) _).setCell (p := ⟨gp, 14, none⟩) (Nat.le_refl _) _).setCell (p := ⟨gp, 5, none⟩) (Nat.le_refl _) _
            obtain ⟨W6, hW6⟩ : ∃ W, W = ((((W5.setCell ⟨gp, 6, none⟩ (.int .i64 (fa : Int))).setCell ⟨gp, 14, none⟩ (.string E))).setCell ⟨gp, 5, none⟩ (.bool true)) := ⟨_, rfl⟩
            rw [← hW6] at hM6 hbk ⊢
            have HM6 := Lib.hid hM6
            have HBW6 := Lib.hid (show Below wr.heap.size wr W6 from HBW5.out.trans (hbk.mono (Nat.le_of_eq HGP.out)))
            have HB6 := Lib.hid (HB5.out.trans (hbk.mono HGPB.out))
            have hX6 := HX5.out.kept hbk (show g < gp by have h1 := HGB.out; have h2 := HGPB.out; omega)
            have HGP6 := Lib.hid hM6.lt
            clear hW6 hM6 hbk x5 x13 x14 y5 y6 y14 z5 z6 z14 hgl5 hgpl b1 b2 HP5 HX5 HW5
            have x13 := box_cell hX6 (Below.refl _ _) 13 (.slice A n c) rfl
            clear hX6
            go_wp2_with fail
            refine (HPA.out W6 (HW.out _ (HB2.out.trans (HB6.out.mono (by rw [HBE.out]; exact HB2.out.size))))).mono ?_
            rintro e w7 ⟨A3, c3, rfl, hrow, hn0, hnew, hb7⟩
            obtain ⟨n3, hn3⟩ : ∃ n, n = (opsAt l k).length := ⟨_, rfl⟩
            rw [← hn3]
            have hM7 := HM6.out.kept hb7 HM6.out.lt
            have y13 := (Cells.cell hM7 13).trans (show _ = some (Value.slice A n c) from rfl)
            have z13 := Cells.frozen hM7 13
            have hgp7 := hM7.lt
            have HM8 := Lib.hid (show Cells (w7.setCell ⟨gp, 13, none⟩ (.slice A3 n3 c3)) gp 28 #[.int .i64 tos, .int .i64 id, .int .i64 ttl, .int .i64 proto, .bool false, .bool true, .int .i64 (fa : Int), .bool sv, .int .u64 (sh : Int), .int .u64 (sl : Int), .bool dv, .int .u64 (dh : Int), .int .u64 (dl : Int), .slice A3 n3 c3, .string E] from hM7.set 13 _)
            have hb68 : Below W6.heap.size W6 w7 := hb7
            have HBW8 := Lib.hid (show Below wr.heap.size wr (w7.setCell ⟨gp, 13, none⟩ (.slice A3 n3 c3)) from (HBW6.out.trans (hb7.mono HBW6.out.size)).setCell (p := ⟨gp, 13, none⟩) (Nat.le_of_eq HGP.out) _)
            have HB8 := Lib.hid (show Below B w2 (w7.setCell ⟨gp, 13, none⟩ (.slice A3 n3 c3)) from (HB6.out.trans (hb7.mono (by have h1 := HGPB.out; have h2 := HGP6.out; omega))).setCell (p := ⟨gp, 13, none⟩) HGPB.out _)
            have HRO8 := Lib.hid (show RowL EOpt (w7.setCell ⟨gp, 13, none⟩ (.slice A3 n3 c3)) A3 y.ops by
              rw [HYO.out]
              exact hrow.only (only_set ..) (fun a ha e => by
                have h1 := hnew a ha
                have h2 := HGP6.out
                injection e with e
                omega))
            have HNW := Lib.hid (show ∀ a, A3 = some a → wr.heap.size ≤ a.block from fun a ha => by have h1 := hnew a ha; have h2 := HGP6.out; have h3 := HGP.out; omega)
            have HN0 := Lib.hid hn0
            have HYC2 := Lib.hid (HYC.out A3 c3)
            rw [← hn3] at HYC2
            clear hrow hn0 hnew hb7 hb68 hM7 hn3 HM6 HYC x13
            go_upto_region 20 with fail
            obtain ⟨W8, hW8⟩ : ∃ W, W = w7.setCell ⟨gp, 13, none⟩ (.slice A3 n3 c3) := ⟨_, rfl⟩
            rw [← hW8] at HM8 HBW8 HB8 HRO8 ⊢
            have HO8 := Lib.hid (own_kept HO.out HBW8.out (Nat.le_refl _))
            clear hW8 y13 z13 hgp7
            have hm9 : m + 1 ≤ 1000000 := by omega
            have hbz : B ≤ W8.heap.size := by have h1 := HM8.out.lt; have h2 := HGPB.out; omega
            go_wp2_with (first | (refine wpList_load_row (by rfl) 28 _ (by rfl) gp (by rfl) 28 #[.int .i64 tos, .int .i64 id, .int .i64 ttl, .int .i64 proto, .bool false, .bool true, .int .i64 (fa : Int), .bool sv, .int .u64 (sh : Int), .int .u64 (sl : Int), .bool dv, .int .u64 (dh : Int), .int .u64 (dl : Int), .slice A3 n3 c3, .string E] (0, 0) _ HM8.out Try.underlying28 (by rfl) (by kernel_rfl) ?_) | (at_builtin; refine wpList_push (E := EIp) ipsTy (by rfl) _ _ (by rfl) B _ m es [(y, A3, c3)] (by rfl) (HO8.out.alloc _) _ 1 1 #[.int .i64 tos, .int .i64 id, .int .i64 ttl, .int .i64 proto, .bool false, .bool true, .int .i64 (fa : Int), .bool sv, .int .u64 (sh : Int), .int .u64 (sl : Int), .bool dv, .int .u64 (dh : Int), .int .u64 (dl : Int), .slice A3 n3 c3, .string E] (0, 0) (by rfl) (heap_alloc_new _ _) HYC2.out.symm rfl (by omega) (by omega) (by decide) ?hb ?_))
            case hb => exact Nat.le_trans hbz (Nat.le_of_lt (alloc_lt6 _ _))
            intro g2 cap2 w9 hown hgrow hat hlt2
            have HI9 := Lib.hid (OpsIn.push (x := (y, A3, c3)) (g := g2) (n := m + 1) (c := cap2) HI.out (fun j hj => (own_blk_in HO.out j hj).2) HBW8.out HN0.out HRO8.out HNW.out hgrow (hat.imp (fun h => h) (fun h => by rw [h]; simp)))
            have HB9 := Lib.hid (show Below B w2 w9 from (HB8.out.alloc (by rw [HBE.out]; have := HB8.out.size; exact this) _).grown hgrow (by rw [HBE.out]; have := HB8.out.size; simp; omega) (fun j hj => (own_blk_in HO8.out _ hj).1))
            have HO9 := Lib.hid (show w9.ownsRow B 28 15 (.slice (some ⟨g2, 0, none⟩) (m + 1) cap2) (m + 1) (EIp.cells (es ++ [(y, A3, c3)])) from hown)
            have HT9 := Lib.hid (show SplT p S R (es ++ [(y, A3, c3)]) ks by rw [HSM.out]; exact HTT.out.next HTP.out hS8 (by have h := HB65.out; omega) HEN.out HY.out)
            have HN9 := Lib.hid (show m + 1 = (es ++ [(y, A3, c3)]).length by rw [List.length_append, HM.out]; rfl)
            have HKS := Lib.hid (show S ≤ ks ∧ (m + 1) * 8 ≤ ks ∧ m + 1 ≤ 200000 by have := HSM.out; omega)
            clear hown hgrow hat hlt2 HI HO HO8 HBW8 HB8 HRO8 HNW HN0 HYC2 HM8 HM HT
            go_wp2_with fail
            go_roundw
            case rel => exact ⟨ks, m + 1, _, cap2, es ++ [(y, A3, c3)], rfl, rfl, hks63, .inr HKS.out.1, HKS.out.2.1, HKS.out.2.2, HN9, HT9, HO9, HI9, HB9⟩
            case measure =>
              have h1 := HSM.out
              have h2 := HTP.out
              have h3 := HPS.out
              rw [HPAY.out, ← h3] at h2
              simp only [intOf, Int.toNat_natCast]
              have h4 := HKS.out.1
              omega

      · have hkP : P.size ≤ k ∧ 0 < k := by omega
        have q1 : ((k : Int) == 0) = false := by rw [beq_eq_false_iff_ne]; omega
        have q2 : ¬ (k : Int) = 0 := by omega
        have q3 : decide ((k : Int) < (P.size : Int)) = false := by simp; omega
        have q4 : ¬ (k : Int) < (P.size : Int) := by omega
        have HR := Lib.hid (HT.out.stop (by rw [HPAY.out, ← HPS.out]; exact ht))
        have HML := Lib.hid (show m = R.1.length by rw [HR.out, List.length_map]; exact HM.out)
        clear ht hkP
        go_wp2_with fail
        go_ret2
        refine ⟨A2, c2, es, ?_, by rw [HR.out], rowl_of_own (E := EIp) HO.out HM.out, fun x hx => ⟨(HI.out x hx).1, (HI.out x hx).2.1⟩, fun hA => by subst hA; exact (own_none HO.out).2, HW.out _ HBR.out⟩
        rw [show R.2 = 0 by rw [HR.out], ← HML.out]
        rfl
  · have hd4 : ¬ S < P.size := by omega
    have hd3 : decide (S < P.size) = false := decide_eq_false hd4
    go_wp2_with fail
    clear x4 x14
    go_loopw [8, 9] (fun v8 v9 wr => ∃ (k m : Nat) (A2 : Option Addr) (c2 : Nat) (es : List IpE), v8 = .slice A2 m c2 ∧ v9 = .int .i64 (k : Int) ∧ k ≤ 9223372036854775807 ∧ (k = 0 ∨ S ≤ k) ∧ m * 8 ≤ k ∧ m ≤ 200000 ∧ Hid (m = es.length) ∧ Hid (SplT p S R es k) ∧ Hid (wr.ownsRow B 28 15 (.slice A2 m c2) m (EIp.cells es)) ∧ Hid (OpsIn wr (.slice A2 m c2) es) ∧ Hid (Below B w2 wr)) (fun _ v9 _ => (1 - (intOf v9).toNat) + (P.size - (intOf v9).toNat))
    case atStart => exact ⟨0, 0, none, 0, [], rfl, rfl, by omega, .inl rfl, by omega, by omega, Lib.hid rfl, HST, HO0, Lib.hid (OpsIn.nil _ _), HBR0⟩
    case round =>
      clear HO0 HBR0 HST
      obtain ⟨k, m, A2, c2, es, rfl, rfl, hk63, hkS, hmk, hm2, HM, HT, HO, HI, HB⟩ := hrel
      have hBr : B ≤ wr.heap.size := by have h1 := HBE.out; have h2 := HB.out.size; omega
      have HBR := Lib.hid (show Below W1.heap.size W1 wr from HB2.out.trans (HB.out.mono (by rw [HBE.out]; exact HB2.out.size)))
      have x14 := HV.out wr HBR.out 14 (.string P) rfl
      by_cases ht : k = 0 ∨ k < P.size
      · have HTP := Lib.hid (show k = 0 ∨ k < p.pay.length by rw [HPAY.out, ← HPS.out]; exact ht)
        have hk6 : k ≤ 1000000 := by omega
        have hks : k ≤ P.size := by omega
        have hdk : (((k : Int) == 0) = true ∧ k = 0 ∧ (k : Int) = 0) ∨ (((k : Int) == 0) = false ∧ ¬ (k : Int) = 0 ∧ decide ((k : Int) < (P.size : Int)) = true ∧ (k : Int) < (P.size : Int) ∧ 0 < k) := by
          by_cases hz : k = 0
          · left; exact ⟨by rw [beq_iff_eq]; omega, hz, by omega⟩
          · right; exact ⟨by rw [beq_eq_false_iff_ne]; omega, by omega, by simp; omega, by omega, by omega⟩
        obtain ⟨kb, hkb⟩ : ∃ b, (k == 0) = b := ⟨_, rfl⟩
        have hkbi : ((k : Int) == 0) = kb := by rw [← hkb, Bool.eq_iff_iff, beq_iff_eq, beq_iff_eq]; omega
        have HPA := Lib.hid (HPAR.out k kb hkb)
        have HKB := Lib.hid hkb
        have HKBI := Lib.hid hkbi
        obtain ⟨fa, hfa⟩ : ∃ f, f = F + k := ⟨_, rfl⟩
        have hfai : (F : Int) + (k : Int) = (fa : Int) := by omega
        have hfa9 : fa ≤ 2000000 := by omega
        have HFA := Lib.hid hfa
        obtain ⟨en, hen⟩ : ∃ e, e = min (k + S) P.size := ⟨_, rfl⟩
        obtain ⟨ks, hks2⟩ : ∃ e, e = k + S := ⟨_, rfl⟩
        have hksi : (k : Int) + (S : Int) = (ks : Int) := by omega
        have hks63 : ks ≤ 9223372036854775807 := by omega
        have hmn : min (ks : Int) (P.size : Int) = (en : Int) := by omega
        have hken : k ≤ en := by omega
        have henP : en ≤ P.size := by omega
        have hkeni : (k : Int) ≤ (en : Int) := by omega
        have henPi : (en : Int) ≤ (P.size : Int) := by omega
        have hki0 : (0 : Int) ≤ (k : Int) := by omega
        have hex : P.extract k en = str ((pay.drop k).take (en - k)) := extract_str11 P pay HPP.out k en
        obtain ⟨E, hE⟩ : ∃ E, E = str ((pay.drop k).take (en - k)) := ⟨_, rfl⟩
        rw [← hE] at hex
        obtain ⟨mb, hmb⟩ : ∃ b, b = decide (en < P.size) := ⟨_, rfl⟩
        have hmbi : decide ((en : Int) < (P.size : Int)) = mb := by rw [hmb]; by_cases hz : en < P.size <;> simp [hz]
        have hmb2 : (mb = true ∧ (en : Int) < (P.size : Int)) ∨ (mb = false ∧ ¬ (en : Int) < (P.size : Int)) := by
          rw [hmb]
          by_cases hz : en < P.size
          · left; exact ⟨decide_eq_true hz, by omega⟩
          · right; exact ⟨decide_eq_false hz, by omega⟩
        obtain ⟨y, hy⟩ : ∃ y, y = partI p ((p.pay.drop k).take (en - k)) (p.off + k) (p.more || decide (en < p.pay.length)) k := ⟨_, rfl⟩
        have HEN := Lib.hid (show en = min (k + S) p.pay.length by rw [HPAY.out, ← HPS.out]; exact hen)
        have HYO := Lib.hid (show y.ops = opsAt l k by rw [hy, ← HOPS.out]; rfl)
        have HYC := Lib.hid (fun (A3 : Option Addr) (c3 : Nat) => show EIp.cells [(y, A3, c3)] = [.int .i64 tos, .int .i64 id, .int .i64 ttl, .int .i64 proto, .bool true, .bool (more || mb), .int .i64 (fa : Int), .bool sv, .int .u64 (sh : Int), .int .u64 (sl : Int), .bool dv, .int .u64 (dh : Int), .int .u64 (dl : Int), .slice A3 (opsAt l k).length c3, .string E] by
          rw [hE, hmb, hfa, hy, HOFF.out, HMOR.out, HPAY.out, ← HPS.out, HPE.out, Enc.cells_one]
          rfl)
        have HY := Lib.hid hy
        have HSM := Lib.hid hks2
        have x0 := HV.out wr HBR.out 0 (.int .i64 tos) rfl
        have x1 := HV.out wr HBR.out 1 (.int .i64 id) rfl
        have x2 := HV.out wr HBR.out 2 (.int .i64 ttl) rfl
        have x3 := HV.out wr HBR.out 3 (.int .i64 proto) rfl
        have x4 := HV.out wr HBR.out 4 (.bool true) rfl
        have x5 := HV.out wr HBR.out 5 (.bool more) rfl
        have x6 := HV.out wr HBR.out 6 (.int .i64 (F : Int)) rfl
        have x7 := HV.out wr HBR.out 7 (.bool sv) rfl
        have x8 := HV.out wr HBR.out 8 (.int .u64 (sh : Int)) rfl
        have x9 := HV.out wr HBR.out 9 (.int .u64 (sl : Int)) rfl
        have x10 := HV.out wr HBR.out 10 (.bool dv) rfl
        have x11 := HV.out wr HBR.out 11 (.int .u64 (dh : Int)) rfl
        have x12 := HV.out wr HBR.out 12 (.int .u64 (dl : Int)) rfl
        have x13 := HV.out wr HBR.out 13 (.slice A n c) rfl
        obtain ⟨gp, hgp⟩ : ∃ q, q = wr.heap.size := ⟨_, rfl⟩
        obtain ⟨W5, hW5⟩ : ∃ W, W = wr.alloc (.cells #[.int .i64 tos, .int .i64 id, .int .i64 ttl, .int .i64 proto, .bool true, .bool more, .int .i64 (F : Int), .bool sv, .int .u64 (sh : Int), .int .u64 (sl : Int), .bool dv, .int .u64 (dh : Int), .int .u64 (dl : Int), .slice A n c, .string P] 28) := ⟨_, rfl⟩
        have hb5 : Below wr.heap.size wr W5 := by rw [hW5]; exact below_alloc6 wr _
        have hP5 : Cells W5 gp 28 #[.int .i64 tos, .int .i64 id, .int .i64 ttl, .int .i64 proto, .bool true, .bool more, .int .i64 (F : Int), .bool sv, .int .u64 (sh : Int), .int .u64 (sl : Int), .bool dv, .int .u64 (dh : Int), .int .u64 (dl : Int), .slice A n c, .string P] := by rw [hW5, hgp]; exact heap_alloc_new wr _
        have HP5 := Lib.hid hP5
        have HB5 := Lib.hid (HB.out.trans (hb5.mono hBr))
        have HBR5 := Lib.hid (HBR.out.trans (hb5.mono HBR.out.size))
        have HO5 := Lib.hid (show W5.ownsRow B 28 15 (.slice A2 m c2) m (EIp.cells es) by rw [hW5]; exact HO.out.alloc _)
        have HJ := Lib.hid (show ∀ j, (Value.slice A2 m c2).ownBlock = some j → j < gp from fun j hj => by rw [hgp]; exact (own_blk_in HO.out j hj).2)
        have HI5 := Lib.hid (HI.out.kept hb5)
        have hne : g ≠ gp := by have := HGB.out; omega
        have hne' : gp ≠ g := fun e => hne e.symm
        have HW5 := Lib.hid hW5
        have HGP := Lib.hid hgp.symm
        have HGPB := Lib.hid (show B ≤ gp by omega)
        have HGPL := Lib.hid (show gp < W5.heap.size from hP5.lt)
        have HX5 := Lib.hid (show Cells W5 g 28 #[.int .i64 tos, .int .i64 id, .int .i64 ttl, .int .i64 proto, .bool true, .bool more, .int .i64 (F : Int), .bool sv, .int .u64 (sh : Int), .int .u64 (sl : Int), .bool dv, .int .u64 (dh : Int), .int .u64 (dl : Int), .slice A n c, .string P] from HXX.out.kept HBR5.out HXX.out.lt)
        have HTT := HT
        have HBW5 := Lib.hid hb5
        clear hb5 hP5 hW5 hgp hkb hkbi hfa hen hks2 hE hmb hy HPAR ht HI5 HO5 HJ
        rcases hdk with ⟨q1, q2, q3⟩ | ⟨q1, q2, q3, q4, q5⟩
        · have HK0 := Lib.hid q2
          clear q2 q3
          go_upto_region 13 with (refine wpList_store_row (by rfl) 28 _ _ (by rfl) wr.heap.size #[.int .i64 tos, .int .i64 id, .int .i64 ttl, .int .i64 proto, .bool true, .bool more, .int .i64 (F : Int), .bool sv, .int .u64 (sh : Int), .int .u64 (sl : Int), .bool dv, .int .u64 (dh : Int), .int .u64 (dl : Int), .slice A n c, .string P] (by rfl) (by rfl) 28 #[.int .i64 0, .int .i64 0, .int .i64 0, .int .i64 0, .bool false, .bool false, .int .i64 0, .bool false, .int .u64 0, .int .u64 0, .bool false, .int .u64 0, .int .u64 0, .slice none 0 0, .string ⟨#[]⟩] (heap_alloc_new _ _) (by kernel_rfl) (by rfl) (by simp [Value.oneCell']) ?_; rw [World.setRow_alloc_new, ← HW5.out])
          rw [HGP.out]
          clear x0 x1 x2 x3 x4 x5 x6 x7 x8 x9 x10 x11 x12 x13 x14
          have y6 := (Cells.cell HP5.out 6).trans (show _ = some (Value.int .i64 (F : Int)) from rfl)
          have z6 := Cells.frozen HP5.out 6
          have hgpl := HGPL.out
          by_cases hbad : 65528 < fa
          · exfalso
            have := HFA.out
            have := HK0.out
            omega
          have b1 : decide ((65528 : Int) < (fa : Int)) = false := by simp; omega
          have b2 : ¬ (65528 : Int) < (fa : Int) := by omega
          have HB65 := Lib.hid (show ¬ 65528 < p.off + (k : Int) by rw [HOFF.out]; have := HFA.out; omega)
          clear hbad
          have x5 := box_cell (show Cells W5 g 28 _ from (HX5.out)) (Below.refl _ _) 5 (.bool more) rfl
          have x13 := box_cell (show Cells W5 g 28 _ from (HX5.out)) (Below.refl _ _) 13 (.slice A n c) rfl
          have x14 := box_cell (show Cells W5 g 28 _ from (HX5.out)) (Below.refl _ _) 14 (.string P) rfl
          have y5 := (Cells.cell HP5.out 5).trans (show _ = some (Value.bool more) from rfl)
          have y14 := (Cells.cell HP5.out 14).trans (show _ = some (Value.string P) from rfl)
          have z5 := Cells.frozen HP5.out 5
          have z14 := Cells.frozen HP5.out 14
          have hgl5 := HX5.out.lt
          rcases hmb2 with ⟨rfl, w1⟩ | ⟨rfl, w1⟩ <;> cases more
          · exfalso
            have h1 := HK0.out
            omega
          · exfalso
            have h1 := HK0.out
            omega
          · skip
            go_upto_region 19 with fail
            have HMB := Lib.hid w1
            have hkbt : kb = true := by rw [← HKBI.out]; exact q1
            subst hkbt
            have hM6 : Cells ((((W5.setCell ⟨gp, 6, none⟩ (.int .i64 (fa : Int))).setCell ⟨gp, 14, none⟩ (.string E))).setCell ⟨gp, 5, none⟩ (.bool false)) gp 28 #[.int .i64 tos, .int .i64 id, .int .i64 ttl, .int .i64 proto, .bool true, .bool false, .int .i64 (fa : Int), .bool sv, .int .u64 (sh : Int), .int .u64 (sl : Int), .bool dv, .int .u64 (dh : Int), .int .u64 (dl : Int), .slice A n c, .string E] := ((HP5.out.set 6 _).set 14 _).set 5 _
            have hbk : Below gp W5 ((((W5.setCell ⟨gp, 6, none⟩ (.int .i64 (fa : Int))).setCell ⟨gp, 14, none⟩ (.string E))).setCell ⟨gp, 5, none⟩ (.bool false)) := (((Below.refl gp W5).setCell (p := ⟨gp, 6, none⟩) (Nat.le_refl _) _).setCell (p := ⟨gp, 14, none⟩) (Nat.le_refl _) _).setCell (p := ⟨gp, 5, none⟩) (Nat.le_refl _) _
            obtain ⟨W6, hW6⟩ : ∃ W, W = ((((W5.setCell ⟨gp, 6, none⟩ (.int .i64 (fa : Int))).setCell ⟨gp, 14, none⟩ (.string E))).setCell ⟨gp, 5, none⟩ (.bool false)) := ⟨_, rfl⟩
            rw [← hW6] at hM6 hbk ⊢
            have HM6 := Lib.hid hM6
            have HBW6 := Lib.hid (show Below wr.heap.size wr W6 from HBW5.out.trans (hbk.mono (Nat.le_of_eq HGP.out)))
            have HB6 := Lib.hid (HB5.out.trans (hbk.mono HGPB.out))
            have hX6 := HX5.out.kept hbk (show g < gp by have h1 := HGB.out; have h2 := HGPB.out; omega)
            have HGP6 := Lib.hid hM6.lt
            clear hW6 hM6 hbk x5 x13 x14 y5 y6 y14 z5 z6 z14 hgl5 hgpl b1 b2 HP5 HX5 HW5
            have x13 := box_cell hX6 (Below.refl _ _) 13 (.slice A n c) rfl
            clear hX6
            go_wp2_with fail
            refine (HPA.out W6 (HW.out _ (HB2.out.trans (HB6.out.mono (by rw [HBE.out]; exact HB2.out.size))))).mono ?_
            rintro e w7 ⟨A3, c3, rfl, hrow, hn0, hnew, hb7⟩
            obtain ⟨n3, hn3⟩ : ∃ n, n = (opsAt l k).length := ⟨_, rfl⟩
            rw [← hn3]
            have hM7 := HM6.out.kept hb7 HM6.out.lt
            have y13 := (Cells.cell hM7 13).trans (show _ = some (Value.slice A n c) from rfl)
            have z13 := Cells.frozen hM7 13
            have hgp7 := hM7.lt
            have HM8 := Lib.hid (show Cells (w7.setCell ⟨gp, 13, none⟩ (.slice A3 n3 c3)) gp 28 #[.int .i64 tos, .int .i64 id, .int .i64 ttl, .int .i64 proto, .bool true, .bool false, .int .i64 (fa : Int), .bool sv, .int .u64 (sh : Int), .int .u64 (sl : Int), .bool dv, .int .u64 (dh : Int), .int .u64 (dl : Int), .slice A3 n3 c3, .string E] from hM7.set 13 _)
            have hb68 : Below W6.heap.size W6 w7 := hb7
            have HBW8 := Lib.hid (show Below wr.heap.size wr (w7.setCell ⟨gp, 13, none⟩ (.slice A3 n3 c3)) from (HBW6.out.trans (hb7.mono HBW6.out.size)).setCell (p := ⟨gp, 13, none⟩) (Nat.le_of_eq HGP.out) _)
            have HB8 := Lib.hid (show Below B w2 (w7.setCell ⟨gp, 13, none⟩ (.slice A3 n3 c3)) from (HB6.out.trans (hb7.mono (by have h1 := HGPB.out; have h2 := HGP6.out; omega))).setCell (p := ⟨gp, 13, none⟩) HGPB.out _)
            have HRO8 := Lib.hid (show RowL EOpt (w7.setCell ⟨gp, 13, none⟩ (.slice A3 n3 c3)) A3 y.ops by
              rw [HYO.out]
              exact hrow.only (only_set ..) (fun a ha e => by
                have h1 := hnew a ha
                have h2 := HGP6.out
                injection e with e
                omega))
            have HNW := Lib.hid (show ∀ a, A3 = some a → wr.heap.size ≤ a.block from fun a ha => by have h1 := hnew a ha; have h2 := HGP6.out; have h3 := HGP.out; omega)
            have HN0 := Lib.hid hn0
            have HYC2 := Lib.hid (HYC.out A3 c3)
            rw [← hn3] at HYC2
            clear hrow hn0 hnew hb7 hb68 hM7 hn3 HM6 HYC x13
            go_upto_region 20 with fail
            obtain ⟨W8, hW8⟩ : ∃ W, W = w7.setCell ⟨gp, 13, none⟩ (.slice A3 n3 c3) := ⟨_, rfl⟩
            rw [← hW8] at HM8 HBW8 HB8 HRO8 ⊢
            have HO8 := Lib.hid (own_kept HO.out HBW8.out (Nat.le_refl _))
            clear hW8 y13 z13 hgp7
            have hm9 : m + 1 ≤ 1000000 := by omega
            have hbz : B ≤ W8.heap.size := by have h1 := HM8.out.lt; have h2 := HGPB.out; omega
            go_wp2_with (first | (refine wpList_load_row (by rfl) 28 _ (by rfl) gp (by rfl) 28 #[.int .i64 tos, .int .i64 id, .int .i64 ttl, .int .i64 proto, .bool true, .bool false, .int .i64 (fa : Int), .bool sv, .int .u64 (sh : Int), .int .u64 (sl : Int), .bool dv, .int .u64 (dh : Int), .int .u64 (dl : Int), .slice A3 n3 c3, .string E] (0, 0) _ HM8.out Try.underlying28 (by rfl) (by kernel_rfl) ?_) | (at_builtin; refine wpList_push (E := EIp) ipsTy (by rfl) _ _ (by rfl) B _ m es [(y, A3, c3)] (by rfl) (HO8.out.alloc _) _ 1 1 #[.int .i64 tos, .int .i64 id, .int .i64 ttl, .int .i64 proto, .bool true, .bool false, .int .i64 (fa : Int), .bool sv, .int .u64 (sh : Int), .int .u64 (sl : Int), .bool dv, .int .u64 (dh : Int), .int .u64 (dl : Int), .slice A3 n3 c3, .string E] (0, 0) (by rfl) (heap_alloc_new _ _) HYC2.out.symm rfl (by omega) (by omega) (by decide) ?hb ?_))
            case hb => exact Nat.le_trans hbz (Nat.le_of_lt (alloc_lt6 _ _))
            intro g2 cap2 w9 hown hgrow hat hlt2
            have HI9 := Lib.hid (OpsIn.push (x := (y, A3, c3)) (g := g2) (n := m + 1) (c := cap2) HI.out (fun j hj => (own_blk_in HO.out j hj).2) HBW8.out HN0.out HRO8.out HNW.out hgrow (hat.imp (fun h => h) (fun h => by rw [h]; simp)))
            have HB9 := Lib.hid (show Below B w2 w9 from (HB8.out.alloc (by rw [HBE.out]; have := HB8.out.size; exact this) _).grown hgrow (by rw [HBE.out]; have := HB8.out.size; simp; omega) (fun j hj => (own_blk_in HO8.out _ hj).1))
            have HO9 := Lib.hid (show w9.ownsRow B 28 15 (.slice (some ⟨g2, 0, none⟩) (m + 1) cap2) (m + 1) (EIp.cells (es ++ [(y, A3, c3)])) from hown)
            have HT9 := Lib.hid (show SplT p S R (es ++ [(y, A3, c3)]) ks by rw [HSM.out]; exact HTT.out.next HTP.out hS8 (by have h := HB65.out; omega) HEN.out HY.out)
            have HN9 := Lib.hid (show m + 1 = (es ++ [(y, A3, c3)]).length by rw [List.length_append, HM.out]; rfl)
            have HKS := Lib.hid (show S ≤ ks ∧ (m + 1) * 8 ≤ ks ∧ m + 1 ≤ 200000 by have := HSM.out; omega)
            clear hown hgrow hat hlt2 HI HO HO8 HBW8 HB8 HRO8 HNW HN0 HYC2 HM8 HM HT
            go_wp2_with fail
            go_roundw
            case rel => exact ⟨ks, m + 1, _, cap2, es ++ [(y, A3, c3)], rfl, rfl, hks63, .inr HKS.out.1, HKS.out.2.1, HKS.out.2.2, HN9, HT9, HO9, HI9, HB9⟩
            case measure =>
              have h1 := HSM.out
              have h2 := HTP.out
              have h3 := HPS.out
              rw [HPAY.out, ← h3] at h2
              simp only [intOf, Int.toNat_natCast]
              have h4 := HKS.out.1
              omega
          · skip
            go_upto_region 19 with fail
            have HMB := Lib.hid w1
            have hkbt : kb = true := by rw [← HKBI.out]; exact q1
            subst hkbt
            have hM6 : Cells ((((W5.setCell ⟨gp, 6, none⟩ (.int .i64 (fa : Int))).setCell ⟨gp, 14, none⟩ (.string E))).setCell ⟨gp, 5, none⟩ (.bool true)) gp 28 #[.int .i64 tos, .int .i64 id, .int .i64 ttl, .int .i64 proto, .bool true, .bool true, .int .i64 (fa : Int), .bool sv, .int .u64 (sh : Int), .int .u64 (sl : Int), .bool dv, .int .u64 (dh : Int), .int .u64 (dl : Int), .slice A n c, .string E] := ((HP5.out.set 6 _).set 14 _).set 5 _
            have hbk : Below gp W5 ((((W5.setCell ⟨gp, 6, none⟩ (.int .i64 (fa : Int))).setCell ⟨gp, 14, none⟩ (.string E))).setCell ⟨gp, 5, none⟩ (.bool true)) := (((Below.refl gp W5).setCell (p := ⟨gp, 6, none⟩) (Nat.le_refl _) _).setCell (p := ⟨gp, 14, none⟩) (Nat.le_refl _) _).setCell (p := ⟨gp, 5, none⟩) (Nat.le_refl _) _
            obtain ⟨W6, hW6⟩ : ∃ W, W = ((((W5.setCell ⟨gp, 6, none⟩ (.int .i64 (fa : Int))).setCell ⟨gp, 14, none⟩ (.string E))).setCell ⟨gp, 5, none⟩ (.bool true)) := ⟨_, rfl⟩
            rw [← hW6] at hM6 hbk ⊢
            have HM6 := Lib.hid hM6
            have HBW6 := Lib.hid (show Below wr.heap.size wr W6 from HBW5.out.trans (hbk.mono (Nat.le_of_eq HGP.out)))
            have HB6 := Lib.hid (HB5.out.trans (hbk.mono HGPB.out))
            have hX6 := HX5.out.kept hbk (show g < gp by have h1 := HGB.out; have h2 := HGPB.out; omega)
            have HGP6 := Lib.hid hM6.lt
            clear hW6 hM6 hbk x5 x13 x14 y5 y6 y14 z5 z6 z14 hgl5 hgpl b1 b2 HP5 HX5 HW5
            have x13 := box_cell hX6 (Below.refl _ _) 13 (.slice A n c) rfl
            clear hX6
            go_wp2_with fail
            refine (HPA.out W6 (HW.out _ (HB2.out.trans (HB6.out.mono (by rw [HBE.out]; exact HB2.out.size))))).mono ?_
            rintro e w7 ⟨A3, c3, rfl, hrow, hn0, hnew, hb7⟩
            obtain ⟨n3, hn3⟩ : ∃ n, n = (opsAt l k).length := ⟨_, rfl⟩
            rw [← hn3]
            have hM7 := HM6.out.kept hb7 HM6.out.lt
            have y13 := (Cells.cell hM7 13).trans (show _ = some (Value.slice A n c) from rfl)
            have z13 := Cells.frozen hM7 13
            have hgp7 := hM7.lt
            have HM8 := Lib.hid (show Cells (w7.setCell ⟨gp, 13, none⟩ (.slice A3 n3 c3)) gp 28 #[.int .i64 tos, .int .i64 id, .int .i64 ttl, .int .i64 proto, .bool true, .bool true, .int .i64 (fa : Int), .bool sv, .int .u64 (sh : Int), .int .u64 (sl : Int), .bool dv, .int .u64 (dh : Int), .int .u64 (dl : Int), .slice A3 n3 c3, .string E] from hM7.set 13 _)
            have hb68 : Below W6.heap.size W6 w7 := hb7
            have HBW8 := Lib.hid (show Below wr.heap.size wr (w7.setCell ⟨gp, 13, none⟩ (.slice A3 n3 c3)) from (HBW6.out.trans (hb7.mono HBW6.out.size)).setCell (p := ⟨gp, 13, none⟩) (Nat.le_of_eq HGP.out) _)
            have HB8 := Lib.hid (show Below B w2 (w7.setCell ⟨gp, 13, none⟩ (.slice A3 n3 c3)) from (HB6.out.trans (hb7.mono (by have h1 := HGPB.out; have h2 := HGP6.out; omega))).setCell (p := ⟨gp, 13, none⟩) HGPB.out _)
            have HRO8 := Lib.hid (show RowL EOpt (w7.setCell ⟨gp, 13, none⟩ (.slice A3 n3 c3)) A3 y.ops by
              rw [HYO.out]
              exact hrow.only (only_set ..) (fun a ha e => by
                have h1 := hnew a ha
                have h2 := HGP6.out
                injection e with e
                omega))
            have HNW := Lib.hid (show ∀ a, A3 = some a → wr.heap.size ≤ a.block from fun a ha => by have h1 := hnew a ha; have h2 := HGP6.out; have h3 := HGP.out; omega)
            have HN0 := Lib.hid hn0
            have HYC2 := Lib.hid (HYC.out A3 c3)
            rw [← hn3] at HYC2
            clear hrow hn0 hnew hb7 hb68 hM7 hn3 HM6 HYC x13
            go_upto_region 20 with fail
            obtain ⟨W8, hW8⟩ : ∃ W, W = w7.setCell ⟨gp, 13, none⟩ (.slice A3 n3 c3) := ⟨_, rfl⟩
            rw [← hW8] at HM8 HBW8 HB8 HRO8 ⊢
            have HO8 := Lib.hid (own_kept HO.out HBW8.out (Nat.le_refl _))
            clear hW8 y13 z13 hgp7
            have hm9 : m + 1 ≤ 1000000 := by omega
            have hbz : B ≤ W8.heap.size := by have h1 := HM8.out.lt; have h2 := HGPB.out; omega
            go_wp2_with (first | (refine wpList_load_row (by rfl) 28 _ (by rfl) gp (by rfl) 28 #[.int .i64 tos, .int .i64 id, .int .i64 ttl, .int .i64 proto, .bool true, .bool true, .int .i64 (fa : Int), .bool sv, .int .u64 (sh : Int), .int .u64 (sl : Int), .bool dv, .int .u64 (dh : Int), .int .u64 (dl : Int), .slice A3 n3 c3, .string E] (0, 0) _ HM8.out Try.underlying28 (by rfl) (by kernel_rfl) ?_) | (at_builtin; refine wpList_push (E := EIp) ipsTy (by rfl) _ _ (by rfl) B _ m es [(y, A3, c3)] (by rfl) (HO8.out.alloc _) _ 1 1 #[.int .i64 tos, .int .i64 id, .int .i64 ttl, .int .i64 proto, .bool true, .bool true, .int .i64 (fa : Int), .bool sv, .int .u64 (sh : Int), .int .u64 (sl : Int), .bool dv, .int .u64 (dh : Int), .int .u64 (dl : Int), .slice A3 n3 c3, .string E] (0, 0) (by rfl) (heap_alloc_new _ _) HYC2.out.symm rfl (by omega) (by omega) (by decide) ?hb ?_))
            case hb => exact Nat.le_trans hbz (Nat.le_of_lt (alloc_lt6 _ _))
            intro g2 cap2 w9 hown hgrow hat hlt2
            have HI9 := Lib.hid (OpsIn.push (x := (y, A3, c3)) (g := g2) (n := m + 1) (c := cap2) HI.out (fun j hj => (own_blk_in HO.out j hj).2) HBW8.out HN0.out HRO8.out HNW.out hgrow (hat.imp (fun h => h) (fun h => by rw [h]; simp)))
            have HB9 := Lib.hid (show Below B w2 w9 from (HB8.out.alloc (by rw [HBE.out]; have := HB8.out.size; exact this) _).grown hgrow (by rw [HBE.out]; have := HB8.out.size; simp; omega) (fun j hj => (own_blk_in HO8.out _ hj).1))
            have HO9 := Lib.hid (show w9.ownsRow B 28 15 (.slice (some ⟨g2, 0, none⟩) (m + 1) cap2) (m + 1) (EIp.cells (es ++ [(y, A3, c3)])) from hown)
            have HT9 := Lib.hid (show SplT p S R (es ++ [(y, A3, c3)]) ks by rw [HSM.out]; exact HTT.out.next HTP.out hS8 (by have h := HB65.out; omega) HEN.out HY.out)
            have HN9 := Lib.hid (show m + 1 = (es ++ [(y, A3, c3)]).length by rw [List.length_append, HM.out]; rfl)
            have HKS := Lib.hid (show S ≤ ks ∧ (m + 1) * 8 ≤ ks ∧ m + 1 ≤ 200000 by have := HSM.out; omega)
            clear hown hgrow hat hlt2 HI HO HO8 HBW8 HB8 HRO8 HNW HN0 HYC2 HM8 HM HT
            go_wp2_with fail
            go_roundw
            case rel => exact ⟨ks, m + 1, _, cap2, es ++ [(y, A3, c3)], rfl, rfl, hks63, .inr HKS.out.1, HKS.out.2.1, HKS.out.2.2, HN9, HT9, HO9, HI9, HB9⟩
            case measure =>
              have h1 := HSM.out
              have h2 := HTP.out
              have h3 := HPS.out
              rw [HPAY.out, ← h3] at h2
              simp only [intOf, Int.toNat_natCast]
              have h4 := HKS.out.1
              omega
        · exfalso
          omega

      · have hkP : P.size ≤ k ∧ 0 < k := by omega
        have q1 : ((k : Int) == 0) = false := by rw [beq_eq_false_iff_ne]; omega
        have q2 : ¬ (k : Int) = 0 := by omega
        have q3 : decide ((k : Int) < (P.size : Int)) = false := by simp; omega
        have q4 : ¬ (k : Int) < (P.size : Int) := by omega
        have HR := Lib.hid (HT.out.stop (by rw [HPAY.out, ← HPS.out]; exact ht))
        have HML := Lib.hid (show m = R.1.length by rw [HR.out, List.length_map]; exact HM.out)
        clear ht hkP
        go_wp2_with fail
        go_ret2
        refine ⟨A2, c2, es, ?_, by rw [HR.out], rowl_of_own (E := EIp) HO.out HM.out, fun x hx => ⟨(HI.out x hx).1, (HI.out x hx).2.1⟩, fun hA => by subst hA; exact (own_none HO.out).2, HW.out _ HBR.out⟩
        rw [show R.2 = 0 by rw [HR.out], ← HML.out]
        rfl
end Go.Proofs.Ytimilcjlogcfhaa
