/- Contract of the program's layer 6: ParsePrefix. -/
import Derived.Test.YtcblgbonijloiaaDoorAdqParse
namespace Go.Proofs.YtcblgbonijloiaaDoor
open Go.ChangeShapes Go.WideShapes Go.ChangeAt Go.RowKit
set_option linter.unusedVariables false

theorem ofDigits_lt (b : Nat) : ∀ (l : List Nat) (a k : Nat), a < b ^ k → (∀ n ∈ l, n < b) → l.foldl (fun n d => n * b + d) a < b ^ (k + l.length)
  | [], a, k, h, _ => h
  | n :: r, a, k, h, hl => by
    have hn := hl n (by simp)
    have h2 : a * b + n < b ^ (k + 1) := by
      rw [Nat.pow_succ]
      have := Nat.mul_le_mul_right b (show a + 1 ≤ b ^ k from h)
      rw [Nat.add_mul, Nat.one_mul] at this
      omega
    have := ofDigits_lt b r (a * b + n) (k + 1) h2 (fun m hm => hl m (by simp [hm]))
    rw [List.length_cons, show k + (r.length + 1) = k + 1 + r.length by omega]
    exact this
theorem decAll_len : ∀ (l : List By) (x : List Nat), decAll l = some x → x.length = l.length ∧ ∀ n ∈ x, n < 256
  | [], x, h => by rw [decAll] at h; obtain rfl := Option.some.inj h; simp
  | p :: r, x, h => by
    rw [decAll] at h
    cases hd : decS 255 p with
    | negSucc n => rw [hd] at h; cases h
    | ofNat n =>
      rw [hd] at h
      simp only at h
      have hn : n < 256 := by
        unfold decS at hd
        split at hd
        · cases hd
        · split at hd
          · cases hd
          · rename_i m _
            split at hd
            · cases hd
            · have : (m : Int) = (n : Int) := hd
              omega
      cases hr : decAll r with
      | none => rw [hr] at h; cases h
      | some y =>
        rw [hr] at h
        obtain rfl := Option.some.inj h
        have ih := decAll_len r y hr
        refine ⟨by simp [ih.1], fun m hm => ?_⟩
        rcases List.mem_cons.1 hm with rfl | hm
        · exact hn
        · exact ih.2 m hm
/-- What is read is an address. -/
theorem prs_ok {s : By} {v : Bool} {hi lo : Nat} (h : prs s = some (v, hi, lo)) : hi < 18446744073709551616 ∧ lo < 18446744073709551616 ∧ vldA v hi lo = true := by
  unfold prs at h
  cases h4 : parse4 s with
  | some l =>
    rw [h4] at h
    have h' : some (false, 0, ofDigits 256 l) = some (v, hi, lo) := h
    obtain ⟨e1, e2⟩ := Prod.mk.inj (Option.some.inj h')
    obtain ⟨e3, e4⟩ := Prod.mk.inj e2
    subst e1 e3 e4
    unfold parse4 at h4
    split at h4
    · rename_i hl
      have hd := decAll_len _ l h4
      have := ofDigits_lt 256 l 0 0 (by decide) hd.2
      rw [hd.1, hl] at this
      have e : (256 : Nat) ^ (0 + 4) = 4294967296 := by decide
      have h5 : ofDigits 256 l < 4294967296 := by rw [← e]; exact this
      refine ⟨by omega, by omega, ?_⟩
      unfold vldA
      rw [decide_eq_true h5]; rfl
    · cases h4
  | none =>
    rw [h4] at h
    simp only at h
    cases h6 : parse6 s with
    | none => rw [h6] at h; cases h
    | some l =>
      rw [h6] at h
      have h' : some (true, halfH l, halfL l) = some (v, hi, lo) := h
      obtain ⟨e1, e2⟩ := Prod.mk.inj (Option.some.inj h')
      obtain ⟨e3, e4⟩ := Prod.mk.inj e2
      subst e1 e3 e4
      have hl := parse6_lt h6
      have e : (65536 : Nat) ^ (0 + 4) = 18446744073709551616 := by decide
      have a := ofDigits_lt 65536 (l.take 4) 0 0 (by decide) (fun n hn => hl.2 n (List.mem_of_mem_take hn))
      have b := ofDigits_lt 65536 (l.drop 4) 0 0 (by decide) (fun n hn => hl.2 n (List.mem_of_mem_drop hn))
      rw [List.length_take, hl.1, show min 4 8 = 4 by decide, e] at a
      rw [List.length_drop, hl.1, show 8 - 4 = 4 by decide, e] at b
      exact ⟨a, b, rfl⟩
def zeroP (e : Int) : Value := .tuple #[.agg #[.bool false, .int .u64 0, .int .u64 0, .int .i64 0], .int .i64 e]
/-- What ParsePrefix answers of an address and a number of bits. -/
def ppEnd (v : Bool) (hi lo : Nat) : Option Nat → Value
  | none => zeroP 2
  | some n => if n ≤ width v then (if mkH v n hi = hi ∧ mkL v n lo = lo then .tuple #[.agg #[.bool v, .int .u64 hi, .int .u64 lo, .int .i64 n], .int .i64 0] else zeroP 2) else zeroP 4
theorem ppEnd_some (v : Bool) (hi lo n : Nat) : ppEnd v hi lo (some n) = if n ≤ width v then (if mkH v n hi = hi ∧ mkL v n lo = lo then .tuple #[.agg #[.bool v, .int .u64 hi, .int .u64 lo, .int .i64 n], .int .i64 0] else zeroP 2) else zeroP 4 := rfl
def ppB (v : Bool) : Option By → Option Nat
  | none => some (width v)
  | some r => decV r
def ppRes (s : By) : Value := if 64 < s.length then zeroP 3 else match prs (cutAt 47 s).1 with
  | none => zeroP 2
  | some (v, hi, lo) => ppEnd v hi lo (ppB v (cutAt 47 s).2)
theorem cutAt_len (c : UInt8) : ∀ s : By, (cutAt c s).1.length ≤ s.length ∧ ∀ r, (cutAt c s).2 = some r → r.length ≤ s.length
  | [] => ⟨by simp [cutAt], fun r h => by simp [cutAt] at h⟩
  | x :: q => by
    have ih := cutAt_len c q
    rw [cutAt]
    split
    · exact ⟨by simp, fun r h => by obtain rfl := Option.some.inj h; simp⟩
    · exact ⟨by simp only [List.length_cons]; omega, fun r h => by have := ih.2 r h; simp only [List.length_cons]; omega⟩
/-- Cut at a byte, as the walks use it. -/
theorem pcut1 (s : ByteArray) (c : UInt8) (w : World) (hs : s.size ≤ 1000) (ht : TW w) :
    Calls Tryd.prog 44 #[.string s, .string ⟨#[c]⟩] w fun e w' => e = .returned (.tuple #[.string (str (cutAt c s.data.toList).1), .string (str ((cutAt c s.data.toList).2.getD [])), .bool (cutAt c s.data.toList).2.isSome]) ∧ ∃ n, w' = w.drewN n := by
  obtain ⟨m, hm⟩ := ht.mx
  refine (lib_strings_Cut s ⟨#[c]⟩ m w (by omega) hm).mono ?_
  rintro e w' ⟨rfl, hw⟩
  have h2 : Lib.cut s.data.toList (⟨#[c]⟩ : ByteArray).data.toList = ((cutAt c s.data.toList).1, (cutAt c s.data.toList).2.getD [], (cutAt c s.data.toList).2.isSome) := by
    rw [byte_str, cut_one]
    cases hq : cutAt c s.data.toList with
    | mk a o => cases o <;> rfl
  rw [h2]
  exact ⟨rfl, hw⟩
set_option maxHeartbeats 2000000 in
set_option maxRecDepth 20000 in
theorem qpparse_any (s : ByteArray) (w : World) (hs : s.size ≤ 900) (ht : TW w) :
    Calls Tryd.prog 13 #[.string s] w fun e w' => e = .returned (ppRes s.data.toList) ∧ Below w.heap.size w w' := by
  have hlen := toList_length6 s
  have hm := addr_guard
  obtain ⟨W0, hW0⟩ : ∃ W0, W0 = w.alloc (.cells #[.bool false, .int .u64 0, .int .u64 0, .int .i64 0] 30) := ⟨_, rfl⟩
  have HB0 := Lib.hid (show Below w.heap.size w W0 by rw [hW0]; exact below_alloc6 w _)
  have HR0 := Lib.hid (show PB W0 w.heap.size false 0 0 0 by rw [hW0]; exact pb_new w false 0 0 0)
  have HT0 := Lib.hid (show TW W0 from ht.kept (by rw [hW0]; exact below_alloc6 w _))
  by_cases h64 : 64 < s.size
  · have HR := Lib.hid (show ppRes s.data.toList = zeroP 3 by unfold ppRes; rw [if_pos (by omega)])
    have d : decide ((64 : Int) < (s.size : Int)) = true := by rw [decide_eq_true_eq]; omega
    clear ht HT0 hlen
    go_enter Tryd.func13, Tryd.ntmps13
    go_wp2_with fail
    rw [← hW0]
    exact bodyPost_ret (res_pfx2 rfl _ _ rfl HR0.out) rfl ⟨by rw [HR.out]; rfl, HB0.out⟩
  have hr : ppRes s.data.toList = match prs (cutAt 47 s.data.toList).1 with
    | none => zeroP 2
    | some (v, hi, lo) => ppEnd v hi lo (ppB v (cutAt 47 s.data.toList).2) := by unfold ppRes; rw [if_neg (by omega)]
  have d : decide ((64 : Int) < (s.size : Int)) = false := by rw [decide_eq_false_iff_not]; omega
  have HCT := Lib.hid (pcut1 s 47 W0 (by omega) HT0.out)
  have hcl := cutAt_len 47 s.data.toList
  have HPA := Lib.hid (fun W h => qparse_any (str (cutAt 47 s.data.toList).1) W (by rw [str_size]; omega) h)
  rw [str_toList] at HPA
  have hpr : pRes (cutAt 47 s.data.toList).1 = adRes (prs (cutAt 47 s.data.toList).1) := by unfold pRes; rw [if_neg (by omega)]
  rw [hpr] at HPA
  obtain ⟨Rz, hRz⟩ : ∃ Rz, Rz = ppRes s.data.toList := ⟨_, rfl⟩
  rw [← hRz]
  rw [← hRz] at hr
  have hpo := fun v hi lo h => prs_ok (s := (cutAt 47 s.data.toList).1) (v := v) (hi := hi) (lo := lo) h
  generalize prs (cutAt 47 s.data.toList).1 = pr at *
  have hrl := hcl.2
  rw [hlen] at hrl
  generalize (cutAt 47 s.data.toList).1 = t1 at *
  generalize (cutAt 47 s.data.toList).2 = o at *
  clear hcl hpr hlen ht hRz
  cases pr with
  | none =>
    have HR := Lib.hid (show Rz = zeroP 2 from hr)
    simp only [adRes] at HPA
    clear hr hpo
    go_enter Tryd.func13, Tryd.ntmps13
    go_wp2_with fail
    rw [← hW0]
    refine HCT.out.mono ?_
    rintro e w1 ⟨rfl, nd, hw1⟩
    have HT1 := Lib.hid (show TW w1 by rw [hw1]; exact HT0.out.drewN nd)
    have HB1 := Lib.hid (show Below w.heap.size w w1 by rw [hw1]; exact below_drewN6 HB0.out nd)
    have HR1 := Lib.hid (show PB w1 w.heap.size false 0 0 0 by rw [hw1]; exact HR0.out)
    clear hw1 HT0 HB0 HR0 HCT hW0
    go_wp2_with fail
    refine (HPA.out _ HT1.out).mono ?_
    rintro e w2 ⟨rfl, hb⟩
    have HB2 := Lib.hid (HB1.out.trans (hb.mono HB1.out.size))
    have HR2 := Lib.hid (HR1.out.kept hb HR1.out.lt)
    clear hb HT1 HB1 HR1
    have hgr := HR2.out.lt
    have r0 := HR2.out.c0
    have r1 := HR2.out.c1
    have r2 := HR2.out.c2
    have r3 := HR2.out.c3
    have rf0 := HR2.out.f 0
    have rf1 := HR2.out.f 1
    have rf2 := HR2.out.f 2
    have rf3 := HR2.out.f 3
    go_wp2_with fail
    change bodyPost _ _ _ _ _ ((pset w2 w.heap.size false 0 0 0).alloc _)
    have HR3 := HR2.out.set false 0 0 0
    have HB3 := pset_below HB2.out (Nat.le_refl _) false 0 0 0
    exact bodyPost_ret (res_pfx2 rfl _ _ rfl (HR3.kept (below_alloc6 _ _) HR3.lt)) rfl ⟨by rw [HR.out]; rfl, HB3.trans ((below_alloc6 _ _).mono HB3.size)⟩
  | some p =>
    obtain ⟨v, hi, lo⟩ := p
    obtain ⟨h1, h2, hv⟩ := hpo v hi lo rfl
    have hr2 : Rz = ppEnd v hi lo (ppB v o) := hr
    simp only [adRes] at HPA
    have HWD := Lib.hid (fun W => qwidth_any v hi lo W)
    clear hr hpo hv
    go_enter Tryd.func13, Tryd.ntmps13
    go_wp2_with fail
    rw [← hW0]
    refine HCT.out.mono ?_
    rintro e w1 ⟨rfl, nd, hw1⟩
    have HT1 := Lib.hid (show TW w1 by rw [hw1]; exact HT0.out.drewN nd)
    have HB1 := Lib.hid (show Below w.heap.size w w1 by rw [hw1]; exact below_drewN6 HB0.out nd)
    have HR1 := Lib.hid (show PB w1 w.heap.size false 0 0 0 by rw [hw1]; exact HR0.out)
    clear hw1 HT0 HB0 HR0 HCT hW0
    go_wp2_with fail
    refine (HPA.out _ HT1.out).mono ?_
    rintro e w2 ⟨rfl, hb⟩
    have HB2 := Lib.hid ((HB1.out.trans (hb.mono HB1.out.size)).trans ((below_alloc6 w2 (.cells #[.bool v, .int .u64 hi, .int .u64 lo] 25)).mono (HB1.out.trans (hb.mono HB1.out.size)).size))
    have HR2 := Lib.hid ((HR1.out.kept hb HR1.out.lt).kept (below_alloc6 w2 (.cells #[.bool v, .int .u64 hi, .int .u64 lo] 25)) (HR1.out.kept hb HR1.out.lt).lt)
    have HX2 := Lib.hid (ab_new w2 v hi lo)
    clear hb HT1 HB1 HR1
    go_wp2_with fail
    refine (HWD.out _).mono ?_
    rintro e w4 ⟨rfl, hb⟩
    obtain ⟨g7, hg7⟩ : ∃ g7, g7 = w2.heap.size := ⟨_, rfl⟩
    rw [← hg7] at HX2 ⊢
    have HB4 := Lib.hid (HB2.out.trans (hb.mono HB2.out.size))
    have HR4 := Lib.hid (HR2.out.kept hb HR2.out.lt)
    have HX4 := Lib.hid (HX2.out.kept hb HX2.out.lt)
    clear hb HB2 HR2 HX2 hg7
    have hgr := HR4.out.lt
    have hgx := HX4.out.lt
    have x0 := HX4.out.c0
    have x1 := HX4.out.c1
    have x2 := HX4.out.c2
    have r0 := HR4.out.c0
    have r1 := HR4.out.c1
    have r2 := HR4.out.c2
    have r3 := HR4.out.c3
    have rf0 := HR4.out.f 0
    have rf1 := HR4.out.f 1
    have rf2 := HR4.out.f 2
    have rf3 := HR4.out.f 3
    cases o with
    | none =>
      simp only [Option.getD_none, Option.isSome_none]
      have hr3 := hr2
      simp only [ppB] at hr2
      clear hr3
      by_cases hn : width v ≤ width v
      · have HM := Lib.hid (fun W => qmake_ok v hi lo (width v) W h1 h2 hn)
        have qn := fun W => addr_neq v v (mkH v (width v) hi : Nat) hi (mkL v (width v) lo : Nat) lo W
        by_cases hz : mkH v (width v) hi = hi ∧ mkL v (width v) lo = lo
        · have HE := Lib.hid (show Rz = .tuple #[.agg #[.bool v, .int .u64 hi, .int .u64 lo, .int .i64 (width v : Nat)], .int .i64 0] by rw [hr2, ppEnd_some, if_pos hn, if_pos hz])
          rw [hz.1, hz.2] at HM qn
          simp only [beq_self_eq_true, Bool.and_self, Bool.not_true] at qn
          clear hz hr2 h1 h2
          generalize width v = wd at *
          go_wp2_with fail
          refine (HM.out _).mono ?_
          rintro e w5 ⟨rfl, hb⟩
          have HB5 := Lib.hid (HB4.out.trans (hb.mono HB4.out.size))
          have HR5 := Lib.hid (HR4.out.kept hb HR4.out.lt)
          have HX5 := Lib.hid (HX4.out.kept hb HX4.out.lt)
          clear hb hgr hgx x0 x1 x2 r0 r1 r2 r3 rf0 rf1 rf2 rf3
          have hgr := HR5.out.lt
          have hgx := HX5.out.lt
          have x0 := HX5.out.c0
          have x1 := HX5.out.c1
          have x2 := HX5.out.c2
          have r0 := HR5.out.c0
          have r1 := HR5.out.c1
          have r2 := HR5.out.c2
          have r3 := HR5.out.c3
          have rf0 := HR5.out.f 0
          have rf1 := HR5.out.f 1
          have rf2 := HR5.out.f 2
          have rf3 := HR5.out.f 3
          go_wp2_with fail
          change bodyPost _ _ _ _ _ ((pset w5 w.heap.size v hi lo (wd : Nat)).alloc _)
          have HR6 := HR5.out.set v hi lo (wd : Nat)
          have HB6 := pset_below HB5.out (Nat.le_refl _) v hi lo (wd : Nat)
          exact bodyPost_ret (res_pfx2 rfl _ _ rfl (HR6.kept (below_alloc6 _ _) HR6.lt)) rfl ⟨by rw [HE.out]; rfl, HB6.trans ((below_alloc6 _ _).mono HB6.size)⟩
        · have HE := Lib.hid (show Rz = zeroP 2 by rw [hr2, ppEnd_some, if_pos hn, if_neg hz])
          have hzb : (v == v && (((mkH v (width v) hi : Nat) : Int) == (hi : Int) && ((mkL v (width v) lo : Nat) : Int) == (lo : Int))) = false := by
            rw [Bool.eq_false_iff]
            intro e
            simp only [beq_self_eq_true, Bool.true_and, Bool.and_eq_true, beq_iff_eq] at e
            exact hz ⟨by omega, by omega⟩
          rw [hzb] at qn
          simp only [Bool.not_false] at qn
          clear hz hzb hr2 h1 h2
          generalize mkH v (width v) hi = hi' at *
          generalize mkL v (width v) lo = lo' at *
          generalize width v = wd at *
          go_wp2_with fail
          refine (HM.out _).mono ?_
          rintro e w5 ⟨rfl, hb⟩
          have HB5 := Lib.hid (HB4.out.trans (hb.mono HB4.out.size))
          have HR5 := Lib.hid (HR4.out.kept hb HR4.out.lt)
          have HX5 := Lib.hid (HX4.out.kept hb HX4.out.lt)
          clear hb hgr hgx x0 x1 x2 r0 r1 r2 r3 rf0 rf1 rf2 rf3
          have hgr := HR5.out.lt
          have hgx := HX5.out.lt
          have x0 := HX5.out.c0
          have x1 := HX5.out.c1
          have x2 := HX5.out.c2
          have r0 := HR5.out.c0
          have r1 := HR5.out.c1
          have r2 := HR5.out.c2
          have r3 := HR5.out.c3
          have rf0 := HR5.out.f 0
          have rf1 := HR5.out.f 1
          have rf2 := HR5.out.f 2
          have rf3 := HR5.out.f 3
          go_wp2_with fail
          change bodyPost _ _ _ _ _ ((pset w5 w.heap.size false 0 0 0).alloc _)
          have HR6 := HR5.out.set false 0 0 0
          have HB6 := pset_below HB5.out (Nat.le_refl _) false 0 0 0
          exact bodyPost_ret (res_pfx2 rfl _ _ rfl (HR6.kept (below_alloc6 _ _) HR6.lt)) rfl ⟨by rw [HE.out]; rfl, HB6.trans ((below_alloc6 _ _).mono HB6.size)⟩
      · exact absurd (Nat.le_refl _) hn
    | some r =>
      simp only [Option.getD_some, Option.isSome_some]
      simp only [ppB] at hr2
      have HD := Lib.hid (fun W => qdecimal_any (str r) W (by rw [str_size]; have := hrl r rfl; omega))
      rw [str_toList] at HD
      have hdl := fun n h => decV_le (s := r) (n := n) h
      cases hdv : decV r with
      | none =>
        rw [hdv] at HD hr2
        simp only [vRes] at HD
        have HE := Lib.hid (show Rz = zeroP 2 from hr2)
        clear hr2 h1 h2 hdl hdv
        go_wp2_with fail
        refine (HD.out _).mono ?_
        rintro e w5 ⟨rfl, hw⟩
        have hw' := hw.symm
        clear hw
        subst hw'
        go_wp2_with fail
        change bodyPost _ _ _ _ _ (pset w4 w.heap.size false 0 0 0)
        have HR6 := HR4.out.set false 0 0 0
        have HB6 := pset_below HB4.out (Nat.le_refl _) false 0 0 0
        exact bodyPost_ret (res_pfx2 rfl _ _ rfl HR6) rfl ⟨by rw [HE.out]; rfl, HB6⟩
      | some n =>
        rw [hdv] at HD hr2
        simp only [vRes] at HD
        have hn65 := hdl n hdv
        clear hdl hdv
        by_cases hn : n ≤ width v
        · have HM := Lib.hid (fun W => qmake_ok v hi lo (n) W h1 h2 hn)
          have qn := fun W => addr_neq v v (mkH v (n) hi : Nat) hi (mkL v (n) lo : Nat) lo W
          by_cases hz : mkH v (n) hi = hi ∧ mkL v (n) lo = lo
          · have HE := Lib.hid (show Rz = .tuple #[.agg #[.bool v, .int .u64 hi, .int .u64 lo, .int .i64 (n : Nat)], .int .i64 0] by rw [hr2, ppEnd_some, if_pos hn, if_pos hz])
            rw [hz.1, hz.2] at HM qn
            simp only [beq_self_eq_true, Bool.and_self, Bool.not_true] at qn
            clear hz hr2 h1 h2
            generalize width v = wd at *
            go_wp2_with fail
            refine (HD.out _).mono ?_
            rintro e w4' ⟨rfl, hw⟩
            have hw' := hw.symm
            clear hw
            subst hw'
            go_wp2_with fail
            refine (HM.out _).mono ?_
            rintro e w5 ⟨rfl, hb⟩
            have HB5 := Lib.hid (HB4.out.trans (hb.mono HB4.out.size))
            have HR5 := Lib.hid (HR4.out.kept hb HR4.out.lt)
            have HX5 := Lib.hid (HX4.out.kept hb HX4.out.lt)
            clear hb hgr hgx x0 x1 x2 r0 r1 r2 r3 rf0 rf1 rf2 rf3
            have hgr := HR5.out.lt
            have hgx := HX5.out.lt
            have x0 := HX5.out.c0
            have x1 := HX5.out.c1
            have x2 := HX5.out.c2
            have r0 := HR5.out.c0
            have r1 := HR5.out.c1
            have r2 := HR5.out.c2
            have r3 := HR5.out.c3
            have rf0 := HR5.out.f 0
            have rf1 := HR5.out.f 1
            have rf2 := HR5.out.f 2
            have rf3 := HR5.out.f 3
            go_wp2_with fail
            change bodyPost _ _ _ _ _ ((pset w5 w.heap.size v hi lo (n : Nat)).alloc _)
            have HR6 := HR5.out.set v hi lo (n : Nat)
            have HB6 := pset_below HB5.out (Nat.le_refl _) v hi lo (n : Nat)
            exact bodyPost_ret (res_pfx2 rfl _ _ rfl (HR6.kept (below_alloc6 _ _) HR6.lt)) rfl ⟨by rw [HE.out]; rfl, HB6.trans ((below_alloc6 _ _).mono HB6.size)⟩
          · have HE := Lib.hid (show Rz = zeroP 2 by rw [hr2, ppEnd_some, if_pos hn, if_neg hz])
            have hzb : (v == v && (((mkH v (n) hi : Nat) : Int) == (hi : Int) && ((mkL v (n) lo : Nat) : Int) == (lo : Int))) = false := by
              rw [Bool.eq_false_iff]
              intro e
              simp only [beq_self_eq_true, Bool.true_and, Bool.and_eq_true, beq_iff_eq] at e
              exact hz ⟨by omega, by omega⟩
            rw [hzb] at qn
            simp only [Bool.not_false] at qn
            clear hz hzb hr2 h1 h2
            generalize mkH v (n) hi = hi' at *
            generalize mkL v (n) lo = lo' at *
            generalize width v = wd at *
            go_wp2_with fail
            refine (HD.out _).mono ?_
            rintro e w4' ⟨rfl, hw⟩
            have hw' := hw.symm
            clear hw
            subst hw'
            go_wp2_with fail
            refine (HM.out _).mono ?_
            rintro e w5 ⟨rfl, hb⟩
            have HB5 := Lib.hid (HB4.out.trans (hb.mono HB4.out.size))
            have HR5 := Lib.hid (HR4.out.kept hb HR4.out.lt)
            have HX5 := Lib.hid (HX4.out.kept hb HX4.out.lt)
            clear hb hgr hgx x0 x1 x2 r0 r1 r2 r3 rf0 rf1 rf2 rf3
            have hgr := HR5.out.lt
            have hgx := HX5.out.lt
            have x0 := HX5.out.c0
            have x1 := HX5.out.c1
            have x2 := HX5.out.c2
            have r0 := HR5.out.c0
            have r1 := HR5.out.c1
            have r2 := HR5.out.c2
            have r3 := HR5.out.c3
            have rf0 := HR5.out.f 0
            have rf1 := HR5.out.f 1
            have rf2 := HR5.out.f 2
            have rf3 := HR5.out.f 3
            go_wp2_with fail
            change bodyPost _ _ _ _ _ ((pset w5 w.heap.size false 0 0 0).alloc _)
            have HR6 := HR5.out.set false 0 0 0
            have HB6 := pset_below HB5.out (Nat.le_refl _) false 0 0 0
            exact bodyPost_ret (res_pfx2 rfl _ _ rfl (HR6.kept (below_alloc6 _ _) HR6.lt)) rfl ⟨by rw [HE.out]; rfl, HB6.trans ((below_alloc6 _ _).mono HB6.size)⟩
        · have HM := Lib.hid (fun W => qmake_bad v hi lo ((n : Nat) : Int) W (.inr (by omega)))
          have HE := Lib.hid (show Rz = zeroP 4 by rw [hr2, ppEnd_some, if_neg hn])
          clear hr2 h1 h2
          generalize width v = wd at *
          go_wp2_with fail
          refine (HD.out _).mono ?_
          rintro e w4' ⟨rfl, hw⟩
          have hw' := hw.symm
          clear hw
          subst hw'
          go_wp2_with fail
          refine (HM.out _).mono ?_
          rintro e w5 ⟨rfl, hb⟩
          have HB5 := Lib.hid (HB4.out.trans (hb.mono HB4.out.size))
          have HR5 := Lib.hid (HR4.out.kept hb HR4.out.lt)
          have HX5 := Lib.hid (HX4.out.kept hb HX4.out.lt)
          clear hb hgr hgx x0 x1 x2 r0 r1 r2 r3 rf0 rf1 rf2 rf3
          have hgr := HR5.out.lt
          have hgx := HX5.out.lt
          have x0 := HX5.out.c0
          have x1 := HX5.out.c1
          have x2 := HX5.out.c2
          have r0 := HR5.out.c0
          have r1 := HR5.out.c1
          have r2 := HR5.out.c2
          have r3 := HR5.out.c3
          have rf0 := HR5.out.f 0
          have rf1 := HR5.out.f 1
          have rf2 := HR5.out.f 2
          have rf3 := HR5.out.f 3
          go_wp2_with fail
          change bodyPost _ _ _ _ _ ((pset w5 w.heap.size false 0 0 0).alloc _)
          have HR6 := HR5.out.set false 0 0 0
          have HB6 := pset_below HB5.out (Nat.le_refl _) false 0 0 0
          exact bodyPost_ret (res_pfx2 rfl _ _ rfl (HR6.kept (below_alloc6 _ _) HR6.lt)) rfl ⟨by rw [HE.out]; rfl, HB6.trans ((below_alloc6 _ _).mono HB6.size)⟩
end Go.Proofs.YtcblgbonijloiaaDoor
