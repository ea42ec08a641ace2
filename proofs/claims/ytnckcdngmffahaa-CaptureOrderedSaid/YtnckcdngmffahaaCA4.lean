/- Contracts of the functions, part 4: CapHead, CapBeg, CapComp, CapStep, CapFd, CapFd2, CapPFeed, CapClose, CapPRd, CapApn. -/
import Derived.Laws.EntriesVeiled
import Derived.Test.YtnckcdngmffahaaCA3
/- Contracts of the program of layer 9: header, begin, complete. -/
namespace Go.Proofs.Ytnckcdngmffahaa
open Go.ChangeShapes Go.WideShapes Go.ChangeAt Go.RowKit
set_option linter.unusedVariables false

/-- The function that reads numbers in a byte order. -/
def gvF (b : Bool) : Value := .func (.func (if b then 39 else 40)) #[] #[]
def gvO : Option CSt → Value
  | none => .nilFunc
  | some q => gvF q.big
theorem sub9 (S : List UInt8) (p n : Nat) : sub (str S) p n = (S.drop p).take n := by unfold sub; rw [str_toList]
theorem getB9 (S : List UInt8) (p n : Nat) (a k : Int) (ha : (p : Int) = a) (hk : (n : Int) = k) (hn : 1 ≤ n ∧ n ≤ 7) (h : p + n ≤ S.length) (hs : S.length ≤ 1000000) (w : World) :
    Calls Try.prog 39 #[.string (str S), .int .i64 a, .int .i64 k] w fun e w' => e = .returned (.tuple #[.int .i64 (numC true S p n : Int), .int .i64 0]) ∧ Below w.heap.size w w' := by
  subst ha hk
  have := get_ok (str S) (p : Int) (n : Int) w (by rw [str_size]; omega) (by omega) (by omega) (by omega) (by rw [str_size]; omega)
  rw [Int.toNat_natCast, Int.toNat_natCast, sub9] at this
  exact this
theorem getL9 (S : List UInt8) (p n : Nat) (a k : Int) (ha : (p : Int) = a) (hk : (n : Int) = k) (hn : 1 ≤ n ∧ n ≤ 7) (h : p + n ≤ S.length) (hs : S.length ≤ 1000000) (w : World) :
    Calls Try.prog 40 #[.string (str S), .int .i64 a, .int .i64 k] w fun e w' => e = .returned (.tuple #[.int .i64 (numC false S p n : Int), .int .i64 0]) ∧ Below w.heap.size w w' := by
  subst ha hk
  have := getl_ok (str S) (p : Int) (n : Int) w (by rw [str_size]; omega) (by omega) (by omega) (by omega) (by rw [str_size]; omega)
  rw [Int.toNat_natCast, Int.toNat_natCast, sub9] at this
  exact this
/-- The magic number, read in the other order. -/
theorem mag9 {S : List UInt8} (h : 4 ≤ S.length) : numC false S 0 4 = 2712847316 ↔ numC true S 0 4 = 3569595041 := by
  obtain ⟨l, hl⟩ : ∃ l, l = (S.drop 0).take 4 := ⟨_, rfl⟩
  have h4 : l.length = 4 := by rw [hl, List.length_take, List.length_drop]; omega
  have e1 : numC false S 0 4 = num l.reverse := by rw [hl]; rfl
  have e2 : numC true S 0 4 = num l := by rw [hl]; rfl
  rw [e1, e2]
  constructor
  · intro hn
    have := leL_num l
    rw [hn, h4] at this
    rw [← this]
    decide
  · intro hn
    have := leL_reverse_num l
    rw [hn, h4] at this
    rw [← this]
    decide
/-- What header leaves. -/
def HeadQ (w : World) (g : Nat) (M : Option Nat) (fi nx sz nd : Nat) (op : Bool) (ra rz : Int) (rd : ByteArray) (cnt la : Nat) (en : Bool) : Option CSt → Ending → World → Prop
  | none, e, w' => e = .returned (.int .i64 2) ∧ PRc w' g M fi nx sz nd .nilFunc op ra rz rd cnt la en ∧ KeepB (fun k => k = g) w w'
  | some q, e, w' => e = .returned (.int .i64 0) ∧ PRc w' g M fi nx sz 16 (gvF q.big) op ra rz rd cnt la en ∧ KeepB (fun k => k = g) w w'
theorem PRc.step {w w' : World} {g : Nat} {M : Option Nat} {fi nx sz nd : Nat} {gv : Value} {op : Bool} {ra rz : Int} {rd : ByteArray} {cnt la : Nat} {en : Bool} (h : PRc w g M fi nx sz nd gv op ra rz rd cnt la en) (hb : Below w.heap.size w w') : PRc w' g M fi nx sz nd gv op ra rz rd cnt la en := h.same (hb.block g h.lt)
theorem MQ.step {w w' : World} {M : Option Nat} {fi n : Nat} {pcs : List (List UInt8)} (h : MQ w M fi pcs n) (hb : Below w.heap.size w w') : MQ w' M fi pcs n := by
  rcases h with h | ⟨b', D, e, ho, hj⟩
  · exact .inl h
  · exact .inr ⟨b', D, e, ho.kept (row := none) ⟨hb.os, hb.tape, hb.output, hb.size, fun k hk _ => hb.block k hk⟩ (by simp), hj⟩

set_option maxHeartbeats 8000000 in
set_option maxRecDepth 20000 in
theorem phead9_any (g : Nat) (M : Option Nat) (fi nx sz nd : Nat) (op : Bool) (ra rz : Int) (rd : ByteArray) (cnt la : Nat) (en : Bool) (S : List UInt8) (w : World)
    (h : PRc w g M fi nx sz nd .nilFunc op ra rz rd cnt la en) (hs : S.length = 24) :
    Calls Try.prog 31 #[.pointer (some ⟨g, 0, none⟩), .string (str S)] w (HeadQ w g M fi nx sz nd op ra rz rd cnt la en (headC S)) := by
  have H := Lib.hid h
  have HK := Lib.hid (KeepB.refl (fun k => k = g) w)
  have HB0 := Lib.hid (fun W => getB9 S 0 4 0 4 rfl rfl (by decide) (by omega) (by omega) W)
  have hmg := mag9 (S := S) (by omega)
  clear h
  obtain ⟨R, hR⟩ : ∃ R, R = headC S := ⟨_, rfl⟩
  rw [← hR]
  by_cases hm : numC true S 0 4 = 2712847316
  · have HR : R = if hdOk S true = true then some ⟨24, true, 0, 0⟩ else none := by rw [hR]; unfold headC magC; rw [if_pos hm]
    obtain ⟨sg, hsg⟩ : ∃ x, x = numC true S 0 4 := ⟨_, rfl⟩
    have e0 : ((sg : Int) != 2712847316) = false := by rw [bne_eq_false_iff_eq]; omega
    rw [← hsg] at HB0
    have H4 := Lib.hid (fun W => getB9 S 4 2 4 2 rfl rfl (by decide) (by omega) (by omega) W)
    have H6 := Lib.hid (fun W => getB9 S 6 2 6 2 rfl rfl (by decide) (by omega) (by omega) W)
    have H20 := Lib.hid (fun W => getB9 S 20 4 20 4 rfl rfl (by decide) (by omega) (by omega) W)
    unfold hdOk at HR
    obtain ⟨mj, hmj⟩ : ∃ x, x = numC true S 4 2 := ⟨_, rfl⟩
    obtain ⟨mn, hmn⟩ : ∃ x, x = numC true S 6 2 := ⟨_, rfl⟩
    obtain ⟨lk, hlk⟩ : ∃ x, x = numC true S 20 4 := ⟨_, rfl⟩
    rw [← hmj, ← hmn, ← hlk] at HR
    rw [← hmj] at H4
    rw [← hmn] at H6
    rw [← hlk] at H20
    clear hmj hmn hlk hm hmg hR hs hsg
    generalize str S = T at *
    have HRH := Lib.hid HR
    clear HR
    go_enter Try.func31, Try.ntmps31
    go_wp2_with fail
    refine (HB0.out _).mono ?_
    rintro e w1 ⟨rfl, hb⟩
    have HK1 := Lib.hid (HK.out.step hb)
    have HP1 := Lib.hid (H.out.step hb)
    clear hb
    go_wp2_with fail
    refine (HB0.out _).mono ?_
    rintro e w2 ⟨rfl, hb⟩
    have HK2 := Lib.hid (HK1.out.step hb)
    have HP2 := Lib.hid (HP1.out.step hb)
    clear hb
    go_wp2_with fail
    refine (H4.out _).mono ?_
    rintro e w3 ⟨rfl, hb⟩
    have HK3 := Lib.hid (HK2.out.step hb)
    have HP3 := Lib.hid (HP2.out.step hb)
    clear hb
    go_wp2_with fail
    refine (H6.out _).mono ?_
    rintro e w4 ⟨rfl, hb⟩
    have HK4 := Lib.hid (HK3.out.step hb)
    have HP4 := Lib.hid (HP3.out.step hb)
    clear hb
    go_wp2_with fail
    refine (H20.out _).mono ?_
    rintro e w5 ⟨rfl, hb⟩
    have HK5 := Lib.hid (HK4.out.step hb)
    have HP5 := Lib.hid (HP4.out.step hb)
    clear hb
    by_cases d4 : mj = 2
    · have xd4 : ((mj : Int) != 2) = false := by rw [bne_eq_false_iff_eq]; omega
      by_cases d6 : mn = 4
      · have xd6 : ((mn : Int) != 4) = false := by rw [bne_eq_false_iff_eq]; omega
        by_cases d20 : lk = 1
        · have xd20 : ((lk : Int) != 1) = false := by rw [bne_eq_false_iff_eq]; omega
          have HR2 : R = some ⟨24, true, 0, 0⟩ := by rw [HRH.out, d4, d6, d20]; rfl
          clear HRH d4 d6 d20
          subst HR2
          have c5 := HP5.out.c5
          have c4 := HP5.out.c4
          have f5 := HP5.out.f 5
          have f4 := HP5.out.f 4
          have hgl := HP5.out.lt
          go_wp2_with fail
          go_ret
          exact ⟨rfl, (HP5.out.setGv _).setNd 16, (HK5.out.setCell rfl 5 _).setCell rfl 4 _⟩
        · have xd20 : ((lk : Int) != 1) = true := by rw [bne_iff_ne]; omega
          have HR2 : R = none := by rw [HRH.out]; simp [d20]
          clear HRH d4 d6 d20
          subst HR2
          go_wp2_with fail
          go_ret
          exact ⟨rfl, HP5.out, HK5.out⟩
      · have xd6 : ((mn : Int) != 4) = true := by rw [bne_iff_ne]; omega
        have HR2 : R = none := by rw [HRH.out]; simp [d6]
        clear HRH d4 d6
        subst HR2
        go_wp2_with fail
        go_ret
        exact ⟨rfl, HP5.out, HK5.out⟩
    · have xd4 : ((mj : Int) != 2) = true := by rw [bne_iff_ne]; omega
      have HR2 : R = none := by rw [HRH.out]; simp [d4]
      clear HRH d4
      subst HR2
      go_wp2_with fail
      go_ret
      exact ⟨rfl, HP5.out, HK5.out⟩
  · have e9 : ((numC true S 0 4 : Int) != 2712847316) = true := by rw [bne_iff_ne]; omega
    by_cases hl : numC true S 0 4 = 3569595041
    · have HR : R = if hdOk S false = true then some ⟨24, false, 0, 0⟩ else none := by rw [hR]; unfold headC magC; rw [if_neg hm, if_pos hl]
      obtain ⟨m0, hm0⟩ : ∃ x, x = numC true S 0 4 := ⟨_, rfl⟩
      obtain ⟨sg, hsg⟩ : ∃ x, x = numC false S 0 4 := ⟨_, rfl⟩
      have e0 : ((m0 : Int) != 2712847316) = true := by rw [hm0]; exact e9
      have e1 : ((sg : Int) != 2712847316) = false := by rw [bne_eq_false_iff_eq]; have := hmg.2 hl; omega
      rw [← hm0] at HB0
      have HS0 := Lib.hid (fun W => getL9 S 0 4 0 4 rfl rfl (by decide) (by omega) (by omega) W)
      rw [← hsg] at HS0
      have H4 := Lib.hid (fun W => getL9 S 4 2 4 2 rfl rfl (by decide) (by omega) (by omega) W)
      have H6 := Lib.hid (fun W => getL9 S 6 2 6 2 rfl rfl (by decide) (by omega) (by omega) W)
      have H20 := Lib.hid (fun W => getL9 S 20 4 20 4 rfl rfl (by decide) (by omega) (by omega) W)
      unfold hdOk at HR
      obtain ⟨mj, hmj⟩ : ∃ x, x = numC false S 4 2 := ⟨_, rfl⟩
      obtain ⟨mn, hmn⟩ : ∃ x, x = numC false S 6 2 := ⟨_, rfl⟩
      obtain ⟨lk, hlk⟩ : ∃ x, x = numC false S 20 4 := ⟨_, rfl⟩
      rw [← hmj, ← hmn, ← hlk] at HR
      rw [← hmj] at H4
      rw [← hmn] at H6
      rw [← hlk] at H20
      clear hmj hmn hlk hm hmg hR hs hl hsg hm0 e9
      generalize str S = T at *
      have HRH := Lib.hid HR
      clear HR
      go_enter Try.func31, Try.ntmps31
      go_wp2_with fail
      refine (HB0.out _).mono ?_
      rintro e w1 ⟨rfl, hb⟩
      have HK1 := Lib.hid (HK.out.step hb)
      have HP1 := Lib.hid (H.out.step hb)
      clear hb
      go_wp2_with fail
      refine (HS0.out _).mono ?_
      rintro e w2 ⟨rfl, hb⟩
      have HK2 := Lib.hid (HK1.out.step hb)
      have HP2 := Lib.hid (HP1.out.step hb)
      clear hb
      go_wp2_with fail
      refine (H4.out _).mono ?_
      rintro e w3 ⟨rfl, hb⟩
      have HK3 := Lib.hid (HK2.out.step hb)
      have HP3 := Lib.hid (HP2.out.step hb)
      clear hb
      go_wp2_with fail
      refine (H6.out _).mono ?_
      rintro e w4 ⟨rfl, hb⟩
      have HK4 := Lib.hid (HK3.out.step hb)
      have HP4 := Lib.hid (HP3.out.step hb)
      clear hb
      go_wp2_with fail
      refine (H20.out _).mono ?_
      rintro e w5 ⟨rfl, hb⟩
      have HK5 := Lib.hid (HK4.out.step hb)
      have HP5 := Lib.hid (HP4.out.step hb)
      clear hb
      by_cases d4 : mj = 2
      · have xd4 : ((mj : Int) != 2) = false := by rw [bne_eq_false_iff_eq]; omega
        by_cases d6 : mn = 4
        · have xd6 : ((mn : Int) != 4) = false := by rw [bne_eq_false_iff_eq]; omega
          by_cases d20 : lk = 1
          · have xd20 : ((lk : Int) != 1) = false := by rw [bne_eq_false_iff_eq]; omega
            have HR2 : R = some ⟨24, false, 0, 0⟩ := by rw [HRH.out, d4, d6, d20]; rfl
            clear HRH d4 d6 d20
            subst HR2
            have c5 := HP5.out.c5
            have c4 := HP5.out.c4
            have f5 := HP5.out.f 5
            have f4 := HP5.out.f 4
            have hgl := HP5.out.lt
            go_wp2_with fail
            go_ret
            exact ⟨rfl, (HP5.out.setGv _).setNd 16, (HK5.out.setCell rfl 5 _).setCell rfl 4 _⟩
          · have xd20 : ((lk : Int) != 1) = true := by rw [bne_iff_ne]; omega
            have HR2 : R = none := by rw [HRH.out]; simp [d20]
            clear HRH d4 d6 d20
            subst HR2
            go_wp2_with fail
            go_ret
            exact ⟨rfl, HP5.out, HK5.out⟩
        · have xd6 : ((mn : Int) != 4) = true := by rw [bne_iff_ne]; omega
          have HR2 : R = none := by rw [HRH.out]; simp [d6]
          clear HRH d4 d6
          subst HR2
          go_wp2_with fail
          go_ret
          exact ⟨rfl, HP5.out, HK5.out⟩
      · have xd4 : ((mj : Int) != 2) = true := by rw [bne_iff_ne]; omega
        have HR2 : R = none := by rw [HRH.out]; simp [d4]
        clear HRH d4
        subst HR2
        go_wp2_with fail
        go_ret
        exact ⟨rfl, HP5.out, HK5.out⟩
    · have HR : R = none := by rw [hR]; unfold headC magC; rw [if_neg hm, if_neg hl]
      have HS0 := Lib.hid (fun W => getL9 S 0 4 0 4 rfl rfl (by decide) (by omega) (by omega) W)
      have H4 := Lib.hid (fun W => getL9 S 4 2 4 2 rfl rfl (by decide) (by omega) (by omega) W)
      have H6 := Lib.hid (fun W => getL9 S 6 2 6 2 rfl rfl (by decide) (by omega) (by omega) W)
      have H20 := Lib.hid (fun W => getL9 S 20 4 20 4 rfl rfl (by decide) (by omega) (by omega) W)
      obtain ⟨sg, hsg⟩ : ∃ x, x = numC false S 0 4 := ⟨_, rfl⟩
      have xsg : ((sg : Int) != 2712847316) = true := by rw [bne_iff_ne]; have : ¬ numC false S 0 4 = 2712847316 := fun e => hl (hmg.1 e); omega
      obtain ⟨m0, hm0⟩ : ∃ x, x = numC true S 0 4 := ⟨_, rfl⟩
      rw [← hm0] at e9 HB0
      rw [← hsg] at HS0
      generalize numC false S 4 2 = mj at *
      generalize numC false S 6 2 = mn at *
      generalize numC false S 20 4 = lk at *
      subst HR
      clear hR hm hl hmg hs hsg hm0
      generalize str S = T at *
      go_enter Try.func31, Try.ntmps31
      go_wp2_with fail
      refine (HB0.out _).mono ?_
      rintro e w1 ⟨rfl, hb⟩
      have HK1 := Lib.hid (HK.out.step hb)
      have HP1 := Lib.hid (H.out.step hb)
      clear hb
      go_wp2_with fail
      refine (HS0.out _).mono ?_
      rintro e w2 ⟨rfl, hb⟩
      have HK2 := Lib.hid (HK1.out.step hb)
      have HP2 := Lib.hid (HP1.out.step hb)
      clear hb
      go_wp2_with fail
      refine (H4.out _).mono ?_
      rintro e w3 ⟨rfl, hb⟩
      have HK3 := Lib.hid (HK2.out.step hb)
      have HP3 := Lib.hid (HP2.out.step hb)
      clear hb
      go_wp2_with fail
      refine (H6.out _).mono ?_
      rintro e w4 ⟨rfl, hb⟩
      have HK4 := Lib.hid (HK3.out.step hb)
      have HP4 := Lib.hid (HP3.out.step hb)
      clear hb
      go_wp2_with fail
      refine (H20.out _).mono ?_
      rintro e w5 ⟨rfl, hb⟩
      have HK5 := Lib.hid (HK4.out.step hb)
      have HP5 := Lib.hid (HP4.out.step hb)
      clear hb
      go_wp2_with fail
      go_ret
      exact ⟨rfl, HP5.out, HK5.out⟩
end Go.Proofs.Ytnckcdngmffahaa

/- Contract of the program of layer 9: begin. -/
namespace Go.Proofs.Ytnckcdngmffahaa
open Go.ChangeShapes Go.WideShapes Go.ChangeAt Go.RowKit
set_option linter.unusedVariables false

/-- What is wrong with a record's header, read by itself. -/
def chkP (S : List UInt8) (big : Bool) (cnt la : Nat) : Nat :=
  if 999999 < numC big S 4 4 then 2 else if cnt = 2000 ∨ 4096 < numC big S 8 4 ∨ numC big S 12 4 < numC big S 8 4 then 3 else if numC big S 0 4 * 1000 + numC big S 4 4 / 1000 < la then 12 else 0
/-- What begin leaves, by the error's code. -/
def BegQ (w : World) (g : Nat) (M : Option Nat) (fi nx sz nd : Nat) (gv : Value) (ra rz : Int) (rd : ByteArray) (cnt la : Nat) (en : Bool) (tm ca si : Nat) : Nat → Ending → World → Prop
  | 0, e, w' => e = .returned (.int .i64 0) ∧ PRc w' g M fi nx sz ca gv true (tm : Int) (si : Int) ⟨#[]⟩ cnt la en ∧ KeepB (fun k => k = g) w w'
  | er + 1, e, w' => e = .returned (.int .i64 ((er + 1 : Nat) : Int)) ∧ PRc w' g M fi nx sz nd gv false ra rz rd cnt la en ∧ KeepB (fun k => k = g) w w'
set_option maxHeartbeats 8000000 in
set_option maxRecDepth 20000 in
theorem pbeg9_any (g : Nat) (M : Option Nat) (fi nx sz nd : Nat) (big : Bool) (ra rz : Int) (rd : ByteArray) (cnt la : Nat) (en : Bool) (S : List UInt8) (w : World)
    (h : PRc w g M fi nx sz nd (gvF big) false ra rz rd cnt la en) (hs : S.length = 16) (hc : cnt ≤ 2000) :
    Calls Try.prog 32 #[.pointer (some ⟨g, 0, none⟩), .string (str S)] w (BegQ w g M fi nx sz nd (gvF big) ra rz rd cnt la en (numC big S 0 4 * 1000 + numC big S 4 4 / 1000) (numC big S 8 4) (numC big S 12 4) (chkP S big cnt la)) := by
  unfold chkP
  have b0 := num4_lt big S 0
  have b4 := num4_lt big S 4
  have b8 := num4_lt big S 8
  have b12 := num4_lt big S 12
  have H := Lib.hid h
  have HK := Lib.hid (KeepB.refl (fun k => k = g) w)
  clear h
  cases big with
  | true =>
    have H0 := Lib.hid (fun W => getB9 S 0 4 0 4 rfl rfl (by decide) (by omega) (by omega) W)
    have H4 := Lib.hid (fun W => getB9 S 4 4 4 4 rfl rfl (by decide) (by omega) (by omega) W)
    have H8 := Lib.hid (fun W => getB9 S 8 4 8 4 rfl rfl (by decide) (by omega) (by omega) W)
    have H12 := Lib.hid (fun W => getB9 S 12 4 12 4 rfl rfl (by decide) (by omega) (by omega) W)
    generalize numC true S 0 4 = se at *
    generalize numC true S 4 4 = mi at *
    generalize numC true S 8 4 = ca at *
    generalize numC true S 12 4 = si at *
    clear hs
    generalize str S = T at *
    obtain ⟨tm, htm⟩ : ∃ tm, tm = se * 1000 + mi / 1000 := ⟨_, rfl⟩
    rw [← htm]
    have ktm : (se : Int) * 1000 + (mi : Int) / 1000 = (tm : Int) := by omega
    obtain ⟨R, hR⟩ : ∃ R, R = (if 999999 < mi then 2 else if cnt = 2000 ∨ 4096 < ca ∨ si < ca then 3 else if tm < la then 12 else 0) := ⟨_, rfl⟩
    rw [← hR]
    have HRR := Lib.hid hR
    have htb : tm < 5000000000000 := by omega
    clear hR htm
    have c5 := H.out.c5
    unfold gvF at c5
    simp only [if_true] at c5
    go_enter Try.func32, Try.ntmps32
    go_wp2_with fail
    refine (H0.out _).mono ?_
    rintro e w1 ⟨rfl, hb⟩
    have HK1 := Lib.hid (HK.out.step hb)
    have HP1 := Lib.hid (H.out.step hb)
    clear hb c5
    have c5 := HP1.out.c5
    unfold gvF at c5
    simp only [if_true] at c5
    go_wp2_with fail
    refine (H4.out _).mono ?_
    rintro e w2 ⟨rfl, hb⟩
    have HK2 := Lib.hid (HK1.out.step hb)
    have HP2 := Lib.hid (HP1.out.step hb)
    clear hb c5
    have c5 := HP2.out.c5
    unfold gvF at c5
    simp only [if_true] at c5
    go_wp2_with fail
    refine (H8.out _).mono ?_
    rintro e w3 ⟨rfl, hb⟩
    have HK3 := Lib.hid (HK2.out.step hb)
    have HP3 := Lib.hid (HP2.out.step hb)
    clear hb c5
    have c5 := HP3.out.c5
    unfold gvF at c5
    simp only [if_true] at c5
    go_wp2_with fail
    refine (H12.out _).mono ?_
    rintro e w4 ⟨rfl, hb⟩
    have HK4 := Lib.hid (HK3.out.step hb)
    have HP4 := Lib.hid (HP3.out.step hb)
    clear hb c5
    clear H0 H4 H8 H12 H HK HP1 HP2 HP3 HK1 HK2 HK3
    have c10 := HP4.out.c10
    have c11 := HP4.out.c11
    by_cases h1 : 999999 < mi
    · have hR2 := Lib.hid (show R = 1 + 1 by rw [HRR.out, if_pos h1])
      have d1 : decide ((999999 : Int) < (mi : Int)) = true := by simp; omega
      have n1 : (999999 : Int) < (mi : Int) := by omega
      clear HRR
      go_wp2_with fail
      go_ret
      rw [hR2.out]
      exact ⟨rfl, HP4.out, HK4.out⟩
    have d1 : decide ((999999 : Int) < (mi : Int)) = false := by simp; omega
    have n1 : ¬ (999999 : Int) < (mi : Int) := by omega
    have HR3 := Lib.hid (show R = if cnt = 2000 ∨ 4096 < ca ∨ si < ca then 3 else if tm < la then 12 else 0 by rw [HRR.out, if_neg h1])
    clear HRR h1
    by_cases h2 : cnt = 2000
    · have hR2 := Lib.hid (show R = 2 + 1 by rw [HR3.out, if_pos (Or.inl h2)])
      have d2 : ((cnt : Int) == 2000) = true := by simp; omega
      clear HR3 h2 hc
      go_wp2_with fail
      go_ret
      rw [hR2.out]
      exact ⟨rfl, HP4.out, HK4.out⟩
    have d2 : ((cnt : Int) == 2000) = false := by simp; omega
    by_cases h3 : 4096 < ca
    · have hR2 := Lib.hid (show R = 2 + 1 by rw [HR3.out, if_pos (Or.inr (Or.inl h3))])
      have d3 : decide ((4096 : Int) < (ca : Int)) = true := by simp; omega
      have n3 : (4096 : Int) < (ca : Int) := by omega
      clear HR3 h2
      go_wp2_with fail
      go_ret
      rw [hR2.out]
      exact ⟨rfl, HP4.out, HK4.out⟩
    have d3 : decide ((4096 : Int) < (ca : Int)) = false := by simp; omega
    have n3 : ¬ (4096 : Int) < (ca : Int) := by omega
    by_cases h4 : si < ca
    · have hR2 := Lib.hid (show R = 2 + 1 by rw [HR3.out, if_pos (Or.inr (Or.inr h4))])
      have d4 : decide ((si : Int) < (ca : Int)) = true := by simp; omega
      have n4 : (si : Int) < (ca : Int) := by omega
      clear HR3 h2
      go_wp2_with fail
      go_ret
      rw [hR2.out]
      exact ⟨rfl, HP4.out, HK4.out⟩
    have d4 : decide ((si : Int) < (ca : Int)) = false := by simp; omega
    have n4 : ¬ (si : Int) < (ca : Int) := by omega
    have HR4 := Lib.hid (show R = if tm < la then 12 else 0 by rw [HR3.out, if_neg (by omega)])
    clear HR3 h2
    by_cases h5 : tm < la
    · have hR2 := Lib.hid (show R = 11 + 1 by rw [HR4.out, if_pos h5])
      have d5 : decide ((tm : Int) < (la : Int)) = true := by simp; omega
      have n5 : (tm : Int) < (la : Int) := by omega
      clear HR4
      go_wp2_with fail
      go_ret
      rw [hR2.out]
      exact ⟨rfl, HP4.out, HK4.out⟩
    have d5 : decide ((tm : Int) < (la : Int)) = false := by simp; omega
    have n5 : ¬ (tm : Int) < (la : Int) := by omega
    have hR2 := Lib.hid (show R = 0 by rw [HR4.out, if_neg h5])
    clear HR4
    have c4 := HP4.out.c4
    have f4 := HP4.out.f 4
    have c6 := HP4.out.c6
    have f6 := HP4.out.f 6
    have c7 := HP4.out.c7
    have f7 := HP4.out.f 7
    have c8 := HP4.out.c8
    have f8 := HP4.out.f 8
    have c9 := HP4.out.c9
    have f9 := HP4.out.f 9
    have hgl := HP4.out.lt
    go_wp2_with fail
    go_ret
    rw [hR2.out]
    exact ⟨rfl, ((((HP4.out.setRa (tm : Int)).setRz (si : Int)).setRd ⟨#[]⟩).setOp true).setNd ca, ((((HK4.out.setCell rfl 7 _).setCell rfl 8 _).setCell rfl 9 _).setCell rfl 6 _).setCell rfl 4 _⟩
  | false =>
    have H0 := Lib.hid (fun W => getL9 S 0 4 0 4 rfl rfl (by decide) (by omega) (by omega) W)
    have H4 := Lib.hid (fun W => getL9 S 4 4 4 4 rfl rfl (by decide) (by omega) (by omega) W)
    have H8 := Lib.hid (fun W => getL9 S 8 4 8 4 rfl rfl (by decide) (by omega) (by omega) W)
    have H12 := Lib.hid (fun W => getL9 S 12 4 12 4 rfl rfl (by decide) (by omega) (by omega) W)
    generalize numC false S 0 4 = se at *
    generalize numC false S 4 4 = mi at *
    generalize numC false S 8 4 = ca at *
    generalize numC false S 12 4 = si at *
    clear hs
    generalize str S = T at *
    obtain ⟨tm, htm⟩ : ∃ tm, tm = se * 1000 + mi / 1000 := ⟨_, rfl⟩
    rw [← htm]
    have ktm : (se : Int) * 1000 + (mi : Int) / 1000 = (tm : Int) := by omega
    obtain ⟨R, hR⟩ : ∃ R, R = (if 999999 < mi then 2 else if cnt = 2000 ∨ 4096 < ca ∨ si < ca then 3 else if tm < la then 12 else 0) := ⟨_, rfl⟩
    rw [← hR]
    have HRR := Lib.hid hR
    have htb : tm < 5000000000000 := by omega
    clear hR htm
    have c5 := H.out.c5
    unfold gvF at c5
    simp only [Bool.false_eq_true, if_false] at c5
    go_enter Try.func32, Try.ntmps32
    go_wp2_with fail
    refine (H0.out _).mono ?_
    rintro e w1 ⟨rfl, hb⟩
    have HK1 := Lib.hid (HK.out.step hb)
    have HP1 := Lib.hid (H.out.step hb)
    clear hb c5
    have c5 := HP1.out.c5
    unfold gvF at c5
    simp only [Bool.false_eq_true, if_false] at c5
    go_wp2_with fail
    refine (H4.out _).mono ?_
    rintro e w2 ⟨rfl, hb⟩
    have HK2 := Lib.hid (HK1.out.step hb)
    have HP2 := Lib.hid (HP1.out.step hb)
    clear hb c5
    have c5 := HP2.out.c5
    unfold gvF at c5
    simp only [Bool.false_eq_true, if_false] at c5
    go_wp2_with fail
    refine (H8.out _).mono ?_
    rintro e w3 ⟨rfl, hb⟩
    have HK3 := Lib.hid (HK2.out.step hb)
    have HP3 := Lib.hid (HP2.out.step hb)
    clear hb c5
    have c5 := HP3.out.c5
    unfold gvF at c5
    simp only [Bool.false_eq_true, if_false] at c5
    go_wp2_with fail
    refine (H12.out _).mono ?_
    rintro e w4 ⟨rfl, hb⟩
    have HK4 := Lib.hid (HK3.out.step hb)
    have HP4 := Lib.hid (HP3.out.step hb)
    clear hb c5
    clear H0 H4 H8 H12 H HK HP1 HP2 HP3 HK1 HK2 HK3
    have c10 := HP4.out.c10
    have c11 := HP4.out.c11
    by_cases h1 : 999999 < mi
    · have hR2 := Lib.hid (show R = 1 + 1 by rw [HRR.out, if_pos h1])
      have d1 : decide ((999999 : Int) < (mi : Int)) = true := by simp; omega
      have n1 : (999999 : Int) < (mi : Int) := by omega
      clear HRR
      go_wp2_with fail
      go_ret
      rw [hR2.out]
      exact ⟨rfl, HP4.out, HK4.out⟩
    have d1 : decide ((999999 : Int) < (mi : Int)) = false := by simp; omega
    have n1 : ¬ (999999 : Int) < (mi : Int) := by omega
    have HR3 := Lib.hid (show R = if cnt = 2000 ∨ 4096 < ca ∨ si < ca then 3 else if tm < la then 12 else 0 by rw [HRR.out, if_neg h1])
    clear HRR h1
    by_cases h2 : cnt = 2000
    · have hR2 := Lib.hid (show R = 2 + 1 by rw [HR3.out, if_pos (Or.inl h2)])
      have d2 : ((cnt : Int) == 2000) = true := by simp; omega
      clear HR3 h2 hc
      go_wp2_with fail
      go_ret
      rw [hR2.out]
      exact ⟨rfl, HP4.out, HK4.out⟩
    have d2 : ((cnt : Int) == 2000) = false := by simp; omega
    by_cases h3 : 4096 < ca
    · have hR2 := Lib.hid (show R = 2 + 1 by rw [HR3.out, if_pos (Or.inr (Or.inl h3))])
      have d3 : decide ((4096 : Int) < (ca : Int)) = true := by simp; omega
      have n3 : (4096 : Int) < (ca : Int) := by omega
      clear HR3 h2
      go_wp2_with fail
      go_ret
      rw [hR2.out]
      exact ⟨rfl, HP4.out, HK4.out⟩
    have d3 : decide ((4096 : Int) < (ca : Int)) = false := by simp; omega
    have n3 : ¬ (4096 : Int) < (ca : Int) := by omega
    by_cases h4 : si < ca
    · have hR2 := Lib.hid (show R = 2 + 1 by rw [HR3.out, if_pos (Or.inr (Or.inr h4))])
      have d4 : decide ((si : Int) < (ca : Int)) = true := by simp; omega
      have n4 : (si : Int) < (ca : Int) := by omega
      clear HR3 h2
      go_wp2_with fail
      go_ret
      rw [hR2.out]
      exact ⟨rfl, HP4.out, HK4.out⟩
    have d4 : decide ((si : Int) < (ca : Int)) = false := by simp; omega
    have n4 : ¬ (si : Int) < (ca : Int) := by omega
    have HR4 := Lib.hid (show R = if tm < la then 12 else 0 by rw [HR3.out, if_neg (by omega)])
    clear HR3 h2
    by_cases h5 : tm < la
    · have hR2 := Lib.hid (show R = 11 + 1 by rw [HR4.out, if_pos h5])
      have d5 : decide ((tm : Int) < (la : Int)) = true := by simp; omega
      have n5 : (tm : Int) < (la : Int) := by omega
      clear HR4
      go_wp2_with fail
      go_ret
      rw [hR2.out]
      exact ⟨rfl, HP4.out, HK4.out⟩
    have d5 : decide ((tm : Int) < (la : Int)) = false := by simp; omega
    have n5 : ¬ (tm : Int) < (la : Int) := by omega
    have hR2 := Lib.hid (show R = 0 by rw [HR4.out, if_neg h5])
    clear HR4
    have c4 := HP4.out.c4
    have f4 := HP4.out.f 4
    have c6 := HP4.out.c6
    have f6 := HP4.out.f 6
    have c7 := HP4.out.c7
    have f7 := HP4.out.f 7
    have c8 := HP4.out.c8
    have f8 := HP4.out.f 8
    have c9 := HP4.out.c9
    have f9 := HP4.out.f 9
    have hgl := HP4.out.lt
    go_wp2_with fail
    go_ret
    rw [hR2.out]
    exact ⟨rfl, ((((HP4.out.setRa (tm : Int)).setRz (si : Int)).setRd ⟨#[]⟩).setOp true).setNd ca, ((((HK4.out.setCell rfl 7 _).setCell rfl 8 _).setCell rfl 9 _).setCell rfl 6 _).setCell rfl 4 _⟩
end Go.Proofs.Ytnckcdngmffahaa

/- Contract of the program of layer 9: complete. -/
namespace Go.Proofs.Ytnckcdngmffahaa
open Go.ChangeShapes Go.WideShapes Go.ChangeAt Go.RowKit
set_option linter.unusedVariables false

theorem recTy9 : BoxTy 33 3 := ⟨⟨_, Try.underlying33⟩, by kernel_rfl⟩
set_option maxHeartbeats 4000000 in
set_option maxRecDepth 20000 in
theorem pcomp9_any (g : Nat) (M : Option Nat) (fi nx sz nd : Nat) (gv : Value) (op : Bool) (tm : Nat) (rz : Int) (rd : ByteArray) (cnt la : Nat) (en : Bool) (T : ByteArray) (w : World)
    (h : PRc w g M fi nx sz nd gv op (tm : Int) rz rd cnt la en) (hc : cnt ≤ 2000) :
    Calls Try.prog 33 #[.pointer (some ⟨g, 0, none⟩), .string T] w fun e w' => e = .returned (.agg #[.int .i64 (tm : Int), .int .i64 rz, .string T]) ∧ PRc w' g M fi nx sz 16 gv false (tm : Int) rz rd (cnt + 1) tm en ∧ KeepB (fun k => k = g) w w' := by
  have H := Lib.hid h
  have HK := Lib.hid (KeepB.refl (fun k => k = g) w)
  have c7 := h.c7
  have c8 := h.c8
  have c9 := h.c9
  have c10 := h.c10
  have c11 := h.c11
  have c6 := h.c6
  have c4 := h.c4
  have f10 := h.f 10
  have f11 := h.f 11
  have f6 := h.f 6
  have f4 := h.f 4
  have hgl := h.lt
  clear h
  go_enter Try.func33, Try.ntmps33
  go_wp2_with fail
  obtain ⟨X, hX⟩ : ∃ X, X = (((w.setCell ⟨g, 10, none⟩ (.int .i64 ((cnt : Int) + 1))).setCell ⟨g, 11, none⟩ (.int .i64 (tm : Int))).setCell ⟨g, 6, none⟩ (.bool false)).setCell ⟨g, 4, none⟩ (.int .i64 16) := ⟨_, rfl⟩
  rw [← hX]
  have hs : X.heap.size = w.heap.size := by rw [hX, size_set, size_set, size_set, size_set]
  have hP : PRc X g M fi nx sz 16 gv false (tm : Int) rz rd (cnt + 1) tm en := by rw [hX]; exact (((H.out.setCnt (cnt + 1)).setLa tm).setOp false).setNd 16
  have hKX : KeepB (fun k => k = g) w X := by rw [hX]; exact (((HK.out.setCell rfl 10 _).setCell rfl 11 _).setCell rfl 6 _).setCell rfl 4 _
  refine bodyPost_ret (res_box1 (g := w.heap.size) (cs := #[.int .i64 (tm : Int), .int .i64 rz, .string T]) recTy9 rfl _ _ rfl (by rw [← hs]; exact alloc2_0 X _ _)) rfl ?_
  exact ⟨rfl, hP.step (alloc2_below X _ _), hKX.step (alloc2_below X _ _)⟩
end Go.Proofs.Ytnckcdngmffahaa

/- Contracts of the program of layer 9: the step of Feed, a closure. -/
namespace Go.Proofs.Ytnckcdngmffahaa
open Go.ChangeShapes Go.WideShapes Go.ChangeAt Go.RowKit
set_option linter.unusedVariables false

theorem funNil9 (w : World) : (binOp BinOp.eql 49 .nilFunc .nilFunc).run Try.prog w = .ok (.bool true) w := by kernel_rfl
theorem funSome9 (f : Nat) (w : World) : (binOp BinOp.eql 49 (.func (.func f) #[] #[]) .nilFunc).run Try.prog w = .ok (.bool false) w := by kernel_rfl
theorem gvF_is (b : Bool) : ∃ f : Nat, gvF b = .func (.func f) #[] #[] := ⟨_, rfl⟩
set_option maxRecDepth 20000 in
theorem step_head (g bR bL : Nat) (M : Option Nat) (fi nx sz nd : Nat) (op : Bool) (ra rz : Int) (rd : ByteArray) (cnt la : Nat) (en : Bool) (S : List UInt8) (w : World)
    (h : PRc w g M fi nx sz nd .nilFunc op ra rz rd cnt la en) (hR : Cells w bR 37 #[.pointer (some ⟨g, 0, none⟩)]) (hs : S.length = 24) :
    Calls Try.prog 30 #[.string (str S), .pointer (some ⟨bR, 0, none⟩), .pointer (some ⟨bL, 0, none⟩)] w (HeadQ w g M fi nx sz nd op ra rz rd cnt la en (headC S)) := by
  have HC := Lib.hid (phead9_any g M fi nx sz nd op ra rz rd cnt la en S w h hs)
  have c5 := h.c5
  have r0 := (Cells.cell hR 0).trans (show _ = some (Value.pointer (some ⟨g, 0, none⟩)) from rfl)
  have hn := funNil9
  clear h hR hs
  generalize headC S = R at *
  generalize str S = T at *
  go_enter Try.func30, Try.ntmps30
  go_wp2_with fail
  cases R with
  | none =>
    refine HC.out.mono ?_
    rintro e w1 ⟨rfl, h1, h2⟩
    have H1 := Lib.hid h1
    have H2 := Lib.hid h2
    clear h1 h2 HC c5 r0 hn
    go_wp2_with fail
    go_ret
    exact ⟨rfl, H1.out, H2.out⟩
  | some q =>
    refine HC.out.mono ?_
    rintro e w1 ⟨rfl, h1, h2⟩
    have H1 := Lib.hid h1
    have H2 := Lib.hid h2
    clear h1 h2 HC c5 r0 hn
    go_wp2_with fail
    go_ret
    exact ⟨rfl, H1.out, H2.out⟩
set_option maxRecDepth 20000 in
theorem step_begin (g bR bL : Nat) (M : Option Nat) (fi nx sz nd : Nat) (big : Bool) (ra rz : Int) (rd : ByteArray) (cnt la : Nat) (en : Bool) (S : List UInt8) (w : World)
    (h : PRc w g M fi nx sz nd (gvF big) false ra rz rd cnt la en) (hR : Cells w bR 37 #[.pointer (some ⟨g, 0, none⟩)]) (hs : S.length = 16) (hc : cnt ≤ 2000) :
    Calls Try.prog 30 #[.string (str S), .pointer (some ⟨bR, 0, none⟩), .pointer (some ⟨bL, 0, none⟩)] w (BegQ w g M fi nx sz nd (gvF big) ra rz rd cnt la en (numC big S 0 4 * 1000 + numC big S 4 4 / 1000) (numC big S 8 4) (numC big S 12 4) (chkP S big cnt la)) := by
  have HC := Lib.hid (pbeg9_any g M fi nx sz nd big ra rz rd cnt la en S w h hs hc)
  have c5 := h.c5
  have c6 := h.c6
  have r0 := (Cells.cell hR 0).trans (show _ = some (Value.pointer (some ⟨g, 0, none⟩)) from rfl)
  obtain ⟨f, hf⟩ := gvF_is big
  rw [hf] at HC c5 ⊢
  have hn := funSome9 f
  clear h hR hs hf
  generalize numC big S 0 4 * 1000 + numC big S 4 4 / 1000 = tm at *
  generalize numC big S 8 4 = ca at *
  generalize numC big S 12 4 = si at *
  generalize chkP S big cnt la = R at *
  generalize str S = T at *
  go_enter Try.func30, Try.ntmps30
  go_wp2_with fail
  cases R with
  | zero =>
    refine HC.out.mono ?_
    rintro e w1 ⟨rfl, h1, h2⟩
    have H1 := Lib.hid h1
    have H2 := Lib.hid h2
    clear h1 h2 HC c5 c6 r0 hn
    go_wp2_with fail
    go_ret
    exact ⟨rfl, H1.out, H2.out⟩
  | succ er =>
    refine HC.out.mono ?_
    rintro e w1 ⟨rfl, h1, h2⟩
    have H1 := Lib.hid h1
    have H2 := Lib.hid h2
    clear h1 h2 HC c5 c6 r0 hn
    go_wp2_with fail
    go_ret
    exact ⟨rfl, H1.out, H2.out⟩
/-- What the step leaves when a record is complete. -/
def CompQ (w : World) (g bL base : Nat) (M : Option Nat) (fi nx sz : Nat) (gv : Value) (tm : Nat) (rz : Int) (rd : ByteArray) (cnt : Nat) (en : Bool) (out : List CRec) (x : CRec) (n : Nat) (e : Ending) (w' : World) : Prop :=
  ∃ A cap, e = .returned (.int .i64 0) ∧ PRc w' g M fi nx sz 16 gv false (tm : Int) rz rd (cnt + 1) tm en ∧ Cells w' bL 23 #[.slice A (n + 1) cap] ∧ w'.ownsRow base 33 3 (.slice A (n + 1) cap) (n + 1) (ERec.cells (out ++ [x])) ∧ KeepB (fun k => k = g ∨ k = bL ∨ base ≤ k) w w'
set_option maxHeartbeats 4000000 in
set_option maxRecDepth 20000 in
theorem step_comp (g bR bL base : Nat) (M : Option Nat) (fi nx sz nd : Nat) (big : Bool) (tm : Nat) (rz : Int) (rd : ByteArray) (cnt la : Nat) (en : Bool) (S : List UInt8) (A : Option Addr) (cap n : Nat) (out : List CRec) (w : World)
    (h : PRc w g M fi nx sz nd (gvF big) true (tm : Int) rz rd cnt la en) (hR : Cells w bR 37 #[.pointer (some ⟨g, 0, none⟩)]) (hL : Cells w bL 23 #[.slice A n cap]) (hO : w.ownsRow base 33 3 (.slice A n cap) n (ERec.cells out))
    (hc : cnt ≤ 2000) (hn : n ≤ 2000) (hb : bR < base ∧ bL < base ∧ g < base ∧ g ≠ bL ∧ g ≠ bR ∧ bR ≠ bL ∧ base ≤ w.heap.size) :
    Calls Try.prog 30 #[.string (str S), .pointer (some ⟨bR, 0, none⟩), .pointer (some ⟨bL, 0, none⟩)] w (CompQ w g bL base M fi nx sz (gvF big) tm rz rd cnt en out ⟨tm, rz, S⟩ n) := by
  obtain ⟨hb1, hb2, hb3, hb4, hb5, hb6, hb7⟩ := hb
  have HC := Lib.hid (pcomp9_any g M fi nx sz nd (gvF big) true tm rz rd cnt la en (str S) w.drew h hc)
  have HR := Lib.hid hR
  have HL := Lib.hid hL
  have HO := Lib.hid hO
  have c5 := h.c5
  have c6 := h.c6
  have r0 := (Cells.cell hR 0).trans (show _ = some (Value.pointer (some ⟨g, 0, none⟩)) from rfl)
  have l0 := (Cells.cell hL 0).trans (show _ = some (Value.slice A n cap) from rfl)
  obtain ⟨f, hgf⟩ := gvF_is big
  rw [hgf] at HC c5 ⊢
  have hf := funSome9 f
  have HX := Lib.hid (show ERec.cells [⟨(tm : Int), rz, S⟩] = [.int .i64 (tm : Int), .int .i64 rz, .string (str S)] from rfl)
  obtain ⟨x, hx⟩ : ∃ x : CRec, x = ⟨(tm : Int), rz, S⟩ := ⟨_, rfl⟩
  rw [← hx] at HX ⊢
  clear h hR hL hO hx hgf
  generalize str S = T at *
  go_enter Try.func30, Try.ntmps30
  go_wp2_with fail
  go_region_law (first
    | (go_simp; refine HC.out.mono ?_; rintro e w5 ⟨rfl, hp5, hk5⟩; have hl5 : Cells w5 bL 23 #[.slice A n cap] := (hk5.block bL HL.out.lt (fun e => hb4 e.symm)).trans HL.out; have hO5 := own_keepB (w := w.drew) HO.out hk5 (fun c hc e => by have := (own_blk_in HO.out c hc).1; omega); have hs5 : base ≤ w5.heap.size := Nat.le_trans hb7 hk5.size; have l5 := (Cells.cell hl5 0).trans (show _ = some (Value.slice A n cap) from rfl); have ll5 := Cells.lt hl5; dsimp only)
    | (refine step_push (E := ERec) rcTy (by rfl) _ _ (by rfl) base (.slice A n cap) n out [x] (by rfl) (hO5.alloc _) w5.heap.size 1 1 #[.int .i64 (tm : Int), .int .i64 rz, .string T] (0, 0) (by rfl) (heap_alloc_new w5 _) HX.out.symm rfl (by omega) (by omega) (by decide) (by simp; omega) ?_; intro g2 cap2 wz hown hgrow hat hlt2; have hl9 := Cells.only (Cells.kept hl5 (below_alloc6 w5 (.cells #[.int .i64 (tm : Int), .int .i64 rz, .string T] 33)) (Cells.lt hl5)) hgrow (fun e => by have h7 := (own_blk_in HO.out _ e.symm).1; omega); have i0 := (Cells.cell hl9 0).trans (show _ = some (Value.slice A n cap) from rfl); have j0 := Cells.frozen hl9 0; have jl := Cells.lt hl9))
  all_goals
    have hp9 := (hp5.step (below_alloc6 w5 (.cells #[.int .i64 (tm : Int), .int .i64 rz, .string T] 33))).only hgrow (fun e => by have h7 := (own_blk_in HO.out _ e.symm).1; omega)
    have HP9 := Lib.hid (hp9.same (w' := wz.setCell ⟨bL, 0, none⟩ (.slice (some ⟨g2, 0, none⟩) (n + 1) cap2)) (Below.heap_setCell wz ⟨bL, 0, none⟩ _ g hb4))
    have HL9 := Lib.hid (Cells.set hl9 0 (.slice (some ⟨g2, 0, none⟩) (n + 1) cap2))
    have HO9 := Lib.hid (own_setb (i := 0) hown hb2 (.slice (some ⟨g2, 0, none⟩) (n + 1) cap2))
    have HK9 := Lib.hid (((((hk5.mono (T := fun k => k = g ∨ k = bL ∨ base ≤ k) (fun k e => .inl e)).step (below_alloc6 w5 (.cells #[.int .i64 (tm : Int), .int .i64 rz, .string T] 33))).grownBy hgrow (fun j hj => .inl (.inr (.inr (own_blk_in HO.out _ hj).1)))).setCell (.inr (.inl rfl)) 0 (.slice (some ⟨g2, 0, none⟩) (n + 1) cap2)))
    clear hp5 hk5 hl5 hO5 hs5 l5 ll5 hown hgrow hat hlt2 hl9 i0 j0 jl hp9
    go_wp2_with fail
    go_ret
    exact ⟨_, _, rfl, HP9.out, HL9.out, HO9.out, ⟨HK9.out.os, HK9.out.tape, HK9.out.output, HK9.out.size, HK9.out.block⟩⟩
end Go.Proofs.Ytnckcdngmffahaa

/- Plain mathematics of the program's Feed: where it stands between two calls and within one. -/
namespace Go.Proofs.Ytnckcdngmffahaa
open Go.ChangeShapes Go.WideShapes Go.ChangeAt Go.RowKit
set_option linter.unusedVariables false

theorem numC_part (b : Bool) (S : List UInt8) (p k j n : Nat) (h : j + n ≤ k) : numC b ((S.drop p).take k) j n = numC b S (p + j) n := by
  unfold numC
  rw [List.drop_take, List.take_take, List.drop_drop, Nat.min_eq_left (by omega)]
/-- Where the reader stands: p bytes are consumed, nd are wanted. -/
def Mode (S : List UInt8) (p nd : Nat) (op : Bool) (ra rz : Int) (cnt la : Nat) : Option CSt → Prop
  | none => p = 0 ∧ nd = 24 ∧ op = false ∧ cnt = 0 ∧ la = 0
  | some q => cnt = q.cnt ∧ la = q.last ∧ (q.cnt = 0 → q.last = 0) ∧ ((op = false ∧ nd = 16 ∧ p = q.pos) ∨ (op = true ∧ p = q.pos + 16 ∧ nd = capC S q ∧ chkC S q = 0 ∧ ra = (tmC S q : Int) ∧ rz = (szC S q : Int)))
theorem Mode.more {S : List UInt8} {p nd : Nat} {op : Bool} {ra rz : Int} {cnt la : Nat} {qo : Option CSt} (h : Mode S p nd op ra rz cnt la qo) (hp : p ≤ S.length) (T : List UInt8) : Mode (S ++ T) p nd op ra rz cnt la qo := by
  cases qo with
  | none => exact h
  | some q =>
    obtain ⟨h1, h2, h3, h4⟩ := h
    refine ⟨h1, h2, h3, ?_⟩
    rcases h4 with h4 | ⟨g1, g2, g3, g4, g5, g6⟩
    · exact .inl h4
    · obtain ⟨a, b, c, d⟩ := head_more (S := S) (q := q) T (by omega)
      exact .inr ⟨g1, g2, by rw [b]; exact g3, by rw [d]; exact g4, by rw [a]; exact g5, by rw [c]; exact g6⟩
theorem chkP_eq {S : List UInt8} {q : CSt} (h0 : q.cnt = 0 → q.last = 0) : chkP ((S.drop q.pos).take 16) q.big q.cnt q.last = chkC S q := by
  unfold chkP chkC tmC capC szC
  rw [numC_part _ _ _ _ _ _ (by decide), numC_part _ _ _ _ _ _ (by decide), numC_part _ _ _ _ _ _ (by decide), numC_part _ _ _ _ _ _ (by decide)]
  simp only [show q.pos + 0 = q.pos from rfl]
  congr 2
  by_cases hc : q.cnt = 0
  · rw [h0 hc, if_neg (by omega), if_neg (by omega)]
  · by_cases hl : numC q.big S q.pos 4 * 1000 + numC q.big S (q.pos + 4) 4 / 1000 < q.last
    · rw [if_pos hl, if_pos ⟨by omega, hl⟩]
    · rw [if_neg hl, if_neg (fun h => hl h.2)]
def headF (S : List UInt8) : List CRec × Nat × RdC := if S.length < 24 then ([], 0, ⟨S, none, false⟩) else
    match headC S with
    | none => ([], 2, ⟨S, none, true⟩)
    | some q => ((allC S q).1, (allC S q).2.2, ⟨S, some (allC S q).2.1, decide ((allC S q).2.2 ≠ 0)⟩)
/-- What is still to come within Feed. -/
def FM (S : List UInt8) (F : List CRec × Nat × RdC) (out : List CRec) : Option CSt → Prop
  | none => out = [] ∧ F = headF S
  | some q => FQ S F out q
theorem fm_start {r : RdC} (s : List UInt8) (he : r.e = false) : FM (r.S ++ s) (feedC r s) [] r.q := by
  obtain ⟨S, q, e⟩ := r
  simp only at he
  subst he
  cases q with
  | none => exact ⟨rfl, rfl⟩
  | some q => exact rfl
theorem headF_short {S : List UInt8} (h : S.length < 24) : headF S = ([], 0, ⟨S, none, false⟩) := by unfold headF; rw [if_pos h]
theorem headF_none {S : List UInt8} (h : ¬ S.length < 24) (hh : headC S = none) : headF S = ([], 2, ⟨S, none, true⟩) := by unfold headF; rw [if_neg h, hh]
theorem headF_some {S : List UInt8} {q : CSt} (h : ¬ S.length < 24) (hh : headC S = some q) : FQ S (headF S) [] q := by unfold headF FQ; rw [if_neg h, hh]; rfl
theorem headC_take {S : List UInt8} (h : ¬ S.length < 24) : headC (S.take 24) = headC S := by
  have := headC_more (S := S.take 24) (S.drop 24) (by rw [List.length_take]; omega)
  rw [List.take_append_drop] at this
  exact this.symm
/-- The reader's memory between two calls. -/
def PRd (w : World) (B : Nat → Prop) (g : Nat) (r : RdC) : Prop :=
  ∃ (M : Option Nat) (fi nx sz n : Nat) (pcs : List (List UInt8)) (nd : Nat) (op : Bool) (ra rz : Int) (rd : ByteArray) (cnt la : Nat),
    PRc w g M fi nx sz nd (gvO r.q) op ra rz rd cnt la r.e ∧ (∀ k, B k ↔ (k = g ∨ M = some k)) ∧ (∀ b, M = some b → b < w.heap.size ∧ b ≠ g) ∧
    (r.e = false → MQ w M fi pcs n ∧ nx = fi + pcs.length ∧ nx ≤ r.S.length ∧ (∀ x ∈ pcs, x ≠ []) ∧ sz = pcs.flatten.length ∧ ∃ p, p ≤ r.S.length ∧ pcs.flatten = r.S.drop p ∧ n ≤ r.S.length + p ∧ Mode r.S p nd op ra rz cnt la r.q ∧ r.S.length < p + nd)
theorem PRd.lt {w : World} {B : Nat → Prop} {g : Nat} {r : RdC} (h : PRd w B g r) : ∀ k, B k → k < w.heap.size := fun k hk => by
  obtain ⟨M, fi, nx, sz, n, pcs, nd, op, ra, rz, rd, cnt, la, hc, hB, hM, _⟩ := h
  rcases (hB k).1 hk with rfl | e
  · exact hc.lt
  · exact (hM k e).1
theorem PRd.kept {w w' : World} {B : Nat → Prop} {g : Nat} {r : RdC} (h : PRd w B g r) (hs : w.heap.size ≤ w'.heap.size) (hb : ∀ k, B k → w'.heap[k]? = w.heap[k]?) : PRd w' B g r := by
  obtain ⟨M, fi, nx, sz, n, pcs, nd, op, ra, rz, rd, cnt, la, hc, hB, hM, hi⟩ := h
  refine ⟨M, fi, nx, sz, n, pcs, nd, op, ra, rz, rd, cnt, la, hc.same (hb g ((hB g).2 (.inl rfl))), hB, fun b e => ⟨Nat.lt_of_lt_of_le (hM b e).1 hs, (hM b e).2⟩, fun he => ?_⟩
  obtain ⟨h1, h2⟩ := hi he
  exact ⟨h1.same (fun b e => hb b ((hB b).2 (.inr e))), h2⟩
def measF (w : World) (g : Nat) : Nat := 2 * (intOf ((w.cell? ⟨g, 3, none⟩).getD undef)).toNat + (match w.cell? ⟨g, 6, none⟩ with
  | some (.bool true) => 1
  | _ => 0)
theorem PRc.meas {w : World} {g : Nat} {M : Option Nat} {fi nx sz nd : Nat} {gv : Value} {op : Bool} {ra rz : Int} {rd : ByteArray} {cnt la : Nat} {en : Bool} (h : PRc w g M fi nx sz nd gv op ra rz rd cnt la en) : measF w g = 2 * sz + (if op then 1 else 0) := by
  unfold measF
  rw [h.c3, h.c6]
  cases op <;> simp [intOf]
/-- Where Feed stands at the head of its loop. -/
structure FdI (w0 wr : World) (g bR bL base : Nat) (M0 M : Option Nat) (nx : Nat) (S : List UInt8) (F : List CRec × Nat × RdC) (fi sz n nd : Nat) (pcs : List (List UInt8)) (qo : Option CSt) (op : Bool) (ra rz : Int) (rd : ByteArray) (cnt la p : Nat) (out : List CRec) (A : Option Addr) (cap m : Nat) : Prop where
  cells : PRc wr g M fi nx sz nd (gvO qo) op ra rz rd cnt la false
  map : MQ wr M fi pcs n
  nx_ : nx = fi + pcs.length
  sz_ : sz = pcs.flatten.length
  flat : pcs.flatten = S.drop p
  pos : ∀ x ∈ pcs, x ≠ []
  le : p ≤ S.length
  cn : n ≤ S.length + p
  md : Mode S p nd op ra rz cnt la qo
  cb : cnt ≤ 2000
  boxR : Cells wr bR 37 #[.pointer (some ⟨g, 0, none⟩)]
  boxL : Cells wr bL 23 #[.slice A m cap]
  own : wr.ownsRow base 33 3 (.slice A m cap) m (ERec.cells out)
  ml : m = out.length
  mc : m ≤ cnt
  fq : FM S F out qo
  keep : KeepB (QW g M0) w0 wr
  lt : base ≤ wr.heap.size
end Go.Proofs.Ytnckcdngmffahaa

/- Feed of the program of layer 9: its ends; the steps of its state. -/
namespace Go.Proofs.Ytnckcdngmffahaa
open Go.ChangeShapes Go.WideShapes Go.ChangeAt Go.RowKit
set_option linter.unusedVariables false
section
variable {w0 wr : World} {g bR bL base : Nat} {M0 M : Option Nat} {nx : Nat} {S : List UInt8} {F : List CRec × Nat × RdC} {fi sz n nd : Nat} {pcs : List (List UInt8)} {qo : Option CSt} {op : Bool} {ra rz : Int} {rd : ByteArray} {cnt la p : Nat} {out : List CRec} {A : Option Addr} {cap m : Nat}
theorem FdI.drewN (h : FdI w0 wr g bR bL base M0 M nx S F fi sz n nd pcs qo op ra rz rd cnt la p out A cap m) (q : Nat) : FdI w0 (wr.drewN q) g bR bL base M0 M nx S F fi sz n nd pcs qo op ra rz rd cnt la p out A cap m :=
  ⟨h.cells, h.map, h.nx_, h.sz_, h.flat, h.pos, h.le, h.cn, h.md, h.cb, h.boxR, h.boxL, h.own, h.ml, h.mc, h.fq, h.keep.drewN q, h.lt⟩
theorem fdi_out (h : FdI w0 wr g bR bL base M0 M nx S F fi sz n nd pcs qo op ra rz rd cnt la p out A cap m) (hlt : sz < nd) : F = (out, 0, ⟨S, qo, false⟩) ∧ S.length < p + nd := by
  have hs := h.sz_
  rw [h.flat, List.length_drop] at hs
  have hle := h.le
  have hS : S.length < p + nd := by omega
  refine ⟨?_, hS⟩
  have hf := h.fq
  have hm := h.md
  cases qo with
  | none =>
    obtain ⟨rfl, rfl⟩ := hf
    obtain ⟨rfl, rfl, -⟩ := hm
    exact headF_short (by omega)
  | some q =>
    obtain ⟨-, -, -, ⟨-, rfl, rfl⟩ | ⟨-, rfl, rfl, hck, -, -⟩⟩ := hm
    · exact FQ.stop hf (nowC_short hS)
    · exact FQ.stop hf (now_wait (by omega) hck hS)
theorem own_block_a {w : World} {base : Nat} {e : TypeId} {size : Nat} {A : Option Addr} {n c : Nat} {xs : List Value} (h : w.ownsRow base e size (.slice A n c) n xs) : ∀ a, A = some a → base ≤ a.block := fun a ha => by
  subst ha
  rcases h.2 with ⟨h1, _⟩ | ⟨g, cap, cur, hv, hb, _⟩
  · cases h1
  · injection hv with h1
    obtain rfl := Option.some.inj h1
    exact hb
/-- What Feed leaves; its records lie apart from the reader. -/
def FeedR (w : World) (S : Nat → Prop) (g : Nat) (F : List CRec × Nat × RdC) (e : Ending) (w' : World) : Prop :=
  ∃ A cap S', e = .returned (.tuple #[.slice A F.1.length cap, .int .i64 (F.2.1 : Int)]) ∧ RowL ERec w' A F.1 ∧ (A = none → cap = 0) ∧ (∀ a, A = some a → ¬ S' a.block ∧ w.heap.size ≤ a.block) ∧ PRd w' S' g F.2.2 ∧ (∀ k, S' k → S k ∨ w.heap.size ≤ k) ∧ KeepB S w w'
theorem FeedR.q {w : World} {B : Nat → Prop} {e : Ending} {w' : World} (h : FeedR w B g F e w') : FeedQ PRd w B g F e w' := by
  obtain ⟨A, cap, S', h1, h2, h3, h4, h5, h6, h7⟩ := h
  exact ⟨A, cap, S', h1, h2, h3, fun a ha => .inr (h4 a ha).2, h5, h6, h7⟩
theorem feed_end {w w7 : World} {B B' : Nat → Prop} {er : Nat} {en : Bool} (hF : F = (out, er, ⟨S, qo, en⟩)) (hm : m = out.length) (ho : w7.ownsRow base 33 3 (.slice A m cap) m (ERec.cells out)) (hb : w.heap.size ≤ base)
    (hP : PRd w7 B' g ⟨S, qo, en⟩) (hB : ∀ k, B' k → B k ∨ w.heap.size ≤ k) (hk : KeepB B w w7) (hlo : ∀ k, B' k → k < base) : FeedR w B g F (.returned (.tuple #[.slice A m cap, .int .i64 (er : Int)])) w7 := by
  subst hF
  refine ⟨A, cap, B', by rw [hm], rowl_of_own (E := ERec) ho hm, fun hA => ?_, fun a ha => ⟨fun h => ?_, Nat.le_trans hb (own_block_a ho a ha)⟩, hP, hB, hk⟩
  · subst hA
    exact (own_none ho).2
  · have h1 := hlo _ h
    have h2 := own_block_a ho a ha
    omega
theorem prd_end {w7 : World} (h : PRc w7 g none 0 0 0 nd (gvO qo) op ra rz rd cnt la true) : PRd w7 (fun k => k = g) g ⟨S, qo, true⟩ :=
  ⟨none, 0, 0, 0, 0, [], nd, op, ra, rz, rd, cnt, la, h, fun k => by simp, fun b e => (by cases e), fun e => (by cases e)⟩
theorem prd_ok (h : FdI w0 wr g bR bL base M0 M nx S F fi sz n nd pcs qo op ra rz rd cnt la p out A cap m) (hlt : S.length < p + nd) (hnx : nx ≤ S.length) (hM : ∀ b, M = some b → b < base ∧ b ≠ g) : PRd wr (QW g M) g ⟨S, qo, false⟩ :=
  ⟨M, fi, nx, sz, n, pcs, nd, op, ra, rz, rd, cnt, la, h.cells, fun k => Iff.rfl, fun b e => ⟨Nat.lt_of_lt_of_le (hM b e).1 h.lt, (hM b e).2⟩, fun _ => ⟨h.map, h.nx_, hnx, h.pos, h.sz_, p, h.le, h.flat, h.cn, h.md, hlt⟩⟩
/-- What take leaves, in Feed's words. -/
def TakeX (w : World) (g : Nat) (M : Option Nat) (nx z nb : Nat) (X : ByteArray) (D : List UInt8) (nd : Nat) (gv : Value) (op : Bool) (ra rz : Int) (rd : ByteArray) (cnt la : Nat) (en : Bool) (e : Ending) (w' : World) : Prop :=
  ∃ fi' n' pcs', e = .returned (.string X) ∧ PRc w' g M fi' nx z nd gv op ra rz rd cnt la en ∧ MQ w' M fi' pcs' n' ∧ nx = fi' + pcs'.length ∧ pcs'.flatten = D ∧ (∀ p ∈ pcs', p ≠ []) ∧ n' ≤ nb ∧ KeepB (QW g M) w w'
theorem TakeP.x {w w' : World} {e : Ending} {F : List UInt8} {gv : Value} {en : Bool} {k z : Nat} (h : TakeP w g M nx sz n F nd gv op ra rz rd cnt la en k e w') (hz : sz = z + k) {X D : List UInt8} (hX : X = F.take k) (hD : D = F.drop k) : TakeX w g M nx z (n + k) (str X) D nd gv op ra rz rd cnt la en e w' := by
  obtain ⟨fi', n', pcs', sz', h1, h2, h3, h4, h5, h6, h7, h8, h9⟩ := h
  obtain rfl : sz' = z := by omega
  exact ⟨fi', n', pcs', by rw [hX]; exact h1, h2, h3, h4, by rw [hD]; exact h6, h7, h8, h9⟩
/-- What is left alone by a call that writes the reader and its map. -/
theorem own_q {w w' : World} {e : TypeId} {size : Nat} {v : Value} {k : Nat} {xs : List Value} (h : w.ownsRow base e size v k xs) (hk : KeepB (QW g M) w w') (hg : g < base) (hM : ∀ b, M = some b → b < base) : w'.ownsRow base e size v k xs :=
  own_keepB h hk (fun c hc e => by
    have := (own_blk_in h c hc).1
    rcases e with e | e
    · omega
    · have := hM c e; omega)
theorem own_g {w w' : World} {e : TypeId} {size : Nat} {v : Value} {k : Nat} {xs : List Value} (h : w.ownsRow base e size v k xs) (hk : KeepB (fun k => k = g) w w') (hg : g < base) : w'.ownsRow base e size v k xs :=
  own_keepB h hk (fun c hc e => by have := (own_blk_in h c hc).1; omega)
end
end Go.Proofs.Ytnckcdngmffahaa

/- Contract of the program of layer 9: Feed. -/
namespace Go.Proofs.Ytnckcdngmffahaa
open Go.ChangeShapes Go.WideShapes Go.ChangeAt Go.RowKit
set_option linter.unusedVariables false

set_option maxHeartbeats 16000000 in
set_option maxRecDepth 20000 in
theorem pfeedR_any (g : Nat) (B : Nat → Prop) (r : RdC) (s : List UInt8) (w : World) (h : PRd w B g r) (hs : r.S.length + s.length ≤ 1000000) (hq : QOk r) :
    Calls Try.prog 22 #[.pointer (some ⟨g, 0, none⟩), .string (str s)] w (FeedR w B g (feedC r s)) := by
  have hlt := h.lt
  have HW := Lib.hid h
  obtain ⟨M0, fi, nx0, sz0, n0, pcs0, nd, op, ra, rz, rd, cnt, la, hc, hB, hM, hi⟩ := h
  obtain ⟨F, hF⟩ : ∃ F, F = feedC r s := ⟨_, rfl⟩
  rw [← hF]
  obtain ⟨bR, hbR⟩ : ∃ b, b = w.heap.size := ⟨_, rfl⟩
  obtain ⟨W1, hW1⟩ : ∃ W, W = w.alloc (.cells #[.pointer (some ⟨g, 0, none⟩)] 37) := ⟨_, rfl⟩
  have hB1 : Below w.heap.size w W1 := by rw [hW1]; exact below_alloc6 w _
  have HB1 := Lib.hid hB1
  have hc1 := hc.step hB1
  have hRb : Cells W1 bR 37 #[.pointer (some ⟨g, 0, none⟩)] := by rw [hW1, hbR]; exact heap_alloc_new w _
  have r0 := (Cells.cell hRb 0).trans (show _ = some (Value.pointer (some ⟨g, 0, none⟩)) from rfl)
  have c12 := hc.c12
  have hgl : g < w.heap.size := hc.lt
  have hgR : g < W1.heap.size := hc1.lt
  cases he : r.e with
  | true =>
    have HFE := Lib.hid (show F = ([], 10, r) by rw [hF]; exact feed_ended s he)
    have HPB := Lib.hid (HW.out.kept hB1.size (fun k hk => hB1.block k (hlt k hk)))
    rw [he] at c12
    clear hF hq hlt HW hc hB hM hi hc1 hRb hB1 he
    go_enter Try.func22, Try.ntmps22
    go_wp2_with fail
    go_ret2
    rw [HFE.out]
    rw [← hW1]
    exact ⟨none, 0, B, rfl, RowL.nil _ _, fun _ => rfl, fun a e => (by cases e), HPB.out, fun k hk => .inl hk, KeepB.of_below HB1.out⟩
  | false =>
    rw [he] at c12
    obtain ⟨hm0, hnx0, hnxS, hpo0, hsz0, p, hpS, hfl0, hn0, hmd0, hwt0⟩ := hi he
    obtain ⟨S, hS⟩ : ∃ S, S = r.S ++ s := ⟨_, rfl⟩
    have hSl : S.length ≤ 1000000 := by rw [hS, List.length_append]; omega
    have hSle : r.S.length + s.length = S.length := by rw [hS, List.length_append]
    have hfm : FM S F [] r.q := by rw [hF, hS]; exact fm_start s he
    have hmd1 : Mode S p nd op ra rz cnt la r.q := by rw [hS]; exact hmd0.more hpS s
    have hfl1 : pcs0.flatten ++ s = S.drop p := by rw [hfl0, hS, List.drop_append_of_le_length hpS]
    have hcnt : cnt ≤ 2000 := by
      cases hqq : r.q with
      | none => rw [hqq] at hmd0; have := hmd0.2.2.2.1; omega
      | some q => rw [hqq] at hmd0; have h1 := hmd0.1; have h2 := (hq q hqq).2; omega
    have hszl : sz0 ≤ 1000000 := by rw [hsz0, hfl0, List.length_drop]; omega
    have HPUT := Lib.hid (qput9_any g M0 fi nx0 sz0 n0 pcs0 nd (gvO r.q) op ra rz rd cnt la false s W1 (by rw [← he]; exact hc1) (hm0.step hB1) hnx0 hpo0 (fun b e => (hM b e).2) (by omega))
    obtain ⟨qo0, hqo⟩ : ∃ q, q = r.q := ⟨_, rfl⟩
    rw [← hqo] at HPUT hfm hmd1
    have HS0 := Lib.hid (show ∀ M', ∀ k, QW g M' k ↔ (k = g ∨ M' = some k) from fun M' k => Iff.rfl)
    have HBQ := Lib.hid (show ∀ k, QW g M0 k → B k from fun k hk => (hB k).2 hk)
    have HM0 := Lib.hid hM
    have HK1 := Lib.hid (show KeepB (QW g M0) w W1 from KeepB.of_below hB1)
    have HSZ0 := Lib.hid hsz0
    have HFM := Lib.hid hfm
    have HMD := Lib.hid hmd1
    have HFL := Lib.hid hfl1
    have HRB := Lib.hid hRb
    have HGL := Lib.hid hgl
    have HBR := Lib.hid hbR
    have HPN := Lib.hid hpS
    have hb9 : n0 ≤ r.S.length + p := hn0
    obtain ⟨lr, hlr⟩ : ∃ l, l = r.S.length := ⟨_, rfl⟩
    obtain ⟨ls, hls⟩ : ∃ l, l = s.length := ⟨_, rfl⟩
    rw [← hlr] at hs hnxS hpS hn0 hSle hb9
    rw [← hls] at hs hSle
    have HLS := Lib.hid hls
    have hnxb : nx0 + ls ≤ S.length := by omega
    have hnb : n0 + ls ≤ S.length + p := by omega
    have hpl : p ≤ S.length := by omega
    clear hF hq hlt HW hc hB hM hi hc1 hRb hB1 he hm0 hnx0 hpo0 hsz0 hfl0 hmd0 hwt0 hS hfm hmd1 hfl1 hqo hlr hls hnxS hpS hn0 hSle hb9 hs
    generalize hU : str s = U at *
    clear hU
    go_enter Try.func22, Try.ntmps22
    go_wp2_with fail
    rw [← hW1]
    refine HPUT.out.mono ?_
    rintro e w2 ⟨M, nx, sz1, n1, pcs1, rfl, hp2, hm2, hnx2, hnl2, hsz2, hfl2, hpo2, hnn2, hMM, hMg, hk2⟩
    have hls := HLS.out
    rw [← hls] at hnl2 hsz2 hnn2
    rw [HFL.out] at hfl2
    obtain ⟨bL, hbL⟩ : ∃ b, b = w2.heap.size := ⟨_, rfl⟩
    obtain ⟨W3, hW3⟩ : ∃ W, W = w2.alloc (.cells #[.slice none 0 0] 23) := ⟨_, rfl⟩
    obtain ⟨base, hbase⟩ : ∃ b, b = bL + 1 := ⟨_, rfl⟩
    have hB3 : Below w2.heap.size w2 W3 := by rw [hW3]; exact below_alloc6 w2 _
    have hW1s : W1.heap.size = w.heap.size + 1 := by rw [hW1]; simp
    have hW3s : W3.heap.size = base := by rw [hW3, hbase, hbL]; simp
    have hgl := HGL.out
    have hbr := HBR.out
    have hsz12 := hk2.size
    have hMlt : ∀ b, M = some b → b < bL ∧ b ≠ g ∧ b ≠ bR ∧ (M0 = some b ∨ w.heap.size ≤ b) := fun b e => by
      subst e
      have h1 := hm2.lt
      refine ⟨by omega, hMg b rfl, ?_, ?_⟩
      · rcases hMM b rfl with h | h
        · have := (HM0.out b h).1; omega
        · omega
      · rcases hMM b rfl with h | h
        · exact .inl h
        · exact .inr (by omega)
    have hRn : ¬ QW g M0 bR := fun e => by
      rcases e with e | e
      · omega
      · have := (HM0.out bR e).1; omega
    have hR2 : Cells w2 bR 37 #[.pointer (some ⟨g, 0, none⟩)] := (hk2.block bR HRB.out.lt hRn).trans HRB.out
    have HI0 := Lib.hid (show FdI w W3 g bR bL base M0 M nx S F fi sz1 n1 nd pcs1 qo0 op ra rz rd cnt la p [] none 0 0 from
      ⟨hp2.step hB3, hm2.step hB3, hnx2, by rw [hfl2, hsz2, ← HFL.out, List.length_append, ← HSZ0.out, hls], hfl2, hpo2, hpl, by omega, HMD.out, hcnt, Cells.kept hR2 hB3 hR2.lt, by rw [hW3, hbL]; exact heap_alloc_new w2 _, own_nil9 _ _ _ rfl _ _, rfl, Nat.zero_le _, HFM.out, (HK1.out.trans hk2 (fun j hj => .inl hj)).step hB3, by omega⟩)
    have HNX := Lib.hid (show nx ≤ S.length by omega)
    have HML := Lib.hid hMlt
    have HGB := Lib.hid (show g < bL ∧ g ≠ bR ∧ bR < bL ∧ bL < base ∧ w.heap.size ≤ bL by omega)
    clear hls hnx2 hnl2 hsz2 hfl2 hpo2 hnn2 hMM hMg hm2 hk2 hp2 hB3 hW1s hbase hMlt hRn hR2 hgl hbr hsz12 HPUT HS0 HM0 HK1 HSZ0 HFM HMD HFL HRB HGL HPN HLS hnxb hnb hpl hszl hcnt hbR hgR r0 c12 hW1 HB1
    go_wp2_with fail
    rw [← hW3, ← hbL, ← HBR.out]
    clear hW3 hbL hW3s HBR
    go_loopw [8] (fun _ wr => ∃ fi sz n nd : Nat, ∃ pcs : List (List UInt8), ∃ qo : Option CSt, ∃ op : Bool, ∃ ra rz : Int, ∃ rd : ByteArray, ∃ cnt la p : Nat, ∃ out : List CRec, ∃ A : Option Addr, ∃ cap m : Nat, Hid (FdI w wr g bR bL base M0 M nx S F fi sz n nd pcs qo op ra rz rd cnt la p out A cap m)) (fun _ wr => measF wr g)
    case atStart => exact ⟨fi, sz1, n1, nd, pcs1, qo0, op, ra, rz, rd, cnt, la, p, [], none, 0, 0, HI0⟩
    case round =>
      clear HI0
      obtain ⟨fi, sz, n, nd, pcs, qo, op, ra, rz, rd, cnt, la, p, out, A, cap, m, HI⟩ := hrel
      have r0 := (Cells.cell HI.out.boxR 0).trans (show _ = some (Value.pointer (some ⟨g, 0, none⟩)) from rfl)
      have c3 := HI.out.cells.c3
      have c4 := HI.out.cells.c4
      have HMS := Lib.hid HI.out.cells.meas
      by_cases hlt : sz < nd
      · have dlt : decide ((nd : Int) ≤ (sz : Int)) = false := by simp; omega
        have nlt : ¬ (nd : Int) ≤ (sz : Int) := by omega
        have HLT := Lib.hid hlt
        clear hlt
        go_wp2_with fail
        go_quiet (fail)
        have HI2 := Lib.hid (HI.out.drewN nq)
        clear HI r0 c3 c4 HMS
        generalize wr.drewN nq = w4 at *
        have l0 := (Cells.cell HI2.out.boxL 0).trans (show _ = some (Value.slice A m cap) from rfl)
        go_wp2_with fail
        go_ret2
        obtain ⟨hF, hS⟩ := fdi_out HI2.out HLT.out
        have hgb := HGB.out
        exact feed_end hF HI2.out.ml HI2.out.own (by omega) (prd_ok HI2.out hS HNX.out (fun b e => by have := HML.out b e; omega)) (fun k hk => by
          rcases hk with e | e
          · exact .inl (HBQ.out k (.inl e))
          · rcases (HML.out k e).2.2.2 with h | h
            · exact .inl (HBQ.out k (.inr h))
            · exact .inr h) (HI2.out.keep.mono HBQ.out) (fun k hk => by
          rcases hk with e | e
          · omega
          · have := (HML.out k e).1; omega)
      · have dlt : decide ((nd : Int) ≤ (sz : Int)) = true := by simp; omega
        have nlt : (nd : Int) ≤ (sz : Int) := by omega
        go_wp2_with fail
        go_quiet (fail)
        have HI2 := Lib.hid (HI.out.drewN nq)
        clear HI r0 c3 c4
        generalize wr.drewN nq = w4 at *
        have r0 := (Cells.cell HI2.out.boxR 0).trans (show _ = some (Value.pointer (some ⟨g, 0, none⟩)) from rfl)
        have c4 := HI2.out.cells.c4
        have hszS : sz + p = S.length := by
          have h1 := HI2.out.sz_
          rw [HI2.out.flat, List.length_drop] at h1
          have := HI2.out.le
          omega
        have hgb := HGB.out
        have hnxb := HNX.out
        obtain ⟨X, hX⟩ : ∃ X, X = (S.drop p).take nd := ⟨_, rfl⟩
        have hXl : X.length = nd := by rw [hX, List.length_take, List.length_drop]; omega
        have HTK := Lib.hid (qtake9_any g M fi nx sz n pcs nd (gvO qo) op ra rz rd cnt la false nd w4.drew HI2.out.cells HI2.out.map HI2.out.nx_ HI2.out.pos (fun b e => (HML.out b e).2.1) (fun b e => Nat.lt_of_lt_of_le (Nat.lt_trans (HML.out b e).1 hgb.2.2.2.1) HI2.out.lt) HI2.out.sz_ (by have := HI2.out.cn; omega))
        rw [HI2.out.flat] at HTK
        have HNR := Lib.hid (show ¬ QW g M bR from fun e => by
          rcases e with e | e
          · exact hgb.2.1 e.symm
          · exact (HML.out bR e).2.2.1 rfl)
        have HNL := Lib.hid (show ¬ QW g M bL from fun e => by
          rcases e with e | e
          · omega
          · have := (HML.out bL e).1; omega)
        have HQ0 := Lib.hid (show ∀ j, QW g M j → QW g M0 j ∨ w.heap.size ≤ j from fun j e => by
          rcases e with e | e
          · exact .inl (.inl e)
          · rcases (HML.out j e).2.2.2 with h | h
            · exact .inl (.inr h)
            · exact .inr h)
        have HPL := Lib.hid (show p + nd ≤ S.length by omega)
        obtain ⟨z, hz⟩ : ∃ z, z = sz - nd := ⟨_, rfl⟩
        have hz2 : sz = z + nd := by omega
        have HTX := Lib.hid (HTK.out.mono fun e w' h => h.x (z := z) hz2 hX (show S.drop (p + nd) = (S.drop p).drop nd by rw [List.drop_drop]))
        have HZ := Lib.hid (show sz = z + nd ∧ sz + p = S.length from ⟨hz2, hszS⟩)
        have HX := Lib.hid hX
        have HXL := Lib.hid hXl
        clear hX hXl HTK hszS hz hz2 hnxb hlt
        obtain ⟨T, hT⟩ : ∃ T, T = str X := ⟨_, rfl⟩
        rw [← hT] at HTX
        have HTT := Lib.hid hT
        clear hT
        cases qo with
        | none =>
          obtain ⟨rfl, rfl, rfl, rfl, rfl⟩ := HI2.out.md
          have h24 : ¬ S.length < 24 := by have := HPL.out; omega
          have HHX := Lib.hid (show headC X = headC S by rw [HX.out, List.drop_zero]; exact headC_take h24)
          have HFQ := Lib.hid HI2.out.fq
          cases hh : headC S with
          | none =>
            have HST := Lib.hid (fun (fi' : Nat) (w5 : World) (hp : PRc w5 g M fi' nx z 24 .nilFunc false ra rz rd 0 0 false) (hR : Cells w5 bR 37 #[.pointer (some ⟨g, 0, none⟩)]) => (show Calls Try.prog 30 #[.string T, .pointer (some ⟨bR, 0, none⟩), .pointer (some ⟨bL, 0, none⟩)] w5 (HeadQ w5 g M fi' nx z 24 false ra rz rd 0 0 false none) from by
              have h := step_head g bR bL M fi' nx z 24 false ra rz rd 0 0 false X w5 hp hR HXL.out
              rw [HHX.out, hh, ← HTT.out] at h
              exact h))
            have HF9 := Lib.hid (show F = (out, 2, ⟨S, none, true⟩) by rw [HFQ.out.1, HFQ.out.2]; exact headF_none h24 hh)
            clear hh h24 HFQ HHX
            go_wp2_with fail
            go_region_law (first
              | (go_simp; go_at_call 34; refine HTX.out.mono ?_; rintro e w5 ⟨fi', n', pcs', rfl, hp5, hm5, hnx5, hfl5, hpo5, hn5, hk5⟩; have hR5 : Cells w5 bR 37 #[.pointer (some ⟨g, 0, none⟩)] := (hk5.block bR HI2.out.boxR.lt HNR.out).trans HI2.out.boxR; have hL5 : Cells w5 bL 23 #[.slice A m cap] := (hk5.block bL HI2.out.boxL.lt HNL.out).trans HI2.out.boxL; dsimp only)
              | (go_simp; go_at_call 30; refine (HST.out _ _ hp5 hR5).mono ?_; rintro e w6 ⟨rfl, hp6, hk6⟩; dsimp only))
            all_goals
              have HP6 := Lib.hid hp6
              have HR6 := Lib.hid (show Cells w6 bR 37 #[.pointer (some ⟨g, 0, none⟩)] from (hk6.block bR hR5.lt (fun e => hgb.2.1 e.symm)).trans hR5)
              have HL6 := Lib.hid (show Cells w6 bL 23 #[.slice A m cap] from (hk6.block bL hL5.lt (fun e => by omega)).trans hL5)
              have HO6 := Lib.hid (own_g (own_q (w := w4.drew) HI2.out.own hk5 (by omega) (fun b e => by have := HML.out b e; omega)) hk6 (by omega))
              have HK6 := Lib.hid ((HI2.out.keep.drew.trans hk5 HQ0.out).trans hk6 (fun j e => .inl (.inl e)))
              have r6 := (Cells.cell HR6.out 0).trans (show _ = some (Value.pointer (some ⟨g, 0, none⟩)) from rfl)
              have l6 := (Cells.cell HL6.out 0).trans (show _ = some (Value.slice A m cap) from rfl)
              have HMLO := Lib.hid HI2.out.ml
              clear hp6 hk6 hR5 hL5 hp5 hm5 hnx5 hfl5 hpo5 hn5 hk5 HTX HST HI2 r0 c4
              go_wp2_with fail
              refine (rend9_any _ _ _ _ _ _ _ _ _ _ _ _ _ _ _ HP6.out).mono ?_
              rintro e w7 ⟨rfl, hp7, hk7⟩
              have HL7 := Lib.hid (show Cells w7 bL 23 #[.slice A m cap] from (hk7.block bL HL6.out.lt (fun e => by omega)).trans HL6.out)
              have HO7 := Lib.hid (own_g HO6.out hk7 (by omega))
              have HK7 := Lib.hid (HK6.out.trans hk7 (fun j e => .inl (.inl e)))
              have HP7 := Lib.hid hp7
              have l7 := (Cells.cell HL7.out 0).trans (show _ = some (Value.slice A m cap) from rfl)
              clear hp7 hk7 HP6 HR6 HL6 HO6 HK6 r6 l6
              go_wp2_with fail
              go_ret2
              exact feed_end HF9.out HMLO.out HO7.out (by omega) (prd_end HP7.out) (fun k hk => .inl (HBQ.out k (.inl hk))) (HK7.out.mono HBQ.out) (fun k hk => by omega)
          | some q =>
            have HST := Lib.hid (fun (fi' : Nat) (w5 : World) (hp : PRc w5 g M fi' nx z 24 .nilFunc false ra rz rd 0 0 false) (hR : Cells w5 bR 37 #[.pointer (some ⟨g, 0, none⟩)]) => (show Calls Try.prog 30 #[.string T, .pointer (some ⟨bR, 0, none⟩), .pointer (some ⟨bL, 0, none⟩)] w5 (HeadQ w5 g M fi' nx z 24 false ra rz rd 0 0 false (some q)) from by
              have h := step_head g bR bL M fi' nx z 24 false ra rz rd 0 0 false X w5 hp hR HXL.out
              rw [HHX.out, hh, ← HTT.out] at h
              exact h))
            have HF9 := Lib.hid (show FM S F out (some q) by rw [HFQ.out.1, HFQ.out.2]; exact headF_some h24 hh)
            have HH := Lib.hid (headC_some hh)
            clear hh h24 HFQ HHX
            go_wp2_with fail
            go_region_law (first
              | (go_simp; go_at_call 34; refine HTX.out.mono ?_; rintro e w5 ⟨fi', n', pcs', rfl, hp5, hm5, hnx5, hfl5, hpo5, hn5, hk5⟩; have hR5 : Cells w5 bR 37 #[.pointer (some ⟨g, 0, none⟩)] := (hk5.block bR HI2.out.boxR.lt HNR.out).trans HI2.out.boxR; have hL5 : Cells w5 bL 23 #[.slice A m cap] := (hk5.block bL HI2.out.boxL.lt HNL.out).trans HI2.out.boxL; dsimp only)
              | (go_simp; go_at_call 30; refine (HST.out _ _ hp5 hR5).mono ?_; rintro e w6 ⟨rfl, hp6, hk6⟩; dsimp only))
            all_goals
              have HP6 := Lib.hid hp6
              have HR6 := Lib.hid (show Cells w6 bR 37 #[.pointer (some ⟨g, 0, none⟩)] from (hk6.block bR hR5.lt (fun e => hgb.2.1 e.symm)).trans hR5)
              have HL6 := Lib.hid (show Cells w6 bL 23 #[.slice A m cap] from (hk6.block bL hL5.lt (fun e => by omega)).trans hL5)
              have HO6 := Lib.hid (own_g (own_q (w := w4.drew) HI2.out.own hk5 (by omega) (fun b e => by have := HML.out b e; omega)) hk6 (by omega))
              have HK6 := Lib.hid ((HI2.out.keep.drew.trans hk5 HQ0.out).trans hk6 (fun j e => .inl (.inl e)))
              have r6 := (Cells.cell HR6.out 0).trans (show _ = some (Value.pointer (some ⟨g, 0, none⟩)) from rfl)
              have l6 := (Cells.cell HL6.out 0).trans (show _ = some (Value.slice A m cap) from rfl)
              have HM6 := Lib.hid (hm5.same (w' := w6) (fun b e => hk6.block b (MQ.lt (by rw [← e]; exact hm5)) (fun e2 => (HML.out b e).2.1 e2)))
              have HA6 := Lib.hid (show nx = fi' + pcs'.length ∧ (∀ x ∈ pcs', x ≠ []) from ⟨hnx5, hpo5⟩)
              have HFl6 := Lib.hid hfl5
              have HN6 := Lib.hid hn5
              have HMLO := Lib.hid HI2.out.ml
              have HMCO := Lib.hid HI2.out.mc
              have HCNO := Lib.hid HI2.out.cn
              have HCB := Lib.hid HI2.out.cb
              have HLT6 := Lib.hid (show base ≤ w6.heap.size from Nat.le_trans HI2.out.lt (Nat.le_trans hk5.size hk6.size))
              clear hp6 hk6 hR5 hL5 hp5 hm5 hnx5 hfl5 hpo5 hn5 hk5 HTX HST HI2 r0 c4 r6 l6
              go_wp2_with fail
              go_roundw
              case rel => exact ⟨fi', z, n', 16, pcs', some q, false, ra, rz, rd, 0, 0, 24, out, A, cap, m, Lib.hid ⟨HP6.out, HM6.out, HA6.out.1, by rw [HFl6.out, List.length_drop]; have := HZ.out; omega, HFl6.out, HA6.out.2, HPL.out, by have := HCNO.out; have := HN6.out; omega, ⟨HH.out.2.1.symm, HH.out.2.2.symm, fun _ => HH.out.2.2, .inl ⟨rfl, rfl, HH.out.1.symm⟩⟩, by omega, HR6.out, HL6.out, HO6.out, HMLO.out, HMCO.out, HF9.out, HK6.out, HLT6.out⟩⟩
              case measure => rw [HP6.out.meas, HMS.out]; have := HZ.out; simp; omega
        | some q =>
          obtain ⟨qp, qb, qc, ql⟩ := q
          obtain ⟨hc1, hl1, h01, hmd⟩ := HI2.out.md
          simp only at hc1 hl1 h01 hmd
          subst hc1 hl1
          have hcb := HI2.out.cb
          have hS6 := hSl
          have HFQ := Lib.hid (show FQ S F out ⟨qp, qb, cnt, la⟩ from HI2.out.fq)
          rcases hmd with ⟨rfl, rfl, rfl⟩ | ⟨rfl, rfl, hnd, hck, hra, hrz⟩
          · have HCK := Lib.hid (show chkP X qb cnt la = chkC S ⟨p, qb, cnt, la⟩ by rw [HX.out]; exact chkP_eq (q := ⟨p, qb, cnt, la⟩) h01)
            obtain ⟨tm, htm⟩ : ∃ t, t = tmC S ⟨p, qb, cnt, la⟩ := ⟨_, rfl⟩
            obtain ⟨ca, hca⟩ : ∃ t, t = capC S ⟨p, qb, cnt, la⟩ := ⟨_, rfl⟩
            obtain ⟨si, hsi⟩ : ∃ t, t = szC S ⟨p, qb, cnt, la⟩ := ⟨_, rfl⟩
            have HN0 := Lib.hid (show numC qb X 0 4 * 1000 + numC qb X 4 4 / 1000 = tm by rw [HX.out, htm, numC_part _ _ _ _ _ _ (by decide), numC_part _ _ _ _ _ _ (by decide)]; rfl)
            have HN8 := Lib.hid (show numC qb X 8 4 = ca by rw [HX.out, hca, numC_part _ _ _ _ _ _ (by decide)]; rfl)
            have HN12 := Lib.hid (show numC qb X 12 4 = si by rw [HX.out, hsi, numC_part _ _ _ _ _ _ (by decide)]; rfl)
            obtain ⟨er, her⟩ : ∃ er, er = chkC S ⟨p, qb, cnt, la⟩ := ⟨_, rfl⟩
            have HST0 := Lib.hid (fun (fi' : Nat) (w5 : World) (hp : PRc w5 g M fi' nx z 16 (gvF qb) false ra rz rd cnt la false) (hR : Cells w5 bR 37 #[.pointer (some ⟨g, 0, none⟩)]) => (show Calls Try.prog 30 #[.string T, .pointer (some ⟨bR, 0, none⟩), .pointer (some ⟨bL, 0, none⟩)] w5 (BegQ w5 g M fi' nx z 16 (gvF qb) ra rz rd cnt la false tm ca si er) from by
              have h := step_begin g bR bL M fi' nx z 16 qb ra rz rd cnt la false X w5 hp hR HXL.out hcb
              rw [HN0.out, HN8.out, HN12.out, HCK.out, ← her, ← HTT.out] at h
              exact h))
            cases er with
            | succ er =>
              have HST := HST0
              have HF9 := Lib.hid (show F = (out, er + 1, ⟨S, some ⟨p, qb, cnt, la⟩, true⟩) by
                have := HFQ.out.stop (now_err (by have := HPL.out; simp only; omega) her.symm)
                simpa using this)
              have te : (((er + 1 : Nat) : Int) != 0) = true := by rw [bne_iff_ne]; omega
              clear HST0 HFQ her htm hca hsi HN0 HN8 HN12 HCK h01 hcb
              go_wp2_with fail
              go_region_law (first
                | (go_simp; go_at_call 34; refine HTX.out.mono ?_; rintro e w5 ⟨fi', n', pcs', rfl, hp5, hm5, hnx5, hfl5, hpo5, hn5, hk5⟩; have hR5 : Cells w5 bR 37 #[.pointer (some ⟨g, 0, none⟩)] := (hk5.block bR HI2.out.boxR.lt HNR.out).trans HI2.out.boxR; have hL5 : Cells w5 bL 23 #[.slice A m cap] := (hk5.block bL HI2.out.boxL.lt HNL.out).trans HI2.out.boxL; dsimp only)
                | (go_simp; go_at_call 30; refine (HST.out _ _ hp5 hR5).mono ?_; rintro e w6 ⟨rfl, hp6, hk6⟩; dsimp only))
              all_goals
                have HP6 := Lib.hid hp6
                have HR6 := Lib.hid (show Cells w6 bR 37 #[.pointer (some ⟨g, 0, none⟩)] from (hk6.block bR hR5.lt (fun e => hgb.2.1 e.symm)).trans hR5)
                have HL6 := Lib.hid (show Cells w6 bL 23 #[.slice A m cap] from (hk6.block bL hL5.lt (fun e => by omega)).trans hL5)
                have HO6 := Lib.hid (own_g (own_q (w := w4.drew) HI2.out.own hk5 (by omega) (fun b e => by have := HML.out b e; omega)) hk6 (by omega))
                have HK6 := Lib.hid ((HI2.out.keep.drew.trans hk5 HQ0.out).trans hk6 (fun j e => .inl (.inl e)))
                have r6 := (Cells.cell HR6.out 0).trans (show _ = some (Value.pointer (some ⟨g, 0, none⟩)) from rfl)
                have l6 := (Cells.cell HL6.out 0).trans (show _ = some (Value.slice A m cap) from rfl)
                have HMLO := Lib.hid HI2.out.ml
                clear hp6 hk6 hR5 hL5 hp5 hm5 hnx5 hfl5 hpo5 hn5 hk5 HTX HST HI2 r0 c4
                go_wp2_with fail
                refine (rend9_any _ _ _ _ _ _ _ _ _ _ _ _ _ _ _ HP6.out).mono ?_
                rintro e w7 ⟨rfl, hp7, hk7⟩
                have HL7 := Lib.hid (show Cells w7 bL 23 #[.slice A m cap] from (hk7.block bL HL6.out.lt (fun e => by omega)).trans HL6.out)
                have HO7 := Lib.hid (own_g HO6.out hk7 (by omega))
                have HK7 := Lib.hid (HK6.out.trans hk7 (fun j e => .inl (.inl e)))
                have HP7 := Lib.hid hp7
                have l7 := (Cells.cell HL7.out 0).trans (show _ = some (Value.slice A m cap) from rfl)
                clear hp7 hk7 HP6 HR6 HL6 HO6 HK6 r6 l6
                go_wp2_with fail
                go_ret2
                exact feed_end HF9.out HMLO.out HO7.out (by omega) (prd_end HP7.out) (fun k hk => .inl (HBQ.out k (.inl hk))) (HK7.out.mono HBQ.out) (fun k hk => by omega)
            | zero =>
              have HST := HST0
              have HMD := Lib.hid (show Mode S (p + 16) ca true (tm : Int) (si : Int) cnt la (some ⟨p, qb, cnt, la⟩) from ⟨rfl, rfl, h01, .inr ⟨rfl, rfl, hca, her.symm, by rw [htm], by rw [hsi]⟩⟩)
              clear HST0 her htm hca hsi HN0 HN8 HN12 HCK h01 hcb
              go_wp2_with fail
              go_region_law (first
                | (go_simp; go_at_call 34; refine HTX.out.mono ?_; rintro e w5 ⟨fi', n', pcs', rfl, hp5, hm5, hnx5, hfl5, hpo5, hn5, hk5⟩; have hR5 : Cells w5 bR 37 #[.pointer (some ⟨g, 0, none⟩)] := (hk5.block bR HI2.out.boxR.lt HNR.out).trans HI2.out.boxR; have hL5 : Cells w5 bL 23 #[.slice A m cap] := (hk5.block bL HI2.out.boxL.lt HNL.out).trans HI2.out.boxL; dsimp only)
                | (go_simp; go_at_call 30; refine (HST.out _ _ hp5 hR5).mono ?_; rintro e w6 ⟨rfl, hp6, hk6⟩; dsimp only))
              all_goals
                have HP6 := Lib.hid hp6
                have HR6 := Lib.hid (show Cells w6 bR 37 #[.pointer (some ⟨g, 0, none⟩)] from (hk6.block bR hR5.lt (fun e => hgb.2.1 e.symm)).trans hR5)
                have HL6 := Lib.hid (show Cells w6 bL 23 #[.slice A m cap] from (hk6.block bL hL5.lt (fun e => by omega)).trans hL5)
                have HO6 := Lib.hid (own_g (own_q (w := w4.drew) HI2.out.own hk5 (by omega) (fun b e => by have := HML.out b e; omega)) hk6 (by omega))
                have HK6 := Lib.hid ((HI2.out.keep.drew.trans hk5 HQ0.out).trans hk6 (fun j e => .inl (.inl e)))
                have r6 := (Cells.cell HR6.out 0).trans (show _ = some (Value.pointer (some ⟨g, 0, none⟩)) from rfl)
                have l6 := (Cells.cell HL6.out 0).trans (show _ = some (Value.slice A m cap) from rfl)
                have HM6 := Lib.hid (hm5.same (w' := w6) (fun b e => hk6.block b (MQ.lt (by rw [← e]; exact hm5)) (fun e2 => (HML.out b e).2.1 e2)))
                have HA6 := Lib.hid (show nx = fi' + pcs'.length ∧ (∀ x ∈ pcs', x ≠ []) from ⟨hnx5, hpo5⟩)
                have HFl6 := Lib.hid hfl5
                have HN6 := Lib.hid hn5
                have HMLO := Lib.hid HI2.out.ml
                have HMCO := Lib.hid HI2.out.mc
                have HCNO := Lib.hid HI2.out.cn
                have HCB := Lib.hid HI2.out.cb
                have HLT6 := Lib.hid (show base ≤ w6.heap.size from Nat.le_trans HI2.out.lt (Nat.le_trans hk5.size hk6.size))
                clear hp6 hk6 hR5 hL5 hp5 hm5 hnx5 hfl5 hpo5 hn5 hk5 HTX HST HI2 r0 c4 r6 l6
                go_wp2_with fail
                go_roundw
                case rel => exact ⟨fi', z, n', ca, pcs', some ⟨p, qb, cnt, la⟩, true, (tm : Int), (si : Int), ⟨#[]⟩, cnt, la, p + 16, out, A, cap, m, Lib.hid ⟨HP6.out, HM6.out, HA6.out.1, by rw [HFl6.out, List.length_drop]; have := HZ.out; omega, HFl6.out, HA6.out.2, HPL.out, by have := HCNO.out; have := HN6.out; omega, HMD.out, HCB.out, HR6.out, HL6.out, HO6.out, HMLO.out, HMCO.out, HFQ.out, HK6.out, HLT6.out⟩⟩
                case measure => rw [HP6.out.meas, HMS.out]; have := HZ.out; simp; omega
          · obtain ⟨tm, htm⟩ : ∃ t, t = tmC S ⟨qp, qb, cnt, la⟩ := ⟨_, rfl⟩
            rw [← htm] at hra
            subst hra
            have HNX2 := Lib.hid (show nowC S ⟨qp, qb, cnt, la⟩ = none from now_rec (by have := HPL.out; simp only; omega) hck (by have := HPL.out; rw [← hnd]; simp only; omega))
            have HRE := Lib.hid (show recAt S ⟨qp, qb, cnt, la⟩ = ⟨(tm : Int), rz, X⟩ by unfold recAt; rw [← htm, ← hrz, ← hnd, HX.out])
            have HNC := Lib.hid (show nextC S ⟨qp, qb, cnt, la⟩ = ⟨qp + 16 + nd, qb, cnt + 1, tm⟩ by unfold nextC; rw [← htm, ← hnd])
            have hcl : cnt + 1 ≤ 2000 := by have := chk_cnt hck; simp only at this; omega
            have hmm : m ≤ 2000 := by have := HI2.out.mc; omega
            have HST := Lib.hid (fun (fi' : Nat) (w5 : World) (hp : PRc w5 g M fi' nx z nd (gvF qb) true (tm : Int) rz rd cnt la false) (hR : Cells w5 bR 37 #[.pointer (some ⟨g, 0, none⟩)]) (hL : Cells w5 bL 23 #[.slice A m cap]) (hO : w5.ownsRow base 33 3 (.slice A m cap) m (ERec.cells out)) (hb : base ≤ w5.heap.size) => (show Calls Try.prog 30 #[.string T, .pointer (some ⟨bR, 0, none⟩), .pointer (some ⟨bL, 0, none⟩)] w5 (CompQ w5 g bL base M fi' nx z (gvF qb) tm rz rd cnt false out ⟨(tm : Int), rz, X⟩ m) from by
              have h := step_comp g bR bL base M fi' nx z nd qb tm rz rd cnt la false X A cap m out w5 hp hR hL hO (by omega) hmm (by omega)
              rw [← HTT.out] at h
              exact h))
            have HFQ2 := Lib.hid (show FQ S F (out ++ [⟨(tm : Int), rz, X⟩]) ⟨qp + 16 + nd, qb, cnt + 1, tm⟩ by
              have := HFQ.out.go HNX2.out
              rw [HRE.out, HNC.out] at this
              exact this)
            clear htm hrz hnd hck h01 hcb HNX2 HRE HNC HFQ
            go_wp2_with fail
            go_region_law (first
              | (go_simp; go_at_call 34; refine HTX.out.mono ?_; rintro e w5 ⟨fi', n', pcs', rfl, hp5, hm5, hnx5, hfl5, hpo5, hn5, hk5⟩; have hR5 : Cells w5 bR 37 #[.pointer (some ⟨g, 0, none⟩)] := (hk5.block bR HI2.out.boxR.lt HNR.out).trans HI2.out.boxR; have hL5 : Cells w5 bL 23 #[.slice A m cap] := (hk5.block bL HI2.out.boxL.lt HNL.out).trans HI2.out.boxL; dsimp only)
              | (go_simp; go_at_call 30; refine (HST.out _ _ hp5 hR5 hL5 (own_q (w := w4.drew) HI2.out.own hk5 (by omega) (fun b e => by have := HML.out b e; omega)) (Nat.le_trans HI2.out.lt hk5.size)).mono ?_; rintro e w6 ⟨A6, cap6, rfl, hp6, hL6, hO6, hk6⟩; dsimp only))
            all_goals
              have HP6 := Lib.hid hp6
              have HL6 := Lib.hid hL6
              have HO6 := Lib.hid hO6
              have HR6 := Lib.hid (show Cells w6 bR 37 #[.pointer (some ⟨g, 0, none⟩)] from (hk6.block bR hR5.lt (fun e => by rcases e with e | e | e; exact hgb.2.1 e.symm; omega; omega)).trans hR5)
              have HK6 := Lib.hid ((HI2.out.keep.drew.trans hk5 HQ0.out).trans hk6 (fun j e => by rcases e with e | e | e; exact .inl (.inl e); exact .inr (by omega); exact .inr (by omega)))
              have HM6 := Lib.hid (hm5.same (w' := w6) (fun b e => hk6.block b (MQ.lt (by rw [← e]; exact hm5)) (fun e2 => by have h9 := HML.out b e; rcases e2 with e2 | e2 | e2; exact h9.2.1 e2; omega; omega)))
              have HA6 := Lib.hid (show nx = fi' + pcs'.length ∧ (∀ x ∈ pcs', x ≠ []) from ⟨hnx5, hpo5⟩)
              have HFl6 := Lib.hid hfl5
              have HN6 := Lib.hid hn5
              have HMLO := Lib.hid HI2.out.ml
              have HMCO := Lib.hid HI2.out.mc
              have HCNO := Lib.hid HI2.out.cn
              have HLT6 := Lib.hid (show base ≤ w6.heap.size from Nat.le_trans HI2.out.lt (Nat.le_trans hk5.size hk6.size))
              clear hp6 hk6 hR5 hL5 hL6 hO6 hp5 hm5 hnx5 hfl5 hpo5 hn5 hk5 HTX HST HI2 r0 c4
              go_wp2_with fail
              go_roundw
              case rel => exact ⟨fi', z, n', 16, pcs', some ⟨qp + 16 + nd, qb, cnt + 1, tm⟩, false, (tm : Int), rz, rd, cnt + 1, tm, qp + 16 + nd, out ++ [CRec.mk (tm : Int) rz X], A6, cap6, m + 1, Lib.hid ⟨HP6.out, HM6.out, HA6.out.1, by rw [HFl6.out, List.length_drop]; have := HZ.out; omega, HFl6.out, HA6.out.2, HPL.out, by have := HCNO.out; have := HN6.out; omega, ⟨rfl, rfl, fun e => by simp at e, .inl ⟨rfl, rfl, rfl⟩⟩, hcl, HR6.out, HL6.out, HO6.out, by rw [List.length_append, HMLO.out]; rfl, by have := HMCO.out; omega, HFQ2.out, HK6.out, HLT6.out⟩⟩
              case measure => rw [HP6.out.meas, HMS.out]; have := HZ.out; simp; omega
theorem pfeed9_any (g : Nat) (B : Nat → Prop) (r : RdC) (s : List UInt8) (w : World) (h : PRd w B g r) (hs : r.S.length + s.length ≤ 1000000) (hq : QOk r) :
    Calls Try.prog 22 #[.pointer (some ⟨g, 0, none⟩), .string (str s)] w (FeedQ PRd w B g (feedC r s)) := (pfeedR_any g B r s w h hs hq).mono fun _ _ h => h.q
end Go.Proofs.Ytnckcdngmffahaa

/- Contracts of the program of layer 9: NewReader and Close in the laws' words. -/
namespace Go.Proofs.Ytnckcdngmffahaa
open Go.ChangeShapes Go.WideShapes Go.ChangeAt Go.RowKit
set_option linter.unusedVariables false

theorem pnew9_any (w : World) : Calls Try.prog 20 #[] w fun e w' => ∃ g S, e = .returned (.pointer (some ⟨g, 0, none⟩)) ∧ PRd w' S g newC ∧ (∀ j, S j → w.heap.size ≤ j) ∧ Below w.heap.size w w' := by
  refine (newr9_any w).mono ?_
  rintro e w' ⟨g, rfl, hp, hg, hb⟩
  refine ⟨g, fun k => k = g, rfl, ⟨none, 0, 0, 0, 0, [], 24, false, 0, 0, ⟨#[]⟩, 0, 0, hp, fun k => by simp, fun b e => (by cases e), fun _ => ⟨MQ.nil _ _ _, rfl, Nat.le_refl _, fun x hx => (by cases hx), rfl, 0, Nat.le_refl _, rfl, Nat.le_refl _, ⟨rfl, rfl, rfl, rfl, rfl⟩, by decide⟩⟩, fun j hj => by rw [hj]; exact hg, hb⟩
theorem funNeNil9 (w : World) : (binOp BinOp.neq 49 .nilFunc .nilFunc).run Try.prog w = .ok (.bool false) w := by kernel_rfl
theorem funNeSome9 (f : Nat) (w : World) : (binOp BinOp.neq 49 (.func (.func f) #[] #[]) .nilFunc).run Try.prog w = .ok (.bool true) w := by kernel_rfl
/-- What end leaves, in Close's words. -/
theorem close_end {w w' : World} {B : Nat → Prop} {g nd : Nat} {r : RdC} {op : Bool} {ra rz : Int} {rd : ByteArray} {cnt la : Nat} (hg : B g) (hp : PRc w' g none 0 0 0 nd (gvO r.q) op ra rz rd cnt la true) (hk : KeepB (fun k => k = g) w w') (er : Nat) (he : closeC r = er) : CloseQ PRd w B g r (.returned (.int .i64 (er : Int))) w' :=
  ⟨fun k => k = g, by rw [he], prd_end hp, fun k hk => .inl (by rw [hk]; exact hg), hk.mono (fun k e => by rw [e]; exact hg)⟩
set_option maxHeartbeats 4000000 in
set_option maxRecDepth 20000 in
theorem pclose9_any (g : Nat) (B : Nat → Prop) (r : RdC) (w : World) (h : PRd w B g r) (hs : r.S.length ≤ 1000000) (hq : QOk r) :
    Calls Try.prog 24 #[.pointer (some ⟨g, 0, none⟩)] w (CloseQ PRd w B g r) := by
  have HW := Lib.hid h
  obtain ⟨M0, fi, nx, sz, n, pcs, nd, op, ra, rz, rd, cnt, la, hc, hB, hM, hi⟩ := h
  have c12 := hc.c12
  have HG := Lib.hid ((hB g).2 (.inl rfl))
  cases he : r.e with
  | true =>
    have HC := Lib.hid (show closeC r = 10 by unfold closeC; rw [if_pos he])
    rw [he] at c12
    have HR := Lib.hid (show r = ⟨r.S, r.q, true⟩ by cases r; simp only at he; rw [he])
    clear hc hB hM hi he
    go_enter Try.func24, Try.ntmps24
    go_wp2_with fail
    go_ret
    exact ⟨B, by rw [HC.out]; rfl, by have := HW.out; rw [HR.out] at this; exact this, fun k hk => .inl hk, KeepB.refl _ _⟩
  | false =>
    rw [he] at c12
    obtain ⟨hm, hnx, hnS, hpo, hsz, p, hpS, hfl, hn, hmd, hwt⟩ := hi he
    have hszp : sz + p = r.S.length := by rw [hsz, hfl, List.length_drop]; omega
    rw [he] at hc
    have HE := Lib.hid (rend9_any g M0 fi nx sz nd (gvO r.q) op ra rz rd cnt la false w hc)
    have c3 := hc.c3
    have c5 := hc.c5
    have c6 := hc.c6
    cases hq0 : r.q with
    | none =>
      have HC := Lib.hid (show closeC r = 1 by unfold closeC; rw [he, hq0]; rfl)
      rw [hq0] at c5
      have c5' : w.cell? ⟨g, 5, none⟩ = some .nilFunc := c5
      have hn := funNeNil9
      clear hc hB hM hi he hm hnx hnS hpo hsz hfl hmd hwt hszp c5 hq0 hq hs HW
      go_enter Try.func24, Try.ntmps24
      go_wp2_with fail
      refine HE.out.mono ?_
      rintro e w2 ⟨rfl, hp2, hk2⟩
      have HP2 := Lib.hid hp2
      have HK2 := Lib.hid hk2
      clear hp2 hk2 HE c3 c5' c6 c12 hn
      go_wp2_with fail
      go_ret
      exact close_end HG.out HP2.out HK2.out 1 HC.out
    | some q =>
      rw [hq0] at c5 hmd
      obtain ⟨f, hf⟩ := gvF_is q.big
      have c5' : w.cell? ⟨g, 5, none⟩ = some (.func (.func f) #[] #[]) := by rw [← hf]; exact c5
      have hn := funNeSome9 f
      obtain ⟨-, -, -, hmd⟩ := hmd
      have hcl : closeC r = if q.pos < r.S.length then 1 else 0 := by unfold closeC; rw [he, hq0]; rfl
      rcases hmd with ⟨ho, -, hpq⟩ | ⟨ho, hpq, -⟩
      · subst ho
        by_cases hz : sz = 0
        · have HC := Lib.hid (show closeC r = 0 by rw [hcl, if_neg (by omega)])
          have dz : ((sz : Int) == 0) = true := by rw [beq_iff_eq]; omega
          clear hc hB hM hi he hm hnx hnS hpo hsz hfl hwt hszp c5 hq0 hq hs HW hf hcl hpq hz
          go_enter Try.func24, Try.ntmps24
          go_wp2_with fail
          refine HE.out.mono ?_
          rintro e w2 ⟨rfl, hp2, hk2⟩
          have HP2 := Lib.hid hp2
          have HK2 := Lib.hid hk2
          clear hp2 hk2 HE c3 c5' c6 c12 hn
          go_wp2_with fail
          go_ret
          exact close_end HG.out HP2.out HK2.out 0 HC.out
        · have HC := Lib.hid (show closeC r = 1 by rw [hcl, if_pos (by omega)])
          have dz : ((sz : Int) == 0) = false := by rw [beq_eq_false_iff_ne]; omega
          clear hc hB hM hi he hm hnx hnS hpo hsz hfl hwt hszp c5 hq0 hq hs HW hf hcl hpq hz
          go_enter Try.func24, Try.ntmps24
          go_wp2_with fail
          refine HE.out.mono ?_
          rintro e w2 ⟨rfl, hp2, hk2⟩
          have HP2 := Lib.hid hp2
          have HK2 := Lib.hid hk2
          clear hp2 hk2 HE c3 c5' c6 c12 hn
          go_wp2_with fail
          go_ret
          exact close_end HG.out HP2.out HK2.out 1 HC.out
      · subst ho
        have HC := Lib.hid (show closeC r = 1 by rw [hcl, if_pos (by omega)])
        clear hc hB hM hi he hm hnx hnS hpo hsz hfl hwt hszp c5 hq0 hq hs HW hf hcl hpq
        go_enter Try.func24, Try.ntmps24
        go_wp2_with fail
        refine HE.out.mono ?_
        rintro e w2 ⟨rfl, hp2, hk2⟩
        have HP2 := Lib.hid hp2
        have HK2 := Lib.hid hk2
        clear hp2 hk2 HE c3 c5' c6 c12 hn
        go_wp2_with fail
        go_ret
        exact close_end HG.out HP2.out HK2.out 1 HC.out
end Go.Proofs.Ytnckcdngmffahaa

/- Contract of the program of layer 9: Read. -/
namespace Go.Proofs.Ytnckcdngmffahaa
open Go.ChangeShapes Go.WideShapes Go.ChangeAt Go.RowKit
set_option linter.unusedVariables false

/-- How many bytes records take. -/
def sumR : List CRec → Nat
  | [] => 0
  | x :: r => 16 + x.dat.length + sumR r
theorem sumR_snoc : ∀ (l : List CRec) (x : CRec), sumR (l ++ [x]) = sumR l + (16 + x.dat.length)
  | [], x => by simp [sumR]
  | y :: r, x => by rw [List.cons_append, sumR, sumR, sumR_snoc r x]; omega
theorem allC_sum {S : List UInt8} : ∀ (n : Nat) (q : CSt), S.length < q.pos + n → (allC S q).2.1.pos = q.pos + sumR (allC S q).1
  | n, q, hn => by
    cases hq : nowC S q with
    | some e => rw [allC_stop hq]; rfl
    | none =>
      have h3 := (nowC_none hq).1
      rw [allC_go hq]
      cases n with
      | zero => omega
      | succ n =>
        have ih := allC_sum n (nextC S q) (by show S.length < q.pos + 16 + capC S q + n; omega)
        have e : (recAt S q).dat.length = capC S q := by show ((S.drop (q.pos + 16)).take (capC S q)).length = _; rw [List.length_take, List.length_drop]; omega
        simp only [sumR, e]
        rw [ih]
        show q.pos + 16 + capC S q + _ = _
        omega
theorem feed_sum (s : List UInt8) (q : CSt) (h : (feedC newC s).2.2.q = some q) : q.pos = 24 + sumR (feedC newC s).1 := by
  by_cases h24 : s.length < 24
  · rw [feed_new, if_pos h24] at h
    cases h
  · cases hh : headC s with
    | none =>
      rw [feed_new, if_neg h24, hh] at h
      cases h
    | some q0 =>
      rw [feed_new, if_neg h24, hh] at h ⊢
      simp only at h ⊢
      obtain rfl := Option.some.inj h
      rw [allC_sum (s.length + 1) q0 (by omega), (headC_some hh).1]
theorem sumR_take : ∀ (l : List CRec) (k : Nat), sumR (l.take k) ≤ sumR l
  | [], k => by simp [sumR]
  | x :: r, 0 => by simp [sumR]
  | x :: r, k + 1 => by rw [List.take_succ_cons, sumR, sumR]; have := sumR_take r k; omega
theorem sumR_next {l : List CRec} {k : Nat} {x : CRec} (h : l[k]? = some x) : sumR (l.take (k + 1)) = sumR (l.take k) + (16 + x.dat.length) := by
  obtain ⟨hk, e⟩ := List.getElem?_eq_some_iff.1 h
  rw [List.take_succ_eq_append_getElem hk, e, sumR_snoc]
theorem prd_c5 {w : World} {B : Nat → Prop} {g : Nat} {r : RdC} (h : PRd w B g r) : w.cell? ⟨g, 5, none⟩ = some (gvO r.q) := by
  obtain ⟨M, fi, nx, sz, n, pcs, nd, op, ra, rz, rd, cnt, la, hc, _⟩ := h
  exact hc.c5
theorem rec_c2 {w0 w : World} {g ob : Nat} {l : List CRec} {k : Nat} {x : CRec} (h : RowL ERec w0 (some ⟨g, ob, none⟩) l) (hx : l[k]? = some x) (hb : Below w0.heap.size w0 w) : w.cell? ⟨g, ob + k * 3, none⟩ = some (.int .i64 x.tm) ∧ w.cell? ⟨g, ob + k * 3 + 1, none⟩ = some (.int .i64 x.sz) ∧ w.cell? ⟨g, ob + k * 3 + 2, none⟩ = some (.string (str x.dat)) :=
  ⟨h.at_ hx hb 0 _ rfl, h.at_ hx hb 1 _ rfl, h.at_ hx hb 2 _ rfl⟩
set_option maxHeartbeats 8000000 in
set_option maxRecDepth 20000 in
theorem pread9_any (L : List UInt8) (w : World) (hs : L.length ≤ 1000000) : Calls Try.prog 12 #[.string (str L)] w (ReadQ w (readC L)) := by
  obtain ⟨F, hF⟩ : ∃ F, F = feedC newC L := ⟨_, rfl⟩
  obtain ⟨R, hR⟩ : ∃ R, R = readC L := ⟨_, rfl⟩
  rw [← hR]
  have hfq := feed_q QOk.new L
  have hfl := feed_len newC L
  have hsm := feed_sum L
  rw [← hF] at hfq hfl hsm
  have hsl : ∀ q, F.2.2.q = some q → sumR F.1 ≤ 1000000 := fun q h => by
    have h1 := hsm q h
    have h2 := (hfq.1 q h).1
    have h3 := hfq.2
    have h4 : newC.S.length = 0 := rfl
    omega
  have hn0 : newC.S.length = 0 := rfl
  have hRR : R = if F.2.1 ≠ 0 then ([], F.2.1, posC F.2.2) else if closeC F.2.2 ≠ 0 then ([], closeC F.2.2, posC F.2.2) else (F.1, 0, 0) := by rw [hR, hF]; rfl
  have HPF := Lib.hid (fun (g : Nat) (S : Nat → Prop) (W : World) (h : PRd W S g newC) => show Calls Try.prog 22 #[.pointer (some ⟨g, 0, none⟩), .string (str L)] W (FeedR W S g F) from by
    rw [hF]; exact pfeedR_any g S newC L W h (by omega) QOk.new)
  have hrs : F.2.2.S.length ≤ 1000000 := by have := hfq.2; omega
  have HPC := Lib.hid (fun (g : Nat) (S : Nat → Prop) (W : World) (h : PRd W S g F.2.2) => pclose9_any g S F.2.2 W h hrs hfq.1)
  clear hF hR
  obtain ⟨out, er, r⟩ := F
  simp only at hfq hfl hsm hRR HPF HPC hsl
  have hol : out.length ≤ 1000000 := by omega
  generalize str L = T at *
  have HRR := Lib.hid hRR
  have HSM := Lib.hid hsm
  have HSL := Lib.hid hsl
  clear hRR hsm hfq hfl hn0 hrs hsl
  go_enter Try.func12, Try.ntmps12
  go_wp2_with fail
  refine (pnew9_any w).mono ?_
  rintro e w1 ⟨g, S, rfl, hp1, hS1, b1⟩
  have HB1 := Lib.hid b1
  have HP1 := Lib.hid hp1
  have HS1 := Lib.hid hS1
  clear hp1 hS1 b1
  go_wp2_with fail
  refine (HPF.out g S w1 HP1.out).mono ?_
  rintro e w2 ⟨A, cap, S2, rfl, hr2, hn2, ha2, hp2, hs2, hk2⟩
  simp only at hr2 hp2
  have HB2 := Lib.hid (hk2.below HB1.out HS1.out)
  have HS2 := Lib.hid (show ∀ j, S2 j → w.heap.size ≤ j from fun j hj => by
    rcases hs2 j hj with h | h
    · exact HS1.out j h
    · exact Nat.le_trans HB1.out.size h)
  have HR2 := Lib.hid hr2
  have HN2 := Lib.hid hn2
  have HA2 := Lib.hid ha2
  have HP2 := Lib.hid hp2
  have HK2 := Lib.hid hk2
  clear hr2 hn2 ha2 hp2 hs2 hk2 HPF HP1
  by_cases he : er = 0
  · subst he
    have HR3 := Lib.hid (show R = if closeC r ≠ 0 then ([], closeC r, posC r) else (out, 0, 0) by rw [HRR.out, if_neg (by simp)])
    clear HRR
    obtain ⟨C, hC⟩ : ∃ C, C = closeC r := ⟨_, rfl⟩
    rw [← hC] at HR3
    have HPC2 := Lib.hid (show Calls Try.prog 24 #[.pointer (some ⟨g, 0, none⟩)] w2 fun e w' => ∃ S', e = .returned (.int .i64 (C : Int)) ∧ PRd w' S' g ⟨r.S, r.q, true⟩ ∧ (∀ k, S' k → S2 k ∨ w2.heap.size ≤ k) ∧ KeepB S2 w2 w' from by rw [hC]; exact HPC.out g S2 w2 HP2.out)
    clear hC HPC
    go_wp2_with fail
    refine HPC2.out.mono ?_
    rintro e w3 ⟨S3, rfl, hp3, hs3, hk3⟩
    have HB3 := Lib.hid (hk3.below HB2.out HS2.out)
    have HR9 := Lib.hid (HR2.out.keep hk3 (fun a ha => (HA2.out a ha).1))
    have c5 := prd_c5 hp3
    simp only at c5
    clear hp3 hs3 hk3 HPC2 HP2 HB2 HR2 HA2 HS2 HK2 HS1 HB1
    by_cases hz : C = 0
    · subst hz
      have HR4 := Lib.hid (show R = (out, 0, 0) by rw [HR3.out, if_neg (by simp)])
      clear HR3 c5 HSM HSL
      go_wp2_with fail
      go_ret3
      rw [HR4.out]
      exact ⟨A, cap, rfl, HR9.out, HN2.out, HB3.out⟩
    · have HR4 := Lib.hid (show R = ([], C, posC r) by rw [HR3.out, if_pos hz])
      have dz : ((C : Int) == 0) = false := by rw [beq_eq_false_iff_ne]; omega
      have dz2 : ¬ (C : Int) = 0 := by omega
      clear HR3 HN2
      cases hq : r.q with
      | none =>
        rw [hq] at c5
        have c5' : w3.cell? ⟨g, 5, none⟩ = some .nilFunc := c5
        have hf := funNil9
        have HR5 := Lib.hid (show R = ([], C, 0) by rw [HR4.out]; unfold posC; rw [hq])
        clear c5 hq HR4 HSM HSL
        go_wp2_with fail
        go_ret3
        rw [HR5.out]
        exact ⟨none, 0, rfl, RowL.nil _ _, fun _ => rfl, HB3.out⟩
      | some q =>
        rw [hq] at c5
        obtain ⟨f, hff⟩ := gvF_is q.big
        have c5' : w3.cell? ⟨g, 5, none⟩ = some (.func (.func f) #[] #[]) := by rw [← hff]; exact c5
        have hf := funSome9 f
        have HR5 := Lib.hid (show R = ([], C, 24 + sumR out) by rw [HR4.out]; unfold posC; rw [hq, ← HSM.out q hq])
        have HSL2 := Lib.hid (HSL.out q hq)
        clear c5 hq HR4 HSM HSL hff
        obtain ⟨m, hm⟩ : ∃ m, m = out.length := ⟨_, rfl⟩
        rw [← hm] at hol ⊢
        have HM := Lib.hid hm
        clear hm
        go_wp2_with fail
        go_loopw [8, 33] (fun v8 v33 wr => ∃ (k t : Nat), v8 = .int .i64 (t : Int) ∧ v33 = .int .i64 (k : Int) ∧ k ≤ m ∧ t ≤ 1000024 ∧ Hid (t = 24 + sumR (out.take k)) ∧ Hid (Below w.heap.size w wr) ∧ Hid (Below w3.heap.size w3 wr)) (fun _ v33 _ => m - (intOf v33).toNat)
        case atStart => exact ⟨0, 24, rfl, rfl, Nat.zero_le _, by omega, Lib.hid (by simp [sumR]), HB3, Lib.hid (Below.refl _ _)⟩
        case round =>
          obtain ⟨k, t, rfl, rfl, hk, ht, HT, HBw, HBx⟩ := hrel
          by_cases hlt : k < m
          · have hki : (k : Int) < (m : Int) := by omega
            have hki0 : (0 : Int) ≤ (k : Int) := by omega
            have dlt : decide ((k : Int) < (m : Int)) = true := by simp; omega
            obtain ⟨x, hget⟩ : ∃ x, out[k]? = some x := ⟨out[k]'(by have := HM.out; omega), List.getElem?_eq_getElem _⟩
            obtain ⟨ga, oa, rfl, hga, -⟩ := HR9.out (by have := HM.out; omega)
            obtain ⟨d0, d1, d2⟩ := rec_c2 HR9.out hget HBx.out
            have hsn := sumR_next hget
            have hst := sumR_take out (k + 1)
            have HTN := Lib.hid (show t + (16 + x.dat.length) = 24 + sumR (out.take (k + 1)) by rw [hsn, HT.out]; omega)
            have htn : t + (16 + x.dat.length) ≤ 1000024 := by have := HTN.out; have := HSL2.out; omega
            obtain ⟨xt, xs, xd⟩ := x
            simp only at d0 d1 d2 HTN htn
            have hDs : (str xd).size = xd.length := str_size xd
            obtain ⟨y, hy⟩ : ∃ y, y = xd.length := ⟨_, rfl⟩
            rw [← hy] at hDs htn HTN
            generalize str xd = D at *
            have HBw2 := Lib.hid (HBw.out.alloc HBw.out.size (.cells #[.int .i64 xt, .int .i64 xs, .string D] 33))
            have HBx2 := Lib.hid (HBx.out.alloc HBx.out.size (.cells #[.int .i64 xt, .int .i64 xs, .string D] 33))
            clear hget hsn hst hy
            go_wp2_with fail
            go_roundw
            case rel => exact ⟨k + 1, t + (16 + y), by go_num, by go_num, by omega, htn, HTN, HBw2, HBx2⟩
            case measure => simp [intOf]; omega
          · obtain rfl : k = m := by omega
            have dlt : decide ((k : Int) < (k : Int)) = false := by simp
            have nlt : ¬ (k : Int) < (k : Int) := by omega
            have HT2 := Lib.hid (show R = ([], C, t) by rw [HR5.out, HT.out, HM.out, List.take_length])
            go_wp2_with fail
            go_ret3
            rw [HT2.out]
            exact ⟨none, 0, rfl, RowL.nil _ _, fun _ => rfl, HBw.out⟩
  · have HR4 := Lib.hid (show R = ([], er, posC r) by rw [HRR.out, if_pos he])
    have dz : ((er : Int) == 0) = false := by rw [beq_eq_false_iff_ne]; omega
    have dz2 : ¬ (er : Int) = 0 := by omega
    have c5 := prd_c5 HP2.out
    have HB3 := HB2
    have HR9 := HR2
    clear HRR HPC HP2 HB2 HR2 HA2 HS2 HK2 HS1 HB1 HN2
    cases hq : r.q with
    | none =>
      rw [hq] at c5
      have c5' : w2.cell? ⟨g, 5, none⟩ = some .nilFunc := c5
      have hf := funNil9
      have HR5 := Lib.hid (show R = ([], er, 0) by rw [HR4.out]; unfold posC; rw [hq])
      clear c5 hq HR4 HSM HSL
      go_wp2_with fail
      go_ret3
      rw [HR5.out]
      exact ⟨none, 0, rfl, RowL.nil _ _, fun _ => rfl, HB3.out⟩
    | some q =>
      rw [hq] at c5
      obtain ⟨f, hff⟩ := gvF_is q.big
      have c5' : w2.cell? ⟨g, 5, none⟩ = some (.func (.func f) #[] #[]) := by rw [← hff]; exact c5
      have hf := funSome9 f
      have HR5 := Lib.hid (show R = ([], er, 24 + sumR out) by rw [HR4.out]; unfold posC; rw [hq, ← HSM.out q hq])
      have HSL2 := Lib.hid (HSL.out q hq)
      clear c5 hq HR4 HSM HSL hff
      obtain ⟨m, hm⟩ : ∃ m, m = out.length := ⟨_, rfl⟩
      rw [← hm] at hol ⊢
      have HM := Lib.hid hm
      clear hm
      go_wp2_with fail
      go_loopw [8, 33] (fun v8 v33 wr => ∃ (k t : Nat), v8 = .int .i64 (t : Int) ∧ v33 = .int .i64 (k : Int) ∧ k ≤ m ∧ t ≤ 1000024 ∧ Hid (t = 24 + sumR (out.take k)) ∧ Hid (Below w.heap.size w wr) ∧ Hid (Below w2.heap.size w2 wr)) (fun _ v33 _ => m - (intOf v33).toNat)
      case atStart => exact ⟨0, 24, rfl, rfl, Nat.zero_le _, by omega, Lib.hid (by simp [sumR]), HB3, Lib.hid (Below.refl _ _)⟩
      case round =>
        obtain ⟨k, t, rfl, rfl, hk, ht, HT, HBw, HBx⟩ := hrel
        by_cases hlt : k < m
        · have hki : (k : Int) < (m : Int) := by omega
          have hki0 : (0 : Int) ≤ (k : Int) := by omega
          have dlt : decide ((k : Int) < (m : Int)) = true := by simp; omega
          obtain ⟨x, hget⟩ : ∃ x, out[k]? = some x := ⟨out[k]'(by have := HM.out; omega), List.getElem?_eq_getElem _⟩
          obtain ⟨ga, oa, rfl, hga, -⟩ := HR9.out (by have := HM.out; omega)
          obtain ⟨d0, d1, d2⟩ := rec_c2 HR9.out hget HBx.out
          have hsn := sumR_next hget
          have hst := sumR_take out (k + 1)
          have HTN := Lib.hid (show t + (16 + x.dat.length) = 24 + sumR (out.take (k + 1)) by rw [hsn, HT.out]; omega)
          have htn : t + (16 + x.dat.length) ≤ 1000024 := by have := HTN.out; have := HSL2.out; omega
          obtain ⟨xt, xs, xd⟩ := x
          simp only at d0 d1 d2 HTN htn
          have hDs : (str xd).size = xd.length := str_size xd
          obtain ⟨y, hy⟩ : ∃ y, y = xd.length := ⟨_, rfl⟩
          rw [← hy] at hDs htn HTN
          generalize str xd = D at *
          have HBw2 := Lib.hid (HBw.out.alloc HBw.out.size (.cells #[.int .i64 xt, .int .i64 xs, .string D] 33))
          have HBx2 := Lib.hid (HBx.out.alloc HBx.out.size (.cells #[.int .i64 xt, .int .i64 xs, .string D] 33))
          clear hget hsn hst hy
          go_wp2_with fail
          go_roundw
          case rel => exact ⟨k + 1, t + (16 + y), by go_num, by go_num, by omega, htn, HTN, HBw2, HBx2⟩
          case measure => simp [intOf]; omega
        · obtain rfl : k = m := by omega
          have dlt : decide ((k : Int) < (k : Int)) = false := by simp
          have nlt : ¬ (k : Int) < (k : Int) := by omega
          have HT2 := Lib.hid (show R = ([], er, t) by rw [HR5.out, HT.out, HM.out, List.take_length])
          go_wp2_with fail
          go_ret3
          rw [HT2.out]
          exact ⟨none, 0, rfl, RowL.nil _ _, fun _ => rfl, HBw.out⟩
end Go.Proofs.Ytnckcdngmffahaa

/- Contracts of the program of layer 9: appendNumbers, check. -/
namespace Go.Proofs.Ytnckcdngmffahaa
open Go.ChangeShapes Go.WideShapes Go.ChangeAt Go.RowKit
set_option linter.unusedVariables false

/-- The blocks of bytes from base on. -/
def S8 (base : Nat) (w : World) : Nat → Prop := fun j => base ≤ j ∧ ∃ cs fr, w.heap[j]? = some (.cells cs 5 fr)
theorem own_u8 {w : World} {base size n : Nat} {v : Value} {xs : List Value} (h : w.ownsRow base 5 size v n xs) : ∀ j, v.ownBlock = some j → S8 base w j := fun j hj => by
  rcases h.2 with ⟨h1, h2⟩ | ⟨g, cap, cur, hv, hb, hh, _⟩
  · rw [h1] at hj; cases hj
  · rw [hv] at hj
    obtain rfl := Option.some.inj hj
    exact ⟨hb, _, _, hh⟩
theorem keep8 {w w1 w2 : World} {base size n : Nat} {v : Value} {xs : List Value} (h : KeepB (S8 base w) w w1) (ho : w1.ownsRow base 5 size v n xs) (hg : w1.grownBy w2 v.ownBlock) : KeepB (S8 base w) w w2 :=
  h.grownBy hg (fun j hj => by
    obtain ⟨h1, cs, fr, h2⟩ := own_u8 ho j hj
    by_cases hlt : j < w.heap.size
    · by_cases hS : S8 base w j
      · exact .inl hS
      · have := h.block j hlt hS
        exact absurd ⟨h1, cs, fr, by rw [← this]; exact h2⟩ hS
    · exact .inr (by omega))
theorem cells_not8 {w : World} {g base : Nat} {t : TypeId} {cs : Array Value} (h : Cells w g t cs) (ht : t ≠ 5) : ¬ S8 base w g := fun ⟨_, c, f, e⟩ => by
  have := h.symm.trans e
  injection this with this
  injection this with h1 h2
  exact ht h2
theorem Cells.keep8 {w w' : World} {g base : Nat} {t : TypeId} {cs : Array Value} (h : Cells w g t cs) (hk : KeepB (S8 base w) w w') (ht : t ≠ 5) : Cells w' g t cs := (hk.block g (Cells.lt h) (cells_not8 h ht)).trans h
def natCs (ns : List Nat) : Array Value := (ns.map fun (x : Nat) => Value.int .i64 (x : Int)).toArray
theorem own_len9 {w : World} {base : Nat} {n c : Nat} {A : Option Addr} {l : List UInt8} (h : w.ownsRow base 5 1 (.slice A n c) n (cellsOf l)) : n = l.length := by
  have h1 : (cellsOf l).length = n * 1 := h.1
  rw [cellsOf_length] at h1
  omega
set_option maxHeartbeats 4000000 in
set_option maxRecDepth 20000 in
theorem papn9_any (A : Option Addr) (n c : Nat) (l : List UInt8) (k : Nat) (ns : List Nat) (gB q cb base : Nat) (w : World) (ho : w.ownsRow base 5 1 (.slice A n c) n (cellsOf l)) (hB : Cells w gB 3 (natCs ns)) (hq : q = ns.length) (hk : 1 ≤ k ∧ k ≤ 7) (hf : ∀ x ∈ ns, x < pw k) (hl : l.length + 7 * ns.length ≤ 100000000) (hb : base ≤ w.heap.size) :
    Calls Try.prog 26 #[.slice A n c, .int .i64 (k : Int), .slice (some ⟨gB, 0, none⟩) q cb] w fun e w' => ∃ A' c' n', e = .returned (.slice A' n' c') ∧ w'.ownsRow base 5 1 (.slice A' n' c') n' (cellsOf (l ++ ns.flatMap (leL k))) ∧ KeepB (S8 base w) w w' := by
  obtain ⟨i0, hi, hz0, hz1, hz2⟩ := info_parts info5
  obtain ⟨hk1, hk7⟩ := hk
  have HB := Lib.hid hB
  have HF := Lib.hid hf
  have HQ := Lib.hid hq
  have HO0 := Lib.hid (show w.ownsRow base 5 1 (.slice A n c) n (cellsOf (l ++ (ns.take 0).flatMap (leL k))) by simpa using ho)
  have HK0 := Lib.hid (KeepB.refl (S8 base w) w)
  have HLL := Lib.hid hl
  have hqb : q ≤ 100000000 := by omega
  clear hB hf hq ho hl
  go_enter Try.func26, Try.ntmps26
  go_wp2_with fail
  go_loopw [0, 11] (fun v0 v11 wr => ∃ (j n : Nat) (A : Option Addr) (c : Nat), v0 = .slice A n c ∧ v11 = .int .i64 (j : Int) ∧ j ≤ q ∧ Hid (wr.ownsRow base 5 1 (.slice A n c) n (cellsOf (l ++ (ns.take j).flatMap (leL k)))) ∧ Hid (KeepB (S8 base w) w wr)) (fun _ v11 _ => q - (intOf v11).toNat)
  case atStart => exact ⟨0, n, A, c, rfl, rfl, Nat.zero_le _, HO0, HK0⟩
  case round =>
    clear HO0 HK0
    obtain ⟨j, n, A, c, rfl, rfl, hj, HO, HK⟩ := hrel
    by_cases hlt : j < q
    · have hji : (j : Int) < (q : Int) := by omega
      have hj0 : (0 : Int) ≤ (j : Int) := by omega
      have dlt : decide ((j : Int) < (q : Int)) = true := by simp; omega
      have hjn : j < ns.length := by have := HQ.out; omega
      obtain ⟨x, hx⟩ : ∃ x, x = ns[j] := ⟨_, rfl⟩
      have hxg : ns[j]? = some x := by rw [hx]; exact List.getElem?_eq_getElem hjn
      have c0 : wr.cell? ⟨gB, j, none⟩ = some (.int .i64 (x : Int)) := by
        rw [Cells.cell (HB.out.keep8 HK.out (by decide)) j]
        unfold natCs
        simp [hxg]
      have HX := Lib.hid (show x < pw k from HF.out x (by rw [hx]; exact List.getElem_mem hjn))
      have hx7 : x < 72057594037927936 := Nat.lt_of_lt_of_le HX.out (pw_le7 hk7)
      have HP := Lib.hid (fun (W : World) => show Calls Try.prog 38 #[.int .i64 (x : Int), .int .i64 (k : Int)] W fun e w' => e = .returned (.string (str (leL k x))) ∧ Below W.heap.size W w' from by
        have h := putl_yes (x : Int) (k : Int) W (by omega) (by omega) (by omega) (by omega) (by rw [Int.toNat_natCast, Int.toNat_natCast]; exact HX.out)
        rw [Int.toNat_natCast, Int.toNat_natCast] at h
        exact h)
      have hsz : (str (leL k x)).size = k := by rw [str_size, leL_length]
      have HSC := Lib.hid (show cellsOf (l ++ (ns.take j).flatMap (leL k)) ++ Lib.strCells (str (leL k x)) = cellsOf (l ++ (ns.take (j + 1)).flatMap (leL k)) by
        unfold Lib.strCells
        rw [str_toList, List.take_succ_eq_append_getElem hjn, ← hx, List.flatMap_append]
        unfold cellsOf
        simp)
      have hnl : n ≤ 100000000 := by
        have h1 := own_len9 HO.out
        have h2 : ((ns.take j).flatMap (leL k)).length ≤ 7 * ns.length := by
          have : ∀ m : List Nat, (m.flatMap (leL k)).length = m.length * k := fun m => by
            induction m with
            | nil => simp
            | cons a r ih => rw [List.flatMap_cons, List.length_append, leL_length, ih, List.length_cons, Nat.succ_mul]; omega
          rw [this, List.length_take]
          have h3 : min j ns.length * k ≤ ns.length * 7 := Nat.mul_le_mul (Nat.min_le_right _ _) hk7
          omega
        have := HLL.out
        rw [h1, List.length_append]
        omega
      generalize str (leL k x) = U at *
      clear hx hxg
      go_wp2_with fail
      refine (HP.out _).mono ?_
      rintro e w2 ⟨rfl, hb2⟩
      have HK2 := Lib.hid (HK.out.step hb2)
      have HO2 := Lib.hid (own_kept HO.out hb2 (Nat.le_refl _))
      have hbs : base ≤ w2.heap.size := Nat.le_trans hb (HK2.out.size)
      clear hb2 HK HO c0 HP
      go_wp2_with (at_builtin; refine Lib.wpList_append_own_string _ rfl _ _ 52 9 rfl base 5 i0 Try.underlying52 Try.underlying9 hi hz0 hz1 hz2 _ n _ rfl HO2.out U rfl ?c3 ?c4 ?c5 ?_)
      case c3 => unfold maxLen; omega
      case c4 => omega
      case c5 => exact hbs
      intro v' w3 hown3 hgrow _
      rw [HSC.out] at hown3
      obtain ⟨A3, c3, rfl⟩ := own_shape hown3
      have HK3 := Lib.hid (keep8 HK2.out HO2.out hgrow)
      have HO3 := Lib.hid hown3
      clear hown3 hgrow HK2 HO2 hbs
      go_wp2_with fail
      go_roundw
      case rel => exact ⟨j + 1, _, A3, c3, rfl, by go_num, by omega, HO3, HK3⟩
      case measure => simp [intOf]; omega
    · obtain rfl : j = q := by omega
      have dlt : decide ((j : Int) < (j : Int)) = false := by simp
      have nlt : ¬ (j : Int) < (j : Int) := by omega
      have HO2 := Lib.hid (show wr.ownsRow base 5 1 (.slice A n c) n (cellsOf (l ++ ns.flatMap (leL k))) by
        have := HO.out
        rw [HQ.out, List.take_length] at this
        exact this)
      go_wp2_with fail
      go_ret
      exact ⟨A, c, n, rfl, HO2.out, HK.out⟩
/-- What check answers. -/
theorem wErr1_0 (x : CRec) : wErr1 none x = wErr1 (some 0) x := by
  unfold wErr1
  split
  · rfl
  · split
    · rfl
    · rename_i h1 h2
      simp only
      rw [if_neg (by omega)]
set_option maxHeartbeats 4000000 in
set_option maxRecDepth 20000 in
theorem pchk9_any (x : CRec) (last : Int) (w : World) (hd : x.dat.length ≤ 9223372036854775807) :
    Calls Try.prog 27 #[.agg #[.int .i64 x.tm, .int .i64 x.sz, .string (str x.dat)], .int .i64 last] w fun e w' => e = .returned (.int .i64 (wErr1 (some last) x : Int)) ∧ Below w.heap.size w w' := by
  obtain ⟨tm, sz, dat⟩ := x
  obtain ⟨R, hR⟩ : ∃ R, R = wErr1 (some last) ⟨tm, sz, dat⟩ := ⟨_, rfl⟩
  rw [← hR]
  unfold wErr1 at hR
  simp only at hR hd ⊢
  have hsz := str_size dat
  obtain ⟨n, hn⟩ : ∃ n, n = dat.length := ⟨_, rfl⟩
  rw [← hn] at hR hd hsz
  have HB := Lib.hid (below_alloc6 w (.cells #[.int .i64 tm, .int .i64 sz, .string (str dat)] 33))
  have HRR := Lib.hid hR
  clear hR hn
  generalize str dat = D at *
  by_cases h1 : 4096 < n
  · have HE := Lib.hid (show R = 3 by rw [HRR.out, if_pos h1])
    have d1 : decide ((4096 : Int) < (n : Int)) = true := by simp; omega
    have n1 : (4096 : Int) < (n : Int) := by omega
    clear HRR
    go_enter Try.func27, Try.ntmps27
    go_wp2_with fail
    go_ret
    exact ⟨by rw [HE.out]; rfl, HB.out⟩
  have d1 : decide ((4096 : Int) < (n : Int)) = false := by simp; omega
  have n1 : ¬ (4096 : Int) < (n : Int) := by omega
  have HR2 := Lib.hid (show R = if tm < 0 ∨ 1099511627776 < tm ∨ sz < n ∨ 65535 < sz then 4 else if tm < last then 12 else 0 by rw [HRR.out, if_neg h1])
  clear HRR h1
  by_cases h2 : tm < 0
  · have HE := Lib.hid (show R = 4 by rw [HR2.out, if_pos (.inl h2)])
    have d2 : decide (tm < 0) = true := by simp; omega
    clear HR2
    go_enter Try.func27, Try.ntmps27
    go_wp2_with fail
    go_ret
    exact ⟨by rw [HE.out]; rfl, HB.out⟩
  have d2 : decide (tm < 0) = false := by simp; omega
  by_cases h3 : 1099511627776 < tm
  · have HE := Lib.hid (show R = 4 by rw [HR2.out, if_pos (.inr (.inl h3))])
    have d3 : decide (1099511627776 < tm) = true := by simp; omega
    clear HR2
    go_enter Try.func27, Try.ntmps27
    go_wp2_with fail
    go_ret
    exact ⟨by rw [HE.out]; rfl, HB.out⟩
  have d3 : decide (1099511627776 < tm) = false := by simp; omega
  by_cases h4 : sz < n
  · have HE := Lib.hid (show R = 4 by rw [HR2.out, if_pos (.inr (.inr (.inl h4)))])
    have d4 : decide (sz < (n : Int)) = true := by simp; omega
    clear HR2
    go_enter Try.func27, Try.ntmps27
    go_wp2_with fail
    go_ret
    exact ⟨by rw [HE.out]; rfl, HB.out⟩
  have d4 : decide (sz < (n : Int)) = false := by simp; omega
  by_cases h5 : 65535 < sz
  · have HE := Lib.hid (show R = 4 by rw [HR2.out, if_pos (.inr (.inr (.inr h5)))])
    have d5 : decide (65535 < sz) = true := by simp; omega
    clear HR2
    go_enter Try.func27, Try.ntmps27
    go_wp2_with fail
    go_ret
    exact ⟨by rw [HE.out]; rfl, HB.out⟩
  have d5 : decide (65535 < sz) = false := by simp; omega
  have HR3 := Lib.hid (show R = if tm < last then 12 else 0 by rw [HR2.out, if_neg (by omega)])
  clear HR2
  by_cases h6 : tm < last
  · have HE := Lib.hid (show R = 12 by rw [HR3.out, if_pos h6])
    have d6 : decide (tm < last) = true := by simp; omega
    clear HR3
    go_enter Try.func27, Try.ntmps27
    go_wp2_with fail
    go_ret
    exact ⟨by rw [HE.out]; rfl, HB.out⟩
  · have HE := Lib.hid (show R = 0 by rw [HR3.out, if_neg h6])
    have d6 : decide (tm < last) = false := by simp; omega
    clear HR3
    go_enter Try.func27, Try.ntmps27
    go_wp2_with fail
    go_ret
    exact ⟨by rw [HE.out]; rfl, HB.out⟩
end Go.Proofs.Ytnckcdngmffahaa
