/- CaptureMany holds: for every two numbers the law about a list of equal records returns true and leaves memory as it was; no conditions. -/
import Derived.Test.YtnckcdngmffahaaRows
import Derived.Test.YtnckcdngmffahaaChecked
import Derived.Test.YtnckcdngmffahaaCA5
namespace Go.Proofs.Ytnckcdngmffahaa.captureMany
open Go.ChangeShapes Go.WideShapes Go.ChangeAt Go.RowKit
open Go.ChangeMaps (open_string shut_string)
set_option linter.unusedVariables false

theorem own : ownKnob Try.prog.godebug = none := by kernel_rfl
theorem laidOut : laidOutB Try.prog = true := by kernel_rfl
set_option maxHeartbeats 4000000 in
set_option maxRecDepth 20000 in
theorem walk (a0 a1 : Int) (w : World) (w0 : (Lit.int .i64 a0).wf = true) (w1 : (Lit.int .i64 a1).wf = true) :
    Calls Try.prog 5 #[.int .i64 a0, .int .i64 a1] w fun e w' => e = .returned (.bool true) ∧ Below w.heap.size w w' := by
  have B0 := Lib.hid (Below.refl w.heap.size w)
  by_cases h1 : a0 < 1990
  · have d0 : decide (a0 < (1990 : Int)) = true := by simp; omega
    go_enter Try.func5, Try.ntmps5
    go_wp2_with fail
    refine (lives_any _).mono ?_
    rintro e w99 ⟨rfl, b99⟩
    go_wp2_with fail
    go_ret
    exact ⟨rfl, B0.out.trans (b99.mono B0.out.size)⟩
  by_cases h2 : 2001 < a0
  · have d0 : decide (a0 < (1990 : Int)) = false := by simp; omega
    have d1 : decide ((2001 : Int) < a0) = true := by simp; omega
    go_enter Try.func5, Try.ntmps5
    go_wp2_with fail
    refine (lives_any _).mono ?_
    rintro e w99 ⟨rfl, b99⟩
    go_wp2_with fail
    go_ret
    exact ⟨rfl, B0.out.trans (b99.mono B0.out.size)⟩
  obtain ⟨n, rfl⟩ : ∃ n : Nat, a0 = (n : Int) := ⟨a0.toNat, by omega⟩
  have hn1 : 1990 ≤ n := by omega
  have hn2 : n ≤ 2001 := by omega
  have d0 : decide ((n : Int) < (1990 : Int)) = false := by simp; omega
  have d1 : decide ((2001 : Int) < (n : Int)) = false := by simp; omega
  have e0 : ¬ (n : Int) < (1990 : Int) := by omega
  have e1 : ¬ (2001 : Int) < (n : Int) := by omega
  obtain ⟨x, hx⟩ : ∃ x : CRec, x = ⟨a1, 0, []⟩ := ⟨_, rfl⟩
  have HXW := Lib.hid (show recWf x by rw [hx]; exact ⟨w1, show (Lit.int .i64 0).wf = true by decide, Nat.zero_le _⟩)
  have HXD := Lib.hid (show x.dat = [] by rw [hx])
  have HXC := Lib.hid (show (#[.int .i64 a1, .int .i64 0, .string ⟨#[]⟩] : Array Value).toList = ERec.cells [x] by rw [hx]; rfl)
  clear w0 w1 h1 h2 hx
  go_enter Try.func5, Try.ntmps5
  go_wp2_with fail
  go_loopw [5, 6] (fun v5 v6 wr => ∃ (k : Nat) (A' : Option Addr) (c' : Nat), v5 = .slice A' k c' ∧ v6 = .int .i64 k ∧ k ≤ n ∧ Hid (wr.ownsRow w.heap.size 33 3 (.slice A' k c') k (ERec.cells (List.replicate k x))) ∧ Hid (Below w.heap.size w wr)) (fun _ v6 _ => n - (intOf v6).toNat)
  case atStart => exact ⟨0, none, 0, rfl, rfl, Nat.zero_le _, Lib.hid (World.ownsRow_nil w _ _ _), B0⟩
  case round =>
    clear B0
    obtain ⟨k, A', c', rfl, rfl, hk, HO, HB⟩ := hrel
    have hk0 : (0 : Int) ≤ (k : Int) := by omega
    by_cases hlt : k < n
    · have hki : (k : Int) < (n : Int) := by omega
      have dlt : decide ((k : Int) < (n : Int)) = true := by simp; omega
      go_wp2_with (at_builtin; refine wpList_push (E := ERec) rcTy (by rfl) _ _ (by rfl) w.heap.size _ k (List.replicate k x) [x] (by rfl) (HO.out.alloc _) _ 1 1 #[.int .i64 a1, .int .i64 0, .string ⟨#[]⟩] (0, 0) (by rfl) (heap_alloc_new _ _) HXC.out rfl (by omega) (by omega) (by decide) ?hb ?_)
      case hb => have := HB.out.size; simp; omega
      intro g2 cap2 w9 hown hgrow hat hlt2
      have HB9 := Lib.hid ((HB.out.alloc HB.out.size (.cells #[.int .i64 a1, .int .i64 0, .string ⟨#[]⟩] 33)).grown hgrow (by have := HB.out.size; simp; omega) (fun j hj => (HO.out.lt j hj).1))
      have HO9 := Lib.hid (show w9.ownsRow w.heap.size 33 3 (.slice (some ⟨g2, 0, none⟩) (k + 1) cap2) (k + 1) (ERec.cells (List.replicate (k + 1) x)) by rw [List.replicate_succ']; exact hown)
      clear hown hgrow hat hlt2 HB HO
      go_wp2_with fail
      go_roundw
      case rel => exact ⟨k + 1, some ⟨g2, 0, none⟩, cap2, rfl, by go_num, by omega, HO9, HB9⟩
      case measure => simp [intOf]; omega
    · obtain rfl : k = n := by omega
      have dlt : decide ((k : Int) < (k : Int)) = false := by simp
      have nlt : ¬ (k : Int) < (k : Int) := by omega
      obtain ⟨l, hl⟩ : ∃ l, l = List.replicate k x := ⟨_, rfl⟩
      have hll : l.length = k := by rw [hl, List.length_replicate]
      have hwf : ∀ y ∈ l, recWf y := fun y hy => by rw [hl] at hy; obtain rfl := List.eq_of_mem_replicate hy; exact HXW.out
      have HR := Lib.hid (show RowL ERec wr A' l from rowl_of_own (E := ERec) (by rw [hl]; exact HO.out) hll.symm)
      have H1 := Lib.hid (fun (W : World) (hb : Below wr.heap.size wr W) => show Calls Try.prog 16 #[.slice A' k c'] W fun e w' => e = .returned (.tuple #[.string (str (writeC l).1), .int .i64 ((writeC l).2 : Int)]) ∧ Below W.heap.size W w' from by
        have := pwrite9_any A' c' l W (HR.out.kept hb) (by omega) hwf
        rwa [hll] at this)
      have H2 := Lib.hid (fun (W : World) (hb : Below wr.heap.size wr W) => show Calls Try.prog 17 #[.slice A' k c'] W fun e w' => e = .returned (.tuple #[.string (str (writeC l).1), .int .i64 ((writeC l).2 : Int)]) ∧ Below W.heap.size W w' from by
        have := rwrite9_any A' c' l W (HR.out.kept hb) (by omega)
        rwa [hll] at this)
      have hwr : k ≤ 2000 → writeC l = if wErr none l ≠ 0 then ([], wErr none l) else (wHd ++ l.flatMap wRec, 0) := fun h => by unfold writeC; rw [if_neg (by omega)]
      have HWR := Lib.hid hwr
      have HLK := Lib.hid hll
      have HLR := Lib.hid hl
      clear hl hll hwf HR HO hwr
      obtain ⟨R, hR⟩ : ∃ R, R = writeC l := ⟨_, rfl⟩
      rw [← hR] at H1 H2 HWR
      clear hR
      obtain ⟨F, er⟩ := R
      simp only at H1 H2
      go_wp2_with fail
      refine (H1.out _ (Below.refl _ _)).mono ?_
      rintro e w1 ⟨rfl, b1⟩
      have HBr := Lib.hid b1
      have B1 := Lib.hid (HB.out.trans (b1.mono HB.out.size))
      clear b1 H1 HB
      go_wp2_with fail
      refine (H2.out _ HBr.out).mono ?_
      rintro e w2 ⟨rfl, b2⟩
      have B2 := Lib.hid (B1.out.trans (b2.mono B1.out.size))
      clear b2 H2 B1 HBr
      have heq : ((str F).toList == (str F).toList) = true := beq_self_eq_true _
      have her : ((er : Int) == (er : Int)) = true := beq_self_eq_true _
      have hFS := Lib.hid (str_size F)
      by_cases hz : er = 0 ∧ k = 2000
      · obtain ⟨rfl, rfl⟩ := hz
        have hw0 : wErr none l = 0 := by
          have h := HWR.out (by omega)
          by_cases e : wErr none l = 0
          · exact e
          · rw [if_pos e] at h
            have := (Prod.mk.injEq .. ▸ h : _ ∧ _).2
            exact absurd this.symm e
        have hF : F = wHd ++ l.flatMap wRec := by
          have h := HWR.out (by omega)
          rw [if_neg (by omega)] at h
          exact (Prod.mk.injEq .. ▸ h : _ ∧ _).1
        have hlr := HLR.out
        have hx0 : wErr1 none x = 0 := rep_err (n := 1999) (by rw [← hlr]; exact hw0)
        have hml : F.length = 32024 := by rw [hF, hlr, many_len x HXD.out]
        have hmd : F.drop 32008 = wRec x := by rw [hF, hlr]; exact many_drop x HXD.out 1999
        have hrm := read_more hw0 hx0 HLK.out
        have hrw := read_write hw0 (by rw [HLK.out]; decide)
        rw [← List.append_assoc, ← hF] at hrm
        rw [← hF] at hrw
        obtain ⟨S, hS⟩ : ∃ S, S = str F := ⟨_, rfl⟩
        have hSz : S.size = 32024 := by rw [hS, str_size, hml]
        have hex : S.extract 32008 S.size = str (wRec x) := by
          rw [hSz, hS, extract_str6, str_toList, ← hmd, List.take_of_length_le (by rw [List.length_drop, hml]; decide)]
        have hcat : S ++ S.extract 32008 S.size = str (F ++ wRec x) := by rw [hex, hS, str_append]
        have HC1 := Lib.hid (fun (W : World) => show Calls Try.prog 12 #[.string (S ++ S.extract 32008 S.size)] W fun e w' => ∃ A cap m, e = .returned (.tuple #[.slice A m cap, .int .i64 3, .int .i64 32024]) ∧ Below W.heap.size W w' from by
          rw [hcat]
          refine (pread9_any (F ++ wRec x) W (by rw [List.length_append, hml, wRec_len, HXD.out]; decide)).mono ?_
          rintro e w' ⟨A, cap, h1, h2, h3, h4⟩
          rw [hrm.1, hrm.2, hml] at h1
          exact ⟨A, cap, _, h1, h4⟩)
        have HC2 := Lib.hid (fun (W : World) => show Calls Try.prog 12 #[.string S] W fun e w' => ∃ A cap, e = .returned (.tuple #[.slice A 2000 cap, .int .i64 0, .int .i64 0]) ∧ Below W.heap.size W w' from by
          rw [hS]
          refine (pread9_any F W (by omega)).mono ?_
          rintro e w' ⟨A, cap, h1, h2, h3, h4⟩
          rw [hrw] at h1
          simp only [HLK.out] at h1
          exact ⟨A, cap, h1, h4⟩)
        have hSi : (S.size : Int) = 32024 := by omega
        have hexs : (S.extract 32008 S.size).size = 16 := by rw [hex, str_size, wRec_len, HXD.out]; rfl
        have hsum : (9223372036854775807 < S.size + (S.extract 32008 S.size).size) = False := by rw [hexs, hSz]; simp
        rw [← hS] at heq ⊢
        clear hw0 hF hlr hx0 hml hmd hrm hrw hS hex hcat hSz hFS HWR HLK HLR HXW HXD HXC
        go_wp2_with fail
        refine (HC1.out _).mono ?_
        rintro e w3 ⟨A3, c3, m3, rfl, b3⟩
        have B3 := Lib.hid (B2.out.trans (b3.mono B2.out.size))
        clear b3 B2 HC1 hexs hsum
        go_wp2_with fail
        refine (HC2.out _).mono ?_
        rintro e w4 ⟨A4, c4, rfl, b4⟩
        have B4 := Lib.hid (B3.out.trans (b4.mono B3.out.size))
        clear b4 B3 HC2
        go_wp2_with fail
        refine (lives_any _).mono ?_
        rintro e w99 ⟨rfl, b99⟩
        go_wp2_with fail
        go_ret
        exact ⟨rfl, B4.out.trans (b99.mono B4.out.size)⟩
      · have hz2 : ((er : Int) == 0) = true ∧ ((k : Int) == 2000) = false ∧ er = 0 ∨ ((er : Int) == 0) = false ∧ ¬ (er : Int) = 0 := by
          by_cases e : er = 0
          · left; exact ⟨by rw [e]; rfl, by rw [beq_eq_false_iff_ne]; omega, e⟩
          · right; exact ⟨by rw [beq_eq_false_iff_ne]; omega, by omega⟩
        generalize str F = S at *
        clear hz HWR HLK HLR HXW HXD HXC hFS
        rcases hz2 with ⟨z1, z2, rfl⟩ | ⟨z1, z2⟩
        · have z3 : ¬ (k : Int) = 2000 := by intro h; rw [h] at z2; cases z2
          go_wp2_with fail
          refine (lives_any _).mono ?_
          rintro e w99 ⟨rfl, b99⟩
          go_wp2_with fail
          go_ret
          exact ⟨rfl, B2.out.trans (b99.mono B2.out.size)⟩
        · go_wp2_with fail
          refine (lives_any _).mono ?_
          rintro e w99 ⟨rfl, b99⟩
          go_wp2_with fail
          go_ret
          exact ⟨rfl, B2.out.trans (b99.mono B2.out.size)⟩

set_option maxRecDepth 100000 in
theorem lifted (os : Os) (started : os.Started) (H : Type) (enc : TypeId × Value → H) :
    ReturnsInHanded {} Try.checked os 5 .any (Rows.captureManySpec.pre6 enc Try.prog Try.f5 Rows.captureManyRow.domain false) (Rows.captureManySpec.post enc Try.prog Try.f5 false true false false) := by
  refine returnsInHanded_of_change (C := Try.checked) own started (by kernel_rfl) Try.func5
    (ChangeSpec.witness6 (enc := enc) (C := Try.checked) false ⟨#[], #[.int .i64 0, .int .i64 0], []⟩ 8 (by kernel_rfl) (by kernel_rfl) (by kernel_rfl) (by kernel_rfl)) ?_
  intro W base args ds gs before hval0 hW hcnd _
  have hval : ∀ (j : Nat) t v, Try.f5.params[j]? = some t → args[j]? = some v → Value.okWide Try.prog W .any base t v := hval0
  have hW' := hW
  obtain ⟨p, q, hA0, hV, rfl, hfz, hnd⟩ := hW
  have hA : DataW.TrodAll enc Try.prog W 0 (fun _ => true) true Try.f5.params.toList args.toList ds p := hA0
  rw [Try.params5] at hA hval
  obtain ⟨v0, vs0, d0, ds0, p0, q0, hargs, rfl, rfl, h0, r0⟩ := trodAll_cons hA
  obtain ⟨v1, vs1, d1, ds1, p1, q1, rfl, rfl, rfl, h1, r1⟩ := trodAll_cons r0
  obtain ⟨rfl, rfl, rfl⟩ := trodAll_nil r1
  obtain rfl : args = #[v0, v1] := by cases args; simp_all
  obtain ⟨rfl, rfl⟩ := trodVars_none hV
  obtain ⟨a0, rfl, rfl, rfl, w0⟩ := open_int Try.underlying3 (hval 0 3 v0 rfl rfl) h0
  obtain ⟨a1, rfl, rfl, rfl, w1⟩ := open_int Try.underlying3 (hval 1 3 v1 rfl rfl) h1
  clear hA0 hval0
  refine (walk a0 a1 W w0 w1).mono fun e W' ⟨he, bel⟩ => ?_
  subst he
  exact ⟨_, rfl, _, _, _, [], _, [], hW', trodAll_mk1 (shut_bool Try.underlying4 _), (trodAll_cons_mk (shut_int Try.underlying3 w0) (trodAll_cons_mk (shut_int Try.underlying3 w1) trodAll_mk0)), rfl, bel.frame _, fun h => by cases h⟩

theorem over : Rows.captureManyRow.holds Try.pinned (OpenSpec.ofChange Rows.captureManySpec) :=
  OpenClaim.holds_of_wide 5 Try.f5 rfl rfl rfl rfl rfl rfl rfl ⟨rfl, rfl, rfl, rfl, rfl⟩ rfl rfl rfl rfl rfl (by kernel_rfl) Try.func5 (by kernel_rfl)
    (of_decide_eq_true (by kernel_rfl)) (by unfold Func.isWrapper; first | (rw [if_pos (by decide +kernel)]; kernel_rfl) | (rw [if_neg (by decide +kernel)]; exact ⟨rfl, rfl⟩))
    (fun os started H enc _ => lifted os started H enc)

theorem proved : Rows.CaptureManySaid := over
#print axioms proved
end Go.Proofs.Ytnckcdngmffahaa.captureMany
