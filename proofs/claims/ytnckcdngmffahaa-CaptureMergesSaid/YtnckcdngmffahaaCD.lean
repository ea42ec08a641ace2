/- CaptureMerges holds: for every two lists of records the law about Merge beside the reference returns true and leaves memory as it was; no conditions. -/
import Derived.Test.YtnckcdngmffahaaRows
import Derived.Test.YtnckcdngmffahaaChecked
import Derived.Test.YtnckcdngmffahaaCA5
namespace Go.Proofs.Ytnckcdngmffahaa.captureMerges
open Go.ChangeShapes Go.WideShapes Go.ChangeAt Go.RowKit
open Go.ChangeMaps (open_string shut_string)
set_option linter.unusedVariables false

theorem own : ownKnob Try.prog.godebug = none := by kernel_rfl
theorem laidOut : laidOutB Try.prog = true := by kernel_rfl
set_option maxHeartbeats 4000000 in
set_option maxRecDepth 20000 in
theorem walk (A0 : Option Addr) (c0 : Nat) (l0 : List CRec) (A1 : Option Addr) (c1 : Nat) (l1 : List CRec) (w : World) (s0 : RowL ERec w A0 l0) (n0 : A0 = none → c0 = 0) (m0 : l0.length ≤ maxLen) (f0 : ∀ r ∈ l0, recWf r) (s1 : RowL ERec w A1 l1) (n1 : A1 = none → c1 = 0) (m1 : l1.length ≤ maxLen) (f1 : ∀ r ∈ l1, recWf r) (kc0 : l0.length ≤ c0) (kc1 : l1.length ≤ c1) :
    Calls Try.prog 6 #[.slice A0 l0.length c0, .slice A1 l1.length c1] w fun e w' => e = .returned (.bool true) ∧ Below w.heap.size w w' := by
  have B0 := Lib.hid (Below.refl w.heap.size w)
  have HL0 := Lib.hid (fun (W : World) (hb : Below w.heap.size w W) => rlong9_any A0 c0 l0 W (s0.kept hb) (by unfold maxLen at m0; omega) (fun x hx => by have := (f0 x hx).2.2; unfold maxLen at this; omega))
  have HL1 := Lib.hid (fun (W : World) (hb : Below w.heap.size w W) => rlong9_any A1 c1 l1 W (s1.kept hb) (by unfold maxLen at m1; omega) (fun x hx => by have := (f1 x hx).2.2; unfold maxLen at this; omega))
  have H1 := Lib.hid (fun (W : World) (hb : Below w.heap.size w W) (hl : l0.length ≤ 40 ∧ l1.length ≤ 40) => pmerge9_any A0 A1 c0 c1 l0 l1 W (s0.kept hb) (s1.kept hb) n0 n1 (by omega) (.inr kc0) (.inr kc1))
  have H2 := Lib.hid (fun (W : World) (hb : Below w.heap.size w W) (hl : l0.length ≤ 40 ∧ l1.length ≤ 40) => (rmerge9_any A0 A1 c0 c1 l0 l1 W (s0.kept hb) (s1.kept hb) (by omega)).mono fun _ _ h => h.q)
  have HML := Lib.hid (merge_len l0 l1)
  clear s0 n0 m0 f0 s1 n1 m1 f1 kc0 kc1
  generalize hq0 : l0.length = q0 at *
  generalize hq1 : l1.length = q1 at *
  go_enter Try.func6, Try.ntmps6
  go_wp2_with fail
  refine (HL0.out _ B0.out).mono ?_
  rintro e w0 ⟨b, rfl, hw0, HLB⟩
  rw [hq0] at HLB
  clear hq0
  cases b
  · have HLE := Lib.hid ((HLB rfl).1)
    subst hw0
    clear HLB HL0
    go_wp2_with fail
    refine (HL1.out _ B0.out).mono ?_
    rintro e w0 ⟨b, rfl, hw0, HLB⟩
    rw [hq1] at HLB
    clear hq1
    cases b
    · have HLF := Lib.hid (And.intro HLE.out (HLB rfl).1)
      subst hw0
      clear HLB HL1
      go_wp2_with fail
      refine (H1.out _ B0.out HLF.out).mono ?_
      rintro e w1 ⟨A3, c3, rfl, r1, n1, b1⟩
      have R1 := Lib.hid r1
      clear r1 n1
      have B1 := Lib.hid (B0.out.trans (b1.mono B0.out.size))
      clear b1
      go_wp2_with fail
      refine (H2.out _ B1.out HLF.out).mono ?_
      rintro e w2 ⟨A4, c4, rfl, r2, n2, b2⟩
      have HS := Lib.hid (rsame9_any A3 A4 c3 c4 (mergeC l0 l1) w2 (R1.out.kept b2) r2 (by have := HML.out; have := HLF.out; omega))
      clear r2 n2 R1 HML
      have B2 := Lib.hid (B1.out.trans (b2.mono B1.out.size))
      clear b2
      go_wp2_with fail
      refine HS.out.mono ?_
      rintro e w3 ⟨rfl, b3⟩
      have B3 := Lib.hid (B2.out.trans (b3.mono B2.out.size))
      clear b3
      go_wp2_with fail
      refine (lives_any _).mono ?_
      rintro e w99 ⟨rfl, b99⟩
      go_wp2_with fail
      go_ret
      exact ⟨rfl, B3.out.trans (b99.mono B3.out.size)⟩
    · clear HLB HL1 H1 H2
      subst hw0
      go_wp2_with fail
      refine (lives_any _).mono ?_
      rintro e w99 ⟨rfl, b99⟩
      go_wp2_with fail
      go_ret
      exact ⟨rfl, B0.out.trans (b99.mono B0.out.size)⟩
  · clear HLB HL0 H1 H2
    subst hw0
    go_wp2_with fail
    refine (lives_any _).mono ?_
    rintro e w99 ⟨rfl, b99⟩
    go_wp2_with fail
    go_ret
    exact ⟨rfl, B0.out.trans (b99.mono B0.out.size)⟩

set_option maxRecDepth 100000 in
theorem lifted (os : Os) (started : os.Started) (H : Type) (enc : TypeId × Value → H) :
    ReturnsInHanded {} Try.checked os 6 .any (Rows.captureMergesSpec.pre6 enc Try.prog Try.f6 Rows.captureMergesRow.domain false) (Rows.captureMergesSpec.post enc Try.prog Try.f6 false true false false) := by
  refine returnsInHanded_of_change (C := Try.checked) own started (by kernel_rfl) Try.func6
    (ChangeSpec.witness6 (enc := enc) (C := Try.checked) false ⟨#[], #[.slice none 0 0, .slice none 0 0], []⟩ 8 (by kernel_rfl) (by kernel_rfl) (by kernel_rfl) (by kernel_rfl)) ?_
  intro W base args ds gs before hval0 hW hcnd _
  have hval : ∀ (j : Nat) t v, Try.f6.params[j]? = some t → args[j]? = some v → Value.okWide Try.prog W .any base t v := hval0
  have hW' := hW
  obtain ⟨p, q, hA0, hV, rfl, hfz, hnd⟩ := hW
  have hA : DataW.TrodAll enc Try.prog W 0 (fun _ => true) true Try.f6.params.toList args.toList ds p := hA0
  rw [Try.params6] at hA hval
  obtain ⟨v0, vs0, d0, ds0, p0, q0, hargs, rfl, rfl, h0, r0⟩ := trodAll_cons hA
  obtain ⟨v1, vs1, d1, ds1, p1, q1, rfl, rfl, rfl, h1, r1⟩ := trodAll_cons r0
  obtain ⟨rfl, rfl, rfl⟩ := trodAll_nil r1
  obtain rfl : args = #[v0, v1] := by cases args; simp_all
  obtain ⟨rfl, rfl⟩ := trodVars_none hV
  obtain ⟨a0, len0, cap0, rfl⟩ := okWide_slice Try.underlying23 (hval 0 23 v0 rfl rfl)
  have k0 := h0
  have lt0 : ∀ x ∈ p0, x.block < W.heap.size := by obtain ⟨m, hm⟩ := k0; exact DataW.trod_lt m _ _ _ hm
  have kc0 := in_cap Try.underlying23 h0
  obtain ⟨l0, s0, e0, n0, m0, f0⟩ := in_recs h0
  obtain ⟨a1, len1, cap1, rfl⟩ := okWide_slice Try.underlying23 (hval 1 23 v1 rfl rfl)
  have k1 := h1
  have lt1 : ∀ x ∈ p1, x.block < W.heap.size := by obtain ⟨m, hm⟩ := k1; exact DataW.trod_lt m _ _ _ hm
  have kc1 := in_cap Try.underlying23 h1
  obtain ⟨l1, s1, e1, n1, m1, f1⟩ := in_recs h1
  subst e0
  subst e1
  clear hA0 hval0
  refine (walk a0 cap0 l0 a1 cap1 l1 W s0 n0 m0 f0 s1 n1 m1 f1 kc0 kc1).mono fun e W' ⟨he, bel⟩ => ?_
  subst he
  exact ⟨_, rfl, _, _, _, [], _, [], hW', trodAll_mk1 (shut_bool Try.underlying4 _), (trodAll_cons_mk (Below.trod laidOut (by kernel_rfl) (of_decide_eq_true (by kernel_rfl)) k0 bel lt0) (trodAll_cons_mk (Below.trod laidOut (by kernel_rfl) (of_decide_eq_true (by kernel_rfl)) k1 bel lt1) trodAll_mk0)), rfl, bel.frame _, fun h => by cases h⟩

theorem over : Rows.captureMergesRow.holds Try.pinned (OpenSpec.ofChange Rows.captureMergesSpec) :=
  OpenClaim.holds_of_wide 6 Try.f6 rfl rfl rfl rfl rfl rfl rfl ⟨rfl, rfl, rfl, rfl, rfl⟩ rfl rfl rfl rfl rfl (by kernel_rfl) Try.func6 (by kernel_rfl)
    (of_decide_eq_true (by kernel_rfl)) (by unfold Func.isWrapper; first | (rw [if_pos (by decide +kernel)]; kernel_rfl) | (rw [if_neg (by decide +kernel)]; exact ⟨rfl, rfl⟩))
    (fun os started H enc _ => lifted os started H enc)

theorem proved : Rows.CaptureMergesSaid := over
#print axioms proved
end Go.Proofs.Ytnckcdngmffahaa.captureMerges
