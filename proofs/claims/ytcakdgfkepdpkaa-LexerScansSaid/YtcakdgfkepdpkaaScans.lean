/- LexerScans holds: for every string the law about Scan and NewCursor returns true and leaves memory as it was. No condition. -/
import Derived.Test.YtcakdgfkepdpkaaAwk04
import Derived.Test.YtcakdgfkepdpkaaLexSame
namespace Go.Proofs.Ytcakdgfkepdpkaa.lexerScans
open Go.ChangeShapes Go.WideShapes Go.ChangeAt Go.RowKit
open Go.ChangeMaps (open_string shut_string)
set_option linter.unusedVariables false

theorem own : ownKnob Try.prog.godebug = none := by kernel_rfl
theorem laidOut : laidOutB Try.prog = true := by kernel_rfl

set_option maxRecDepth 20000 in
theorem walk (s : ByteArray) (w : World) (hm : s.size ≤ maxLen) :
    Calls Try.prog 3 #[.string s] w fun e w' => e = .returned (.bool true) ∧ Below w.heap.size w w' := by
  unfold maxLen at hm
  by_cases hl : 1000 < s.size ∧ s.size ≤ 16000
  · have d1 : (1000 : Int) < (s.size : Int) := by omega
    have d2 : (s.size : Int) ≤ 16000 := by omega
    clear hl
    go_enter Try.func3, Try.ntmps3
    go_wp2_with fail
    refine (awake_any _).mono ?_
    rintro e w9 ⟨rfl, hb9⟩
    go_wp2_with fail
    go_ret
    exact ⟨rfl, hb9⟩
  have hsz : s.size ≤ 9223372036854775807 := by omega
  have h1 := fun W => pscan_any s W hsz
  have h2 := fun W => rscan_any s W hsz
  rcases scanS_form s with ⟨l, n, hS, hp, hl6, h16⟩ | ⟨er, n, hS, he⟩
  · have h3 := fun W => ncur_ok s W l n hS hp hsz
    rw [hS] at h1 h2
    have h1' := fun W => scan_list (h1 W) hp
    have h2' := fun W => scan_list (h2 W) hp
    have H1 := Lib.hid h1'
    have H2 := Lib.hid h2'
    have H3 := Lib.hid h3
    have hl1 : l.length ≤ 1000000 := by omega
    have HSA := Lib.hid (fun g1 g2 c1 c2 W h1 h2 => same_list g1 g2 c1 c2 l W h1 h2 hl1)
    have d1 : decide ((1000 : Int) < (s.size : Int)) = false := by simp; omega
    clear h1 h2 h1' h2' h3 hl hS
    generalize l.length = ln at *
    go_enter Try.func3, Try.ntmps3
    go_wp2_with fail
    refine (H1.out _).mono ?_
    rintro e w1 ⟨g1, c1, rfl, hg1, ht1, hb1⟩
    have HB1 := Lib.hid hb1
    have HT1 := Lib.hid ht1
    clear hb1 ht1
    go_wp2_with fail
    refine (H2.out _).mono ?_
    rintro e w2 ⟨g2, c2, rfl, hg2, ht2, hb2⟩
    have HB2 := Lib.hid (HB1.out.trans (hb2.mono HB1.out.size))
    have HT12 := Lib.hid (HT1.out.kept hb2 HT1.out.1)
    have HT2 := Lib.hid ht2
    clear hb2 ht2 HT1
    go_wp2_with fail
    refine (H3.out _).mono ?_
    rintro e w3 ⟨p3, g3, c3, rfl, hg3, hp3, hgp, hc3, ht3, hcu, hb3⟩
    have HB3 := Lib.hid (HB2.out.trans (hb3.mono HB2.out.size))
    have HT13 := Lib.hid (HT12.out.kept hb3 HT12.out.1)
    have HT23 := Lib.hid (HT2.out.kept hb3 HT2.out.1)
    clear hb3 ht3 hcu HT12 HT2
    go_wp2_with fail
    refine (HSA.out _ _ _ _ _ HT13.out HT23.out).mono ?_
    rintro e w4 ⟨rfl, hb4⟩
    have HB4 := Lib.hid (HB3.out.trans (hb4.mono HB3.out.size))
    clear hb4
    go_wp2_with fail
    refine (awake_any _).mono ?_
    rintro e w9 ⟨rfl, hb9⟩
    go_wp2_with fail
    go_ret
    exact ⟨rfl, HB4.out.trans (hb9.mono HB4.out.size)⟩
  · have hne : er ≠ 0 := by omega
    have h3 := fun W => ncur_err s W er n hS hne hsz
    rw [hS] at h1 h2
    have H1 := Lib.hid (show ∀ W, Calls Try.prog _ _ W (fun e w' => e = .returned (.tuple #[.slice none 0 0, .int .i64 (er : Nat), .int .i64 (n : Nat)]) ∧ Below W.heap.size W w') from h1)
    have H2 := Lib.hid (show ∀ W, Calls Try.prog _ _ W (fun e w' => e = .returned (.tuple #[.slice none 0 0, .int .i64 (er : Nat), .int .i64 (n : Nat)]) ∧ Below W.heap.size W w') from h2)
    have H3 := Lib.hid h3
    have y1 : ((er : Int) != 0) = true := by simp; omega
    clear h1 h2 h3 hS he hne
    by_cases d1 : (1000 : Int) < (s.size : Int)
    case' pos => have d2 : decide ((s.size : Int) ≤ 16000) = false := by simp; omega
    case' neg => have d3 : decide ((1000 : Int) < (s.size : Int)) = false := by simp; omega
    all_goals
      clear hl
      go_enter Try.func3, Try.ntmps3
      go_wp2_with fail
      refine (H1.out _).mono ?_
      rintro e w1 ⟨rfl, hb1⟩
      have HB1 := Lib.hid hb1
      clear hb1
      go_wp2_with fail
      refine (H2.out _).mono ?_
      rintro e w2 ⟨rfl, hb2⟩
      have HB2 := Lib.hid (HB1.out.trans (hb2.mono HB1.out.size))
      clear hb2
      go_wp2_with fail
      refine (H3.out _).mono ?_
      rintro e w3 ⟨rfl, hb3⟩
      have HB3 := Lib.hid (HB2.out.trans (hb3.mono HB2.out.size))
      clear hb3
      go_wp2_with fail
      refine (same_nil _).mono ?_
      rintro e w4 ⟨rfl, hb4⟩
      have HB4 := Lib.hid (HB3.out.trans (hb4.mono HB3.out.size))
      clear hb4
      go_wp2_with fail
      refine (awake_any _).mono ?_
      rintro e w9 ⟨rfl, hb9⟩
      go_wp2_with fail
      go_ret
      exact ⟨rfl, HB4.out.trans (hb9.mono HB4.out.size)⟩

set_option maxRecDepth 100000 in
theorem lifted (os : Os) (started : os.Started) (H : Type) (enc : TypeId × Value → H) :
    ReturnsInHanded {} Try.checked os 3 .any (Rows.lexerScansSpec.pre6 enc Try.prog Try.f3 Rows.lexerScansRow.domain false) (Rows.lexerScansSpec.post enc Try.prog Try.f3 false true false false) := by
  refine returnsInHanded_of_change (C := Try.checked) own started (by kernel_rfl) Try.func3
    (ChangeSpec.witness6 (enc := enc) (C := Try.checked) false ⟨#[], #[.string ⟨#[]⟩], []⟩ 8 (by kernel_rfl) (by kernel_rfl) (by kernel_rfl) (by kernel_rfl)) ?_
  intro W base args ds gs before hval0 hW hcnd _
  have hval : ∀ (j : Nat) t v, Try.f3.params[j]? = some t → args[j]? = some v → Value.okWide Try.prog W .any base t v := hval0
  have hW' := hW
  obtain ⟨p, q, hA0, hV, rfl, hfz, hnd⟩ := hW
  have hA : DataW.TrodAll enc Try.prog W 0 (fun _ => true) true Try.f3.params.toList args.toList ds p := hA0
  rw [Try.params3] at hA hval
  obtain ⟨v0, vs0, d0, ds0, p0, q0, hargs, rfl, rfl, h0, r0⟩ := trodAll_cons hA
  obtain ⟨rfl, rfl, rfl⟩ := trodAll_nil r0
  obtain rfl : args = #[v0] := by cases args; simp_all
  obtain ⟨rfl, rfl⟩ := trodVars_none hV
  obtain ⟨a0, rfl, rfl, rfl, w0⟩ := open_string Try.underlying9 (hval 0 9 v0 rfl rfl) h0
  clear hA0 hval0
  refine (walk a0 W w0).mono fun e W' ⟨he, bel⟩ => ?_
  subst he
  exact ⟨_, rfl, _, _, _, [], _, [], hW', trodAll_mk1 (shut_bool Try.underlying4 _), (trodAll_cons_mk (shut_string Try.underlying9 w0) trodAll_mk0), rfl, bel.frame _, fun h => by cases h⟩

theorem over : Rows.lexerScansRow.holds Try.pinned (OpenSpec.ofChange Rows.lexerScansSpec) :=
  OpenClaim.holds_of_wide 3 Try.f3 rfl rfl rfl rfl rfl rfl rfl ⟨rfl, rfl, rfl, rfl, rfl⟩ rfl rfl rfl rfl rfl (by kernel_rfl) Try.func3 (by kernel_rfl)
    (of_decide_eq_true (by kernel_rfl)) (by unfold Func.isWrapper; first | (rw [if_pos (by decide +kernel)]; kernel_rfl) | (rw [if_neg (by decide +kernel)]; exact ⟨rfl, rfl⟩))
    (fun os started H enc _ => lifted os started H enc)

theorem proved : Rows.LexerScansSaid := over
#print axioms proved
end Go.Proofs.Ytcakdgfkepdpkaa.lexerScans
