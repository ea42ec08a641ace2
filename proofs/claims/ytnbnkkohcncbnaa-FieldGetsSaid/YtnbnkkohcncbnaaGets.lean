/- FieldGets holds: for every string s and all integers at and size the law about field.Get and field.GetLittle returns true and leaves memory as it was. No condition. -/
import Derived.Test.YtnbnkkohcncbnaaAwake
namespace Go.Proofs.Ytnbnkkohcncbnaa.fieldGets
open Go.ChangeShapes Go.WideShapes Go.ChangeAt Go.RowKit
open Go.ChangeMaps (open_string shut_string)
set_option linter.unusedVariables false

theorem own : ownKnob Try.prog.godebug = none := by kernel_rfl
theorem laidOut : laidOutB Try.prog = true := by kernel_rfl

/-- The walk, whatever the four calls answer in common. -/
theorem core (s : ByteArray) (a1 a2 x y z : Int) (w : World) (hs : s.size ≤ 200)
    (c1 : ∀ W, Calls Try.prog 13 #[.string s, .int .i64 a1, .int .i64 a2] W fun e w' => e = .returned (.tuple #[.int .i64 x, .int .i64 z]) ∧ Below W.heap.size W w')
    (c2 : ∀ W, Calls Try.prog 14 #[.string s, .int .i64 a1, .int .i64 a2] W fun e w' => e = .returned (.tuple #[.int .i64 x, .int .i64 z]) ∧ W = w')
    (c3 : ∀ W, Calls Try.prog 15 #[.string s, .int .i64 a1, .int .i64 a2] W fun e w' => e = .returned (.tuple #[.int .i64 y, .int .i64 z]) ∧ Below W.heap.size W w')
    (c4 : ∀ W, Calls Try.prog 16 #[.string s, .int .i64 a1, .int .i64 a2] W fun e w' => e = .returned (.tuple #[.int .i64 y, .int .i64 z]) ∧ Below W.heap.size W w') :
    Calls Try.prog 4 #[.string s, .int .i64 a1, .int .i64 a2] w fun e w' => e = .returned (.bool true) ∧ Below w.heap.size w w' := by
  have C1 := Lib.hid c1
  have C2 := Lib.hid c2
  have C3 := Lib.hid c3
  have C4 := Lib.hid c4
  clear c1 c2 c3 c4
  go_enter Try.func4, Try.ntmps4
  go_wp2_with fail
  refine (C1.out _).mono ?_
  rintro e v1 ⟨rfl, hb1⟩
  go_wp2_with fail
  refine (C2.out _).mono ?_
  rintro e v2 ⟨rfl, rfl⟩
  go_wp2_with fail
  refine (C3.out _).mono ?_
  rintro e v3 ⟨rfl, hb3⟩
  go_wp2_with fail
  refine (C4.out _).mono ?_
  rintro e v4 ⟨rfl, hb4⟩
  go_wp2_with fail
  refine (awake_any _).mono ?_
  rintro e v5 ⟨rfl, hb5⟩
  go_wp2_with fail
  go_ret
  have k3 := hb1.trans (hb3.mono hb1.size)
  have k4 := k3.trans (hb4.mono k3.size)
  exact ⟨rfl, k4.trans (hb5.mono k4.size)⟩

theorem long (s : ByteArray) (a1 a2 : Int) (w : World) (hs : 200 < s.size) (hm : s.size ≤ maxLen) :
    Calls Try.prog 4 #[.string s, .int .i64 a1, .int .i64 a2] w fun e w' => e = .returned (.bool true) ∧ Below w.heap.size w w' := by
  unfold maxLen at hm
  go_enter Try.func4, Try.ntmps4
  go_wp2_with fail
  refine (awake_any _).mono ?_
  rintro e v5 ⟨rfl, hb5⟩
  go_wp2_with fail
  go_ret
  exact ⟨rfl, hb5⟩

theorem quiet {f : FuncId} {args : Array Value} {v : Value} (h : ∀ W, Calls Try.prog f args W fun e w' => e = .returned v ∧ W = w') (W : World) : Calls Try.prog f args W fun e w' => e = .returned v ∧ Below W.heap.size W w' :=
  (h W).mono fun _ _ ⟨he, hw⟩ => ⟨he, by subst hw; exact Below.refl _ _⟩

theorem walk (s : ByteArray) (a1 a2 : Int) (w : World) (w0 : s.size ≤ maxLen) (w1 : (Lit.int .i64 a1).wf = true) (w2 : (Lit.int .i64 a2).wf = true) :
    Calls Try.prog 4 #[.string s, .int .i64 a1, .int .i64 a2] w fun e w' => e = .returned (.bool true) ∧ Below w.heap.size w w' := by
  by_cases hl : 200 < s.size
  · exact long s a1 a2 w hl w0
  have b1 := i64_of_wf w1
  have b2 := i64_of_wf w2
  have hm : s.size ≤ 9223372036854775807 := by omega
  by_cases hr : a2 < 1 ∨ 7 < a2 ∨ a1 < 0
  · exact core s a1 a2 0 0 4 w (by omega) (quiet fun W => get_range s a1 a2 W hr) (fun W => rget_range s a1 a2 W hr) (fun W => getl_range s a1 a2 W hr) (quiet fun W => rgetl_range s a1 a2 W hr)
  by_cases hsh : (s.size : Int) - a1 < a2
  · exact core s a1 a2 0 0 1 w (by omega) (quiet fun W => get_short s a1 a2 W hm (by omega) (by omega) (by omega) b1.2 hsh) (fun W => rget_short s a1 a2 W hm (by omega) (by omega) (by omega) b1.2 hsh)
      (fun W => getl_short s a1 a2 W hm (by omega) (by omega) (by omega) b1.2 hsh) (quiet fun W => rgetl_short s a1 a2 W hm (by omega) (by omega) (by omega) b1.2 hsh)
  · exact core s a1 a2 _ _ 0 w (by omega) (fun W => get_ok s a1 a2 W hm (by omega) (by omega) (by omega) (by omega)) (fun W => rget_ok s a1 a2 W hm (by omega) (by omega) (by omega) (by omega))
      (fun W => getl_ok s a1 a2 W hm (by omega) (by omega) (by omega) (by omega)) (fun W => rgetl_ok s a1 a2 W hm (by omega) (by omega) (by omega) (by omega))

set_option maxRecDepth 100000 in
theorem lifted (os : Os) (started : os.Started) (H : Type) (enc : TypeId × Value → H) :
    ReturnsInHanded {} Try.checked os 4 .any (Rows.fieldGetsSpec.pre6 enc Try.prog Try.f4 Rows.fieldGetsRow.domain false) (Rows.fieldGetsSpec.post enc Try.prog Try.f4 false true false false) := by
  refine returnsInHanded_of_change (C := Try.checked) own started (by kernel_rfl) Try.func4
    (ChangeSpec.witness6 (enc := enc) (C := Try.checked) false ⟨#[], #[.string ⟨#[]⟩, .int .i64 0, .int .i64 0], []⟩ 8 (by kernel_rfl) (by kernel_rfl) (by kernel_rfl) (by kernel_rfl)) ?_
  intro W base args ds gs before hval0 hW hcnd _
  have hval : ∀ (j : Nat) t v, Try.f4.params[j]? = some t → args[j]? = some v → Value.okWide Try.prog W .any base t v := hval0
  have hW' := hW
  obtain ⟨p, q, hA0, hV, rfl, hfz, hnd⟩ := hW
  have hA : DataW.TrodAll enc Try.prog W 0 (fun _ => true) true Try.f4.params.toList args.toList ds p := hA0
  rw [Try.params4] at hA hval
  obtain ⟨v0, vs0, d0, ds0, p0, q0, hargs, rfl, rfl, h0, r0⟩ := trodAll_cons hA
  obtain ⟨v1, vs1, d1, ds1, p1, q1, rfl, rfl, rfl, h1, r1⟩ := trodAll_cons r0
  obtain ⟨v2, vs2, d2, ds2, p2, q2, rfl, rfl, rfl, h2, r2⟩ := trodAll_cons r1
  obtain ⟨rfl, rfl, rfl⟩ := trodAll_nil r2
  obtain rfl : args = #[v0, v1, v2] := by cases args; simp_all
  obtain ⟨rfl, rfl⟩ := trodVars_none hV
  obtain ⟨a0, rfl, rfl, rfl, w0⟩ := open_string Try.underlying9 (hval 0 9 v0 rfl rfl) h0
  obtain ⟨a1, rfl, rfl, rfl, w1⟩ := open_int Try.underlying3 (hval 1 3 v1 rfl rfl) h1
  obtain ⟨a2, rfl, rfl, rfl, w2⟩ := open_int Try.underlying3 (hval 2 3 v2 rfl rfl) h2
  clear hA0 hval0
  refine (walk a0 a1 a2 W w0 w1 w2).mono fun e W' ⟨he, bel⟩ => ?_
  subst he
  exact ⟨_, rfl, _, _, _, [], _, [], hW', trodAll_mk1 (shut_bool Try.underlying4 _), (trodAll_cons_mk (shut_string Try.underlying9 w0) (trodAll_cons_mk (shut_int Try.underlying3 w1) (trodAll_cons_mk (shut_int Try.underlying3 w2) trodAll_mk0))), rfl, bel.frame _, fun h => by cases h⟩

theorem over : Rows.fieldGetsRow.holds Try.pinned (OpenSpec.ofChange Rows.fieldGetsSpec) :=
  OpenClaim.holds_of_wide 4 Try.f4 rfl rfl rfl rfl rfl rfl rfl ⟨rfl, rfl, rfl, rfl, rfl⟩ rfl rfl rfl rfl rfl (by kernel_rfl) Try.func4 (by kernel_rfl)
    (of_decide_eq_true (by kernel_rfl)) (by unfold Func.isWrapper; first | (rw [if_pos (by decide +kernel)]; kernel_rfl) | (rw [if_neg (by decide +kernel)]; exact ⟨rfl, rfl⟩))
    (fun os started H enc _ => lifted os started H enc)

theorem proved : Rows.FieldGetsSaid := over
#print axioms proved
end Go.Proofs.Ytnbnkkohcncbnaa.fieldGets
