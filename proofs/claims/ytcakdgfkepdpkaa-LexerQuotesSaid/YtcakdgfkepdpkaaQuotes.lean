/- LexerQuotes holds: for every string the law about quoted strings returns true and leaves memory as it was. No condition. -/
import Derived.Test.YtcakdgfkepdpkaaAwk04
import Derived.Test.YtcakdgfkepdpkaaLexRQuote
namespace Go.Proofs.Ytcakdgfkepdpkaa.lexerQuotes
open Go.ChangeShapes Go.WideShapes Go.ChangeAt Go.RowKit
open Go.ChangeMaps (open_string shut_string)
set_option linter.unusedVariables false

theorem own : ownKnob Try.prog.godebug = none := by kernel_rfl
theorem laidOut : laidOutB Try.prog = true := by kernel_rfl

theorem quo_len : ∀ (L : List UInt8) (b : Bool), (quo b L).length ≤ 3 * L.length + 1
  | [], b => by cases b <;> simp [quo]
  | c :: r, b => by
    have h1 := quo_len r false
    have h2 := quo_len r true
    rw [quo]
    split
    · cases b <;> simp <;> omega
    · simp; omega
theorem scan_q (s : ByteArray) (h : s.size ≤ 256) : scanS (str (quoteL s.data.toList)) = .ok [⟨2, s.data.toList, 0⟩, ⟨0, [], (quoteL s.data.toList).length⟩] 0 := by
  have hl : s.data.toList.length = s.size := by simp
  have hq := quo_len s.data.toList false
  have hz : (str (quoteL s.data.toList)).size ≤ 16000 := by rw [str_size]; unfold quoteL; simp at hq ⊢; omega
  unfold scanS
  rw [if_neg (by omega), str_toList]
  have := scan_join [(2, s.data.toList)] (by simp [validT]; exact h) ((str (quoteL s.data.toList)).size + 1) (by rw [str_size]; unfold quoteL; simp)
  simpa [joinT, tailT, tokText, placeJ, place] using this
theorem scan_ql (s : ByteArray) (h : 256 < s.size) (h3 : s.size ≤ 300) : scanS (str (quoteL s.data.toList)) = .err 3 0 := by
  have hl : s.data.toList.length = s.size := by simp
  have hq := quo_len s.data.toList false
  have hz : (str (quoteL s.data.toList)).size ≤ 16000 := by rw [str_size]; unfold quoteL; simp at hq ⊢; omega
  unfold scanS
  rw [if_neg (by omega), str_toList]
  exact scan_quote_long _ (by omega) _

set_option maxRecDepth 20000 in
theorem walk (s : ByteArray) (w : World) (hm : s.size ≤ maxLen) :
    Calls Try.prog 6 #[.string s] w fun e w' => e = .returned (.bool true) ∧ Below w.heap.size w w' := by
  unfold maxLen at hm
  by_cases hl : 300 < s.size
  · go_enter Try.func6, Try.ntmps6
    go_wp2_with fail
    refine (awake_any _).mono ?_
    rintro e w9 ⟨rfl, hb9⟩
    go_wp2_with fail
    go_ret
    exact ⟨rfl, hb9⟩
  have hd : decide (300 < (s.size : Int)) = false := by simp; omega
  have h1 := fun W => pquote_any s W (by omega)
  have h2 := fun W => rquote_any s W (by omega)
  have hq := quo_len s.data.toList false
  have hll : s.data.toList.length = s.size := by simp
  have hz : (str (quoteL s.data.toList)).size ≤ 16000 := by rw [str_size]; unfold quoteL; simp at hq ⊢; omega
  have h3 := fun W => pscan_any (str (quoteL s.data.toList)) W (by omega)
  have HM := Lib.hid tok_guard
  have hm2 := tok_guard
  have H1 := Lib.hid h1
  have H2 := Lib.hid h2
  by_cases h256 : 256 < s.size
  · rw [scan_ql s h256 (by omega)] at h3
    have H3 := Lib.hid (show ∀ W, Calls Try.prog _ _ W (fun e w' => e = .returned (.tuple #[.slice none 0 0, .int .i64 3, .int .i64 0]) ∧ Below W.heap.size W w') from h3)
    have d256 : (256 : Int) < (s.size : Int) := by omega
    clear h1 h2 h3 hl hq hz hll
    generalize str (quoteL s.data.toList) = q at *
    go_enter Try.func6, Try.ntmps6
    go_wp2_with fail
    refine (H1.out _).mono ?_
    rintro e w1 ⟨rfl, hb1⟩
    go_wp2_with fail
    refine (H2.out _).mono ?_
    rintro e w2 ⟨rfl, hb2⟩
    go_wp2_with fail
    refine (H3.out _).mono ?_
    rintro e w3 ⟨rfl, hb3⟩
    have hb12 := hb1.trans (hb2.mono hb1.size)
    have hb13 := hb12.trans (hb3.mono hb12.size)
    have HB := Lib.hid hb13
    clear hb1 hb2 hb3 hb12 hb13
    go_wp2_with fail
    refine (awake_any _).mono ?_
    rintro e w9 ⟨rfl, hb9⟩
    go_wp2_with fail
    go_ret
    exact ⟨rfl, HB.out.trans (hb9.mono HB.out.size)⟩
  · have d256 : decide ((256 : Int) < (s.size : Int)) = false := by simp; omega
    have h3' : ∀ W, Calls Try.prog 10 #[.string (str (quoteL s.data.toList))] W fun e w' => ∃ g cap, e = .returned (.tuple #[.slice (some ⟨g, 0, none⟩) 2 cap, .int .i64 0, .int .i64 0]) ∧ W.heap.size ≤ g ∧ TS w' g [⟨2, s.data.toList, 0⟩, ⟨0, [], (quoteL s.data.toList).length⟩] ∧ Below W.heap.size W w' := fun W => by
      have h := h3 W
      rw [scan_q s (by omega)] at h
      exact scan_list h (by simp)
    have H3 := Lib.hid h3'
    have q1 := fun W => tok_eql 2 2 0 0 s s W
    clear h1 h2 h3 h3' hl hq hz hll
    generalize str (quoteL s.data.toList) = q at *
    generalize (quoteL s.data.toList).length = ql at *
    go_enter Try.func6, Try.ntmps6
    go_wp2_with fail
    refine (H1.out _).mono ?_
    rintro e w1 ⟨rfl, hb1⟩
    go_wp2_with fail
    refine (H2.out _).mono ?_
    rintro e w2 ⟨rfl, hb2⟩
    go_wp2_with fail
    refine (H3.out _).mono ?_
    rintro e w3 ⟨g, cap, rfl, hg, hts, hb3⟩
    have hb12 := hb1.trans (hb2.mono hb1.size)
    have hb13 := hb12.trans (hb3.mono hb12.size)
    have HB := Lib.hid hb13
    obtain ⟨a0, a1, a2⟩ := hts.at (i := 0) rfl
    simp only [Nat.zero_mul, Nat.zero_add, str_of] at a0 a1 a2
    clear hb1 hb2 hb3 hb12 hb13 hts
    go_wp2_with fail
    refine (awake_any _).mono ?_
    rintro e w9 ⟨rfl, hb9⟩
    go_wp2_with fail
    go_ret
    exact ⟨rfl, HB.out.trans (hb9.mono HB.out.size)⟩

set_option maxRecDepth 100000 in
theorem lifted (os : Os) (started : os.Started) (H : Type) (enc : TypeId × Value → H) :
    ReturnsInHanded {} Try.checked os 6 .any (Rows.lexerQuotesSpec.pre6 enc Try.prog Try.f6 Rows.lexerQuotesRow.domain false) (Rows.lexerQuotesSpec.post enc Try.prog Try.f6 false true false false) := by
  refine returnsInHanded_of_change (C := Try.checked) own started (by kernel_rfl) Try.func6
    (ChangeSpec.witness6 (enc := enc) (C := Try.checked) false ⟨#[], #[.string ⟨#[]⟩], []⟩ 8 (by kernel_rfl) (by kernel_rfl) (by kernel_rfl) (by kernel_rfl)) ?_
  intro W base args ds gs before hval0 hW hcnd _
  have hval : ∀ (j : Nat) t v, Try.f6.params[j]? = some t → args[j]? = some v → Value.okWide Try.prog W .any base t v := hval0
  have hW' := hW
  obtain ⟨p, q, hA0, hV, rfl, hfz, hnd⟩ := hW
  have hA : DataW.TrodAll enc Try.prog W 0 (fun _ => true) true Try.f6.params.toList args.toList ds p := hA0
  rw [Try.params6] at hA hval
  obtain ⟨v0, vs0, d0, ds0, p0, q0, hargs, rfl, rfl, h0, r0⟩ := trodAll_cons hA
  obtain ⟨rfl, rfl, rfl⟩ := trodAll_nil r0
  obtain rfl : args = #[v0] := by cases args; simp_all
  obtain ⟨rfl, rfl⟩ := trodVars_none hV
  obtain ⟨a0, rfl, rfl, rfl, w0⟩ := open_string Try.underlying9 (hval 0 9 v0 rfl rfl) h0
  clear hA0 hval0
  refine (walk a0 W w0).mono fun e W' ⟨he, bel⟩ => ?_
  subst he
  exact ⟨_, rfl, _, _, _, [], _, [], hW', trodAll_mk1 (shut_bool Try.underlying4 _), (trodAll_cons_mk (shut_string Try.underlying9 w0) trodAll_mk0), rfl, bel.frame _, fun h => by cases h⟩

theorem over : Rows.lexerQuotesRow.holds Try.pinned (OpenSpec.ofChange Rows.lexerQuotesSpec) :=
  OpenClaim.holds_of_wide 6 Try.f6 rfl rfl rfl rfl rfl rfl rfl ⟨rfl, rfl, rfl, rfl, rfl⟩ rfl rfl rfl rfl rfl (by kernel_rfl) Try.func6 (by kernel_rfl)
    (of_decide_eq_true (by kernel_rfl)) (by unfold Func.isWrapper; first | (rw [if_pos (by decide +kernel)]; kernel_rfl) | (rw [if_neg (by decide +kernel)]; exact ⟨rfl, rfl⟩))
    (fun os started H enc _ => lifted os started H enc)

theorem proved : Rows.LexerQuotesSaid := over
#print axioms proved
end Go.Proofs.Ytcakdgfkepdpkaa.lexerQuotes
