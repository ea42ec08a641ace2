/- Ipv6Decodes holds: for every string the law about Decode beside the reference returns true and leaves memory as it was; no conditions. -/
import Derived.Test.YtjjldolafnfpoaaRows
import Derived.Test.YtjjldolafnfpoaaChecked
import Derived.Deep.Cut
import Derived.Deep.WholeRow
import Derived.BigQuiet
import Derived.Test.YtjjldolafnfpoaaPE44
namespace Go.Proofs.Ytjjldolafnfpoaa.ipv6Decodes
open Go.ChangeShapes Go.WideShapes Go.ChangeAt Go.RowKit
open Go.ChangeMaps (open_string shut_string)
set_option linter.unusedVariables false

theorem own : ownKnob Try.prog.godebug = none := by kernel_rfl
theorem laidOut : laidOutB Try.prog = true := by kernel_rfl
set_option maxHeartbeats 8000000 in
set_option maxRecDepth 20000 in
theorem walk (s : ByteArray) (w : World) (hs : s.size ≤ maxLen) :
    Calls Try.prog 3 #[.string s] w fun e w' => e = .returned (.bool true) ∧ Below w.heap.size w w' := by
  have B0 := Lib.hid (Below.refl w.heap.size w)
  by_cases hl : 3000 < s.size
  · have d0 : decide ((3000 : Int) < (s.size : Int)) = true := by simp; omega
    have nd : (3000 : Int) < (s.size : Int) := by omega
    go_enter Try.func3, Try.ntmps3
    go_wp2_with fail
    refine (lv12 _).mono ?_
    rintro e w99 ⟨rfl, b99⟩
    go_wp2_with fail
    go_ret
    exact ⟨rfl, B0.out.trans (b99.mono B0.out.size)⟩
  have d0 : decide ((3000 : Int) < (s.size : Int)) = false := by simp; omega
  have nd : ¬ (3000 : Int) < (s.size : Int) := by omega
  obtain ⟨L, hL⟩ : ∃ L, L = s.data.toList := ⟨_, rfl⟩
  have hlen : L.length = s.size := by rw [hL]; show s.data.toList.length = s.data.size; simp only [Array.length_toList]
  have hsL : s = str L := by rw [hL]; exact (str_of s).symm
  have H1 := Lib.hid (fun (W : World) => show Calls Try.prog 11 #[.string s] W (Dec6P W (decX L)) from by rw [hsL]; exact prog12.dec L W trivial (by omega))
  have H2 := Lib.hid (fun (W : World) => show Calls Try.prog 12 #[.string s] W (Dec6P W (decX L)) from by rw [hsL]; exact rdec12_any L W (by omega))
  have hol2 : (decX L).1.exts.length ≤ 1000000 := Nat.le_trans (decX_exts L) (by decide)
  clear hL hlen hsL hs hl
  generalize decX L = R at *
  obtain ⟨⟨cls, lab, hops, nxt, ⟨sv, sh, sl⟩, ⟨dv, dh, dl⟩, l, frg, id, off, more, pay⟩, er⟩ := R
  dsimp only at hol2
  have HSM := Lib.hid (fun (A1 A2 : Option Addr) (c1 c2 : Nat) (W : World) (h1 : RowL EOpt W A1 l) (h2 : RowL EOpt W A2 l) => rsame12_any cls lab hops nxt id off sv dv frg more sh sl dh dl l A1 A2 c1 c2 (str pay) W h1 h2 hol2)
  have her : ((er : Int) == (er : Int)) = true := beq_self_eq_true _
  clear hol2
  go_enter Try.func3, Try.ntmps3
  go_wp2_with fail
  refine (H1.out _).mono ?_
  rintro e w1 ⟨A1, c1, rfl, r1, n1, b1⟩
  have R1 := Lib.hid (show RowL EOpt w1 A1 l from r1)
  clear r1 n1 H1
  have B1 := Lib.hid (B0.out.trans (b1.mono B0.out.size))
  clear b1
  dsimp only
  go_upto_region 4 with (refine wpList_store_row (by rfl) 28 _ _ (by rfl) w1.heap.size #[.int .i64 cls, .int .i64 lab, .int .i64 hops, .int .i64 nxt, .bool sv, .int .u64 (sh : Int), .int .u64 (sl : Int), .bool dv, .int .u64 (dh : Int), .int .u64 (dl : Int), .slice A1 l.length c1, .bool frg, .int .i64 id, .int .i64 off, .bool more, .string (str pay)] (by rfl) (by rfl) 28 #[.int .i64 0, .int .i64 0, .int .i64 0, .int .i64 0, .bool false, .int .u64 0, .int .u64 0, .bool false, .int .u64 0, .int .u64 0, .slice none 0 0, .bool false, .int .i64 0, .int .i64 0, .bool false, .string ⟨#[]⟩] (heap_alloc_new _ _) (by kernel_rfl) (by rfl) (by simp [Value.oneCell']) ?_; rw [World.setRow_alloc_new])
  obtain ⟨W2, hW2⟩ : ∃ W, W = w1.alloc (.cells #[.int .i64 cls, .int .i64 lab, .int .i64 hops, .int .i64 nxt, .bool sv, .int .u64 (sh : Int), .int .u64 (sl : Int), .bool dv, .int .u64 (dh : Int), .int .u64 (dl : Int), .slice A1 l.length c1, .bool frg, .int .i64 id, .int .i64 off, .bool more, .string (str pay)] 28) := ⟨_, rfl⟩
  obtain ⟨g1, hg1⟩ : ∃ g, g = w1.heap.size := ⟨_, rfl⟩
  have X2 := Lib.hid (show Cells W2 g1 28 #[.int .i64 cls, .int .i64 lab, .int .i64 hops, .int .i64 nxt, .bool sv, .int .u64 (sh : Int), .int .u64 (sl : Int), .bool dv, .int .u64 (dh : Int), .int .u64 (dl : Int), .slice A1 l.length c1, .bool frg, .int .i64 id, .int .i64 off, .bool more, .string (str pay)] by rw [hW2, hg1]; exact heap_alloc_new w1 _)
  have kW2 : Below w1.heap.size w1 W2 := by rw [hW2]; exact below_alloc6 w1 _
  have B2 := Lib.hid (B1.out.trans (kW2.mono B1.out.size))
  rw [← hW2, ← hg1]
  have R2 := Lib.hid (R1.out.kept kW2)
  clear hW2 hg1 kW2 R1 B1
  go_wp2_with fail
  refine (H2.out _).mono ?_
  rintro e w3 ⟨A2, c2, rfl, r3, n3, b3⟩
  have R3 := Lib.hid (show RowL EOpt w3 A2 l from r3)
  have Q3 := Lib.hid (R2.out.kept b3)
  have X3 := Lib.hid (X2.out.kept b3 X2.out.lt)
  clear r3 n3 H2 R2 X2
  have B3 := Lib.hid (B2.out.trans (b3.mono B2.out.size))
  clear b3
  dsimp only
  go_upto_region 5 with (refine wpList_store_row (by rfl) 28 _ _ (by rfl) w3.heap.size #[.int .i64 cls, .int .i64 lab, .int .i64 hops, .int .i64 nxt, .bool sv, .int .u64 (sh : Int), .int .u64 (sl : Int), .bool dv, .int .u64 (dh : Int), .int .u64 (dl : Int), .slice A2 l.length c2, .bool frg, .int .i64 id, .int .i64 off, .bool more, .string (str pay)] (by rfl) (by rfl) 28 #[.int .i64 0, .int .i64 0, .int .i64 0, .int .i64 0, .bool false, .int .u64 0, .int .u64 0, .bool false, .int .u64 0, .int .u64 0, .slice none 0 0, .bool false, .int .i64 0, .int .i64 0, .bool false, .string ⟨#[]⟩] (heap_alloc_new _ _) (by kernel_rfl) (by rfl) (by simp [Value.oneCell']) ?_; rw [World.setRow_alloc_new])
  obtain ⟨W4, hW4⟩ : ∃ W, W = w3.alloc (.cells #[.int .i64 cls, .int .i64 lab, .int .i64 hops, .int .i64 nxt, .bool sv, .int .u64 (sh : Int), .int .u64 (sl : Int), .bool dv, .int .u64 (dh : Int), .int .u64 (dl : Int), .slice A2 l.length c2, .bool frg, .int .i64 id, .int .i64 off, .bool more, .string (str pay)] 28) := ⟨_, rfl⟩
  obtain ⟨g2, hg2⟩ : ∃ g, g = w3.heap.size := ⟨_, rfl⟩
  have Y4 := Lib.hid (show Cells W4 g2 28 #[.int .i64 cls, .int .i64 lab, .int .i64 hops, .int .i64 nxt, .bool sv, .int .u64 (sh : Int), .int .u64 (sl : Int), .bool dv, .int .u64 (dh : Int), .int .u64 (dl : Int), .slice A2 l.length c2, .bool frg, .int .i64 id, .int .i64 off, .bool more, .string (str pay)] by rw [hW4, hg2]; exact heap_alloc_new w3 _)
  have kW4 : Below w3.heap.size w3 W4 := by rw [hW4]; exact below_alloc6 w3 _
  have B4 := Lib.hid (B3.out.trans (kW4.mono B3.out.size))
  rw [← hW4, ← hg2]
  have R4 := Lib.hid (R3.out.kept kW4)
  have Q4 := Lib.hid (Q3.out.kept kW4)
  have X4 := Lib.hid (X3.out.kept kW4 X3.out.lt)
  clear hW4 hg2 kW4 R3 Q3 X3 B3
  go_wp2_with (first | (refine wpList_load_row (by rfl) 28 _ (by rfl) g1 (by rfl) 28 #[.int .i64 cls, .int .i64 lab, .int .i64 hops, .int .i64 nxt, .bool sv, .int .u64 (sh : Int), .int .u64 (sl : Int), .bool dv, .int .u64 (dh : Int), .int .u64 (dl : Int), .slice A1 l.length c1, .bool frg, .int .i64 id, .int .i64 off, .bool more, .string (str pay)] (0, 0) _ X4.out Try.underlying28 (by rfl) (by kernel_rfl) ?_) | (refine wpList_load_row (by rfl) 28 _ (by rfl) g2 (by rfl) 28 #[.int .i64 cls, .int .i64 lab, .int .i64 hops, .int .i64 nxt, .bool sv, .int .u64 (sh : Int), .int .u64 (sl : Int), .bool dv, .int .u64 (dh : Int), .int .u64 (dl : Int), .slice A2 l.length c2, .bool frg, .int .i64 id, .int .i64 off, .bool more, .string (str pay)] (0, 0) _ Y4.out Try.underlying28 (by rfl) (by kernel_rfl) ?_))
  refine (HSM.out _ _ _ _ _ Q4.out R4.out).mono ?_
  rintro e w5 ⟨rfl, b5⟩
  have B5 := Lib.hid (B4.out.trans (b5.mono B4.out.size))
  clear b5
  clear X4 Y4 R4 Q4 HSM
  go_wp2_with fail
  refine (lv12 _).mono ?_
  rintro e w99 ⟨rfl, b99⟩
  go_wp2_with fail
  go_ret
  exact ⟨rfl, B5.out.trans (b99.mono B5.out.size)⟩

set_option maxRecDepth 100000 in
theorem lifted (os : Os) (started : os.Started) (H : Type) (enc : TypeId × Value → H) :
    ReturnsInHanded {} Try.checked os 3 .any (Rows.ipv6DecodesSpec.pre6 enc Try.prog Try.f3 Rows.ipv6DecodesRow.domain false) (Rows.ipv6DecodesSpec.post enc Try.prog Try.f3 false true false false) := by
  refine returnsInHanded_of_change (C := Try.checked) own started (by kernel_rfl) Try.func3
    (ChangeSpec.witness6 (enc := enc) (C := Try.checked) false ⟨#[], #[.string ⟨#[]⟩], []⟩ 8 (by kernel_rfl) (by kernel_rfl) (by kernel_rfl) (by kernel_rfl)) ?_
  intro W base args ds gs before hval0 hW hcnd _
  have hval : ∀ (j : Nat) t v, Try.f3.params[j]? = some t → args[j]? = some v → Value.okWide Try.prog W .any base t v := hval0
  have hW' := hW
  obtain ⟨p, q, hA0, hV, rfl, hfz, hnd⟩ := hW
  have hA : DataW.TrodAll enc Try.prog W 0 (fun _ => true) true Try.f3.params.toList args.toList ds p := hA0
  rw [Try.params3] at hA hval
  obtain ⟨v0, vs0, d0, ds0, p0, q0, hargs, rfl, rfl, h0, r0⟩ := trodAll_cons hA
  obtain ⟨rfl, rfl, rfl⟩ := trodAll_nil r0
  obtain rfl : args = #[v0] := by cases args; simp_all
  obtain ⟨rfl, rfl⟩ := trodVars_none hV
  obtain ⟨a0, rfl, rfl, rfl, w0⟩ := open_string Try.underlying9 (hval 0 9 v0 rfl rfl) h0
  clear hA0 hval0
  refine (walk a0 W w0).mono fun e W' ⟨he, bel⟩ => ?_
  subst he
  exact ⟨_, rfl, _, _, _, [], _, [], hW', trodAll_mk1 (shut_bool Try.underlying4 _), (trodAll_cons_mk (shut_string Try.underlying9 w0) trodAll_mk0), rfl, bel.frame _, fun h => by cases h⟩

theorem over : Rows.ipv6DecodesRow.holds Try.pinned (OpenSpec.ofChange Rows.ipv6DecodesSpec) :=
  OpenClaim.holds_of_wide 3 Try.f3 rfl rfl rfl rfl rfl rfl rfl ⟨rfl, rfl, rfl, rfl, rfl⟩ rfl rfl rfl rfl rfl (by kernel_rfl) Try.func3 (by kernel_rfl)
    (of_decide_eq_true (by kernel_rfl)) (by unfold Func.isWrapper; first | (rw [if_pos (by decide +kernel)]; kernel_rfl) | (rw [if_neg (by decide +kernel)]; exact ⟨rfl, rfl⟩))
    (fun os started H enc _ => lifted os started H enc)

theorem proved : Rows.Ipv6DecodesSaid := over
#print axioms proved
end Go.Proofs.Ytjjldolafnfpoaa.ipv6Decodes
