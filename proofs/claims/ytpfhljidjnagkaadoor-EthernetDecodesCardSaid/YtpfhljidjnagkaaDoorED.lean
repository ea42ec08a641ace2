/- EthernetDecodes holds: for every string the law about Decode beside the reference returns true and leaves memory as it was; no conditions. -/
import Derived.Test.YtpfhljidjnagkaaDoorCards
import Derived.Test.YtpfhljidjnagkaaDoorEM4
import Derived.Test.YtpfhljidjnagkaaDoorEM5
namespace Go.Proofs.YtpfhljidjnagkaaDoor.ethernetDecodes
open Go.ChangeShapes Go.WideShapes Go.ChangeAt Go.RowKit
open Go.ChangeMaps (open_string shut_string)
set_option linter.unusedVariables false

theorem own : ownKnob Tryd.prog.godebug = none := by kernel_rfl
theorem laidOut : laidOutB Tryd.prog = true := by kernel_rfl
set_option maxHeartbeats 4000000 in
set_option maxRecDepth 20000 in
theorem walk (s : ByteArray) (w : World) (ht : TG w) (hs : s.size ≤ maxLen) :
    Calls Tryd.prog 3 #[.string s] w fun e w' => e = .returned (.bool true) ∧ Below w.heap.size w w' := by
  have HT := Lib.hid (fun (W : World) (hb : Below w.heap.size w W) => ht.kept hb)
  have B0 := Lib.hid (Below.refl w.heap.size w)
  by_cases hl : 5000 < s.size
  · have d0 : decide ((5000 : Int) < (s.size : Int)) = true := by simp; omega
    have nd : (5000 : Int) < (s.size : Int) := by omega
    go_enter Tryd.func3, Tryd.ntmps3
    go_wp2_with fail
    refine (awake_any _ (HT.out _ B0.out)).mono ?_
    rintro e w99 ⟨rfl, b99⟩
    go_wp2_with fail
    go_ret
    exact ⟨rfl, B0.out.trans (b99.mono B0.out.size)⟩
  have d0 : decide ((5000 : Int) < (s.size : Int)) = false := by simp; omega
  have nd : ¬ (5000 : Int) < (s.size : Int) := by omega
  obtain ⟨L, hL⟩ : ∃ L, L = s.data.toList := ⟨_, rfl⟩
  have hlen : L.length = s.size := by rw [hL]; show s.data.toList.length = s.data.size; simp only [Array.length_toList]
  have hsL : s = str L := by rw [hL]; exact (str_of s).symm
  have hvl := decE_vl L
  have H1 := Lib.hid (fun (W : World) (hb : Below w.heap.size w W) => show Calls Tryd.prog 9 #[.string s] W (DecP W (decE L)) from by rw [hsL]; exact pdec10_any L W (by omega) (ht.kept hb))
  have H2 := Lib.hid (fun (W : World) => show Calls Tryd.prog 10 #[.string s] W (DecP W (decE L)) from by rw [hsL]; exact rdec10_any L W (by omega))
  clear hL hlen hsL hs hl
  generalize decE L = R at *
  obtain ⟨x, er⟩ := R
  simp only at hvl
  have HVL := Lib.hid hvl
  clear hvl
  have HSM := Lib.hid (fun (A1 A2 : Option Addr) (c1 c2 : Nat) (W : World) (h1 : RowL EInt W A1 x.vl) (h2 : RowL EInt W A2 x.vl) => rsame10_any x A1 A2 c1 c2 W h1 h2 (by have := HVL.out; omega))
  have he : ((er : Int) == (er : Int)) = true := beq_self_eq_true _
  go_enter Tryd.func3, Tryd.ntmps3
  go_wp2_with fail
  refine (H1.out _ B0.out).mono ?_
  rintro e w1 ⟨A1, c1, rfl, r1, n1, b1⟩
  have R1 := Lib.hid (show RowL EInt w1 A1 x.vl from r1)
  clear r1 n1
  have B1 := Lib.hid (B0.out.trans (b1.mono B0.out.size))
  clear b1
  clear H1
  go_wp2_with fail
  refine (H2.out _).mono ?_
  rintro e w2 ⟨A2, c2, rfl, r2, n2, b2⟩
  have B2 := Lib.hid (B1.out.trans (((below_alloc6 w1 _).trans (b2.mono (by simp))).mono B1.out.size))
  have R2 := Lib.hid (show RowL EInt w2 A2 x.vl from r2)
  have R12 := Lib.hid (R1.out.kept ((below_alloc6 w1 _).trans (b2.mono (by simp))))
  have hX : Cells w2 w1.heap.size 26 #[.int .u64 (x.dst : Int), .int .u64 (x.src : Int), .slice A1 x.vl.length c1, .int .i64 x.ty, .string (str x.pay)] := (b2.block _ (by simp)).trans (heap_alloc_new w1 _)
  have x0 := (Cells.cell hX 0).trans (show _ = some (Value.int .u64 (x.dst : Int)) from rfl)
  have x1 := (Cells.cell hX 1).trans (show _ = some (Value.int .u64 (x.src : Int)) from rfl)
  have x2 := (Cells.cell hX 2).trans (show _ = some (Value.slice A1 x.vl.length c1) from rfl)
  have x3 := (Cells.cell hX 3).trans (show _ = some (Value.int .i64 x.ty) from rfl)
  have x4 := (Cells.cell hX 4).trans (show _ = some (Value.string (str x.pay)) from rfl)
  have hxl := Cells.lt hX
  clear r2 n2 b2 R1 B1 H2 hX
  go_wp2_with fail
  refine (HSM.out _ _ _ _ _ (R12.out.kept (below_alloc6 w2 _)) (R2.out.kept (below_alloc6 w2 _))).mono ?_
  rintro e w3 ⟨rfl, b3⟩
  have B3 := Lib.hid (B2.out.trans (((below_alloc6 w2 _).trans (b3.mono (by simp))).mono B2.out.size))
  clear b3 B2 R12 R2 x0 x1 x2 x3 x4 hxl HSM
  go_wp2_with fail
  refine (awake_any _ (HT.out _ B3.out)).mono ?_
  rintro e w99 ⟨rfl, b99⟩
  go_wp2_with fail
  go_ret
  exact ⟨rfl, B3.out.trans (b99.mono B3.out.size)⟩

set_option maxRecDepth 100000 in
theorem lifted (os : Os) (started : os.Started) (H : Type) (enc : TypeId × Value → H) :
    ReturnsInHanded {} Tryd.checked os 3 .any (fun w args => (Rows.ethernetDecodesSpec.pre enc Tryd.prog Tryd.f3 [] false w args ∧ laidMetH Tryd.prog laidA w) ∧ sizedMet enc Tryd.prog Tryd.f3 (OpenSpec.ofChange Rows.ethernetDecodesSpec) false w args) (Rows.ethernetDecodesSpec.post enc Tryd.prog Tryd.f3 false true false false) := by
  refine wrap10 (C := Tryd.checked) (X := fun w _ => laidMetH Tryd.prog laidA w) (fun _ _ _ hh h => h.of_heap hh) own started (by kernel_rfl) Tryd.func3
    (ChangeSpec.witness_shaped (enc := enc) (C := Tryd.checked) (os := os) (X := fun w _ => laidMetH Tryd.prog laidA w) false (World.laidAll Tryd.prog os laidA) #[.string ⟨#[]⟩] 8 (World.laidAll_os _ _ _) (World.shaped_of_ZipB (by kernel_rfl) (by kernel_rfl)) (by kernel_rfl) (by kernel_rfl) (by kernel_rfl) (doorA os _)) ?_
  intro W base args ds gs before hval0 hW hX hsh
  have hval : ∀ (j : Nat) t v, Tryd.f3.params[j]? = some t → args[j]? = some v → Value.okWide Tryd.prog W .any base t v := hval0
  have hW' := hW
  obtain ⟨p, q, hA0, hV, rfl, hfz, hnd⟩ := hW
  have hA : DataW.TrodAll enc Tryd.prog W 0 (fun _ => true) true Tryd.f3.params.toList args.toList ds p := hA0
  rw [Tryd.params3] at hA hval
  obtain ⟨v0, vs0, d0, ds0, p0, q0, hargs, rfl, rfl, h0, r0⟩ := trodAll_cons hA
  obtain ⟨rfl, rfl, rfl⟩ := trodAll_nil r0
  obtain rfl : args = #[v0] := by cases args; simp_all
  obtain ⟨rfl, rfl⟩ := trodVars_none hV
  obtain ⟨a0, rfl, rfl, rfl, w0⟩ := open_string Tryd.underlying9 (hval 0 9 v0 rfl rfl) h0
  clear hA0 hval0
  refine (walk a0 W (tiedA hX hsh) w0).mono fun e W' ⟨he, bel⟩ => ?_
  subst he
  exact ⟨_, rfl, _, _, _, [], _, [], hW', trodAll_mk1 (shut_bool Tryd.underlying4 _), (trodAll_cons_mk (shut_string Tryd.underlying9 w0) trodAll_mk0), rfl, bel.frame _, fun h => by cases h⟩

theorem over : Rows.ethernetDecodesRow.holds Tryd.pinned (OpenSpec.ofChange Rows.ethernetDecodesSpec) :=
  OpenClaim.holds_of_wide 3 Tryd.f3 rfl rfl rfl rfl rfl rfl rfl ⟨rfl, rfl, rfl, rfl, rfl⟩ rfl rfl rfl rfl rfl (by kernel_rfl) Tryd.func3 (by kernel_rfl)
    (of_decide_eq_true (by kernel_rfl)) (by unfold Func.isWrapper; first | (rw [if_pos (by decide +kernel)]; kernel_rfl) | (rw [if_neg (by decide +kernel)]; exact ⟨rfl, rfl⟩))
    (fun os started H enc _ => lifted os started H enc)

theorem bare : Rows.EthernetDecodesSaid := over

/-- The tied card. -/
theorem proved : Rows.EthernetDecodesCardSaid :=
  Claim7.holds_tied_plain_at .later [] _ true _ true
    bare (fun _ h => by cases h) (by kernel_rfl) (fun _ h => by cases h) ethernetDecodes_row_tie rfl ⟨rfl, rfl⟩ (by kernel_rfl) rfl
    (fun f fn hf hfn => by
      obtain rfl : f = 3 := Option.some.inj ((show Tryd.prog.funcNamed "intrusion/intrusionlaw10.EthernetDecodes" = some 3 by kernel_rfl).symm.trans hf) |>.symm
      obtain rfl : fn = Tryd.f3 := (Option.some.inj (Tryd.func3.symm.trans hfn)).symm
      exact ⟨by kernel_rfl, fun j t ht => by
        rw [Tryd.params3] at ht
        have hm : t ∈ [9] := by simpa using Array.mem_of_getElem? ht
        have hall : ([9].all fun u => !Tryd.prog.wantsStandIn u) = true := by kernel_rfl
        exact (show Tryd.prog.wantsStandIn t = false by simpa using List.all_eq_true.1 hall t hm)⟩)
    (by kernel_rfl)
#print axioms proved

end Go.Proofs.YtpfhljidjnagkaaDoor.ethernetDecodes
