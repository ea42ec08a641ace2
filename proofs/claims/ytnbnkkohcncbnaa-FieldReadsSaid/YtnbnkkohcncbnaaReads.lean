/- FieldReads holds: for every string and every list of calls the law that a reader answers as the reference does returns true and leaves memory as it was. No condition. -/
import Derived.Test.YtnbnkkohcncbnaaRefReader
import Derived.Deep.SlicePairs
import Derived.Deep.RegionHeld3
namespace Go.Proofs.Ytnbnkkohcncbnaa.fieldReads
open Go.ChangeShapes Go.WideShapes Go.ChangeAt Go.RowKit
open Go.ChangeMaps (open_string shut_string)
set_option linter.unusedVariables false

theorem own : ownKnob Try.prog.godebug = none := by kernel_rfl
theorem laidOut : laidOutB Try.prog = true := by kernel_rfl

/-- The calls that came in: kind K i and number N i. -/
def InSteps (w : World) (A : Option Addr) (len : Nat) (K N : Nat → Int) : Prop :=
  0 < len → ∃ g o, A = some ⟨g, o, none⟩ ∧ g < w.heap.size ∧ ∀ i, i < len → w.cell? ⟨g, o + i * 2, none⟩ = some (.int .i64 (K i)) ∧ w.cell? ⟨g, o + i * 2 + 1, none⟩ = some (.int .i64 (N i))

/-- A step that writes the reference's reader alone keeps the program's: their blocks hold cells of other kinds. -/
theorem rd_other {w w' : World} {p q : Nat} {l m : List UInt8} {err err' : Int} (h : Rd w p l err) (hr : RR w q m err') (hne : p ≠ q) (hg : w.grownBy w' (some q)) : Rd w' p l err := by
  obtain ⟨A, cap, hc, hl⟩ := h
  refine ⟨A, cap, hc.only hg (by intro e; injection e with e; exact hne e), hl.1, fun hp => ?_⟩
  obtain ⟨g, o, e, hgp, hlt, hcell⟩ := hl.2 hp
  have hgq : g ≠ q := by
    rintro rfl
    have h1 := (hcell 0 hp).1
    rw [hr.cell (o + 0)] at h1
    rcases o with _ | _ | o <;> simp at h1
  have hb : w'.heap[g]? = w.heap[g]? := hg.block g hlt (by intro e; injection e with e; exact hgq e)
  refine ⟨g, o, e, hgp, Nat.lt_of_lt_of_le hlt hg.size, fun j hj => ?_⟩
  rw [World.cell?_of_block (w := w) (w' := w') (a := ⟨g, o + j, none⟩) hb, World.frozen?_of_block (w := w) (w' := w') (a := ⟨g, o + j, none⟩) hb]
  exact hcell j hj
theorem rr_other {w w' : World} {p q : Nat} {m : List UInt8} {err' : Int} (hr : RR w q m err') (hne : p ≠ q) (hg : w.grownBy w' (some p)) : RR w' q m err' :=
  Cells.only hr hg (by intro e; injection e with e; exact hne e.symm)
theorem cell_only {w w' : World} {g x : Nat} {row : Nat} {v : Value} (h : w.cell? ⟨g, x, none⟩ = some v) (hlt : g < w.heap.size) (hne : g ≠ row) (hg : w.grownBy w' (some row)) : w'.cell? ⟨g, x, none⟩ = some v := by
  rw [World.cell?_of_block (w := w) (w' := w') (a := ⟨g, x, none⟩) (hg.block g hlt (by intro e; injection e with e; exact hne e))]
  exact h

theorem long (s : ByteArray) (A : Option Addr) (len cap : Nat) (w : World) (hs : s.size ≤ maxLen) (hl : len ≤ maxLen) (h : 200 < s.size ∨ 60 < len) :
    Calls Try.prog 6 #[.string s, .slice A len cap] w fun e w' => e = .returned (.bool true) ∧ Below w.heap.size w w' := by
  unfold maxLen at hs hl
  by_cases h1 : 200 < s.size
  · go_enter Try.func6, Try.ntmps6
    go_wp2_with fail
    refine (awake_any _).mono ?_
    rintro e v5 ⟨rfl, hb5⟩
    go_wp2_with fail
    go_ret
    exact ⟨rfl, hb5⟩
  · have h2 : 60 < len := by omega
    have hd : decide (200 < (s.size : Int)) = false := by simp; omega
    go_enter Try.func6, Try.ntmps6
    go_wp2_with fail
    refine (awake_any _).mono ?_
    rintro e v5 ⟨rfl, hb5⟩
    go_wp2_with fail
    go_ret
    exact ⟨rfl, hb5⟩

set_option maxHeartbeats 4000000 in
theorem core (s : ByteArray) (A : Option Addr) (len cap : Nat) (K N : Nat → Int) (w : World) (hs : s.size ≤ 200) (hl : len ≤ 60) (hin : InSteps w A len K N) :
    Calls Try.prog 6 #[.string s, .slice A len cap] w fun e w' => e = .returned (.bool true) ∧ Below w.heap.size w w' := by
  have hd1 : decide (200 < (s.size : Int)) = false := by simp; omega
  have hd2 : decide (60 < (len : Int)) = false := by simp; omega
  go_enter Try.func6, Try.ntmps6
  go_wp2_with fail
  refine (new_any s _).mono ?_
  rintro e w1 ⟨p, rfl, hp, hrd1, hb1⟩
  go_wp2_with fail
  refine (rnew_any s _).mono ?_
  rintro e w2 ⟨rfl, hrr2, hb2⟩
  have hrd2 := hrd1.kept hb2
  have hpq : p ≠ w1.heap.size := Nat.ne_of_lt hrd1.lt
  have hq : w.heap.size ≤ w1.heap.size := hb1.size
  have hB2 := hb1.trans (hb2.mono hb1.size)
  have hlen : s.data.toList.length ≤ 200 := by simpa using hs
  generalize w1.heap.size = q at *
  generalize s.data.toList = l0 at *
  clear hb1 hb2 hrd1 hd1 hd2
  go_wp2_with fail
  go_loopw [7] (fun i wr => ∃ x : Nat, ∃ l err, x ≤ len ∧ i = .int .i64 x ∧ Rd wr p l err ∧ RR wr q l err ∧ l.length ≤ 200 ∧ Below w.heap.size w wr) (fun i _ => len - (intOf i).toNat)
  case atStart => exact ⟨0, l0, 0, by omega, rfl, hrd2, hrr2, hlen, hB2⟩
  case round =>
    obtain ⟨x, l, err, hx, rfl, hrd, hrr, hl200, hbw⟩ := hrel
    by_cases hlt : x < len
    · obtain ⟨g, o, rfl, hg, hcs⟩ := hin (by omega)
      have hK : wr.cell? ⟨g, o + x * 2, none⟩ = some (.int .i64 (K x)) := by rw [hbw.cell (p := ⟨g, o + x * 2, none⟩) hg]; exact (hcs x hlt).1
      have hN : wr.cell? ⟨g, o + x * 2 + 1, none⟩ = some (.int .i64 (N x)) := by rw [hbw.cell (p := ⟨g, o + x * 2 + 1, none⟩) hg]; exact (hcs x hlt).2
      have hgr : g < wr.heap.size := Nat.lt_of_lt_of_le hg hbw.size
      have hgp : g ≠ p := by omega
      have hgq : g ≠ q := by omega
      clear hcs
      generalize K x = kd at *
      generalize N x = nn at *
      by_cases h0 : kd = 0
      · have e0 : (kd == 0) = true := by simp [h0]
        have HI := Lib.hid (fun W h => int_all p l err nn W h (by omega))
        have HJ := Lib.hid (fun W h => rint_all q l err nn W h (by omega))
        have hlf := intR_left l err nn
        generalize intR l err nn = T at *
        obtain ⟨a, l', err'⟩ := T
        simp only at hlf
        clear h0
        go_wp2_with fail
        go_region_held3 (fun w' => w'.cell? ⟨g, o + x * 2 + 1, none⟩ = some (.int .i64 nn)) (go_keep) (first
          | (go_at_call 19; refine (HI.out _ ?_).mono ?_; exact hrd; rintro e w3 ⟨rfl, hrd3, hg3d⟩; have hg3 : wr.grownBy w3 (some p) := ⟨hg3d.os, hg3d.tape, hg3d.output, hg3d.size, hg3d.block⟩; have hrr3 := rr_other hrr hpq hg3; have hN3 := cell_only hN hgr hgp hg3)
          | (go_at_call 20; refine (HJ.out _ ?_).mono ?_; exact hrr3; rintro e w4 ⟨rfl, hrr4, hg4d⟩; have hg4 : w3.grownBy w4 (some q) := ⟨hg4d.os, hg4d.tape, hg4d.output, hg4d.size, hg4d.block⟩; have hN4 := cell_only hN3 (Nat.lt_of_lt_of_le hgr hg3.size) hgq hg4))
        have hrd4 := rd_other hrd3 hrr3 hpq hg4
        have hbw4 : Below w.heap.size w w4 := below_only (below_only hbw hg3 hp hbw.size) hg4 hq (Nat.le_trans hbw.size hg3.size)
        go_wp2_with fail
        refine (left_any p l' err' _ hrd4).mono ?_
        rintro e w5 ⟨rfl, rfl⟩
        go_wp2_with fail
        refine (rleft_any q l' err' _ hrr4).mono ?_
        rintro e w5 ⟨rfl, rfl⟩
        go_wp2_with fail
        refine (err_any p l' err' _ hrd4).mono ?_
        rintro e w5 ⟨rfl, rfl⟩
        go_wp2_with fail
        refine (rerr_any q l' err' _ hrr4).mono ?_
        rintro e w5 ⟨rfl, rfl⟩
        go_wp2_with fail
        go_roundw
        case rel => exact ⟨x + 1, l', err', by omega, by go_num, hrd4, hrr4, by omega, hbw4⟩
        case measure => simp [intOf]; omega
      have e0 : (kd == 0) = false := by simpa using h0
      clear h0
      by_cases h0 : kd = 1
      · have e1 : (kd == 1) = true := by simp [h0]
        have HI := Lib.hid (fun W h => take_all p l err nn W h (by omega))
        have HJ := Lib.hid (fun W h => rtake_all q l err nn W h (by omega))
        have hlf := takeR_left l err nn
        generalize takeR l err nn = T at *
        obtain ⟨a, l', err'⟩ := T
        simp only at hlf
        clear h0
        go_wp2_with fail
        go_region_held3 (fun w' => w'.cell? ⟨g, o + x * 2 + 1, none⟩ = some (.int .i64 nn)) (go_keep) (first
          | (go_at_call 21; refine (HI.out _ ?_).mono ?_; exact hrd; rintro e w3 ⟨rfl, hrd3, hg3d⟩; have hg3 : wr.grownBy w3 (some p) := ⟨hg3d.os, hg3d.tape, hg3d.output, hg3d.size, hg3d.block⟩; have hrr3 := rr_other hrr hpq hg3; have hN3 := cell_only hN hgr hgp hg3)
          | (go_at_call 22; refine (HJ.out _ ?_).mono ?_; exact hrr3; rintro e w4 ⟨rfl, hrr4, hg4d⟩; have hg4 : w3.grownBy w4 (some q) := ⟨hg4d.os, hg4d.tape, hg4d.output, hg4d.size, hg4d.block⟩; have hN4 := cell_only hN3 (Nat.lt_of_lt_of_le hgr hg3.size) hgq hg4))
        have hrd4 := rd_other hrd3 hrr3 hpq hg4
        have hbw4 : Below w.heap.size w w4 := below_only (below_only hbw hg3 hp hbw.size) hg4 hq (Nat.le_trans hbw.size hg3.size)
        go_wp2_with fail
        refine (left_any p l' err' _ hrd4).mono ?_
        rintro e w5 ⟨rfl, rfl⟩
        go_wp2_with fail
        refine (rleft_any q l' err' _ hrr4).mono ?_
        rintro e w5 ⟨rfl, rfl⟩
        go_wp2_with fail
        refine (err_any p l' err' _ hrd4).mono ?_
        rintro e w5 ⟨rfl, rfl⟩
        go_wp2_with fail
        refine (rerr_any q l' err' _ hrr4).mono ?_
        rintro e w5 ⟨rfl, rfl⟩
        go_wp2_with fail
        go_roundw
        case rel => exact ⟨x + 1, l', err', by omega, by go_num, hrd4, hrr4, by omega, hbw4⟩
        case measure => simp [intOf]; omega
      have e1 : (kd == 1) = false := by simpa using h0
      clear h0
      by_cases h0 : kd = 2
      · have e2 : (kd == 2) = true := by simp [h0]
        have HI := Lib.hid (fun W h => rest_all p l err W h (by omega))
        have HJ := Lib.hid (fun W h => rrest_all q l err W h (by omega))
        have hlf := takeR_left l err l.length
        generalize takeR l err l.length = T at *
        obtain ⟨a, l', err'⟩ := T
        simp only at hlf
        clear h0
        go_wp2_with fail
        refine (HI.out _ ?_).mono ?_
        exact hrd
        rintro e w3 ⟨rfl, hrd3, hg3⟩
        have hrr3 := rr_other hrr hpq hg3
        go_wp2_with fail
        refine (HJ.out _ ?_).mono ?_
        exact hrr3
        rintro e w4 ⟨rfl, hrr4, hg4⟩
        have hrd4 := rd_other hrd3 hrr3 hpq hg4
        have hbw4 : Below w.heap.size w w4 := below_only (below_only hbw hg3 hp hbw.size) hg4 hq (Nat.le_trans hbw.size hg3.size)
        go_wp2_with fail
        refine (left_any p l' err' _ hrd4).mono ?_
        rintro e w5 ⟨rfl, rfl⟩
        go_wp2_with fail
        refine (rleft_any q l' err' _ hrr4).mono ?_
        rintro e w5 ⟨rfl, rfl⟩
        go_wp2_with fail
        refine (err_any p l' err' _ hrd4).mono ?_
        rintro e w5 ⟨rfl, rfl⟩
        go_wp2_with fail
        refine (rerr_any q l' err' _ hrr4).mono ?_
        rintro e w5 ⟨rfl, rfl⟩
        go_wp2_with fail
        go_roundw
        case rel => exact ⟨x + 1, l', err', by omega, by go_num, hrd4, hrr4, by omega, hbw4⟩
        case measure => simp [intOf]; omega
      have e2 : (kd == 2) = false := by simpa using h0
      clear h0
      go_wp2_with fail
      refine (left_any p l err _ hrd).mono ?_
      rintro e w5 ⟨rfl, rfl⟩
      go_wp2_with fail
      refine (rleft_any q l err _ hrr).mono ?_
      rintro e w5 ⟨rfl, rfl⟩
      go_wp2_with fail
      refine (err_any p l err _ hrd).mono ?_
      rintro e w5 ⟨rfl, rfl⟩
      go_wp2_with fail
      refine (rerr_any q l err _ hrr).mono ?_
      rintro e w5 ⟨rfl, rfl⟩
      go_wp2_with fail
      go_roundw
      case rel => exact ⟨x + 1, l, err, by omega, by go_num, hrd, hrr, by omega, hbw⟩
      case measure => simp [intOf]; omega
    · go_wp2_with fail
      refine (awake_any _).mono ?_
      rintro e w5 ⟨rfl, hb5⟩
      go_wp2_with fail
      go_ret
      exact ⟨rfl, hbw.trans (hb5.mono hbw.size)⟩

theorem walk (s : ByteArray) (A : Option Addr) (len cap : Nat) (K N : Nat → Int) (w : World) (w0 : s.size ≤ maxLen) (w1 : InSteps w A len K N) (w2 : len ≤ maxLen) :
    Calls Try.prog 6 #[.string s, .slice A len cap] w fun e w' => e = .returned (.bool true) ∧ Below w.heap.size w w' := by
  by_cases hl : 200 < s.size ∨ 60 < len
  · exact long s A len cap w w0 w2 hl
  · exact core s A len cap K N w (by omega) (by omega) w1

theorem cellsStep : Try.prog.cellsOf 40 = 2 := by kernel_rfl
theorem cellsInt : Try.prog.cellsOf 3 = 1 := by kernel_rfl

theorem in_steps {H : Type} {enc : TypeId × Value → H} {W : World} {base : Nat} {sp : Nat → Bool} {held : Bool} {A : Option Addr} {len cap : Nat} {d : DataW H} {p : List MemPlace}
    (h : DataW.Trod enc Try.prog W base sp held 34 (.slice A len cap) d p) : ∃ K N, InSteps W A len K N ∧ len ≤ maxLen := by
  obtain ⟨fuel, hf⟩ := h
  rcases Go.Deep.open_slice_pairs Try.underlying34 Try.underlying40 cellsStep rfl rfl cellsInt cellsInt hf with ⟨hcs, _⟩ | ⟨a, l, c, m, n, V0, V1, D0, D1, P0, P1, hcs, _, hl, hm, hmm, _, hcell⟩
  · simp [Value.cells] at hcs
    obtain ⟨rfl, rfl, rfl⟩ := hcs
    exact ⟨fun _ => 0, fun _ => 0, fun h => absurd h (by omega), by simp [maxLen]⟩
  · simp [Value.cells] at hcs
    obtain ⟨rfl, rfl, rfl⟩ := hcs
    have hlm : len ≤ m := by rw [hmm]; split <;> omega
    refine ⟨fun i => intOf (V0 i), fun i => intOf (V1 i), fun hp => ?_, by omega⟩
    obtain ⟨b, off, spot⟩ := a
    have h0 := (hcell 0 (by omega)).1
    have hspot : spot = none := by simpa [Addr.add] using World.cell?_spot h0
    subst hspot
    have hlt := World.block_lt_of_cell? W _ h0
    refine ⟨b, off, rfl, by simpa [Addr.add] using hlt, fun i hi => ?_⟩
    obtain ⟨h1, h2, h3, h4⟩ := hcell i (by omega)
    obtain ⟨a0, e0, _, _⟩ := DataW.trod_int Try.underlying3 h3
    obtain ⟨a1, e1, _, _⟩ := DataW.trod_int Try.underlying3 h4
    simp at e0 e1
    rw [add_flat] at h1 h2
    exact ⟨by rw [h1]; simp [e0, intOf], by rw [Nat.add_assoc, h2]; simp [e1, intOf]⟩

set_option maxRecDepth 100000 in
theorem lifted (os : Os) (started : os.Started) (H : Type) (enc : TypeId × Value → H) :
    ReturnsInHanded {} Try.checked os 6 .any (Rows.fieldReadsSpec.pre6 enc Try.prog Try.f6 Rows.fieldReadsRow.domain false) (Rows.fieldReadsSpec.post enc Try.prog Try.f6 false true false false) := by
  refine returnsInHanded_of_change (C := Try.checked) own started (by kernel_rfl) Try.func6
    (ChangeSpec.witness6 (enc := enc) (C := Try.checked) false ⟨#[], #[.string ⟨#[]⟩, .slice none 0 0], []⟩ 8 (by kernel_rfl) (by kernel_rfl) (by kernel_rfl) (by kernel_rfl)) ?_
  intro W base args ds gs before hval0 hW hcnd _
  have hval : ∀ (j : Nat) t v, Try.f6.params[j]? = some t → args[j]? = some v → Value.okWide Try.prog W .any base t v := hval0
  have hW' := hW
  obtain ⟨p, q, hA0, hV, rfl, hfz, hnd⟩ := hW
  have hA : DataW.TrodAll enc Try.prog W 0 (fun _ => true) true Try.f6.params.toList args.toList ds p := hA0
  rw [Try.params6] at hA hval
  obtain ⟨v0, vs0, d0, ds0, p0, q0, hargs, rfl, rfl, h0, r0⟩ := trodAll_cons hA
  obtain ⟨v1, vs1, d1, ds1, p1, q1, rfl, rfl, rfl, h1, r1⟩ := trodAll_cons r0
  obtain ⟨rfl, rfl, rfl⟩ := trodAll_nil r1
  obtain rfl : args = #[v0, v1] := by cases args; simp_all
  obtain ⟨rfl, rfl⟩ := trodVars_none hV
  obtain ⟨a0, rfl, rfl, rfl, w0⟩ := open_string Try.underlying9 (hval 0 9 v0 rfl rfl) h0
  obtain ⟨a1, len1, cap1, rfl⟩ := okWide_slice Try.underlying34 (hval 1 34 v1 rfl rfl)
  have k1 := h1
  have lt1 : ∀ x ∈ p1, x.block < W.heap.size := by obtain ⟨m, hm⟩ := k1; exact DataW.trod_lt m _ _ _ hm
  obtain ⟨K, N, w1, w2⟩ := in_steps h1
  clear hA0 hval0
  refine (walk a0 a1 len1 cap1 K N W w0 w1 w2).mono fun e W' ⟨he, bel⟩ => ?_
  subst he
  exact ⟨_, rfl, _, _, _, [], _, [], hW', trodAll_mk1 (shut_bool Try.underlying4 _), (trodAll_cons_mk (shut_string Try.underlying9 w0) (trodAll_cons_mk (Below.trod laidOut (by kernel_rfl) (of_decide_eq_true (by kernel_rfl)) k1 bel lt1) trodAll_mk0)), rfl, bel.frame _, fun h => by cases h⟩

theorem over : Rows.fieldReadsRow.holds Try.pinned (OpenSpec.ofChange Rows.fieldReadsSpec) :=
  OpenClaim.holds_of_wide 6 Try.f6 rfl rfl rfl rfl rfl rfl rfl ⟨rfl, rfl, rfl, rfl, rfl⟩ rfl rfl rfl rfl rfl (by kernel_rfl) Try.func6 (by kernel_rfl)
    (of_decide_eq_true (by kernel_rfl)) (by unfold Func.isWrapper; first | (rw [if_pos (by decide +kernel)]; kernel_rfl) | (rw [if_neg (by decide +kernel)]; exact ⟨rfl, rfl⟩))
    (fun os started H enc _ => lifted os started H enc)

theorem proved : Rows.FieldReadsSaid := over
#print axioms proved
end Go.Proofs.Ytnbnkkohcncbnaa.fieldReads
