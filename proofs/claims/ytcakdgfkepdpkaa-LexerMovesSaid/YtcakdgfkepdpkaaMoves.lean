/- LexerMoves holds: for every string and every list of steps the law about a cursor returns true and leaves memory as it was. No condition. -/
import Derived.Test.YtcakdgfkepdpkaaAwk04
import Derived.Test.YtcakdgfkepdpkaaLexGood
import Derived.Deep.RegionHeld3
namespace Go.Proofs.Ytcakdgfkepdpkaa.lexerMoves
open Go.ChangeShapes Go.WideShapes Go.ChangeAt Go.RowKit
open Go.ChangeMaps (open_string shut_string)
set_option linter.unusedVariables false

theorem own : ownKnob Try.prog.godebug = none := by kernel_rfl
theorem laidOut : laidOutB Try.prog = true := by kernel_rfl

theorem tb_only {w w' : World} {g p : Nat} {k : Int} {t : ByteArray} {a : Int} (h : TB w g k t a) (hg : w.grownBy w' (some p)) (hne : g ≠ p) : TB w' g k t a :=
  Cells.only h hg (by intro e; injection e with e; exact hne e)
theorem stepI_true (l : List Tok) (k : Nat) : stepI true l k = if k + 1 < l.length then k + 1 else k := by unfold stepI; simp
theorem ts_onlyP {w w' : World} {g p : Nat} {l : List Tok} (h : TS w g l) (hg : w.grownBy w' (some p)) (hne : g ≠ p) : TS w' g l :=
  ⟨Nat.lt_of_lt_of_le h.1 hg.size, fun j u hu => by
    rw [World.cell?_of_block (w := w) (w' := w') (a := ⟨g, j, none⟩) (hg.block g h.1 (by intro e; injection e with e; exact hne e))]
    exact h.2 j u hu⟩

set_option maxHeartbeats 4000000 in
set_option maxRecDepth 20000 in
theorem core (s : ByteArray) (A : Option Addr) (n cap : Nat) (K : Nat → Int) (T : Nat → ByteArray) (w : World) (hs : s.size ≤ 300) (hin : InSt w A n K T) (hn : n ≤ 60) :
    Calls Try.prog 8 #[.string s, .slice A n cap] w fun e w' => e = .returned (.bool true) ∧ Below w.heap.size w w' := by
  have hm := tok_guard
  have HIN := Lib.hid hin
  clear hin
  have ds : decide (300 < (s.size : Int)) = false := by simp; omega
  have dn : decide (60 < (n : Int)) = false := by simp; omega
  have h2 := fun W => rscan_any s W (by omega)
  rcases scanS_form s with ⟨l, nn, hS, hp, hl6, h16⟩ | ⟨er, nn, hS, he⟩
  · have h3 := fun W => ncur_ok s W l nn hS hp (by omega)
    obtain ⟨hgl, htl⟩ := scanS_good hS h16 (by omega)
    rw [hS] at h2
    have h2' := fun W => scan_list (h2 W) hp
    have H2 := Lib.hid h2'
    have H3 := Lib.hid h3
    have HGL := Lib.hid hgl
    have HTL := Lib.hid htl
    obtain ⟨ln, hln⟩ : ∃ ln, ln = l.length := ⟨_, rfl⟩
    obtain ⟨ln1, hln1⟩ : ∃ ln1, l.length = ln1 + 1 := ⟨l.length - 1, by omega⟩
    have hli : (ln : Int) - 1 = (ln1 : Int) := by omega
    have HLN := Lib.hid (And.intro hln hln1)
    have hl300 : ln1 ≤ 300 := by omega
    have hl301 : ln ≤ 301 := by omega
    rw [← hln] at H2
    clear h2 h2' h3 hS hgl htl hp hl6 hln hln1
    go_enter Try.func8, Try.ntmps8
    go_wp2_with fail
    refine (H2.out _).mono ?_
    rintro e w2 ⟨gw, c2, rfl, hg2, ht2, hb2⟩
    have HT2 := Lib.hid ht2
    have HB2 := Lib.hid hb2
    clear hb2 ht2
    go_wp2_with fail
    refine (H3.out _).mono ?_
    rintro e w3 ⟨p, g, cp, rfl, hg3, hp3, hgp, hc3, ht3, hcu, hb3⟩
    have hgwl := HT2.out.1
    have hgwp : gw ≠ p := by omega
    have hpw : w.heap.size ≤ p := by have := HB2.out.size; omega
    have HTW := Lib.hid (HT2.out.kept hb3 hgwl)
    have HB3 := Lib.hid (HB2.out.trans (hb3.mono HB2.out.size))
    have hpos : 0 < l.length := by have := HLN.out; omega
    have HCL := Lib.hid (show CL w3 p g cp l 0 from ⟨by rw [Nat.zero_mul]; exact hcu, ht3, hgp, hpos, hc3⟩)
    clear hb3 hcu ht3 HT2 HB2 hgwl hg2 hg3 hp3
    go_wp2_with fail
    go_loopw [11, 12, 13, 14, 15, 16, 17, 18] (fun kv i _ _ _ _ _ _ wr => ∃ x k : Nat, x ≤ n ∧ i = .int .i64 x ∧ kv = .int .i64 k ∧ Hid (CL wr p g cp l k) ∧ Hid (TS wr gw l) ∧ Hid (Below w.heap.size w wr)) (fun _ i _ _ _ _ _ _ _ => n - (intOf i).toNat)
    case atStart => exact ⟨0, 0, Nat.zero_le _, rfl, rfl, HCL.out, HTW.out, HB3.out⟩
    case round =>
      clear HCL HTW HB3
      obtain ⟨x, k, hx, rfl, rfl, HCL, HTW, HB⟩ := hrel
      have hkl := HCL.out.lt
      have hget : l[k]? = some l[k] := List.getElem?_eq_getElem hkl
      have htxl := HTL.out k _ hget
      have hkln : k < ln := by have := HLN.out; omega
      have hpk := fun W (h : CL W p g cp l k) => cpeek_any W h hget HGL.out
      have hnx := fun W (h : CL W p g cp l k) => cnext_any W h hget HGL.out
      have hnt := fun W (h : CL W p g cp l k) => cint_any W h hget HGL.out htxl
      generalize l[k] = tk at *
      have hwant := fun W (h : TS W gw l) => h.at hget
      have hki : (k : Int) < (ln : Int) := by omega
      have hki0 : (0 : Int) ≤ (k : Int) := by omega
      obtain ⟨kk, hkk⟩ : ∃ kk, tk.kind = kk := ⟨_, rfl⟩
      obtain ⟨tx, htx⟩ : ∃ tx, str tk.text = tx := ⟨_, rfl⟩
      obtain ⟨ta, hta⟩ : ∃ ta, tk.at_ = ta := ⟨_, rfl⟩
      rw [hkk, htx, hta] at hpk hnx hwant
      have HKK := Lib.hid hkk
      have HTXX := Lib.hid htx
      have HPK := Lib.hid hpk
      have HNX := Lib.hid hnx
      have HNT := Lib.hid hnt
      have HWA := Lib.hid hwant
      have q1 := fun W => tok_neq (kk : Nat) (kk : Nat) (ta : Nat) (ta : Nat) tx tx W
      have q2 := fun W => tok_eql (kk : Nat) (kk : Nat) (ta : Nat) (ta : Nat) tx tx W
      clear hpk hnx hnt hwant hkk htx hta
      obtain ⟨v0, v1, v2⟩ := HWA.out _ HTW.out
      by_cases hlt : x < n
      · obtain ⟨gs, o, rfl, hgs, hc⟩ := HIN.out (by omega)
        obtain ⟨s0, s1⟩ := hc x hlt
        have HS0 := Lib.hid s0
        have HS1 := Lib.hid s1
        have hxi : (x : Int) < (n : Int) := by omega
        have hxi0 : (0 : Int) ≤ (x : Int) := by omega
        generalize K x = kd at *
        generalize T x = te at *
        clear s0 s1 hc
        go_wp2_with fail
        go_region_held3 (fun w' => w'.cell? ⟨gw, k * 3, none⟩ = some (.int .i64 (kk : Int)) ∧ w'.cell? ⟨gw, k * 3 + 1, none⟩ = some (.string tx) ∧ w'.cell? ⟨gw, k * 3 + 2, none⟩ = some (.int .i64 (ta : Int))) (go_keep) (first
          | (go_at_call 24; refine (HPK.out _ ?_).mono ?_; exact HCL.out.drew; rintro e w4 ⟨rfl, hb3d⟩; have hb4 : Below wr.heap.size wr w4 := ⟨hb3d.os, hb3d.tape, hb3d.output, hb3d.size, hb3d.block⟩; obtain ⟨j0, j1, j2⟩ := HWA.out _ (HTW.out.kept hb4 HTW.out.1)))
        all_goals
          have HB4 := Lib.hid (HB.out.trans (hb4.mono HB.out.size))
          have HC4 := Lib.hid (HCL.out.kept hb4)
          have HT4 := Lib.hid (HTW.out.kept hb4 HTW.out.1)
          clear hb4 HB HCL HTW v0 v1 v2
          have hx4 := tb_new w4 (kk : Int) tx (ta : Int)
          have hB5 := HB4.out.alloc HB4.out.size (.cells #[.int .i64 (kk : Int), .string tx, .int .i64 (ta : Int)] 36)
          have HC5 := Lib.hid (HC4.out.kept (below_alloc w4 (.cells #[.int .i64 (kk : Int), .string tx, .int .i64 (ta : Int)] 36)))
          have HT5 := Lib.hid (HT4.out.kept (below_alloc w4 (.cells #[.int .i64 (kk : Int), .string tx, .int .i64 (ta : Int)] 36)) HT4.out.1)
          have s0 := (hB5.cell (p := ⟨gs, o + x * 2, none⟩) hgs).trans HS0.out
          have s1 := (hB5.cell (p := ⟨gs, o + x * 2 + 1, none⟩) hgs).trans HS1.out
          have HB5 := Lib.hid hB5
          have HX5 := Lib.hid hx4
          have e0 := hx4.c0
          have e1 := hx4.c1
          have e2 := hx4.c2
          have hpx : w4.heap.size ≠ p := by have := HC4.out.cur.lt; omega
          clear hB5 hx4 HC4 HT4 HB4
          by_cases k0 : kd = 0
          · have y0 : (kd == 0) = true := by simpa using k0
            clear k0
            go_wp2_with fail
            generalize w4.alloc (.cells #[.int .i64 (kk : Int), .string tx, .int .i64 (ta : Int)] 36) = w5 at *
            go_region_held3 (fun w' => w'.cell? ⟨w4.heap.size, 0, none⟩ = some (.int .i64 (kk : Int)) ∧ w'.cell? ⟨w4.heap.size, 1, none⟩ = some (.string tx) ∧ w'.cell? ⟨w4.heap.size, 2, none⟩ = some (.int .i64 (ta : Int))) (go_keep) (first
              | (go_at_call 25; refine (HNX.out _ ?_).mono ?_; exact HC5.out.drew; rintro e w7 ⟨rfl, hc7, hg3d⟩; have hg7 : w5.grownBy w7 (some p) := ⟨hg3d.os, hg3d.tape, hg3d.output, hg3d.size, hg3d.block⟩; have hx7 := tb_only HX5.out hg7 hpx; have g0 := hx7.c0; have g1 := hx7.c1; have g2 := hx7.c2))
            all_goals
              have HTX := Lib.hid (ts_onlyP HT5.out hg7 hgwp)
              have HBX := Lib.hid (below_only HB5.out hg7 hpw HB5.out.size)
              have HCLX := Lib.hid (show CL w7 p g cp l (stepI true l k) from by rw [stepI_true]; exact hc7)
              clear hc7 hg7 hx7 g0 g1 g2 HT5 HC5 HB5 HX5 s0 s1 e0 e1 e2
              by_cases hi : k + 1 < l.length
              · have hcl := HCLX.out
                unfold stepI at hcl
                rw [if_pos ⟨rfl, hi⟩] at hcl
                have HCL2 := Lib.hid hcl
                have l1 : (k : Int) < (ln1 : Int) := by have := HLN.out; omega
                clear hcl HCLX hi
                go_wp2_with fail
                go_roundw
                case rel => exact ⟨x + 1, k + 1, by omega, by go_num, by go_num, HCL2.out, HTX.out, HBX.out⟩
                case measure => simp [intOf]; omega
              · have hcl := HCLX.out
                unfold stepI at hcl
                rw [if_neg (fun h => hi h.2)] at hcl
                have HCL2 := Lib.hid hcl
                have l1 : decide ((k : Int) < (ln1 : Int)) = false := by have := HLN.out; simp; omega
                have l2 : (k < ln1) = False := by have := HLN.out; simp; omega
                clear hcl HCLX hi
                go_wp2_with fail
                go_roundw
                case rel => exact ⟨x + 1, k, by omega, by go_num, rfl, HCL2.out, HTX.out, HBX.out⟩
                case measure => simp [intOf]; omega
          have y0 : (kd == 0) = false := by simpa using k0
          by_cases k1 : kd = 1
          · have y1 : (kd == 1) = true := by simpa using k1
            clear k0 k1
            have hpm := fun W (h : CL W p g cp l k) => cmark_any W te h hget HGL.out
            have hpb : passB tk 4 te = (((kk : Nat) : Int) == 4 && tx.toList == te.toList) := by unfold passB; rw [nat_beq, HKK.out, HTXX.out]; rfl
            have HPM := Lib.hid hpm
            have HPB := Lib.hid hpb
            clear hpm hpb
            obtain ⟨b, hb⟩ : ∃ b, b = passB tk 4 te := ⟨_, rfl⟩
            rw [← hb] at HPM HPB
            clear hb
            cases hkd : (((kk : Nat) : Int) == 4) with
            | false =>
              obtain rfl : b = false := by rw [HPB.out, hkd]; rfl
              have hB5 := HB5.out
              clear HPB
              go_wp2_with fail
              generalize w4.alloc (.cells #[.int .i64 (kk : Int), .string tx, .int .i64 (ta : Int)] 36) = w5 at *
              go_quiet (fail)
              have HB6 := Lib.hid (below_drewN hB5 nq)
              have HC6 := Lib.hid (HC5.out.drewN nq)
              have HT6 := Lib.hid (HT5.out.drewN nq)
              have z1 := (HB6.out.cell (p := ⟨gs, o + x * 2 + 1, none⟩) hgs).trans HS1.out
              clear hB5 HC5 HT5 HB5 s0 s1 e0 e1 e2
              generalize w5.drewN nq = w6 at *
              go_wp2_with fail
              refine (HPM.out _ HC6.out).mono ?_
              rintro e w7 ⟨rfl, hc7, hg7⟩
              have HTX := Lib.hid (ts_onlyP HT6.out hg7 hgwp)
              have HBX := Lib.hid (below_only HB6.out hg7 hpw HB6.out.size)
              have HCLX := Lib.hid (show CL w7 p g cp l (stepI false l k) from hc7)
              clear hc7 hg7 HT6 HC6 HB6 z1
              have hb0 : ∃ b : Bool, b = false := ⟨_, rfl⟩
              have hcl := HCLX.out
              unfold stepI at hcl
              rw [if_neg (fun h => absurd h.1 (by decide))] at hcl
              have HCL2 := Lib.hid hcl
              clear hcl HCLX hb0
              go_wp2_with fail
              go_roundw
              case rel => exact ⟨x + 1, k, by omega, by go_num, rfl, HCL2.out, HTX.out, HBX.out⟩
              case measure => simp [intOf]; omega
            | true =>
              cases hss : (tx.toList == te.toList) with
              | false =>
                obtain rfl : b = false := by rw [HPB.out, hkd, hss]; rfl
                have hB5 := HB5.out
                clear HPB
                go_wp2_with fail
                generalize w4.alloc (.cells #[.int .i64 (kk : Int), .string tx, .int .i64 (ta : Int)] 36) = w5 at *
                go_quiet (fail)
                have HB6 := Lib.hid (below_drewN hB5 nq)
                have HC6 := Lib.hid (HC5.out.drewN nq)
                have HT6 := Lib.hid (HT5.out.drewN nq)
                have z1 := (HB6.out.cell (p := ⟨gs, o + x * 2 + 1, none⟩) hgs).trans HS1.out
                clear hB5 HC5 HT5 HB5 s0 s1 e0 e1 e2
                generalize w5.drewN nq = w6 at *
                go_wp2_with fail
                refine (HPM.out _ HC6.out).mono ?_
                rintro e w7 ⟨rfl, hc7, hg7⟩
                have HTX := Lib.hid (ts_onlyP HT6.out hg7 hgwp)
                have HBX := Lib.hid (below_only HB6.out hg7 hpw HB6.out.size)
                have HCLX := Lib.hid (show CL w7 p g cp l (stepI false l k) from hc7)
                clear hc7 hg7 HT6 HC6 HB6 z1
                have hcl := HCLX.out
                unfold stepI at hcl
                rw [if_neg (fun h => absurd h.1 (by decide))] at hcl
                have HCL2 := Lib.hid hcl
                clear hcl HCLX
                go_wp2_with fail
                go_roundw
                case rel => exact ⟨x + 1, k, by omega, by go_num, rfl, HCL2.out, HTX.out, HBX.out⟩
                case measure => simp [intOf]; omega
              | true =>
                obtain rfl : b = true := by rw [HPB.out, hkd, hss]; rfl
                have hB5 := HB5.out
                clear HPB
                go_wp2_with fail
                generalize w4.alloc (.cells #[.int .i64 (kk : Int), .string tx, .int .i64 (ta : Int)] 36) = w5 at *
                go_quiet (fail)
                have HB6 := Lib.hid (below_drewN hB5 nq)
                have HC6 := Lib.hid (HC5.out.drewN nq)
                have HT6 := Lib.hid (HT5.out.drewN nq)
                have z1 := (HB6.out.cell (p := ⟨gs, o + x * 2 + 1, none⟩) hgs).trans HS1.out
                clear hB5 HC5 HT5 HB5 s0 s1 e0 e1 e2
                generalize w5.drewN nq = w6 at *
                go_wp2_with fail
                refine (HPM.out _ HC6.out).mono ?_
                rintro e w7 ⟨rfl, hc7, hg7⟩
                have HTX := Lib.hid (ts_onlyP HT6.out hg7 hgwp)
                have HBX := Lib.hid (below_only HB6.out hg7 hpw HB6.out.size)
                have HCLX := Lib.hid (show CL w7 p g cp l (stepI true l k) from hc7)
                clear hc7 hg7 HT6 HC6 HB6 z1
                by_cases hi : k + 1 < l.length
                · have hcl := HCLX.out
                  unfold stepI at hcl
                  rw [if_pos ⟨rfl, hi⟩] at hcl
                  have HCL2 := Lib.hid hcl
                  have l1 : (k : Int) < (ln1 : Int) := by have := HLN.out; omega
                  clear hcl HCLX hi
                  go_wp2_with fail
                  go_roundw
                  case rel => exact ⟨x + 1, k + 1, by omega, by go_num, by go_num, HCL2.out, HTX.out, HBX.out⟩
                  case measure => simp [intOf]; omega
                · have hcl := HCLX.out
                  unfold stepI at hcl
                  rw [if_neg (fun h => hi h.2)] at hcl
                  have HCL2 := Lib.hid hcl
                  have l1 : decide ((k : Int) < (ln1 : Int)) = false := by have := HLN.out; simp; omega
                  have l2 : (k < ln1) = False := by have := HLN.out; simp; omega
                  clear hcl HCLX hi
                  go_wp2_with fail
                  go_roundw
                  case rel => exact ⟨x + 1, k, by omega, by go_num, rfl, HCL2.out, HTX.out, HBX.out⟩
                  case measure => simp [intOf]; omega
          have y1 : (kd == 1) = false := by simpa using k1
          by_cases k2 : kd = 2
          · have y2 : (kd == 2) = true := by simpa using k2
            clear k0 k1 k2
            have hpm := fun W (h : CL W p g cp l k) => cword_any W te h hget HGL.out
            have hpb : passB tk 1 te = (((kk : Nat) : Int) == 1 && tx.toList == te.toList) := by unfold passB; rw [nat_beq, HKK.out, HTXX.out]; rfl
            have HPM := Lib.hid hpm
            have HPB := Lib.hid hpb
            clear hpm hpb
            obtain ⟨b, hb⟩ : ∃ b, b = passB tk 1 te := ⟨_, rfl⟩
            rw [← hb] at HPM HPB
            clear hb
            cases hkd : (((kk : Nat) : Int) == 1) with
            | false =>
              obtain rfl : b = false := by rw [HPB.out, hkd]; rfl
              have hB5 := HB5.out
              clear HPB
              go_wp2_with fail
              generalize w4.alloc (.cells #[.int .i64 (kk : Int), .string tx, .int .i64 (ta : Int)] 36) = w5 at *
              go_quiet (fail)
              have HB6 := Lib.hid (below_drewN hB5 nq)
              have HC6 := Lib.hid (HC5.out.drewN nq)
              have HT6 := Lib.hid (HT5.out.drewN nq)
              have z1 := (HB6.out.cell (p := ⟨gs, o + x * 2 + 1, none⟩) hgs).trans HS1.out
              clear hB5 HC5 HT5 HB5 s0 s1 e0 e1 e2
              generalize w5.drewN nq = w6 at *
              go_wp2_with fail
              refine (HPM.out _ HC6.out).mono ?_
              rintro e w7 ⟨rfl, hc7, hg7⟩
              have HTX := Lib.hid (ts_onlyP HT6.out hg7 hgwp)
              have HBX := Lib.hid (below_only HB6.out hg7 hpw HB6.out.size)
              have HCLX := Lib.hid (show CL w7 p g cp l (stepI false l k) from hc7)
              clear hc7 hg7 HT6 HC6 HB6 z1
              have hb0 : ∃ b : Bool, b = false := ⟨_, rfl⟩
              have hcl := HCLX.out
              unfold stepI at hcl
              rw [if_neg (fun h => absurd h.1 (by decide))] at hcl
              have HCL2 := Lib.hid hcl
              clear hcl HCLX hb0
              go_wp2_with fail
              go_roundw
              case rel => exact ⟨x + 1, k, by omega, by go_num, rfl, HCL2.out, HTX.out, HBX.out⟩
              case measure => simp [intOf]; omega
            | true =>
              cases hss : (tx.toList == te.toList) with
              | false =>
                obtain rfl : b = false := by rw [HPB.out, hkd, hss]; rfl
                have hB5 := HB5.out
                clear HPB
                go_wp2_with fail
                generalize w4.alloc (.cells #[.int .i64 (kk : Int), .string tx, .int .i64 (ta : Int)] 36) = w5 at *
                go_quiet (fail)
                have HB6 := Lib.hid (below_drewN hB5 nq)
                have HC6 := Lib.hid (HC5.out.drewN nq)
                have HT6 := Lib.hid (HT5.out.drewN nq)
                have z1 := (HB6.out.cell (p := ⟨gs, o + x * 2 + 1, none⟩) hgs).trans HS1.out
                clear hB5 HC5 HT5 HB5 s0 s1 e0 e1 e2
                generalize w5.drewN nq = w6 at *
                go_wp2_with fail
                refine (HPM.out _ HC6.out).mono ?_
                rintro e w7 ⟨rfl, hc7, hg7⟩
                have HTX := Lib.hid (ts_onlyP HT6.out hg7 hgwp)
                have HBX := Lib.hid (below_only HB6.out hg7 hpw HB6.out.size)
                have HCLX := Lib.hid (show CL w7 p g cp l (stepI false l k) from hc7)
                clear hc7 hg7 HT6 HC6 HB6 z1
                have hcl := HCLX.out
                unfold stepI at hcl
                rw [if_neg (fun h => absurd h.1 (by decide))] at hcl
                have HCL2 := Lib.hid hcl
                clear hcl HCLX
                go_wp2_with fail
                go_roundw
                case rel => exact ⟨x + 1, k, by omega, by go_num, rfl, HCL2.out, HTX.out, HBX.out⟩
                case measure => simp [intOf]; omega
              | true =>
                obtain rfl : b = true := by rw [HPB.out, hkd, hss]; rfl
                have hB5 := HB5.out
                clear HPB
                go_wp2_with fail
                generalize w4.alloc (.cells #[.int .i64 (kk : Int), .string tx, .int .i64 (ta : Int)] 36) = w5 at *
                go_quiet (fail)
                have HB6 := Lib.hid (below_drewN hB5 nq)
                have HC6 := Lib.hid (HC5.out.drewN nq)
                have HT6 := Lib.hid (HT5.out.drewN nq)
                have z1 := (HB6.out.cell (p := ⟨gs, o + x * 2 + 1, none⟩) hgs).trans HS1.out
                clear hB5 HC5 HT5 HB5 s0 s1 e0 e1 e2
                generalize w5.drewN nq = w6 at *
                go_wp2_with fail
                refine (HPM.out _ HC6.out).mono ?_
                rintro e w7 ⟨rfl, hc7, hg7⟩
                have HTX := Lib.hid (ts_onlyP HT6.out hg7 hgwp)
                have HBX := Lib.hid (below_only HB6.out hg7 hpw HB6.out.size)
                have HCLX := Lib.hid (show CL w7 p g cp l (stepI true l k) from hc7)
                clear hc7 hg7 HT6 HC6 HB6 z1
                by_cases hi : k + 1 < l.length
                · have hcl := HCLX.out
                  unfold stepI at hcl
                  rw [if_pos ⟨rfl, hi⟩] at hcl
                  have HCL2 := Lib.hid hcl
                  have l1 : (k : Int) < (ln1 : Int) := by have := HLN.out; omega
                  clear hcl HCLX hi
                  go_wp2_with fail
                  go_roundw
                  case rel => exact ⟨x + 1, k + 1, by omega, by go_num, by go_num, HCL2.out, HTX.out, HBX.out⟩
                  case measure => simp [intOf]; omega
                · have hcl := HCLX.out
                  unfold stepI at hcl
                  rw [if_neg (fun h => hi h.2)] at hcl
                  have HCL2 := Lib.hid hcl
                  have l1 : decide ((k : Int) < (ln1 : Int)) = false := by have := HLN.out; simp; omega
                  have l2 : (k < ln1) = False := by have := HLN.out; simp; omega
                  clear hcl HCLX hi
                  go_wp2_with fail
                  go_roundw
                  case rel => exact ⟨x + 1, k, by omega, by go_num, rfl, HCL2.out, HTX.out, HBX.out⟩
                  case measure => simp [intOf]; omega
          have y2 : (kd == 2) = false := by simpa using k2
          clear k0 k1 k2
          have hnm := fun W => rnumber_any (str tk.text) W (by rw [str_size]; omega)
          unfold numR at hnm
          rw [str_toList, HTXX.out] at hnm
          have hib : intB tk = (((kk : Nat) : Int) == 1 && isNum tk.text) := by unfold intB; rw [nat_beq, HKK.out]; rfl
          have hin2 : intN tk = if intB tk = true then numV tk.text else 0 := rfl
          have HNT2 := HNT.out
          rw [hin2, hib] at HNT2
          generalize isNum tk.text = nb at *
          generalize numV tk.text = nv at *
          clear hib hin2
          cases hkd : (((kk : Nat) : Int) == 1) with
          | false =>
            have hkd2 : (((kk : Nat) : Int) != 1) = true := by rw [bne, hkd]; rfl
            have HNTX := Lib.hid (show ∀ W, CL W p g cp l k → Calls Try.prog 28 #[.pointer (some ⟨p, 0, none⟩)] W (fun e w' => e = .returned (.tuple #[.int .i64 0, .bool false]) ∧ CL w' p g cp l (stepI false l k) ∧ W.grownBy w' (some p)) from by rw [hkd] at HNT2; exact HNT2)
            have HNM := Lib.hid hnm
            clear hnm HNT2
            generalize (if nb = true then nv else 0) = vv at *
            go_wp2_with fail
            refine (HNM.out _).mono ?_
            rintro e w6 ⟨rfl, rfl⟩
            generalize w4.alloc (.cells #[.int .i64 (kk : Int), .string tx, .int .i64 (ta : Int)] 36) = w5 at *
            go_wp2_with fail
            refine (HNTX.out _ HC5.out).mono ?_
            rintro e w7 ⟨rfl, hc7, hg7⟩
            have HTX := Lib.hid (ts_onlyP HT5.out hg7 hgwp)
            have HBX := Lib.hid (below_only HB5.out hg7 hpw HB5.out.size)
            have HCLX := Lib.hid hc7
            clear hc7 hg7 HT5 HC5 HB5 HX5 s0 s1 e0 e1 e2
            have hcl := HCLX.out
            unfold stepI at hcl
            rw [if_neg (fun h => absurd h.1 (by decide))] at hcl
            have HCL2 := Lib.hid hcl
            clear hcl HCLX
            go_wp2_with fail
            go_roundw
            case rel => exact ⟨x + 1, k, by omega, by go_num, rfl, HCL2.out, HTX.out, HBX.out⟩
            case measure => simp [intOf]; omega
          | true =>
            have hkd2 : (((kk : Nat) : Int) != 1) = false := by rw [bne, hkd]; rfl
            cases nb with
            | false =>
              have HNTX := Lib.hid (show ∀ W, CL W p g cp l k → Calls Try.prog 28 #[.pointer (some ⟨p, 0, none⟩)] W (fun e w' => e = .returned (.tuple #[.int .i64 0, .bool false]) ∧ CL w' p g cp l (stepI false l k) ∧ W.grownBy w' (some p)) from by rw [hkd] at HNT2; exact HNT2)
              have HNM := Lib.hid (show ∀ W, Calls Try.prog 21 #[.string tx] W (fun e w' => e = .returned (.tuple #[.int .i64 0, .bool false]) ∧ W = w') from hnm)
              clear hnm HNT2
              go_wp2_with fail
              refine (HNM.out _).mono ?_
              rintro e w6 ⟨rfl, rfl⟩
              generalize w4.alloc (.cells #[.int .i64 (kk : Int), .string tx, .int .i64 (ta : Int)] 36) = w5 at *
              go_wp2_with fail
              refine (HNTX.out _ HC5.out).mono ?_
              rintro e w7 ⟨rfl, hc7, hg7⟩
              have HTX := Lib.hid (ts_onlyP HT5.out hg7 hgwp)
              have HBX := Lib.hid (below_only HB5.out hg7 hpw HB5.out.size)
              have HCLX := Lib.hid hc7
              clear hc7 hg7 HT5 HC5 HB5 HX5 s0 s1 e0 e1 e2
              have hcl := HCLX.out
              unfold stepI at hcl
              rw [if_neg (fun h => absurd h.1 (by decide))] at hcl
              have HCL2 := Lib.hid hcl
              clear hcl HCLX
              go_wp2_with fail
              go_roundw
              case rel => exact ⟨x + 1, k, by omega, by go_num, rfl, HCL2.out, HTX.out, HBX.out⟩
              case measure => simp [intOf]; omega
            | true =>
              have HNTX := Lib.hid (show ∀ W, CL W p g cp l k → Calls Try.prog 28 #[.pointer (some ⟨p, 0, none⟩)] W (fun e w' => e = .returned (.tuple #[.int .i64 (nv : Int), .bool true]) ∧ CL w' p g cp l (stepI true l k) ∧ W.grownBy w' (some p)) from by rw [hkd] at HNT2; exact HNT2)
              have HNM := Lib.hid (show ∀ W, Calls Try.prog 21 #[.string tx] W (fun e w' => e = .returned (.tuple #[.int .i64 (nv : Int), .bool true]) ∧ W = w') from hnm)
              clear hnm HNT2
              go_wp2_with fail
              refine (HNM.out _).mono ?_
              rintro e w6 ⟨rfl, rfl⟩
              generalize w4.alloc (.cells #[.int .i64 (kk : Int), .string tx, .int .i64 (ta : Int)] 36) = w5 at *
              go_wp2_with fail
              refine (HNTX.out _ HC5.out).mono ?_
              rintro e w7 ⟨rfl, hc7, hg7⟩
              have HTX := Lib.hid (ts_onlyP HT5.out hg7 hgwp)
              have HBX := Lib.hid (below_only HB5.out hg7 hpw HB5.out.size)
              have HCLX := Lib.hid hc7
              clear hc7 hg7 HT5 HC5 HB5 HX5 s0 s1 e0 e1 e2
              by_cases hi : k + 1 < l.length
              · have hcl := HCLX.out
                unfold stepI at hcl
                rw [if_pos ⟨rfl, hi⟩] at hcl
                have HCL2 := Lib.hid hcl
                have l1 : (k : Int) < (ln1 : Int) := by have := HLN.out; omega
                clear hcl HCLX hi
                go_wp2_with fail
                go_roundw
                case rel => exact ⟨x + 1, k + 1, by omega, by go_num, by go_num, HCL2.out, HTX.out, HBX.out⟩
                case measure => simp [intOf]; omega
              · have hcl := HCLX.out
                unfold stepI at hcl
                rw [if_neg (fun h => hi h.2)] at hcl
                have HCL2 := Lib.hid hcl
                have l1 : decide ((k : Int) < (ln1 : Int)) = false := by have := HLN.out; simp; omega
                have l2 : (k < ln1) = False := by have := HLN.out; simp; omega
                clear hcl HCLX hi
                go_wp2_with fail
                go_roundw
                case rel => exact ⟨x + 1, k, by omega, by go_num, rfl, HCL2.out, HTX.out, HBX.out⟩
                case measure => simp [intOf]; omega
      · obtain rfl : x = n := by omega
        have hd : decide ((x : Int) < (x : Int)) = false := by simp
        have HAW := Lib.hid (fun W => awake_any W)
        go_wp2_with fail
        go_region_held3 (fun w' => w'.cell? ⟨gw, k * 3, none⟩ = some (.int .i64 (kk : Int)) ∧ w'.cell? ⟨gw, k * 3 + 1, none⟩ = some (.string tx) ∧ w'.cell? ⟨gw, k * 3 + 2, none⟩ = some (.int .i64 (ta : Int))) (go_keep) (first
          | (go_at_call 24; refine (HPK.out _ ?_).mono ?_; exact HCL.out.drew; rintro e w4 ⟨rfl, hb3d⟩; have hb4 : Below wr.heap.size wr w4 := ⟨hb3d.os, hb3d.tape, hb3d.output, hb3d.size, hb3d.block⟩; have HT4 := Lib.hid (HTW.out.kept hb4 HTW.out.1); obtain ⟨j0, j1, j2⟩ := HWA.out _ HT4.out)
          | (go_at_call 9; refine (HAW.out _).mono ?_; rintro e w9 ⟨rfl, hb3d⟩; have hb9 : Below w4.heap.size w4 w9 := ⟨hb3d.os, hb3d.tape, hb3d.output, hb3d.size, hb3d.block⟩; obtain ⟨j0, j1, j2⟩ := HWA.out _ (HT4.out.kept hb9 HT4.out.1)))
        all_goals
          have hB4 := HB.out.trans (hb4.mono HB.out.size)
          have hB9 := hB4.trans (hb9.mono hB4.size)
          go_wp2_with fail
          go_ret
          exact ⟨rfl, hB9⟩
  · have hne : er ≠ 0 := by omega
    have h3 := fun W => ncur_err s W er nn hS hne (by omega)
    rw [hS] at h2
    have H2 := Lib.hid (show ∀ W, Calls Try.prog _ _ W (fun e w' => e = .returned (.tuple #[.slice none 0 0, .int .i64 (er : Nat), .int .i64 (nn : Nat)]) ∧ Below W.heap.size W w') from h2)
    have H3 := Lib.hid h3
    have y1 : ((er : Int) != 0) = true := by simp; omega
    clear h2 h3 hS he hne
    go_enter Try.func8, Try.ntmps8
    go_wp2_with fail
    refine (H2.out _).mono ?_
    rintro e w1 ⟨rfl, hb1⟩
    have HB1 := Lib.hid hb1
    clear hb1
    go_wp2_with fail
    refine (H3.out _).mono ?_
    rintro e w2 ⟨rfl, hb2⟩
    have HB2 := Lib.hid (HB1.out.trans (hb2.mono HB1.out.size))
    clear hb2
    go_wp2_with fail
    refine (awake_any _).mono ?_
    rintro e w9 ⟨rfl, hb9⟩
    go_wp2_with fail
    go_ret
    exact ⟨rfl, HB2.out.trans (hb9.mono HB2.out.size)⟩

set_option maxRecDepth 20000 in
theorem walk (s : ByteArray) (A : Option Addr) (n cap : Nat) (K : Nat → Int) (T : Nat → ByteArray) (w : World) (hs : s.size ≤ maxLen) (hin : InSt w A n K T) (hn : n ≤ maxLen) :
    Calls Try.prog 8 #[.string s, .slice A n cap] w fun e w' => e = .returned (.bool true) ∧ Below w.heap.size w w' := by
  by_cases h1 : 300 < s.size
  · unfold maxLen at hs hn
    go_enter Try.func8, Try.ntmps8
    go_wp2_with fail
    refine (awake_any _).mono ?_
    rintro e w9 ⟨rfl, hb9⟩
    go_wp2_with fail
    go_ret
    exact ⟨rfl, hb9⟩
  by_cases h2 : 60 < n
  · unfold maxLen at hs hn
    have ds : decide (300 < (s.size : Int)) = false := by simp; omega
    go_enter Try.func8, Try.ntmps8
    go_wp2_with fail
    refine (awake_any _).mono ?_
    rintro e w9 ⟨rfl, hb9⟩
    go_wp2_with fail
    go_ret
    exact ⟨rfl, hb9⟩
  exact core s A n cap K T w (by omega) hin (by omega)

set_option maxRecDepth 100000 in
theorem lifted (os : Os) (started : os.Started) (H : Type) (enc : TypeId × Value → H) :
    ReturnsInHanded {} Try.checked os 8 .any (Rows.lexerMovesSpec.pre6 enc Try.prog Try.f8 Rows.lexerMovesRow.domain false) (Rows.lexerMovesSpec.post enc Try.prog Try.f8 false true false false) := by
  refine returnsInHanded_of_change (C := Try.checked) own started (by kernel_rfl) Try.func8
    (ChangeSpec.witness6 (enc := enc) (C := Try.checked) false ⟨#[], #[.string ⟨#[]⟩, .slice none 0 0], []⟩ 8 (by kernel_rfl) (by kernel_rfl) (by kernel_rfl) (by kernel_rfl)) ?_
  intro W base args ds gs before hval0 hW hcnd _
  have hval : ∀ (j : Nat) t v, Try.f8.params[j]? = some t → args[j]? = some v → Value.okWide Try.prog W .any base t v := hval0
  have hW' := hW
  obtain ⟨p, q, hA0, hV, rfl, hfz, hnd⟩ := hW
  have hA : DataW.TrodAll enc Try.prog W 0 (fun _ => true) true Try.f8.params.toList args.toList ds p := hA0
  rw [Try.params8] at hA hval
  obtain ⟨v0, vs0, d0, ds0, p0, q0, hargs, rfl, rfl, h0, r0⟩ := trodAll_cons hA
  obtain ⟨v1, vs1, d1, ds1, p1, q1, rfl, rfl, rfl, h1, r1⟩ := trodAll_cons r0
  obtain ⟨rfl, rfl, rfl⟩ := trodAll_nil r1
  obtain rfl : args = #[v0, v1] := by cases args; simp_all
  obtain ⟨rfl, rfl⟩ := trodVars_none hV
  obtain ⟨a0, rfl, rfl, rfl, w0⟩ := open_string Try.underlying9 (hval 0 9 v0 rfl rfl) h0
  obtain ⟨a1, len1, cap1, rfl⟩ := okWide_slice Try.underlying40 (hval 1 40 v1 rfl rfl)
  have k1 := h1
  have lt1 : ∀ x ∈ p1, x.block < W.heap.size := by obtain ⟨m, hm⟩ := k1; exact DataW.trod_lt m _ _ _ hm
  obtain ⟨K, T, w1, w2⟩ := in_st h1
  clear hA0 hval0
  refine (walk a0 a1 len1 cap1 K T W w0 w1 w2).mono fun e W' ⟨he, bel⟩ => ?_
  subst he
  exact ⟨_, rfl, _, _, _, [], _, [], hW', trodAll_mk1 (shut_bool Try.underlying4 _), (trodAll_cons_mk (shut_string Try.underlying9 w0) (trodAll_cons_mk (Below.trod laidOut (by kernel_rfl) (of_decide_eq_true (by kernel_rfl)) k1 bel lt1) trodAll_mk0)), rfl, bel.frame _, fun h => by cases h⟩

theorem over : Rows.lexerMovesRow.holds Try.pinned (OpenSpec.ofChange Rows.lexerMovesSpec) :=
  OpenClaim.holds_of_wide 8 Try.f8 rfl rfl rfl rfl rfl rfl rfl ⟨rfl, rfl, rfl, rfl, rfl⟩ rfl rfl rfl rfl rfl (by kernel_rfl) Try.func8 (by kernel_rfl)
    (of_decide_eq_true (by kernel_rfl)) (by unfold Func.isWrapper; first | (rw [if_pos (by decide +kernel)]; kernel_rfl) | (rw [if_neg (by decide +kernel)]; exact ⟨rfl, rfl⟩))
    (fun os started H enc _ => lifted os started H enc)

theorem proved : Rows.LexerMovesSaid := over
#print axioms proved
end Go.Proofs.Ytcakdgfkepdpkaa.lexerMoves
