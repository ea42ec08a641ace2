/- Contracts of the functions, part 27: OvPVal, OvPClip, OvPCut. -/
import Derived.StillTailTactics
import Derived.BigQuiet
import Derived.Deep.Cut
import Derived.Test.YtafpmlikocchpaaPA13
import Derived.Test.YtafpmlikocchpaaPA24
import Derived.Test.YtafpmlikocchpaaPA26
/- Contract of the program of layer 15: Valid. -/
namespace Go.Proofs.Ytafpmlikocchpaa
open Go.ChangeShapes Go.WideShapes Go.ChangeAt Go.RowKit
set_option linter.unusedVariables false
set_option maxRecDepth 100000

theorem part_okP (x : PcR) : partB x.at_ x.fr x.to_ (str x.dat) = decide (okP x) := by
  have h1 : (str x.dat).toList.isEmpty = x.dat.isEmpty := toList_empty15 _
  have h2 : (str x.dat).size = x.dat.length := str_size _
  unfold partB
  rw [h1, h2]
  by_cases h : okP x
  · obtain ⟨g1, g2, g3, g4, g5⟩ := h
    have hp : 0 < x.dat.length := List.length_pos_iff.2 g1
    have e1 : x.dat.isEmpty = false := by simpa using g1
    rw [show decide (okP x) = true from decide_eq_true ⟨g1, g2, g3, g4, g5⟩, e1]
    simp only [Bool.and_eq_true, decide_eq_true_eq]
    exact ⟨g2, g4, by omega, g3, rfl, by omega⟩
  · rw [show decide (okP x) = false from decide_eq_false h]
    rw [Bool.eq_false_iff]
    intro hh
    simp only [Bool.and_eq_true, decide_eq_true_eq] at hh
    obtain ⟨g1, g2, g3, g4, g5, g6⟩ := hh
    exact h ⟨by intro e; rw [e] at g5; simp at g5, g1, g4, g2, by omega⟩
set_option maxHeartbeats 16000000 in
theorem pvalid15_any (l : List PcR) (A : Option Addr) (c : Nat) (w : World) (h : RowL EPc w A l) (hl : l.length ≤ 100000) (hw : ∀ x ∈ l, (Lit.int .i64 x.at_).wf = true ∧ (Lit.int .i64 x.fr).wf = true ∧ (Lit.int .i64 x.to_).wf = true) :
    Calls Try.prog 18 #[.slice A l.length c] w fun e w' => e = .returned (.bool (decide (vldL l))) ∧ Below w.heap.size w w' := by
  obtain ⟨n, hnl⟩ : ∃ n, n = l.length := ⟨_, rfl⟩
  obtain ⟨R, hR⟩ : ∃ R, R = decide (vldL l) := ⟨_, rfl⟩
  rw [← hnl] at hl ⊢
  rw [← hR]
  have HN := Lib.hid hnl
  have HS := Lib.hid h
  have HW := Lib.hid hw
  have HRF := Lib.hid (show ¬ vldL l → R = false from fun h => by rw [hR]; exact decide_eq_false h)
  have HRT := Lib.hid (show vldL l → R = true from fun h => by rw [hR]; exact decide_eq_true h)
  have HI0 := Lib.hid (show vldL l ↔ vldF 0 (l.drop 0) by rw [List.drop_zero]; exact Iff.rfl)
  clear hnl h hw hR
  go_enter Try.func18, Try.ntmps18
  go_wp2_with fail
  go_loopw [3, 8] (fun s3 s8 wr => ∃ (k : Nat) (e : Int), s3 = .int .i64 e ∧ s8 = .int .i64 (k : Int) ∧ k ≤ n ∧ Hid (vldL l ↔ vldF e (l.drop k)) ∧ Hid (Below w.heap.size w wr)) (fun _ i _ => n - (intOf i).toNat)
  case atStart => exact ⟨0, 0, rfl, rfl, Nat.zero_le _, HI0, Lib.hid (Below.refl _ _)⟩
  case round =>
    clear HI0
    obtain ⟨k, e, rfl, rfl, hk, HI, HB⟩ := hrel
    by_cases hlt : k < n
    · obtain ⟨x, hget⟩ : ∃ x, l[k]? = some x := ⟨l[k]'(by have := HN.out; omega), List.getElem?_eq_getElem _⟩
      obtain ⟨ga, oa, rfl, hga⟩ := HS.out.shapeA (by have := HN.out; omega)
      obtain ⟨a0, a1, a2, a3⟩ := pc_at HS.out hget HB.out
      have hki : (k : Int) < (n : Int) := by omega
      have dlt : decide ((k : Int) < (n : Int)) = true := by simp; omega
      have hki0 : (0 : Int) ≤ (k : Int) := by omega
      obtain ⟨w1, w2, w3⟩ := HW.out x (List.mem_of_getElem? hget)
      obtain ⟨q, hq⟩ : ∃ q, q = decide (okP x) := ⟨_, rfl⟩
      have HPT := Lib.hid (fun W => show Calls Try.prog 36 #[.agg #[.int .i64 x.at_, .string (str x.dat), .int .i64 x.fr, .int .i64 x.to_]] W fun en w' => en = .returned (.bool q) ∧ Below W.heap.size W w' from by
        rw [hq, ← part_okP]
        exact ppart15 x.at_ x.fr x.to_ (str x.dat) W w2 w1 w3)
      have hdr : l.drop k = x :: l.drop (k + 1) := by
        obtain ⟨hk', e⟩ := List.getElem?_eq_some_iff.1 hget
        rw [List.drop_eq_getElem_cons hk', e]
      have HIX := Lib.hid (show vldL l ↔ (okP x ∧ e ≤ x.at_ ∧ vldF (x.at_ + x.dat.length) (l.drop (k + 1))) by
        have := HI.out
        rwa [hdr] at this)
      have hsz : w.heap.size ≤ wr.heap.size := HB.out.size
      obtain ⟨W2, hW2⟩ : ∃ W, W = wr.alloc (.cells #[.int .i64 x.at_, .string (str x.dat), .int .i64 x.fr, .int .i64 x.to_] 23) := ⟨_, rfl⟩
      obtain ⟨gx, hgx⟩ : ∃ g, g = wr.heap.size := ⟨_, rfl⟩
      have HX1 := Lib.hid (show Cells W2 gx 23 #[.int .i64 x.at_, .string (str x.dat), .int .i64 x.fr, .int .i64 x.to_] by rw [hW2, hgx]; exact heap_alloc_new wr _)
      have HB1 := Lib.hid (show Below w.heap.size w W2 by rw [hW2]; exact HB.out.alloc hsz _)
      have HW2 := Lib.hid hW2
      have HGX := Lib.hid hgx
      have HQ := Lib.hid hq
      clear hget hdr w1 w2 w3 hsz hW2 hgx HB HI hq
      go_upto_region 5 with fail
      rw [← HGX.out, ← HW2.out]
      clear HW2 HGX a0 a1 a2 a3
      obtain ⟨D, hD⟩ : ∃ D, D = str x.dat := ⟨_, rfl⟩
      have hDs : D.size = x.dat.length := by rw [hD, str_size]
      rw [← hD] at HX1 HPT
      have HDS := Lib.hid hDs
      clear hD hDs
      have x0 := (Cells.cell HX1.out 0).trans (show _ = some (Value.int .i64 x.at_) from rfl)
      have x1 := (Cells.cell HX1.out 1).trans (show _ = some (Value.string D) from rfl)
      have x2 := (Cells.cell HX1.out 2).trans (show _ = some (Value.int .i64 x.fr) from rfl)
      have x3 := (Cells.cell HX1.out 3).trans (show _ = some (Value.int .i64 x.to_) from rfl)
      cases q
      · have HF := Lib.hid (show R = false from HRF.out (fun h => by
          have h1 := (HIX.out.1 h).1
          have h2 := HQ.out
          rw [decide_eq_true h1] at h2
          cases h2))
        go_wp2_with fail
        refine (HPT.out _).mono ?_
        rintro en w5 ⟨rfl, hb5⟩
        have HB5 := Lib.hid (HB1.out.trans (hb5.mono HB1.out.size))
        clear hb5 x0 x1 x2 x3 HX1 HB1
        go_wp2_with fail
        go_ret
        exact ⟨by rw [HF.out]; rfl, HB5.out⟩
      · have hox : okP x := of_decide_eq_true HQ.out.symm
        obtain ⟨v1, v2, v3, v4, v5⟩ := hox
        have HOX := Lib.hid (show okP x from ⟨v1, v2, v3, v4, v5⟩)
        obtain ⟨z, hz⟩ : ∃ z, z = x.at_ + (D.size : Int) := ⟨_, rfl⟩
        have wz : IntKind.i64.wrap z = z := by rw [IntKind.wrap_i64]; have := HDS.out; omega
        have HEND := Lib.hid (fun W => pend15 x.at_ x.fr x.to_ z D W hz.symm wz)
        have HZ := Lib.hid (show x.at_ + (x.dat.length : Int) = z by rw [hz, HDS.out])
        clear v1 v2 v3 v4 v5 hz
        by_cases hlo : x.at_ < e
        · have dlo : decide (x.at_ < e) = true := by simpa using hlo
          have HF := Lib.hid (show R = false from HRF.out (fun h => by
            have h1 := (HIX.out.1 h).2.1
            omega))
          go_wp2_with fail
          refine (HPT.out _).mono ?_
          rintro en w5 ⟨rfl, hb5⟩
          have HX5 := Lib.hid (Cells.kept HX1.out hb5 HX1.out.lt)
          have HB5 := Lib.hid (HB1.out.trans (hb5.mono HB1.out.size))
          clear hb5 x0 x1 x2 x3 HX1 HB1
          have x0 := (Cells.cell HX5.out 0).trans (show _ = some (Value.int .i64 x.at_) from rfl)
          go_wp2_with fail
          go_ret
          exact ⟨by rw [HF.out]; rfl, HB5.out⟩
        · have dlo : decide (x.at_ < e) = false := by simpa using hlo
          have nlo : ¬ x.at_ < e := hlo
          have HIN := Lib.hid (show vldL l ↔ vldF z (l.drop (k + 1)) by
            rw [HIX.out, HZ.out]
            exact ⟨fun h => h.2.2, fun h => ⟨HOX.out, by omega, h⟩⟩)
          go_wp2_with fail
          refine (HPT.out _).mono ?_
          rintro en w5 ⟨rfl, hb5⟩
          have HX5 := Lib.hid (Cells.kept HX1.out hb5 HX1.out.lt)
          have HB5 := Lib.hid (HB1.out.trans (hb5.mono HB1.out.size))
          clear hb5 x0 x1 x2 x3 HX1 HB1
          have x0 := (Cells.cell HX5.out 0).trans (show _ = some (Value.int .i64 x.at_) from rfl)
          have x1 := (Cells.cell HX5.out 1).trans (show _ = some (Value.string D) from rfl)
          have x2 := (Cells.cell HX5.out 2).trans (show _ = some (Value.int .i64 x.fr) from rfl)
          have x3 := (Cells.cell HX5.out 3).trans (show _ = some (Value.int .i64 x.to_) from rfl)
          go_wp2_with fail
          refine (HEND.out _).mono ?_
          rintro en w6 ⟨rfl, hb6⟩
          have HB6 := Lib.hid (HB5.out.trans (hb6.mono HB5.out.size))
          clear hb6 x0 x1 x2 x3 HX5 HB5
          go_wp2_with fail
          go_roundw
          case rel => exact ⟨k + 1, z, rfl, by go_num, by omega, HIN, HB6⟩
          case measure => simp [intOf]; omega
    · obtain rfl : k = n := by omega
      have hd : decide ((k : Int) < (k : Int)) = false := by simp
      have HF := Lib.hid (show R = true from HRT.out (HI.out.2 (by rw [HN.out, List.drop_length]; exact trivial)))
      go_wp2_with fail
      go_ret
      exact ⟨by rw [HF.out]; rfl, HB.out⟩
end Go.Proofs.Ytafpmlikocchpaa

/- Contract of the program of layer 15: clip. -/
namespace Go.Proofs.Ytafpmlikocchpaa
open Go.ChangeShapes Go.WideShapes Go.ChangeAt Go.RowKit
set_option linter.unusedVariables false
set_option maxRecDepth 100000

theorem pcBox : BoxTy 23 4 := ⟨⟨_, Try.underlying23⟩, by kernel_rfl⟩
/-- A piece as a value. -/
def vP (x : PcR) : Value := .agg #[.int .i64 x.at_, .string (str x.dat), .int .i64 x.fr, .int .i64 x.to_]
set_option maxHeartbeats 8000000 in
theorem pclip15 (a f t lo hi : Int) (dat : List UInt8) (D : ByteArray) (R : PcR) (w : World) (hD : D = str dat) (ha : -1152921504606846976 ≤ a) (ha2 : a ≤ 1152921504606846976) (hd : dat.length ≤ 1152921504606846976) (hR : R = clipP ⟨a, dat, f, t⟩ lo hi) :
    Calls Try.prog 38 #[.agg #[.int .i64 a, .string D, .int .i64 f, .int .i64 t], .int .i64 lo, .int .i64 hi] w fun e w' => e = .returned (vP R) ∧ Below w.heap.size w w' := by
  have hDs : D.size = dat.length := by rw [hD, str_size]
  obtain ⟨z, hz⟩ : ∃ z, z = a + (D.size : Int) := ⟨_, rfl⟩
  have wz : IntKind.i64.wrap z = z := by rw [IntKind.wrap_i64]; omega
  have HEND := Lib.hid (fun W => pend15 a f t z D W hz.symm wz)
  obtain ⟨F, hF⟩ : ∃ F, F = max lo a := ⟨_, rfl⟩
  obtain ⟨T, hT⟩ : ∃ T, T = min hi z := ⟨_, rfl⟩
  have hF1 : max lo a = F := hF.symm
  have hF2 : max a lo = F := by rw [hF, Int.max_comm]
  have hT1 : min hi z = T := hT.symm
  have hT2 : min z hi = T := by rw [hT, Int.min_comm]
  obtain ⟨W1, hW1⟩ : ∃ W, W = (w.alloc (.cells #[.int .i64 a, .string D, .int .i64 f, .int .i64 t] 23)).alloc (.cells #[.int .i64 0, .string ⟨#[]⟩, .int .i64 0, .int .i64 0] 23) := ⟨_, rfl⟩
  obtain ⟨g, hg⟩ : ∃ g, g = w.heap.size := ⟨_, rfl⟩
  obtain ⟨gz, hgz⟩ : ∃ g, g = w.heap.size + 1 := ⟨_, rfl⟩
  have hne : g ≠ gz := by omega
  have hne' : gz ≠ g := by omega
  have HX := Lib.hid (show Cells W1 g 23 #[.int .i64 a, .string D, .int .i64 f, .int .i64 t] by rw [hW1, hg]; exact alloc2_0 w _ _)
  have HZ := Lib.hid (show Cells W1 gz 23 #[.int .i64 0, .string ⟨#[]⟩, .int .i64 0, .int .i64 0] by rw [hW1, hgz]; exact twoO_new w _ _)
  have HB := Lib.hid (show Below w.heap.size w W1 by rw [hW1]; exact twoO_below w _ _)
  have HGW := Lib.hid (show w.heap.size ≤ g ∧ w.heap.size ≤ gz by omega)
  have hRE : T ≤ F → R = ⟨0, [], 0, 0⟩ := fun h => by rw [hR]; unfold clipP endQ; rw [if_pos (by dsimp only; omega)]
  have hRN : ¬ T ≤ F → R = ⟨F, (dat.drop (F - a).toNat).take (T - F).toNat, f, t⟩ := fun h => by
    rw [hR]; unfold clipP endQ
    dsimp only
    rw [show max lo a = F from hF1, show a + (dat.length : Int) = z by omega, hT1, if_neg h]
  have HW := Lib.hid hW1
  have HG := Lib.hid hg
  have HG2 := Lib.hid hgz
  clear hW1 hg hgz hR hF hT
  by_cases q : T ≤ F
  · have dq : decide (T ≤ F) = true := by simpa using q
    have HR := Lib.hid (hRE q)
    clear hRE hRN hz hD hDs
    go_enter Try.func38, Try.ntmps38
    go_upto_region 1 with fail
    rw [← HW.out, ← HG2.out, ← HG.out]
    clear HW HG HG2
    refine wp_region_pick (fun w' => Below W1.heap.size W1 w') (by kernel_rfl) (by kernel_rfl) (Below.refl _ _) ⟨rfl, rfl, rfl, Nat.le_refl _, fun _ _ => rfl⟩ (fun pw hp hq => ?_)
    have y0 : ∀ u, (pw u).cell? ⟨g, 0, none⟩ = some (.int .i64 a) := fun u => (Cells.cell (Cells.kept HX.out (hp u) HX.out.lt) 0).trans rfl
    have y1 : ∀ u, (pw u).cell? ⟨g, 1, none⟩ = some (.string D) := fun u => (Cells.cell (Cells.kept HX.out (hp u) HX.out.lt) 1).trans rfl
    have y2 : ∀ u, (pw u).cell? ⟨g, 2, none⟩ = some (.int .i64 f) := fun u => (Cells.cell (Cells.kept HX.out (hp u) HX.out.lt) 2).trans rfl
    have y3 : ∀ u, (pw u).cell? ⟨g, 3, none⟩ = some (.int .i64 t) := fun u => (Cells.cell (Cells.kept HX.out (hp u) HX.out.lt) 3).trans rfl
    have HP := Lib.hid hp
    have HQ := Lib.hid hq
    clear hp hq
    repeat (go_big_quiet_step ((with_reducible exact Calls.pick_of HQ.out (fun W' hb => (HP.out _).trans (hb.mono (HP.out _).size)) (HEND.out _))))
    refine wpQuiet_nil ?_
    rintro _ ⟨u9, rfl⟩
    have HX2 := Lib.hid (Cells.kept HX.out (HP.out u9) HX.out.lt)
    have HZ2 := Lib.hid (Cells.kept HZ.out (HP.out u9) HZ.out.lt)
    have HB2 := Lib.hid (HB.out.trans ((HP.out u9).mono HB.out.size))
    generalize pw u9 = wp at *
    clear HP HQ y0 y1 y2 y3 HX HZ HB HEND
    go_upto_region 3 with fail
    have x0 := (Cells.cell HZ2.out 0).trans (show _ = some (Value.int .i64 0) from rfl)
    have z0 := Cells.frozen HZ2.out 0
    have x1 := (Cells.cell HZ2.out 1).trans (show _ = some (Value.string ⟨#[]⟩) from rfl)
    have z1 := Cells.frozen HZ2.out 1
    have x2 := (Cells.cell HZ2.out 2).trans (show _ = some (Value.int .i64 0) from rfl)
    have z2 := Cells.frozen HZ2.out 2
    have x3 := (Cells.cell HZ2.out 3).trans (show _ = some (Value.int .i64 0) from rfl)
    have z3 := Cells.frozen HZ2.out 3
    have hgl := HZ2.out.lt
    go_wp2_with fail
    refine bodyPost_ret (res_box1 pcBox rfl _ _ rfl (HZ2.out.put [.int .i64 0, .string ⟨#[]⟩, .int .i64 0, .int .i64 0] rfl)) rfl ?_
    exact ⟨by rw [HR.out]; rfl, putB_below HGW.out.2 [.int .i64 0, .string ⟨#[]⟩, .int .i64 0, .int .i64 0] 0 _ HB2.out⟩
  · have dq : decide (T ≤ F) = false := by simpa using q
    have nq : ¬ T ≤ F := q
    obtain ⟨u, hu⟩ : ∃ u : Nat, u = (F - a).toNat := ⟨_, rfl⟩
    obtain ⟨v, hv⟩ : ∃ v : Nat, v = (T - a).toNat := ⟨_, rfl⟩
    have ku : F - a = (u : Int) := by omega
    have kv : T - a = (v : Int) := by omega
    have wu : IntKind.i64.wrap (u : Int) = (u : Int) := by rw [IntKind.wrap_i64]; omega
    have wv : IntKind.i64.wrap (v : Int) = (v : Int) := by rw [IntKind.wrap_i64]; omega
    have huv : u ≤ v := by omega
    have hvD : v ≤ D.size := by omega
    have huvi : (u : Int) ≤ (v : Int) := by omega
    have hvDi : (v : Int) ≤ (D.size : Int) := by omega
    have hu0 : (0 : Int) ≤ (u : Int) := by omega
    obtain ⟨E, hE⟩ : ∃ E, E = D.extract u v := ⟨_, rfl⟩
    have hE1 : D.extract u v = E := hE.symm
    have HR := Lib.hid (show R = ⟨F, (dat.drop u).take (v - u), f, t⟩ by rw [hRN q, ← hu, show (T - F).toNat = v - u by omega])
    have HEE := Lib.hid (show E = str ((dat.drop u).take (v - u)) by rw [hE, extract_str15 D dat hD])
    clear hRE hRN hz hD hu hv hE hDs
    go_enter Try.func38, Try.ntmps38
    go_upto_region 1 with fail
    rw [← HW.out, ← HG2.out, ← HG.out]
    clear HW HG HG2
    refine wp_region_pick (fun w' => Below W1.heap.size W1 w') (by kernel_rfl) (by kernel_rfl) (Below.refl _ _) ⟨rfl, rfl, rfl, Nat.le_refl _, fun _ _ => rfl⟩ (fun pw hp hq => ?_)
    have y0 : ∀ u, (pw u).cell? ⟨g, 0, none⟩ = some (.int .i64 a) := fun u => (Cells.cell (Cells.kept HX.out (hp u) HX.out.lt) 0).trans rfl
    have y1 : ∀ u, (pw u).cell? ⟨g, 1, none⟩ = some (.string D) := fun u => (Cells.cell (Cells.kept HX.out (hp u) HX.out.lt) 1).trans rfl
    have y2 : ∀ u, (pw u).cell? ⟨g, 2, none⟩ = some (.int .i64 f) := fun u => (Cells.cell (Cells.kept HX.out (hp u) HX.out.lt) 2).trans rfl
    have y3 : ∀ u, (pw u).cell? ⟨g, 3, none⟩ = some (.int .i64 t) := fun u => (Cells.cell (Cells.kept HX.out (hp u) HX.out.lt) 3).trans rfl
    have HP := Lib.hid hp
    have HQ := Lib.hid hq
    clear hp hq
    repeat (go_big_quiet_step ((with_reducible exact Calls.pick_of HQ.out (fun W' hb => (HP.out _).trans (hb.mono (HP.out _).size)) (HEND.out _))))
    refine wpQuiet_nil ?_
    rintro _ ⟨u9, rfl⟩
    have HX2 := Lib.hid (Cells.kept HX.out (HP.out u9) HX.out.lt)
    have HZ2 := Lib.hid (Cells.kept HZ.out (HP.out u9) HZ.out.lt)
    have HB2 := Lib.hid (HB.out.trans ((HP.out u9).mono HB.out.size))
    generalize pw u9 = wp at *
    clear HP HQ y0 y1 y2 y3 HX HZ HB HEND
    go_upto_region 4 with fail
    have HX7 := Lib.hid (Cells.drew HX2.out)
    have HZ7 := Lib.hid (Cells.drew HZ2.out)
    have HB7 := Lib.hid HB2.out.drew
    refine wp_region_still_tail 17 (by kernel_rfl) (by kernel_rfl) ?_
    simp only [List.take_succ_cons, List.take_zero, List.drop_succ_cons, List.drop_zero]
    change wpStill _ _ wp.drew _ _ _
    have x0 := (Cells.cell HX7.out 0).trans (show _ = some (Value.int .i64 a) from rfl)
    have x1 := (Cells.cell HX7.out 1).trans (show _ = some (Value.string D) from rfl)
    have x2 := (Cells.cell HX7.out 2).trans (show _ = some (Value.int .i64 f) from rfl)
    have x3 := (Cells.cell HX7.out 3).trans (show _ = some (Value.int .i64 t) from rfl)
    repeat still_step
    refine wpStill_nil ?_
    change wpList _ _ _ _ _ wp.drew
    clear x0 x1 x2 x3 HX2 HZ2 HB2
    generalize wp.drew = w7 at *
    have x0 := (Cells.cell HZ7.out 0).trans (show _ = some (Value.int .i64 0) from rfl)
    have z0 := Cells.frozen HZ7.out 0
    have x1 := (Cells.cell HZ7.out 1).trans (show _ = some (Value.string ⟨#[]⟩) from rfl)
    have z1 := Cells.frozen HZ7.out 1
    have x2 := (Cells.cell HZ7.out 2).trans (show _ = some (Value.int .i64 0) from rfl)
    have z2 := Cells.frozen HZ7.out 2
    have x3 := (Cells.cell HZ7.out 3).trans (show _ = some (Value.int .i64 0) from rfl)
    have z3 := Cells.frozen HZ7.out 3
    have hgl := HZ7.out.lt
    go_wp2_with fail
    refine bodyPost_ret (res_box1 pcBox rfl _ _ rfl (HZ7.out.put [.int .i64 F, .string E, .int .i64 f, .int .i64 t] rfl)) rfl ?_
    exact ⟨by rw [HR.out, HEE.out]; rfl, putB_below HGW.out.2 [.int .i64 F, .string E, .int .i64 f, .int .i64 t] 0 _ HB7.out⟩
end Go.Proofs.Ytafpmlikocchpaa

/- Contract of the program of layer 15: Cut. -/
namespace Go.Proofs.Ytafpmlikocchpaa
open Go.ChangeShapes Go.WideShapes Go.ChangeAt Go.RowKit
set_option linter.unusedVariables false
set_option maxRecDepth 100000

/-- A list that comes back. -/
def PLs (w : World) (R : List PcR) (e : Ending) (w' : World) : Prop :=
  ∃ A c, e = .returned (.slice A R.length c) ∧ RowL EPc w' A R ∧ (A = none → c = 0) ∧ R.length ≤ c ∧ (A = none ∨ ∃ g o, A = some ⟨g, o, none⟩) ∧ Below w.heap.size w w'
theorem map_next15 (f : PcR → PcR) {l : List PcR} {k : Nat} {x : PcR} (hx : l[k]? = some x) : (l.take (k + 1)).map f = (l.take k).map f ++ [f x] := by
  obtain ⟨hk, e⟩ := List.getElem?_eq_some_iff.1 hx
  rw [List.take_succ_eq_append_getElem hk, e, List.map_append]
  rfl
set_option maxHeartbeats 8000000 in
theorem pcut15_any (l : List PcR) (A : Option Addr) (c : Nat) (a : Int) (w : World) (h : RowL EPc w A l) (hl : l.length ≤ 100000) (hv : vldL l) (ha : (Lit.int .i64 a).wf = true) :
    Calls Try.prog 21 #[.slice A l.length c, .int .i64 a] w (PLs w (cutL l a)) := by
  obtain ⟨n, hnl⟩ : ∃ n, n = l.length := ⟨_, rfl⟩
  rw [← hnl] at hl ⊢
  have HN := Lib.hid hnl
  have HS := Lib.hid h
  have HV := Lib.hid hv
  have HA := Lib.hid ha
  have HO0 := Lib.hid (OwnE.nil (E := EPc) (e := 23) w w.heap.size)
  clear hnl h hv ha
  go_enter Try.func21, Try.ntmps21
  go_wp2_with fail
  go_loopw [5, 10] (fun s i wr => ∃ (k m c2 : Nat) (A2 : Option Addr), s = .slice A2 m c2 ∧ i = .int .i64 (k : Int) ∧ k ≤ n ∧ m ≤ k ∧ Hid (OwnE EPc 23 wr w.heap.size A2 m c2 ((l.take k).map (fun x => clipP x a (endQ x)))) ∧ Hid (Below w.heap.size w wr)) (fun _ i _ => n - (intOf i).toNat)
  case atStart => exact ⟨0, 0, 0, none, rfl, rfl, Nat.zero_le _, Nat.zero_le _, HO0, Lib.hid (Below.refl _ _)⟩
  case round =>
    clear HO0
    obtain ⟨k, m, c2, A2, rfl, rfl, hk, hmk, HO0, HB0⟩ := hrel
    by_cases hlt : k < n
    · obtain ⟨x, hget⟩ : ∃ x, l[k]? = some x := ⟨l[k]'(by have := HN.out; omega), List.getElem?_eq_getElem _⟩
      obtain ⟨ga, oa, rfl, hga⟩ := HS.out.shapeA (by have := HN.out; omega)
      obtain ⟨a0, a1, a2, a3⟩ := pc_at HS.out hget HB0.out
      have hki : (k : Int) < (n : Int) := by omega
      have dlt : decide ((k : Int) < (n : Int)) = true := by simp; omega
      have hki0 : (0 : Int) ≤ (k : Int) := by omega
      obtain ⟨v1, v2, v3, v4, v5⟩ := vldF_mem HV.out x (List.mem_of_getElem? hget)
      have hnx := map_next15 (fun x => clipP x a (endQ x)) hget
      obtain ⟨⟨ra, re, rf, rt⟩, hR⟩ : ∃ R, R = clipP x a (endQ x) := ⟨_, rfl⟩
      have HNX0 := Lib.hid hnx
      have HRR := Lib.hid hR
      obtain ⟨p, dat, xf, xt⟩ := x
      dsimp only at a0 a1 a2 a3 v1 v2 v3 v4 v5
      obtain ⟨D, hD⟩ : ∃ D, D = str dat := ⟨_, rfl⟩
      have hDs : D.size = dat.length := by rw [hD, str_size]
      rw [← hD] at a1
      obtain ⟨z, hz⟩ : ∃ z, z = p + (D.size : Int) := ⟨_, rfl⟩
      have wz : IntKind.i64.wrap z = z := by rw [IntKind.wrap_i64]; omega
      have hez : endQ ⟨p, dat, xf, xt⟩ = z := by unfold endQ; rw [hz, hDs]
      have HEND := Lib.hid (fun W => pend15 p xf xt z D W hz.symm wz)
      obtain ⟨E, hE⟩ : ∃ E, E = str re := ⟨_, rfl⟩
      have HCL := Lib.hid (fun W => show Calls Try.prog 38 #[.agg #[.int .i64 p, .string D, .int .i64 xf, .int .i64 xt], .int .i64 a, .int .i64 z] W fun e w' => e = .returned (.agg #[.int .i64 ra, .string E, .int .i64 rf, .int .i64 rt]) ∧ Below W.heap.size W w' from by
        have h := pclip15 p xf xt a z dat D ⟨ra, re, rf, rt⟩ W hD (by omega) (by omega) (by omega) (by rw [hR, hez])
        unfold vP at h
        rw [hE]
        exact h)
      have HEE := Lib.hid hE
      obtain ⟨out, hout⟩ : ∃ out, out = (l.take k).map (fun x => clipP x a (endQ x)) := ⟨_, rfl⟩
      rw [← hout] at HO0 HNX0
      have HNX := Lib.hid (show out ++ [⟨ra, re, rf, rt⟩] = (l.take (k + 1)).map (fun x => clipP x a (endQ x)) by rw [HNX0.out, hR])
      have hsz : w.heap.size ≤ wr.heap.size := HB0.out.size
      obtain ⟨W2, hW2⟩ : ∃ W, W = wr.alloc (.cells #[.int .i64 p, .string D, .int .i64 xf, .int .i64 xt] 23) := ⟨_, rfl⟩
      obtain ⟨gx, hgx⟩ : ∃ g, g = wr.heap.size := ⟨_, rfl⟩
      have HY := Lib.hid (show Cells W2 gx 23 #[.int .i64 p, .string D, .int .i64 xf, .int .i64 xt] by rw [hW2, hgx]; exact heap_alloc_new wr _)
      have HO := Lib.hid (show OwnE EPc 23 W2 w.heap.size A2 m c2 out by rw [hW2]; exact HO0.out.al _)
      have HB := Lib.hid (show Below w.heap.size w W2 by rw [hW2]; exact HB0.out.alloc hsz _)
      have HW2 := Lib.hid hW2
      have HGX := Lib.hid hgx
      clear hget hD hDs hz hE hR hnx hez wz v1 v2 v3 v4 v5 HRR HNX0 hout hsz HO0 HB0 hW2 hgx
      go_upto_region 5 with fail
      rw [← HGX.out, ← HW2.out]
      clear HW2 HGX a0 a1 a2 a3
      refine wp_region_specs_tail 7 [.val (Value.slice A2 m c2), .val (Value.agg #[.int .i64 p, .string D, .int .i64 xf, .int .i64 xt]), .val (Value.int .i64 a), .val (Value.agg #[.int .i64 p, .string D, .int .i64 xf, .int .i64 xt]), .val (Value.int .i64 z), .val (Value.agg #[.int .i64 ra, .string E, .int .i64 rf, .int .i64 rt]), .row #[.int .i64 ra, .string E, .int .i64 rf, .int .i64 rt] 23 1] (by kernel_rfl) (by kernel_rfl) (by kernel_rfl) (by kernel_rfl) (by kernel_rfl) (by kernel_rfl) (by kernel_rfl) (by kernel_rfl) ?_ ?_
      · refine ⟨⟨rfl, ?_⟩, ⟨rfl, ?_⟩, ⟨rfl, ?_⟩, ⟨rfl, ?_⟩, ⟨rfl, ?_⟩, ⟨rfl, ?_⟩, ⟨rfl, ?_⟩, trivial⟩
        · intro ac W hbW hk K hK
          have e5 := kvalT hk 5 (Value.slice A2 m c2) (by kernel_rfl)
          clear hk
          go_simp
          exact ⟨_, rfl, hK _ _ rfl (Below.refl _ _)⟩
        · intro ac W hbW hk K hK
          have e7 := kvalT hk 7 (Value.pointer (some ⟨gx, 0, none⟩)) (by kernel_rfl)
          clear hk
          have y0 := (Cells.cell (Cells.kept HY.out hbW HY.out.lt) 0).trans (show _ = some (Value.int .i64 p) from rfl)
          have y1 := (Cells.cell (Cells.kept HY.out hbW HY.out.lt) 1).trans (show _ = some (Value.string D) from rfl)
          have y2 := (Cells.cell (Cells.kept HY.out hbW HY.out.lt) 2).trans (show _ = some (Value.int .i64 xf) from rfl)
          have y3 := (Cells.cell (Cells.kept HY.out hbW HY.out.lt) 3).trans (show _ = some (Value.int .i64 xt) from rfl)
          go_simp
          exact ⟨_, rfl, hK _ _ rfl (Below.refl _ _)⟩
        · intro ac W hbW hk K hK
          have e1 := kvalT hk 1 (Value.int .i64 a) (by kernel_rfl)
          clear hk
          go_simp
          exact ⟨_, rfl, hK _ _ rfl (Below.refl _ _)⟩
        · intro ac W hbW hk K hK
          have e7 := kvalT hk 7 (Value.pointer (some ⟨gx, 0, none⟩)) (by kernel_rfl)
          clear hk
          have y0 := (Cells.cell (Cells.kept HY.out hbW HY.out.lt) 0).trans (show _ = some (Value.int .i64 p) from rfl)
          have y1 := (Cells.cell (Cells.kept HY.out hbW HY.out.lt) 1).trans (show _ = some (Value.string D) from rfl)
          have y2 := (Cells.cell (Cells.kept HY.out hbW HY.out.lt) 2).trans (show _ = some (Value.int .i64 xf) from rfl)
          have y3 := (Cells.cell (Cells.kept HY.out hbW HY.out.lt) 3).trans (show _ = some (Value.int .i64 xt) from rfl)
          go_simp
          exact ⟨_, rfl, hK _ _ rfl (Below.refl _ _)⟩
        · intro ac W hbW hk K hK
          have e17 := kvalT hk 17 (Value.agg #[.int .i64 p, .string D, .int .i64 xf, .int .i64 xt]) (by kernel_rfl)
          clear hk
          go_simp
          refine (HEND.out W).mono ?_
          rintro e w9 ⟨rfl, hb9⟩
          exact ⟨_, rfl, hK _ _ rfl hb9⟩
        · intro ac W hbW hk K hK
          have e15 := kvalT hk 15 (Value.agg #[.int .i64 p, .string D, .int .i64 xf, .int .i64 xt]) (by kernel_rfl)
          have e16 := kvalT hk 16 (Value.int .i64 a) (by kernel_rfl)
          have e18 := kvalT hk 18 (Value.int .i64 z) (by kernel_rfl)
          clear hk
          go_simp
          refine (HCL.out W).mono ?_
          rintro e w9 ⟨rfl, hb9⟩
          exact ⟨_, rfl, hK _ _ rfl hb9⟩
        · intro ac W hbW hk K hK
          have e19 := kvalT hk 19 (Value.agg #[.int .i64 ra, .string E, .int .i64 rf, .int .i64 rt]) (by kernel_rfl)
          clear hk
          go_simp
          exact ⟨_, rfl, hK _ _ ⟨W.heap.size, rfl, hbW.size, heap_alloc_new W _⟩ (below_alloc6 W _)⟩
      · intro W9 hb9
        simp only [List.take_succ_cons, List.take_zero, List.drop_succ_cons, List.drop_zero, endT]
        intro gr hgr hcr
        have HO9 := HO.out.kept hb9
        have hB9 := HB.out.trans (hb9.mono HB.out.size)
        have hs9 : w.heap.size ≤ W9.heap.size := hB9.size
        go_simp
        refine wpList_push (E := EPc) pcTy (by rfl) _ _ (by rfl) w.heap.size _ m out [⟨ra, re, rf, rt⟩] (by rfl) HO9.2 gr 1 1 #[.int .i64 ra, .string E, .int .i64 rf, .int .i64 rt] (0, 0) (by rfl) hcr (by rw [HEE.out]; rfl) rfl (by omega) (by omega) (by decide) hs9 ?_
        intro g2 cap2 wz hown hgrow hat hlt2
        have HOz := Lib.hid (HO9.push (ys := [⟨ra, re, rf, rt⟩]) rfl hown)
        have HBz := Lib.hid (HO9.below0 hB9 hs9 (Nat.le_refl _) hgrow)
        rw [HNX.out] at HOz
        clear hown hgrow hat hlt2 HO9 hB9 hs9 hcr hgr hb9 HO HB HY HCL HEND
        go_wp2_with fail
        go_roundw
        case rel => exact ⟨k + 1, m + 1, cap2, some ⟨g2, 0, none⟩, rfl, by go_num, by omega, by omega, HOz, HBz⟩
        case measure => simp [intOf]; omega
    · obtain rfl : k = n := by omega
      have hd : decide ((k : Int) < (k : Int)) = false := by simp
      have HE := Lib.hid (show OwnE EPc 23 wr w.heap.size A2 m c2 (l.map (fun x => clipP x a (endQ x))) by have := HO0.out; rwa [HN.out, List.take_length] at this)
      have HFC := Lib.hid (fill_cut a (l := l) (fun x hx => (vldF_mem HV.out x hx).1))
      have HFI := Lib.hid (show Calls Try.prog 39 #[.slice A2 m c2] wr (DelP A2 c2 w.heap.size (l.map (fun x => clipP x a (endQ x))) wr) from by
        have h1 := HE.out.1
        rw [h1]
        exact pfilled15 A2 c2 w.heap.size _ wr (by rw [← h1]; exact HE.out) (by rw [List.length_map]; have := HN.out; omega) HB0.out.size)
      go_wp2_with fail
      refine HFI.out.mono ?_
      rintro e w5 ⟨rfl, h1, h2⟩
      have H1 := Lib.hid h1
      have H2 := Lib.hid h2
      clear h1 h2 HFI
      go_wp2_with fail
      go_ret
      refine ⟨A2, c2, ?_, ?_, HE.out.none0, ?_, ?_, HB0.out.trans H2.out⟩
      · rw [HFC.out]; rfl
      · have := H1.out
        rwa [HFC.out] at this
      · rw [← HFC.out]
        exact Nat.le_trans (fill_len _) (by rw [← HE.out.1]; exact (own_cap HE.out.2).1)
      · rcases HE.out.2.2 with ⟨h1, -⟩ | ⟨g', c', cur, h1, -⟩
        · injection h1 with e1
          exact .inl e1
        · injection h1 with e1
          exact .inr ⟨_, _, e1⟩
end Go.Proofs.Ytafpmlikocchpaa
