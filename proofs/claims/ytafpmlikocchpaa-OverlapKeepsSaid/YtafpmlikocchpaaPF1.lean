/- Contracts of the functions, further part 1: VKpM, VKee. -/
import Derived.Deep.Cut
import Derived.Deep.WholeRow
import Derived.Test.YtafpmlikocchpaaPA21
import Derived.Test.YtafpmlikocchpaaPA22
import Derived.Test.YtafpmlikocchpaaPA6
/- OverlapKeeps and OverlapMirrors: the plain mathematics. -/
namespace Go.Proofs.Ytafpmlikocchpaa
open Go.ChangeShapes Go.WideShapes Go.ChangeAt Go.RowKit
set_option linter.unusedVariables false
set_option maxRecDepth 100000

theorem seg_at {a : Int} {b : List UInt8} {j : Nat} (hj : j < b.length) : fndC (segC a b) (a + j) = some ⟨a + j, b[j], a, a + b.length⟩ := by
  rw [segC_fnd, if_pos ⟨by omega, by omega⟩]
  congr 2
  rw [show (a + (j : Int) - a).toNat = j by omega, List.getD_eq_getElem?_getD, List.getElem?_eq_getElem hj]
  rfl
theorem all_there {c : List CeR} {a : Int} {b : List UInt8} (h : thereC c (segC a b) = b.length) : ∀ j : Nat, j < b.length → fndC c (a + j) ≠ none := fun j hj hn => by
  unfold thereC at h
  have h2 : ((segC a b).filter (fun x => (fndC c x.at_).isSome)).length = (segC a b).length := by rw [h, segC_len3]
  have h3 := List.length_filter_eq_length_iff.1 h2
  obtain ⟨h4, h5⟩ := fndC_at (seg_at (a := a) hj)
  have := h3 _ h5
  simp only at this
  rw [hn] at this
  cases this
/-- What Insert keeps. -/
structure KeepM (l : List PcR) (a : Int) (b : List UInt8) (pol : Int) (R : List PcR) (df : Nat) : Prop where
  vld : vldL R
  few : R.length ≤ 64
  dif : df ≤ b.length
  s1 : sizeL l ≤ sizeL R
  s2 : b.length ≤ sizeL R
  s3 : sizeL R ≤ sizeL l + b.length
  new : b ≠ [] → b.length ≤ (takL R a).length
  last : b ≠ [] → pol = 2 → ∃ r, takL R a = b ++ r
  old : pol = 1 ∨ pol = 5 → ∀ x ∈ l, ∃ r, takL R x.at_ = x.dat ++ r
theorem tak_piece {l : List PcR} (hv : vldL l) {x : PcR} (hx : x ∈ l) : ∃ r, takL l x.at_ = x.dat ++ r :=
  takL_pre hv _ _ (fun j hj => ⟨_, fnd_piece hv hx j hj, rfl⟩)
theorem keepM {l : List PcR} (hv : vldL l) (hl : l.length ≤ 64) (a : Int) (b : List UInt8) (hb : b.length ≤ 200) (pol : Int) :
    ((insL l a b pol).2.2 ≠ 0 ∧ (insL l a b pol).1 = [] ∧ (insL l a b pol).2.1 = 0) ∨ ((insL l a b pol).2.2 = 0 ∧ KeepM l a b pol (insL l a b pol).1 (insL l a b pol).2.1) := by
  unfold insL
  split
  · next h =>
    subst h
    exact .inr ⟨rfl, hv, hl, Nat.le_refl _, Nat.le_refl _, Nat.zero_le _, Nat.le_add_right .., fun h => absurd rfl h, fun h => absurd rfl h, fun _ x hx => tak_piece hv hx⟩
  · next hb0 =>
    split
    · exact .inl ⟨by decide, rfl, rfl⟩
    · next hr =>
      have ha : 0 ≤ a := by omega
      obtain ⟨z1, z2, z3⟩ := insL_size (pol := pol) hv ha b
      split
      · next h5 =>
        split
        · next hq =>
          refine .inr ⟨rfl, hv, hl, Nat.zero_le _, Nat.le_refl _, by show b.length ≤ sizeL l; omega, by show sizeL l ≤ _; omega, fun _ => takL_len hv _ _ (all_there hq.1), fun _ h2 => by omega, fun _ x hx => tak_piece hv hx⟩
        · exact .inl ⟨by decide, rfl, rfl⟩
      · split
        · exact .inl ⟨by decide, rfl, rfl⟩
        · next h64 =>
          have hvv := ins_vld (pol := pol) hv ha b (by omega)
          have hfi := fun o => fnd_ins (pol := pol) hv ha b o
          have hd := differC_le (cels l) (segC a b)
          rw [segC_len3] at hd
          refine .inr ⟨rfl, hvv, Nat.not_lt.1 h64, hd, by show sizeL l ≤ sizeL (pcs _); omega, by show b.length ≤ sizeL (pcs _); omega, by show sizeL (pcs _) ≤ _; omega, fun _ => takL_len hvv _ _ (fun j hj => ?_), fun _ h2 => takL_pre hvv _ _ (fun j hj => ?_), fun hp x hx => takL_pre hvv _ _ (fun j hj => ?_)⟩
          · rw [hfi, seg_at hj]; simp
          · rw [hfi, seg_at hj]
            subst h2
            refine ⟨_, rfl, ?_⟩
            cases fndC (cels l) (a + j) with
            | none => rfl
            | some y => rfl
          · rw [hfi, fnd_piece hv hx j hj]
            cases fndC (segC a b) (x.at_ + j) with
            | none => exact ⟨_, rfl, rfl⟩
            | some z =>
              refine ⟨_, rfl, ?_⟩
              have hw : winsB pol x.fr x.to_ z.fr z.to_ = false := by rcases hp with rfl | rfl <;> rfl
              show (if winsB pol x.fr x.to_ z.fr z.to_ = true then z else _).c = _
              rw [hw]
              rfl
theorem str_pre15 {d r : List UInt8} : (str (d ++ r)).extract 0 (str d).size = str d := by
  apply ByteArray.ext
  apply Array.ext'
  rw [Lib.extract_data, str_size]
  show ((str (d ++ r)).data.toList.drop 0).take (d.length - 0) = (str d).data.toList
  rw [str_toList, str_toList, List.drop_zero, Nat.sub_zero, List.take_left']
  rfl
/-! ### Two segments in both orders -/
theorem fnd_two {pol : Int} {p q : PcR} (hp : inR p) (hq : inR q) (o : Int) : fndC (insAll pol [p, q]) o = match fndC (segC q.at_ q.dat) o with | some x => some (winC pol (fndC (segC p.at_ p.dat) o) x) | none => fndC (segC p.at_ p.dat) o := by
  have h1 := insC_fnd (pol := pol) (c := []) (e := 0) trivial hp.1 p.dat
  have h2 := (insC_fnd (pol := pol) h1.1 hq.1 q.dat).2 o
  have h3 : fndC (insC pol [] (segC p.at_ p.dat)) o = fndC (segC p.at_ p.dat) o := by
    rw [h1.2 o]
    cases fndC (segC p.at_ p.dat) o <;> rfl
  rw [h3] at h2
  exact h2
theorem srt_two (pol : Int) {p q : PcR} (hp : inR p) (hq : inR q) : srtF 0 (insAll pol [p, q]) :=
  (AllI.take (l := [p, q]) pol (fun x hx => by
    rcases List.mem_cons.1 hx with rfl | hx
    · exact hp
    · obtain rfl := List.mem_singleton.1 hx
      exact hq) 2 (Nat.le_refl _)).srt
theorem mirr1 {p q : PcR} (hp : inR p) (hq : inR q) : insAll 1 [p, q] = insAll 2 [q, p] :=
  srt_ext (srt_two 1 hp hq) (srt_two 2 hq hp) (fun o => by
    rw [fnd_two hp hq, fnd_two hq hp]
    cases h1 : fndC (segC q.at_ q.dat) o <;> cases h2 : fndC (segC p.at_ p.dat) o <;> rfl)
theorem win3 (a b c d : Int) : winsB 3 a b c d = decide (c < a) := by
  show (false || (true && decide (c < a)) || (false && _)) = _
  simp
theorem seg_fr {a o : Int} {b : List UInt8} {x : CeR} (h : fndC (segC a b) o = some x) : x.fr = a := by
  rw [segC_fnd] at h
  split at h
  · obtain rfl := Option.some.inj h; rfl
  · cases h
theorem mirr3 {p q : PcR} (hp : inR p) (hq : inR q) (hne : p.at_ ≠ q.at_) : insAll 3 [p, q] = insAll 3 [q, p] :=
  srt_ext (srt_two 3 hp hq) (srt_two 3 hq hp) (fun o => by
    rw [fnd_two hp hq, fnd_two hq hp]
    cases h1 : fndC (segC q.at_ q.dat) o with
    | none => cases h2 : fndC (segC p.at_ p.dat) o <;> rfl
    | some x =>
      cases h2 : fndC (segC p.at_ p.dat) o with
      | none => rfl
      | some y =>
        show some (if winsB 3 y.fr y.to_ x.fr x.to_ = true then x else y) = some (if winsB 3 x.fr x.to_ y.fr y.to_ = true then y else x)
        rw [win3, win3, seg_fr h1, seg_fr h2]
        by_cases h : q.at_ < p.at_
        · rw [decide_eq_true h, decide_eq_false (by omega), if_pos rfl, if_neg (by decide)]
        · rw [decide_eq_false h, decide_eq_true (by omega), if_neg (by decide), if_pos rfl])
end Go.Proofs.Ytafpmlikocchpaa

/- OverlapKeeps: the walk, over the bundle P15. -/
namespace Go.Proofs.Ytafpmlikocchpaa
open Go.ChangeShapes Go.WideShapes Go.ChangeAt Go.RowKit
set_option linter.unusedVariables false
set_option maxRecDepth 100000

set_option maxHeartbeats 8000000 in
set_option maxRecDepth 100000 in
theorem walkK15 {T : World → Prop} (H : P15 T) (l : List PcR) (A : Option Addr) (c : Nat) (x : PcR) (pol : Int) (w : World) (hT : T w) (hr : RowL EPc w A l) (hA : A = none → c = 0) (hm : l.length ≤ maxLen) (hf : ∀ y ∈ l, pcWf y) (hx : pcWf x) (hp : (Lit.int .i64 pol).wf = true) :
    Calls Try.prog 7 #[.slice A l.length c, .agg (pcC x), .int .i64 pol] w fun e w' => e = .returned (.bool true) ∧ Below w.heap.size w w' := by
  obtain ⟨a, d, pf, pt⟩ := x
  obtain ⟨x1, x2, x3, x4⟩ := hx
  unfold pcC
  dsimp only at x1 x2 x3 x4 ⊢
  obtain ⟨D, hD⟩ : ∃ Y, Y = str d := ⟨_, rfl⟩
  have hDs : D.size = d.length := by rw [hD, str_size]
  obtain ⟨n, hn⟩ : ∃ n, n = l.length := ⟨_, rfl⟩
  rw [← hD, ← hn]
  obtain ⟨W0, hW0⟩ : ∃ W, W = w.alloc (.cells #[.int .i64 a, .string D, .int .i64 pf, .int .i64 pt] 23) := ⟨_, rfl⟩
  obtain ⟨gx, hgx⟩ : ∃ g, g = w.heap.size := ⟨_, rfl⟩
  have bx : Below w.heap.size w W0 := by rw [hW0]; exact below_alloc6 w _
  have px : Cells W0 gx 23 #[.int .i64 a, .string D, .int .i64 pf, .int .i64 pt] := by rw [hW0, hgx]; exact heap_alloc_new w _
  have B0 := Lib.hid (show Below w.heap.size w W0 from bx)
  have Px0 := Lib.hid (show Cells W0 gx 23 #[.int .i64 a, .string D, .int .i64 pf, .int .i64 pt] from px)
  have HK := Lib.hid H.keep
  have HL := Lib.hid (fun (W : World) (hW : T W) => awk15 H W hW)
  have K0 := Lib.hid (H.keep w W0 hT B0.out)
  have Rl0 := Lib.hid (hr.kept B0.out)
  have hF := (fun (W : World) (h : RowL EPc W A l) => show Calls Try.prog 13 #[.slice A n c, .int .i64 40, .int .i64 300] W fun e w' => e = .returned (.bool (fewB l 40 300)) ∧ Below W.heap.size W w' from by
    rw [hn]
    exact (rfew15_any l A c 40 300 40 300 rfl rfl W h hm (by decide) (by decide)).mono fun e w' ⟨h1, h2⟩ => ⟨h1, h2 ▸ Below.refl _ _⟩)
  cases hfw : fewB l 40 300 with
  | false =>
    rw [hfw] at hF
    have HF := Lib.hid hF
    clear hF hfw hr hA hm hf hn hD hDs x1 x2 x3 x4 hp hT
    have ex : gx = w.heap.size := by exact hgx
    have HW0 := Lib.hid hW0
    have Ex := Lib.hid ex
    clear hW0 hgx ex bx px
    go_enter Try.func7, Try.ntmps7
    go_upto_region 1 with fail
    rw [← HW0.out, ← Ex.out]
    clear HW0 Ex
    go_wp2_with fail
    refine (HL.out _ K0.out).mono ?_
    rintro e w1 ⟨rfl, hb⟩
    clear HL
    have Px1 := Lib.hid (Cells.kept Px0.out hb Px0.out.lt)
    have Rl1 := Lib.hid (Rl0.out.kept hb)
    have K1 := Lib.hid (HK.out _ _ K0.out hb)
    have B1 := Lib.hid (B0.out.trans (hb.mono B0.out.size))
    clear hb Px0 Rl0 K0 B0
    go_wp2_with fail
    refine (HF.out _ Rl1.out).mono ?_
    rintro e w2 ⟨rfl, hb⟩
    clear HF
    have Px2 := Lib.hid (Cells.kept Px1.out hb Px1.out.lt)
    have Rl2 := Lib.hid (Rl1.out.kept hb)
    have K2 := Lib.hid (HK.out _ _ K1.out hb)
    have B2 := Lib.hid (B1.out.trans (hb.mono B1.out.size))
    clear hb Px1 Rl1 K1 B1
    go_wp2_with fail
    go_ret
    exact ⟨rfl, B2.out⟩
  | true =>
    rw [hfw] at hF
    have HF := Lib.hid hF
    obtain ⟨hl40, hz300⟩ := fewB_true hfw
    clear hF hfw
    by_cases hlong : 200 < D.size
    · have d0 : decide ((200 : Int) < (D.size : Int)) = true := by simp; omega
      have n0 : (200 : Int) < (D.size : Int) := by omega
      clear hlong hl40 hz300 hr hA hm hf hn hD hDs x1 x2 x3 x4 hp hT
      have ex : gx = w.heap.size := by exact hgx
      have HW0 := Lib.hid hW0
      have Ex := Lib.hid ex
      clear hW0 hgx ex bx px
      go_enter Try.func7, Try.ntmps7
      go_upto_region 1 with fail
      rw [← HW0.out, ← Ex.out]
      clear HW0 Ex
      go_wp2_with fail
      refine (HL.out _ K0.out).mono ?_
      rintro e w1 ⟨rfl, hb⟩
      clear HL
      have Px1 := Lib.hid (Cells.kept Px0.out hb Px0.out.lt)
      have Rl1 := Lib.hid (Rl0.out.kept hb)
      have K1 := Lib.hid (HK.out _ _ K0.out hb)
      have B1 := Lib.hid (B0.out.trans (hb.mono B0.out.size))
      clear hb Px0 Rl0 K0 B0
      go_wp2_with fail
      refine (HF.out _ Rl1.out).mono ?_
      rintro e w2 ⟨rfl, hb⟩
      clear HF
      have Px2 := Lib.hid (Cells.kept Px1.out hb Px1.out.lt)
      have Rl2 := Lib.hid (Rl1.out.kept hb)
      have K2 := Lib.hid (HK.out _ _ K1.out hb)
      have B2 := Lib.hid (B1.out.trans (hb.mono B1.out.size))
      clear hb Px1 Rl1 K1 B1
      have xx0 := (Cells.cell Px2.out 0).trans (show _ = some (Value.int .i64 a) from rfl)
      have xx1 := (Cells.cell Px2.out 1).trans (show _ = some (Value.string D) from rfl)
      have xx2 := (Cells.cell Px2.out 2).trans (show _ = some (Value.int .i64 pf) from rfl)
      have xx3 := (Cells.cell Px2.out 3).trans (show _ = some (Value.int .i64 pt) from rfl)
      go_wp2_with fail
      go_ret
      exact ⟨rfl, B2.out⟩
    have d0 : decide ((200 : Int) < (D.size : Int)) = false := by simp; omega
    have n0 : ¬ (200 : Int) < (D.size : Int) := by omega
    have hV := fun (W : World) (hW : T W) (h : RowL EPc W A l) => show Calls Try.prog 18 #[.slice A n c] W fun e w' => e = .returned (.bool (decide (vldL l))) ∧ Below W.heap.size W w' from by rw [hn]; exact H.val l A c W hW h hA (by omega) (few_wf hf (by omega))
    by_cases hv : ¬ vldL l
    · rw [decide_eq_false hv] at hV
      have HV := Lib.hid hV
      clear hV hv hlong hl40 hz300 hr hA hm hf hn hD hDs x1 x2 x3 x4 hp hT
      have ex : gx = w.heap.size := by exact hgx
      have HW0 := Lib.hid hW0
      have Ex := Lib.hid ex
      clear hW0 hgx ex bx px
      go_enter Try.func7, Try.ntmps7
      go_upto_region 1 with fail
      rw [← HW0.out, ← Ex.out]
      clear HW0 Ex
      go_wp2_with fail
      refine (HL.out _ K0.out).mono ?_
      rintro e w1 ⟨rfl, hb⟩
      clear HL
      have Px1 := Lib.hid (Cells.kept Px0.out hb Px0.out.lt)
      have Rl1 := Lib.hid (Rl0.out.kept hb)
      have K1 := Lib.hid (HK.out _ _ K0.out hb)
      have B1 := Lib.hid (B0.out.trans (hb.mono B0.out.size))
      clear hb Px0 Rl0 K0 B0
      go_wp2_with fail
      refine (HF.out _ Rl1.out).mono ?_
      rintro e w2 ⟨rfl, hb⟩
      clear HF
      have Px2 := Lib.hid (Cells.kept Px1.out hb Px1.out.lt)
      have Rl2 := Lib.hid (Rl1.out.kept hb)
      have K2 := Lib.hid (HK.out _ _ K1.out hb)
      have B2 := Lib.hid (B1.out.trans (hb.mono B1.out.size))
      clear hb Px1 Rl1 K1 B1
      have xx0 := (Cells.cell Px2.out 0).trans (show _ = some (Value.int .i64 a) from rfl)
      have xx1 := (Cells.cell Px2.out 1).trans (show _ = some (Value.string D) from rfl)
      have xx2 := (Cells.cell Px2.out 2).trans (show _ = some (Value.int .i64 pf) from rfl)
      have xx3 := (Cells.cell Px2.out 3).trans (show _ = some (Value.int .i64 pt) from rfl)
      go_wp2_with fail
      refine (HV.out _ K2.out Rl2.out).mono ?_
      rintro e w3 ⟨rfl, hb⟩
      clear HV xx0 xx1 xx2 xx3
      have Px3 := Lib.hid (Cells.kept Px2.out hb Px2.out.lt)
      have Rl3 := Lib.hid (Rl2.out.kept hb)
      have K3 := Lib.hid (HK.out _ _ K2.out hb)
      have B3 := Lib.hid (B2.out.trans (hb.mono B2.out.size))
      clear hb Px2 Rl2 K2 B2
      go_wp2_with fail
      go_ret
      exact ⟨rfl, B3.out⟩
    have hv' := Classical.not_not.1 hv
    rw [decide_eq_true hv'] at hV
    have HV := Lib.hid hV
    obtain ⟨R, hR⟩ : ∃ R, R = insL l a d pol := ⟨_, rfl⟩
    have hKM := keepM hv' (by omega) a d (by omega) pol
    rw [← hR] at hKM
    have f1 := fun (W : World) (hW : T W) (h : RowL EPc W A l) => show Calls Try.prog 15 #[.slice A n c, .agg #[.int .i64 a, .string D, .int .i64 pf, .int .i64 pt], .int .i64 pol] W (InP W R) from by rw [hR, hn, hD]; exact H.ins l A c a pf pt pol d W hW h hA (by omega) hv' (by omega) (by omega) x1 x2 x3 hp
    clear hR
    obtain ⟨ls, df, er⟩ := R
    unfold InP at f1
    dsimp only at f1 hKM
    obtain ⟨m, hmm⟩ : ∃ m, m = ls.length := ⟨_, rfl⟩
    rw [← hmm] at f1
    rcases hKM with ⟨k1, k2, k3⟩ | ⟨k1, KM⟩
    · have her : ((er : Int) != 0) = true := by simp; omega
      have her' : ¬ (er : Int) = 0 := by omega
      subst k2 k3
      obtain rfl : m = 0 := hmm
      have HI := Lib.hid f1
      clear f1 k1 hV hv hv' hlong hl40 hz300 hr hA hm hf hn hD hDs x1 x2 x3 x4 hp hT
      have ex : gx = w.heap.size := by exact hgx
      have HW0 := Lib.hid hW0
      have Ex := Lib.hid ex
      clear hW0 hgx ex bx px
      go_enter Try.func7, Try.ntmps7
      go_upto_region 1 with fail
      rw [← HW0.out, ← Ex.out]
      clear HW0 Ex
      go_wp2_with fail
      refine (HL.out _ K0.out).mono ?_
      rintro e w1 ⟨rfl, hb⟩
      clear HL
      have Px1 := Lib.hid (Cells.kept Px0.out hb Px0.out.lt)
      have Rl1 := Lib.hid (Rl0.out.kept hb)
      have K1 := Lib.hid (HK.out _ _ K0.out hb)
      have B1 := Lib.hid (B0.out.trans (hb.mono B0.out.size))
      clear hb Px0 Rl0 K0 B0
      go_wp2_with fail
      refine (HF.out _ Rl1.out).mono ?_
      rintro e w2 ⟨rfl, hb⟩
      clear HF
      have Px2 := Lib.hid (Cells.kept Px1.out hb Px1.out.lt)
      have Rl2 := Lib.hid (Rl1.out.kept hb)
      have K2 := Lib.hid (HK.out _ _ K1.out hb)
      have B2 := Lib.hid (B1.out.trans (hb.mono B1.out.size))
      clear hb Px1 Rl1 K1 B1
      have xx0 := (Cells.cell Px2.out 0).trans (show _ = some (Value.int .i64 a) from rfl)
      have xx1 := (Cells.cell Px2.out 1).trans (show _ = some (Value.string D) from rfl)
      have xx2 := (Cells.cell Px2.out 2).trans (show _ = some (Value.int .i64 pf) from rfl)
      have xx3 := (Cells.cell Px2.out 3).trans (show _ = some (Value.int .i64 pt) from rfl)
      go_wp2_with fail
      refine (HV.out _ K2.out Rl2.out).mono ?_
      rintro e w3 ⟨rfl, hb⟩
      clear HV xx0 xx1 xx2 xx3
      have Px3 := Lib.hid (Cells.kept Px2.out hb Px2.out.lt)
      have Rl3 := Lib.hid (Rl2.out.kept hb)
      have K3 := Lib.hid (HK.out _ _ K2.out hb)
      have B3 := Lib.hid (B2.out.trans (hb.mono B2.out.size))
      clear hb Px2 Rl2 K2 B2
      have xx0 := (Cells.cell Px3.out 0).trans (show _ = some (Value.int .i64 a) from rfl)
      have xx1 := (Cells.cell Px3.out 1).trans (show _ = some (Value.string D) from rfl)
      have xx2 := (Cells.cell Px3.out 2).trans (show _ = some (Value.int .i64 pf) from rfl)
      have xx3 := (Cells.cell Px3.out 3).trans (show _ = some (Value.int .i64 pt) from rfl)
      go_wp2_with fail
      refine (HI.out _ K3.out Rl3.out).mono ?_
      rintro e w4 ⟨A1, c1, rfl, hr1, -, hb⟩
      clear HI hr1 xx0 xx1 xx2 xx3
      have Px4 := Lib.hid (Cells.kept Px3.out hb Px3.out.lt)
      have Rl4 := Lib.hid (Rl3.out.kept hb)
      have K4 := Lib.hid (HK.out _ _ K3.out hb)
      have B4 := Lib.hid (B3.out.trans (hb.mono B3.out.size))
      clear hb Px3 Rl3 K3 B3
      go_wp2_with fail
      go_ret
      exact ⟨rfl, B4.out⟩
    subst k1
    have HI := Lib.hid (fun (W : World) (hW : T W) (h : RowL EPc W A l) => show Calls Try.prog 15 #[.slice A n c, .agg #[.int .i64 a, .string D, .int .i64 pf, .int .i64 pt], .int .i64 pol] W fun e w' => ∃ A1 c1, e = .returned (.tuple #[.slice A1 m c1, .int .i64 (df : Int), .int .i64 0]) ∧ RowL EPc w' A1 ls ∧ Hid (A1 = none → c1 = 0) ∧ Below W.heap.size W w' from (f1 W hW h).mono fun e w' ⟨A1, c1, h1, h2, h3, h4⟩ => ⟨A1, c1, h1, h2, Lib.hid h3, h4⟩)
    obtain ⟨sx, hsx⟩ : ∃ s, s = sizeL ls := ⟨_, rfl⟩
    obtain ⟨sl, hsl⟩ : ∃ s, s = sizeL l := ⟨_, rfl⟩
    obtain ⟨sd, hsd⟩ : ∃ s, s = sl + D.size := ⟨_, rfl⟩
    have e1 : (sl : Int) + (D.size : Int) = (sd : Int) := by omega
    have e1b : sd ≤ 500 := by omega
    have e2 : decide ((sx : Int) < (sl : Int)) = false := by have := KM.s1; simp; omega
    have e2n : ¬ (sx : Int) < (sl : Int) := by have := KM.s1; omega
    have e3 : decide ((sx : Int) < (D.size : Int)) = false := by have := KM.s2; simp; omega
    have e3n : ¬ (sx : Int) < (D.size : Int) := by have := KM.s2; omega
    have e4 : decide ((sd : Int) < (sx : Int)) = false := by have := KM.s3; simp; omega
    have e4n : ¬ (sd : Int) < (sx : Int) := by have := KM.s3; omega
    have e5 : decide ((D.size : Int) < (df : Int)) = false := by have := KM.dif; simp; omega
    have e5n : ¬ (D.size : Int) < (df : Int) := by have := KM.dif; omega
    have e6 : decide ((64 : Int) < (m : Int)) = false := by have := KM.few; simp; omega
    have e6n : ¬ (64 : Int) < (m : Int) := by have := KM.few; omega
    have e7 : decide ((df : Int) < 0) = false := decide_eq_false (by omega)
    have e7n : ¬ (df : Int) < 0 := by omega
    have e2m : ¬ sx < sl := by have := KM.s1; omega
    have e2d : decide (sx < sl) = false := decide_eq_false e2m
    have e3m : ¬ sx < D.size := by have := KM.s2; omega
    have e3d : decide (sx < D.size) = false := decide_eq_false e3m
    have e4m : ¬ sd < sx := by have := KM.s3; omega
    have e4d : decide (sd < sx) = false := decide_eq_false e4m
    have e5m : ¬ D.size < df := by have := KM.dif; omega
    have e5d : decide (D.size < df) = false := decide_eq_false e5m
    have w1 : IntKind.i64.wrap ((sl : Int) + (D.size : Int)) = (sd : Int) := by rw [IntKind.wrap_i64] <;> omega
    have e8 : sl ≤ 300 := by omega
    have e9 : D.size ≤ 200 := by omega
    have hn40 : n ≤ 40 := by omega
    have e10 : sx ≤ 500 := by have := KM.s3; omega
    have HVX := Lib.hid (fun (A1 : Option Addr) (c1 : Nat) (h0 : A1 = none → c1 = 0) (W : World) (hW : T W) (h : RowL EPc W A1 ls) => show Calls Try.prog 18 #[.slice A1 m c1] W fun e w' => e = .returned (.bool true) ∧ Below W.heap.size W w' from by
      have := H.val ls A1 c1 W hW h h0 (by have := KM.few; omega) (vld_wf KM.vld (by have := KM.s3; omega))
      rw [decide_eq_true KM.vld] at this
      rw [hmm]
      exact this)
    have HSX := Lib.hid (fun (A1 : Option Addr) (c1 : Nat) (h0 : A1 = none → c1 = 0) (W : World) (hW : T W) (h : RowL EPc W A1 ls) => show Calls Try.prog 23 #[.slice A1 m c1] W fun e w' => e = .returned (.int .i64 (sx : Int)) ∧ Below W.heap.size W w' from by rw [hmm, hsx]; exact H.siz ls A1 c1 W hW h h0 (by have := KM.few; omega) KM.vld (by omega))
    have HSL := Lib.hid (fun (W : World) (hW : T W) (h : RowL EPc W A l) => show Calls Try.prog 23 #[.slice A n c] W fun e w' => e = .returned (.int .i64 (sl : Int)) ∧ Below W.heap.size W w' from by rw [hn, hsl]; exact H.siz l A c W hW h hA (by omega) hv' (by omega))
    obtain ⟨q, hq⟩ : ∃ q, q = str (takL ls a) := ⟨_, rfl⟩
    have HTK := Lib.hid (fun (A1 : Option Addr) (c1 : Nat) (h0 : A1 = none → c1 = 0) (W : World) (hW : T W) (h : RowL EPc W A1 ls) => show Calls Try.prog 19 #[.slice A1 m c1, .int .i64 a] W fun e w' => ∃ A3 n3 c3, e = .returned (.tuple #[.string q, .slice A3 n3 c3]) ∧ Below W.heap.size W w' from by
      rw [hmm, hq]
      exact (H.tak ls A1 c1 a W hW h h0 (by have := KM.few; omega) KM.vld (by omega) x1).mono fun e w' ⟨A, c, h1, _, _, h4⟩ => ⟨A, _, c, h1, h4⟩)
    have HNEW := Lib.hid (show 0 < D.size → D.size ≤ q.size from fun h => by
      rw [hq, str_size, hDs]
      exact KM.new (by intro e; rw [e] at hDs; simp only [List.length_nil] at hDs; omega))
    have HLAST := Lib.hid (show 0 < D.size → pol = 2 → q.extract 0 D.size = D from fun h h2 => by
      obtain ⟨r, hr⟩ := KM.last (by intro e; rw [e] at hDs; simp only [List.length_nil] at hDs; omega) h2
      rw [hq, hr, hD]
      exact str_pre15)
    have HQL := Lib.hid (show q.size ≤ 1000 from by rw [hq, str_size]; exact Nat.le_trans (takL_size KM.vld _) (by omega))
    have HOLDG := Lib.hid (fun (A1 : Option Addr) (c1 : Nat) (h0 : A1 = none → c1 = 0) (hpp : pol = 1 ∨ pol = 5) (W : World) (hW : T W) (i : Nat) (x : PcR) (hx : l[i]? = some x) (h : RowL EPc W A1 ls) => show Calls Try.prog 19 #[.slice A1 m c1, .int .i64 x.at_] W fun e w' => ∃ q A3 n3 c3, e = .returned (.tuple #[.string q, .slice A3 n3 c3]) ∧ Hid ((str x.dat).size ≤ q.size ∧ q.extract 0 (str x.dat).size = str x.dat ∧ q.size ≤ 1000) ∧ Below W.heap.size W w' from by
      rw [hmm]
      have hxm := List.mem_of_getElem? hx
      refine (H.tak ls A1 c1 x.at_ W hW h h0 (by have := KM.few; omega) KM.vld (by omega) (hf x hxm).1).mono fun e w' ⟨A, c, h1, _, _, h4⟩ => ⟨_, A, _, c, h1, Lib.hid ?_, h4⟩
      obtain ⟨r, hr⟩ := KM.old hpp x hxm
      have hts := takL_size KM.vld x.at_
      rw [str_size, str_size]
      refine ⟨by rw [hr, List.length_append]; omega, ?_, by omega⟩
      rw [← str_size, hr]
      exact str_pre15)
    have HN := Lib.hid hn
    clear f1 hmm hV hv hv' hlong hl40 hz300 KM hsx hsl hsd hq hr hA hm hf hn hD hDs x1 x2 x3 x4 hp hT
    have ex : gx = w.heap.size := by exact hgx
    have HW0 := Lib.hid hW0
    have Ex := Lib.hid ex
    clear hW0 hgx ex bx px
    go_enter Try.func7, Try.ntmps7
    go_upto_region 1 with fail
    rw [← HW0.out, ← Ex.out]
    clear HW0 Ex
    go_wp2_with fail
    refine (HL.out _ K0.out).mono ?_
    rintro e w1 ⟨rfl, hb⟩
    clear HL
    have Px1 := Lib.hid (Cells.kept Px0.out hb Px0.out.lt)
    have Rl1 := Lib.hid (Rl0.out.kept hb)
    have K1 := Lib.hid (HK.out _ _ K0.out hb)
    have B1 := Lib.hid (B0.out.trans (hb.mono B0.out.size))
    clear hb Px0 Rl0 K0 B0
    go_wp2_with fail
    refine (HF.out _ Rl1.out).mono ?_
    rintro e w2 ⟨rfl, hb⟩
    clear HF
    have Px2 := Lib.hid (Cells.kept Px1.out hb Px1.out.lt)
    have Rl2 := Lib.hid (Rl1.out.kept hb)
    have K2 := Lib.hid (HK.out _ _ K1.out hb)
    have B2 := Lib.hid (B1.out.trans (hb.mono B1.out.size))
    clear hb Px1 Rl1 K1 B1
    have xx0 := (Cells.cell Px2.out 0).trans (show _ = some (Value.int .i64 a) from rfl)
    have xx1 := (Cells.cell Px2.out 1).trans (show _ = some (Value.string D) from rfl)
    have xx2 := (Cells.cell Px2.out 2).trans (show _ = some (Value.int .i64 pf) from rfl)
    have xx3 := (Cells.cell Px2.out 3).trans (show _ = some (Value.int .i64 pt) from rfl)
    go_wp2_with fail
    refine (HV.out _ K2.out Rl2.out).mono ?_
    rintro e w3 ⟨rfl, hb⟩
    clear HV xx0 xx1 xx2 xx3
    have Px3 := Lib.hid (Cells.kept Px2.out hb Px2.out.lt)
    have Rl3 := Lib.hid (Rl2.out.kept hb)
    have K3 := Lib.hid (HK.out _ _ K2.out hb)
    have B3 := Lib.hid (B2.out.trans (hb.mono B2.out.size))
    clear hb Px2 Rl2 K2 B2
    have xx0 := (Cells.cell Px3.out 0).trans (show _ = some (Value.int .i64 a) from rfl)
    have xx1 := (Cells.cell Px3.out 1).trans (show _ = some (Value.string D) from rfl)
    have xx2 := (Cells.cell Px3.out 2).trans (show _ = some (Value.int .i64 pf) from rfl)
    have xx3 := (Cells.cell Px3.out 3).trans (show _ = some (Value.int .i64 pt) from rfl)
    go_wp2_with fail
    refine (HI.out _ K3.out Rl3.out).mono ?_
    rintro e w4 ⟨A1, c1, rfl, hr1, N1, hb⟩
    have Ra4n := Lib.hid hr1
    clear HI xx0 xx1 xx2 xx3
    have Px4 := Lib.hid (Cells.kept Px3.out hb Px3.out.lt)
    have Rl4 := Lib.hid (Rl3.out.kept hb)
    have K4 := Lib.hid (HK.out _ _ K3.out hb)
    have B4 := Lib.hid (B3.out.trans (hb.mono B3.out.size))
    clear hb Px3 Rl3 K3 B3
    have Ra4 := Ra4n
    clear Ra4n hr1
    have HOLD := Lib.hid (HOLDG.out A1 c1 N1.out)
    clear HOLDG
    go_wp2_with fail
    refine wp_region_pick (fun w' => Below w4.heap.size w4 w') (by kernel_rfl) (by kernel_rfl) (Below.refl _ _) ⟨rfl, rfl, rfl, Nat.le_refl _, fun _ _ => rfl⟩ (fun pw hp hq => ?_)
    try dsimp only [List.append]
    have y0 := fun u => ((Cells.kept Px4.out (hp u) Px4.out.lt).cell 0).trans (show _ = some (Value.int .i64 a) from rfl)
    have y1 := fun u => ((Cells.kept Px4.out (hp u) Px4.out.lt).cell 1).trans (show _ = some (Value.string D) from rfl)
    have y2 := fun u => ((Cells.kept Px4.out (hp u) Px4.out.lt).cell 2).trans (show _ = some (Value.int .i64 pf) from rfl)
    have y3 := fun u => ((Cells.kept Px4.out (hp u) Px4.out.lt).cell 3).trans (show _ = some (Value.int .i64 pt) from rfl)
    have HKP := Lib.hid (fun u => HK.out _ _ K4.out (hp u))
    have HRA := Lib.hid (fun u => Ra4.out.kept (hp u))
    have HRL := Lib.hid (fun u => Rl4.out.kept (hp u))
    have HP := Lib.hid hp
    have HQ := Lib.hid hq
    clear hp hq
    repeat (go_big_quiet_step ((first | with_reducible exact Calls.pick_of HQ.out (fun W' hb => (HP.out _).trans (hb.mono (HP.out _).size)) (HVX.out _ _ N1.out _ (HKP.out _) (HRA.out _)) | with_reducible exact Calls.pick_of HQ.out (fun W' hb => (HP.out _).trans (hb.mono (HP.out _).size)) (HSX.out _ _ N1.out _ (HKP.out _) (HRA.out _)) | with_reducible exact Calls.pick_of HQ.out (fun W' hb => (HP.out _).trans (hb.mono (HP.out _).size)) (HSL.out _ (HKP.out _) (HRL.out _)))))
    refine wpQuiet_nil ?_
    rintro _ ⟨u, rfl⟩
    have hbu := HP.out u
    generalize pw u = w5 at *
    clear HP HQ HKP HRA HRL y0 y1 y2 y3 HVX HSX HSL
    have Px5 := Lib.hid (Cells.kept Px4.out hbu Px4.out.lt)
    have Rl5 := Lib.hid (Rl4.out.kept hbu)
    have Ra5 := Lib.hid (Ra4.out.kept hbu)
    have K5 := Lib.hid (HK.out _ _ K4.out hbu)
    have B5 := Lib.hid (B4.out.trans (hbu.mono B4.out.size))
    clear hbu Px4 Rl4 Ra4 K4 B4
    by_cases hD0 : 0 < D.size
    · have dD : decide ((0 : Int) < (D.size : Int)) = true := decide_eq_true (by omega)
      have nD : (0 : Int) < (D.size : Int) := by omega
      have xx0 := (Cells.cell Px5.out 0).trans (show _ = some (Value.int .i64 a) from rfl)
      have xx1 := (Cells.cell Px5.out 1).trans (show _ = some (Value.string D) from rfl)
      have xx2 := (Cells.cell Px5.out 2).trans (show _ = some (Value.int .i64 pf) from rfl)
      have xx3 := (Cells.cell Px5.out 3).trans (show _ = some (Value.int .i64 pt) from rfl)
      go_wp2_with fail
      refine (HTK.out _ _ N1.out _ K5.out Ra5.out).mono ?_
      rintro e w6 ⟨A3, n3, c3, rfl, hb⟩
      clear HTK xx0 xx1 xx2 xx3
      have Px6 := Lib.hid (Cells.kept Px5.out hb Px5.out.lt)
      have Rl6 := Lib.hid (Rl5.out.kept hb)
      have Ra6 := Lib.hid (Ra5.out.kept hb)
      have K6 := Lib.hid (HK.out _ _ K5.out hb)
      have B6 := Lib.hid (B5.out.trans (hb.mono B5.out.size))
      clear hb Px5 Rl5 Ra5 K5 B5
      have HTK := Lib.hid trivial
      have g1 := HNEW.out hD0
      have g2 := HQL.out
      have g3 : decide ((q.size : Int) < (D.size : Int)) = false := by simp; omega
      have g4 : ¬ (q.size : Int) < (D.size : Int) := by omega
      have g7 : ¬ q.size < D.size := by omega
      have g8 : decide (q.size < D.size) = false := decide_eq_false g7
      have xx0 := (Cells.cell Px6.out 0).trans (show _ = some (Value.int .i64 a) from rfl)
      have xx1 := (Cells.cell Px6.out 1).trans (show _ = some (Value.string D) from rfl)
      have xx2 := (Cells.cell Px6.out 2).trans (show _ = some (Value.int .i64 pf) from rfl)
      have xx3 := (Cells.cell Px6.out 3).trans (show _ = some (Value.int .i64 pt) from rfl)
      by_cases h2 : pol = 2
      · have g5 := HLAST.out hD0 h2
        have g6 : (D.toList != D.toList) = false := by simp
        have p2 : (pol == 2) = true := by subst h2; rfl
        have p5 : (pol != 5) = true := by subst h2; rfl
        have p1 : (pol != 1) = true := by subst h2; rfl
        clear h2 HLAST HNEW HQL HOLD HTK
        go_wp2_with fail
        go_quiet (fail)
        go_wp2_with fail
        go_ret
        exact ⟨rfl, below_drewN B6.out _⟩
      have p2 : (pol == 2) = false := by simpa using h2
      have n2 : ¬ pol = 2 := h2
      have n2' : ¬ 2 = pol := fun e => h2 e.symm
      clear h2 HLAST HNEW HQL e1 e1b e2 e2n e3 e3n e4 e4n e5 e5n e6 e6n e7 e7n e2m e2d e3m e3d e4m e4d e5m e5d w1
      go_wp2_with fail
      go_big_quiet (fail)
      have hbu := below_drewN (Below.refl w6.heap.size w6) nq
      generalize w6.drewN nq = w7 at *
      have Px7 := Lib.hid (Cells.kept Px6.out hbu Px6.out.lt)
      have Rl7 := Lib.hid (Rl6.out.kept hbu)
      have Ra7 := Lib.hid (Ra6.out.kept hbu)
      have K7 := Lib.hid (HK.out _ _ K6.out hbu)
      have B7 := Lib.hid (B6.out.trans (hbu.mono B6.out.size))
      clear hbu Px6 Rl6 Ra6 K6 B6
      by_cases h : pol = 5
      · have p5 : (pol != 5) = false := by subst h; rfl
        have HTL := Lib.hid (HOLD.out (.inr h))
        clear h HOLD HTK
        go_wp2_with fail
        go_loopw [12] (fun v12 wr => ∃ i : Nat, v12 = .int .i64 (i : Int) ∧ i ≤ n ∧ Hid (Below w7.heap.size w7 wr)) (fun v12 _ => n - (intOf v12).toNat)
        case atStart => exact ⟨0, rfl, Nat.zero_le _, Lib.hid (Below.refl _ _)⟩
        case round =>
          obtain ⟨i, rfl, hi, HB⟩ := hrel
          have HTW := Lib.hid (HK.out _ _ K7.out HB.out)
          by_cases hlt : i < n
          · have hki : (i : Int) < (n : Int) := by omega
            have hki0 : (0 : Int) ≤ (i : Int) := by omega
            have dlt : decide ((i : Int) < (n : Int)) = true := by simp; omega
            obtain ⟨x, hget⟩ : ∃ x, l[i]? = some x := ⟨l[i]'(by have := HN.out; omega), List.getElem?_eq_getElem _⟩
            obtain ⟨ga, ob, rfl, hga⟩ := Rl7.out.shapeA (by have := HN.out; omega)
            have HCELLS := Lib.hid (fun (W : World) (hb : Below w7.heap.size w7 W) => pc_at Rl7.out hget hb)
            have HCALL := Lib.hid (HTL.out wr HTW.out i x hget (Ra7.out.kept HB.out))
            have HBS := Lib.hid HB.out.size
            obtain ⟨DX, hDX⟩ : ∃ D, D = str x.dat := ⟨_, rfl⟩
            rw [← hDX] at HCALL HCELLS
            obtain ⟨c0, c1, c2, c3⟩ := HCELLS.out _ HB.out
            clear hget hDX
            generalize x.at_ = xa at *
            generalize x.fr = xf at *
            generalize x.to_ = xt at *
            go_wp2_with fail
            refine HCALL.out.mono ?_
            rintro e w99 ⟨qx, A9, n9, c9, rfl, HQX, hb9⟩
            have HB9 := Lib.hid (HB.out.trans (hb9.mono HBS.out))
            clear hb9 HCALL HB c0 c1 c2 c3
            obtain ⟨c0, c1, c2, c3⟩ := HCELLS.out _ HB9.out
            obtain ⟨q1, q2, q3⟩ := HQX.out
            have q4 : decide ((qx.size : Int) < (DX.size : Int)) = false := by simp; omega
            have q5 : ¬ (qx.size : Int) < (DX.size : Int) := by omega
            have q7 : ¬ qx.size < DX.size := by omega
            have q8 : decide (qx.size < DX.size) = false := decide_eq_false q7
            have q6 : (DX.toList != DX.toList) = false := by simp
            clear HCELLS HQX HBS
            go_wp2_with fail
            go_big_quiet (fail)
            go_wp2_with fail
            go_roundw
            case rel => exact ⟨i + 1, by go_num, by omega, Lib.hid (below_drewN HB9.out _)⟩
            case measure => simp [intOf]; omega
          · obtain rfl : i = n := by omega
            have dlt : decide ((i : Int) < (i : Int)) = false := by simp
            have nlt : ¬ (i : Int) < (i : Int) := by omega
            have HBZ := Lib.hid (B7.out.trans (HB.out.mono B7.out.size))
            clear HB
            go_wp2_with fail
            go_ret
            exact ⟨rfl, HBZ.out⟩
      have n5 := h
      clear h
      by_cases h : pol = 1
      · have p5 : (pol != 5) = true := by subst h; rfl
        have p1 : (pol != 1) = false := by subst h; rfl
        have HTL := Lib.hid (HOLD.out (.inl h))
        clear h HOLD HTK
        go_wp2_with fail
        go_loopw [12] (fun v12 wr => ∃ i : Nat, v12 = .int .i64 (i : Int) ∧ i ≤ n ∧ Hid (Below w7.heap.size w7 wr)) (fun v12 _ => n - (intOf v12).toNat)
        case atStart => exact ⟨0, rfl, Nat.zero_le _, Lib.hid (Below.refl _ _)⟩
        case round =>
          obtain ⟨i, rfl, hi, HB⟩ := hrel
          have HTW := Lib.hid (HK.out _ _ K7.out HB.out)
          by_cases hlt : i < n
          · have hki : (i : Int) < (n : Int) := by omega
            have hki0 : (0 : Int) ≤ (i : Int) := by omega
            have dlt : decide ((i : Int) < (n : Int)) = true := by simp; omega
            obtain ⟨x, hget⟩ : ∃ x, l[i]? = some x := ⟨l[i]'(by have := HN.out; omega), List.getElem?_eq_getElem _⟩
            obtain ⟨ga, ob, rfl, hga⟩ := Rl7.out.shapeA (by have := HN.out; omega)
            have HCELLS := Lib.hid (fun (W : World) (hb : Below w7.heap.size w7 W) => pc_at Rl7.out hget hb)
            have HCALL := Lib.hid (HTL.out wr HTW.out i x hget (Ra7.out.kept HB.out))
            have HBS := Lib.hid HB.out.size
            obtain ⟨DX, hDX⟩ : ∃ D, D = str x.dat := ⟨_, rfl⟩
            rw [← hDX] at HCALL HCELLS
            obtain ⟨c0, c1, c2, c3⟩ := HCELLS.out _ HB.out
            clear hget hDX
            generalize x.at_ = xa at *
            generalize x.fr = xf at *
            generalize x.to_ = xt at *
            go_wp2_with fail
            refine HCALL.out.mono ?_
            rintro e w99 ⟨qx, A9, n9, c9, rfl, HQX, hb9⟩
            have HB9 := Lib.hid (HB.out.trans (hb9.mono HBS.out))
            clear hb9 HCALL HB c0 c1 c2 c3
            obtain ⟨c0, c1, c2, c3⟩ := HCELLS.out _ HB9.out
            obtain ⟨q1, q2, q3⟩ := HQX.out
            have q4 : decide ((qx.size : Int) < (DX.size : Int)) = false := by simp; omega
            have q5 : ¬ (qx.size : Int) < (DX.size : Int) := by omega
            have q7 : ¬ qx.size < DX.size := by omega
            have q8 : decide (qx.size < DX.size) = false := decide_eq_false q7
            have q6 : (DX.toList != DX.toList) = false := by simp
            clear HCELLS HQX HBS
            go_wp2_with fail
            go_big_quiet (fail)
            go_wp2_with fail
            go_roundw
            case rel => exact ⟨i + 1, by go_num, by omega, Lib.hid (below_drewN HB9.out _)⟩
            case measure => simp [intOf]; omega
          · obtain rfl : i = n := by omega
            have dlt : decide ((i : Int) < (i : Int)) = false := by simp
            have nlt : ¬ (i : Int) < (i : Int) := by omega
            have HBZ := Lib.hid (B7.out.trans (HB.out.mono B7.out.size))
            clear HB
            go_wp2_with fail
            go_ret
            exact ⟨rfl, HBZ.out⟩
      have n1 := h
      clear h
      have p5 : (pol != 5) = true := by simpa using n5
      have p1 : (pol != 1) = true := by simpa using n1
      clear HOLD HTK
      go_wp2_with fail
      go_ret
      exact ⟨rfl, B7.out⟩
    have dD : decide ((0 : Int) < (D.size : Int)) = false := decide_eq_false (by omega)
    have nD : ¬ (0 : Int) < (D.size : Int) := by omega
    clear hD0 HLAST HNEW HQL
    have xx0 := (Cells.cell Px5.out 0).trans (show _ = some (Value.int .i64 a) from rfl)
    have xx1 := (Cells.cell Px5.out 1).trans (show _ = some (Value.string D) from rfl)
    have xx2 := (Cells.cell Px5.out 2).trans (show _ = some (Value.int .i64 pf) from rfl)
    have xx3 := (Cells.cell Px5.out 3).trans (show _ = some (Value.int .i64 pt) from rfl)
    by_cases h : pol = 5
    · have p5 : (pol != 5) = false := by subst h; rfl
      have HTL := Lib.hid (HOLD.out (.inr h))
      clear h HOLD HTK
      go_wp2_with fail
      go_loopw [12] (fun v12 wr => ∃ i : Nat, v12 = .int .i64 (i : Int) ∧ i ≤ n ∧ Hid (Below w5.heap.size w5 wr)) (fun v12 _ => n - (intOf v12).toNat)
      case atStart => exact ⟨0, rfl, Nat.zero_le _, Lib.hid (Below.refl _ _)⟩
      case round =>
        obtain ⟨i, rfl, hi, HB⟩ := hrel
        have HTW := Lib.hid (HK.out _ _ K5.out HB.out)
        by_cases hlt : i < n
        · have hki : (i : Int) < (n : Int) := by omega
          have hki0 : (0 : Int) ≤ (i : Int) := by omega
          have dlt : decide ((i : Int) < (n : Int)) = true := by simp; omega
          obtain ⟨x, hget⟩ : ∃ x, l[i]? = some x := ⟨l[i]'(by have := HN.out; omega), List.getElem?_eq_getElem _⟩
          obtain ⟨ga, ob, rfl, hga⟩ := Rl5.out.shapeA (by have := HN.out; omega)
          have HCELLS := Lib.hid (fun (W : World) (hb : Below w5.heap.size w5 W) => pc_at Rl5.out hget hb)
          have HCALL := Lib.hid (HTL.out wr HTW.out i x hget (Ra5.out.kept HB.out))
          have HBS := Lib.hid HB.out.size
          obtain ⟨DX, hDX⟩ : ∃ D, D = str x.dat := ⟨_, rfl⟩
          rw [← hDX] at HCALL HCELLS
          obtain ⟨c0, c1, c2, c3⟩ := HCELLS.out _ HB.out
          clear hget hDX
          generalize x.at_ = xa at *
          generalize x.fr = xf at *
          generalize x.to_ = xt at *
          go_wp2_with fail
          refine HCALL.out.mono ?_
          rintro e w99 ⟨qx, A9, n9, c9, rfl, HQX, hb9⟩
          have HB9 := Lib.hid (HB.out.trans (hb9.mono HBS.out))
          clear hb9 HCALL HB c0 c1 c2 c3
          obtain ⟨c0, c1, c2, c3⟩ := HCELLS.out _ HB9.out
          obtain ⟨q1, q2, q3⟩ := HQX.out
          have q4 : decide ((qx.size : Int) < (DX.size : Int)) = false := by simp; omega
          have q5 : ¬ (qx.size : Int) < (DX.size : Int) := by omega
          have q7 : ¬ qx.size < DX.size := by omega
          have q8 : decide (qx.size < DX.size) = false := decide_eq_false q7
          have q6 : (DX.toList != DX.toList) = false := by simp
          clear HCELLS HQX HBS
          go_wp2_with fail
          go_big_quiet (fail)
          go_wp2_with fail
          go_roundw
          case rel => exact ⟨i + 1, by go_num, by omega, Lib.hid (below_drewN HB9.out _)⟩
          case measure => simp [intOf]; omega
        · obtain rfl : i = n := by omega
          have dlt : decide ((i : Int) < (i : Int)) = false := by simp
          have nlt : ¬ (i : Int) < (i : Int) := by omega
          have HBZ := Lib.hid (B5.out.trans (HB.out.mono B5.out.size))
          clear HB
          go_wp2_with fail
          go_ret
          exact ⟨rfl, HBZ.out⟩
    have n5 := h
    clear h
    by_cases h : pol = 1
    · have p5 : (pol != 5) = true := by subst h; rfl
      have p1 : (pol != 1) = false := by subst h; rfl
      have HTL := Lib.hid (HOLD.out (.inl h))
      clear h HOLD HTK
      go_wp2_with fail
      go_loopw [12] (fun v12 wr => ∃ i : Nat, v12 = .int .i64 (i : Int) ∧ i ≤ n ∧ Hid (Below w5.heap.size w5 wr)) (fun v12 _ => n - (intOf v12).toNat)
      case atStart => exact ⟨0, rfl, Nat.zero_le _, Lib.hid (Below.refl _ _)⟩
      case round =>
        obtain ⟨i, rfl, hi, HB⟩ := hrel
        have HTW := Lib.hid (HK.out _ _ K5.out HB.out)
        by_cases hlt : i < n
        · have hki : (i : Int) < (n : Int) := by omega
          have hki0 : (0 : Int) ≤ (i : Int) := by omega
          have dlt : decide ((i : Int) < (n : Int)) = true := by simp; omega
          obtain ⟨x, hget⟩ : ∃ x, l[i]? = some x := ⟨l[i]'(by have := HN.out; omega), List.getElem?_eq_getElem _⟩
          obtain ⟨ga, ob, rfl, hga⟩ := Rl5.out.shapeA (by have := HN.out; omega)
          have HCELLS := Lib.hid (fun (W : World) (hb : Below w5.heap.size w5 W) => pc_at Rl5.out hget hb)
          have HCALL := Lib.hid (HTL.out wr HTW.out i x hget (Ra5.out.kept HB.out))
          have HBS := Lib.hid HB.out.size
          obtain ⟨DX, hDX⟩ : ∃ D, D = str x.dat := ⟨_, rfl⟩
          rw [← hDX] at HCALL HCELLS
          obtain ⟨c0, c1, c2, c3⟩ := HCELLS.out _ HB.out
          clear hget hDX
          generalize x.at_ = xa at *
          generalize x.fr = xf at *
          generalize x.to_ = xt at *
          go_wp2_with fail
          refine HCALL.out.mono ?_
          rintro e w99 ⟨qx, A9, n9, c9, rfl, HQX, hb9⟩
          have HB9 := Lib.hid (HB.out.trans (hb9.mono HBS.out))
          clear hb9 HCALL HB c0 c1 c2 c3
          obtain ⟨c0, c1, c2, c3⟩ := HCELLS.out _ HB9.out
          obtain ⟨q1, q2, q3⟩ := HQX.out
          have q4 : decide ((qx.size : Int) < (DX.size : Int)) = false := by simp; omega
          have q5 : ¬ (qx.size : Int) < (DX.size : Int) := by omega
          have q7 : ¬ qx.size < DX.size := by omega
          have q8 : decide (qx.size < DX.size) = false := decide_eq_false q7
          have q6 : (DX.toList != DX.toList) = false := by simp
          clear HCELLS HQX HBS
          go_wp2_with fail
          go_big_quiet (fail)
          go_wp2_with fail
          go_roundw
          case rel => exact ⟨i + 1, by go_num, by omega, Lib.hid (below_drewN HB9.out _)⟩
          case measure => simp [intOf]; omega
        · obtain rfl : i = n := by omega
          have dlt : decide ((i : Int) < (i : Int)) = false := by simp
          have nlt : ¬ (i : Int) < (i : Int) := by omega
          have HBZ := Lib.hid (B5.out.trans (HB.out.mono B5.out.size))
          clear HB
          go_wp2_with fail
          go_ret
          exact ⟨rfl, HBZ.out⟩
    have n1 := h
    clear h
    have p5 : (pol != 5) = true := by simpa using n5
    have p1 : (pol != 1) = true := by simpa using n1
    clear HOLD HTK
    go_wp2_with fail
    go_ret
    exact ⟨rfl, B5.out⟩
end Go.Proofs.Ytafpmlikocchpaa
