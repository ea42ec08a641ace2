/- Contracts of the functions, part 23: VWins, OvPMath. -/
import Derived.Deep.Cut
import Derived.Deep.WholeRow
import Derived.Test.YtafpmlikocchpaaPA6
import Derived.Test.YtafpmlikocchpaaPA21
import Derived.Test.YtafpmlikocchpaaPA22
/- OverlapWins: the walk, over the bundle P15. -/
namespace Go.Proofs.Ytafpmlikocchpaa
open Go.ChangeShapes Go.WideShapes Go.ChangeAt Go.RowKit
set_option linter.unusedVariables false
set_option maxRecDepth 100000

set_option maxHeartbeats 8000000 in
set_option maxRecDepth 100000 in
theorem walkW15 {T : World → Prop} (H : P15 T) (pol : Int) (x y : PcR) (w : World) (hT : T w) (hp : (Lit.int .i64 pol).wf = true) (hx : pcWf x) (hy : pcWf y) :
    Calls Try.prog 3 #[.int .i64 pol, .agg (pcC x), .agg (pcC y)] w fun e w' => e = .returned (.bool true) ∧ Below w.heap.size w w' := by
  obtain ⟨a1, d1, f1, t1⟩ := x
  obtain ⟨a2, d2, f2, t2⟩ := y
  obtain ⟨x1, x2, x3, x4⟩ := hx
  obtain ⟨y1, y2, y3, y4⟩ := hy
  unfold pcC
  dsimp only at x1 x2 x3 x4 y1 y2 y3 y4 ⊢
  obtain ⟨D1, hD1⟩ : ∃ Y, Y = str d1 := ⟨_, rfl⟩
  obtain ⟨D2, hD2⟩ : ∃ Y, Y = str d2 := ⟨_, rfl⟩
  rw [← hD1, ← hD2]
  obtain ⟨q, hq⟩ : ∃ q, q = winsB pol f1 t1 f2 t2 := ⟨_, rfl⟩
  have H1 := Lib.hid (fun (W : World) (hW : T W) => show Calls Try.prog 10 #[.int .i64 pol, .agg #[.int .i64 a1, .string D1, .int .i64 f1, .int .i64 t1], .agg #[.int .i64 a2, .string D2, .int .i64 f2, .int .i64 t2]] W fun e w' => e = .returned (.bool q) ∧ Below W.heap.size W w' from by
    rw [hq]
    exact H.win pol a1 f1 t1 a2 f2 t2 D1 D2 W hW hp x1 x2 x3 y1 y2 y3 (by rw [hD1, str_size]; exact x4) (by rw [hD2, str_size]; exact y4))
  have H2 := Lib.hid (fun (W : World) => show Calls Try.prog 11 #[.int .i64 pol, .agg #[.int .i64 a1, .string D1, .int .i64 f1, .int .i64 t1], .agg #[.int .i64 a2, .string D2, .int .i64 f2, .int .i64 t2]] W fun e w' => e = .returned (.bool q) ∧ Below W.heap.size W w' from by
    rw [hq]
    exact rwins15_any pol a1 f1 t1 a2 f2 t2 D1 D2 W)
  have hqq : (q == q) = true := beq_self_eq_true _
  obtain ⟨V0, hV0⟩ : ∃ W, W = w.alloc (.cells #[.int .i64 a1, .string D1, .int .i64 f1, .int .i64 t1] 23) := ⟨_, rfl⟩
  obtain ⟨gx, hgx⟩ : ∃ g, g = w.heap.size := ⟨_, rfl⟩
  have bx : Below w.heap.size w V0 := by rw [hV0]; exact below_alloc6 w _
  have px : Cells V0 gx 23 #[.int .i64 a1, .string D1, .int .i64 f1, .int .i64 t1] := by rw [hV0, hgx]; exact heap_alloc_new w _
  obtain ⟨W0, hW0⟩ : ∃ W, W = V0.alloc (.cells #[.int .i64 a2, .string D2, .int .i64 f2, .int .i64 t2] 23) := ⟨_, rfl⟩
  obtain ⟨gz, hgz⟩ : ∃ g, g = V0.heap.size := ⟨_, rfl⟩
  have bz : Below V0.heap.size V0 W0 := by rw [hW0]; exact below_alloc6 V0 _
  have pz : Cells W0 gz 23 #[.int .i64 a2, .string D2, .int .i64 f2, .int .i64 t2] := by rw [hW0, hgz]; exact heap_alloc_new V0 _
  have B0 := Lib.hid (show Below w.heap.size w W0 from (bx.trans (bz.mono bx.size)))
  have Px0 := Lib.hid (show Cells W0 gx 23 #[.int .i64 a1, .string D1, .int .i64 f1, .int .i64 t1] from (Cells.kept px bz px.lt))
  have Pz0 := Lib.hid (show Cells W0 gz 23 #[.int .i64 a2, .string D2, .int .i64 f2, .int .i64 t2] from pz)
  have HK := Lib.hid H.keep
  have HL := Lib.hid (fun (W : World) (hW : T W) => awk15 H W hW)
  have K0 := Lib.hid (H.keep w W0 hT B0.out)
  clear hq hD1 hD2 hp x1 x2 x3 x4 y1 y2 y3 y4 hT
  have ex : gx = w.heap.size := by exact hgx
  have ez : gz = w.heap.size + 1 := by rw [hgz, hV0]; simp
  have HV0 := Lib.hid hV0
  have HW0 := Lib.hid hW0
  have Ex := Lib.hid ex
  have Ez := Lib.hid ez
  clear hV0 hW0 hgx ex bx px hgz ez bz pz
  go_enter Try.func3, Try.ntmps3
  go_upto_region 1 with fail
  rw [← HV0.out, ← HW0.out, ← Ez.out, ← Ex.out]
  clear HV0 HW0 Ex Ez
  refine wp_region_pick (fun w' => Below W0.heap.size W0 w') (by kernel_rfl) (by kernel_rfl) (Below.refl _ _) ⟨rfl, rfl, rfl, Nat.le_refl _, fun _ _ => rfl⟩ (fun pw hp hq => ?_)
  have y0 := fun u => ((Cells.kept Px0.out (hp u) Px0.out.lt).cell 0).trans (show _ = some (Value.int .i64 a1) from rfl)
  have y1 := fun u => ((Cells.kept Px0.out (hp u) Px0.out.lt).cell 1).trans (show _ = some (Value.string D1) from rfl)
  have y2 := fun u => ((Cells.kept Px0.out (hp u) Px0.out.lt).cell 2).trans (show _ = some (Value.int .i64 f1) from rfl)
  have y3 := fun u => ((Cells.kept Px0.out (hp u) Px0.out.lt).cell 3).trans (show _ = some (Value.int .i64 t1) from rfl)
  have z0 := fun u => ((Cells.kept Pz0.out (hp u) Pz0.out.lt).cell 0).trans (show _ = some (Value.int .i64 a2) from rfl)
  have z1 := fun u => ((Cells.kept Pz0.out (hp u) Pz0.out.lt).cell 1).trans (show _ = some (Value.string D2) from rfl)
  have z2 := fun u => ((Cells.kept Pz0.out (hp u) Pz0.out.lt).cell 2).trans (show _ = some (Value.int .i64 f2) from rfl)
  have z3 := fun u => ((Cells.kept Pz0.out (hp u) Pz0.out.lt).cell 3).trans (show _ = some (Value.int .i64 t2) from rfl)
  have HKP := Lib.hid (fun u => HK.out _ _ K0.out (hp u))
  have HP := Lib.hid hp
  have HQ := Lib.hid hq
  clear hp hq
  repeat (go_big_quiet_step ((first | with_reducible exact Calls.pick_of HQ.out (fun W' hb => (HP.out _).trans (hb.mono (HP.out _).size)) (H1.out _ (HKP.out _)) | with_reducible exact Calls.pick_of HQ.out (fun W' hb => (HP.out _).trans (hb.mono (HP.out _).size)) (H2.out _) | with_reducible exact Calls.pick_of HQ.out (fun W' hb => (HP.out _).trans (hb.mono (HP.out _).size)) (HL.out _ (HKP.out _)))))
  refine wpQuiet_nil ?_
  rintro _ ⟨u, rfl⟩
  have BZ := Lib.hid (B0.out.trans ((HP.out u).mono B0.out.size))
  generalize pw u = w6 at *
  clear HP HQ HKP y0 y1 y2 y3 z0 z1 z2 z3
  go_wp2_with fail
  go_ret
  exact ⟨rfl, BZ.out⟩
end Go.Proofs.Ytafpmlikocchpaa

/- Plain mathematics of the program of layer 15: clipping, the parts that count, joining, counting. -/
namespace Go.Proofs.Ytafpmlikocchpaa
set_option linter.unusedVariables false
set_option maxRecDepth 100000

def endQ (x : PcR) : Int := x.at_ + x.dat.length
/-- The part of a piece between two offsets. -/
def clipP (x : PcR) (f t : Int) : PcR :=
  if min t (endQ x) ≤ max f x.at_ then ⟨0, [], 0, 0⟩ else ⟨max f x.at_, (x.dat.drop (max f x.at_ - x.at_).toNat).take (min t (endQ x) - max f x.at_).toNat, x.fr, x.to_⟩
theorem celF_fnd (fr to_ o : Int) : ∀ (b : List UInt8) (a : Int), fndC (celF fr to_ a b) o = if a ≤ o ∧ o < a + b.length then some ⟨o, b.getD (o - a).toNat 0, fr, to_⟩ else none := by
  intro b
  induction b with
  | nil => intro a; rw [if_neg (by simp)]; rfl
  | cons x r ih =>
    intro a
    show fndC (⟨a, x, fr, to_⟩ :: celF fr to_ (a + 1) r) o = _
    rw [fndC_cons, ih (a + 1)]
    simp only [List.length_cons]
    by_cases hq : a = o
    · subst hq
      rw [if_pos rfl, if_pos ⟨Int.le_refl _, by omega⟩, Int.sub_self]
      rfl
    · rw [if_neg hq]
      by_cases hr : a + 1 ≤ o ∧ o < a + 1 + r.length
      · rw [if_pos hr, if_pos ⟨by omega, by omega⟩]
        congr 2
        rw [show (o - a).toNat = (o - (a + 1)).toNat + 1 by omega]
        rfl
      · rw [if_neg hr, if_neg (by omega)]
theorem clip_len {x : PcR} {f t : Int} (h : ¬ min t (endQ x) ≤ max f x.at_) : (((x.dat.drop (max f x.at_ - x.at_).toNat).take (min t (endQ x) - max f x.at_).toNat).length : Int) = min t (endQ x) - max f x.at_ := by
  unfold endQ at h ⊢
  rw [List.length_take, List.length_drop]
  omega
theorem clip_fnd (x : PcR) (f t o : Int) : fndC (celP (clipP x f t)) o = if f ≤ o ∧ o < t then fndC (celP x) o else none := by
  have hx : fndC (celP x) o = if x.at_ ≤ o ∧ o < endQ x then some ⟨o, x.dat.getD (o - x.at_).toNat 0, x.fr, x.to_⟩ else none := celF_fnd x.fr x.to_ o x.dat x.at_
  rw [hx]
  unfold clipP
  split
  · rename_i h
    have : fndC (celP ⟨0, [], 0, 0⟩) o = none := rfl
    rw [this]
    split
    · rw [if_neg (by omega)]
    · rfl
  · rename_i h
    have hl := clip_len h
    show fndC (celF x.fr x.to_ (max f x.at_) _) o = _
    rw [celF_fnd, hl]
    by_cases hr : max f x.at_ ≤ o ∧ o < max f x.at_ + (min t (endQ x) - max f x.at_)
    · rw [if_pos hr, if_pos (by omega), if_pos (by omega)]
      congr 2
      rw [List.getD_eq_getElem?_getD, List.getD_eq_getElem?_getD, List.getElem?_take, if_pos (by omega), List.getElem?_drop]
      congr 2
      omega
    · rw [if_neg hr]
      split
      · rw [if_neg (by omega)]
      · rfl
theorem clip_mem {x : PcR} {f t : Int} {y : CeR} (h : y ∈ celP (clipP x f t)) : max f x.at_ ≤ y.at_ ∧ y.at_ < min t (endQ x) := by
  unfold clipP at h
  split at h
  · cases h
  · rename_i q
    obtain ⟨-, -, h3, h4⟩ := celF_mem h
    have hl := clip_len q
    dsimp only at h3 h4
    omega
theorem srtF_up {e : Int} : ∀ {l : List CeR}, (∃ e', srtF e' l) → (∀ y ∈ l, e ≤ y.at_) → srtF e l
  | [], _, _ => trivial
  | x :: r, ⟨e', h1, h2⟩, h => ⟨h x (List.mem_cons_self ..), h2⟩
theorem clip_srt {x : PcR} {f t e : Int} (h : e ≤ max f x.at_) : srtF e (celP (clipP x f t)) :=
  srtF_up ⟨_, celF_srt _ _ _ _⟩ (fun y hy => by have := clip_mem hy; omega)
theorem clip_ok {x : PcR} (h : okP x) (f t : Int) (hd : (clipP x f t).dat ≠ []) : okP (clipP x f t) := by
  revert hd
  obtain ⟨h1, h2, h3, h4, h5⟩ := h
  unfold clipP
  split
  · intro hd; exact absurd rfl hd
  · rename_i q
    intro hd
    have hl := clip_len q
    refine ⟨hd, h2, h3, ?_, ?_⟩
    · show x.fr ≤ max f x.at_; omega
    · show max f x.at_ + _ ≤ x.to_
      rw [hl]
      unfold endQ
      omega
/-! ### Pieces with bytes -/
def fillL (l : List PcR) : List PcR := l.filter (fun x => !x.dat.isEmpty)
theorem fill_cons (x : PcR) (r : List PcR) : fillL (x :: r) = if x.dat = [] then fillL r else x :: fillL r := by
  unfold fillL
  rw [List.filter_cons]
  cases h : x.dat with
  | nil => simp
  | cons _ _ => simp
theorem cels_fill : ∀ l : List PcR, cels (fillL l) = cels l
  | [] => rfl
  | x :: r => by
    rw [fill_cons, cels_cons]
    split
    · rename_i h
      rw [cels_fill r]
      unfold celP
      rw [h]
      rfl
    · rw [cels_cons, cels_fill r]
theorem fill_len (l : List PcR) : (fillL l).length ≤ l.length := List.length_filter_le ..
theorem fill_mem {l : List PcR} {x : PcR} (h : x ∈ fillL l) : x ∈ l ∧ x.dat ≠ [] := by
  unfold fillL at h
  rw [List.mem_filter] at h
  refine ⟨h.1, fun e => ?_⟩
  have := h.2
  rw [e] at this
  cases this
/-- Cutting, as the program does it. -/
theorem fill_cut (a : Int) : ∀ {l : List PcR}, (∀ x ∈ l, x.dat ≠ []) → fillL (l.map (fun x => clipP x a (endQ x))) = cutL l a
  | [], _ => rfl
  | x :: r, h => by
    have hx := h x (List.mem_cons_self ..)
    have hp : 0 < x.dat.length := List.length_pos_iff.2 hx
    rw [List.map_cons, fill_cons, fill_cut a (fun y hy => h y (List.mem_cons_of_mem _ hy)), cutL_cons]
    by_cases q1 : x.at_ + x.dat.length ≤ a
    · have e1 : clipP x a (endQ x) = ⟨0, [], 0, 0⟩ := by unfold clipP; rw [if_pos (by unfold endQ; omega)]
      have e2 : cutP a x = none := by unfold cutP; rw [if_pos q1]
      rw [e1, e2, if_pos rfl]
    · by_cases q2 : x.at_ < a
      · have e1 : clipP x a (endQ x) = ⟨a, x.dat.drop (a - x.at_).toNat, x.fr, x.to_⟩ := by
          unfold clipP
          rw [if_neg (by unfold endQ; omega), show max a x.at_ = a by omega, List.take_of_length_le (by unfold endQ; rw [List.length_drop]; omega)]
        have e2 : cutP a x = some ⟨a, x.dat.drop (a - x.at_).toNat, x.fr, x.to_⟩ := by unfold cutP; rw [if_neg q1, if_pos q2]
        rw [e1, e2, if_neg]
        intro e
        have := congrArg List.length e
        simp only [List.length_drop, List.length_nil] at this
        omega
      · have e1 : clipP x a (endQ x) = x := by
          unfold clipP
          rw [if_neg (by unfold endQ; omega), show max a x.at_ = x.at_ by omega, Int.sub_self]
          rw [show (0 : Int).toNat = 0 from rfl, List.drop_zero, List.take_of_length_le (by unfold endQ; omega)]
        have e2 : cutP a x = some x := by unfold cutP; rw [if_neg q1, if_neg q2]
        rw [e1, e2, if_neg hx]
/-! ### The parts of a buffer and a segment that count -/
def combP (pol : Int) (nx : PcR) (done : Int) (x : PcR) : List PcR :=
  [clipP nx done x.at_, clipP x x.at_ nx.at_, if winsB pol x.fr x.to_ nx.fr nx.to_ = true then clipP nx x.at_ (endQ x) else clipP x nx.at_ nx.to_, clipP x nx.to_ (endQ x)]
def combL (pol : Int) (nx : PcR) : Int → List PcR → List PcR
  | done, [] => [clipP nx done nx.to_]
  | done, x :: r => combP pol nx done x ++ combL pol nx (endQ x) r
theorem fndC_append (a b : List CeR) (o : Int) : fndC (a ++ b) o = match fndC a o with | some x => some x | none => fndC b o := by
  unfold fndC
  rw [List.find?_append]
  cases List.find? (fun y => y.at_ == o) a <;> rfl
theorem cels_append (a b : List PcR) : cels (a ++ b) = cels a ++ cels b := by unfold cels; rw [List.flatMap_append]
theorem comb_fnd (pol a : Int) (b : List UInt8) : ∀ (l : List PcR) (e done o : Int), vldF e l → (∀ p, a ≤ p → (done ≤ p ↔ e ≤ p)) →
    fndC (cels (combL pol ⟨a, b, a, a + b.length⟩ done l)) o = match (if done ≤ o then fndC (segC a b) o else none) with | some x => some (winC pol (fndC (cels l) o) x) | none => fndC (cels l) o
  | [], e, done, o, _, _ => by
    show fndC (celP (clipP ⟨a, b, a, a + b.length⟩ done (a + b.length)) ++ []) o = _
    rw [List.append_nil, clip_fnd]
    show (if done ≤ o ∧ o < a + b.length then fndC (segC a b) o else none) = _
    have hN := segC_fnd a b o
    by_cases h1 : done ≤ o
    · rw [if_pos h1]
      by_cases h2 : o < a + b.length
      · rw [if_pos ⟨h1, h2⟩]
        cases fndC (segC a b) o <;> rfl
      · rw [if_neg (fun h => h2 h.2), hN, if_neg (fun h => h2 h.2)]
        rfl
    · rw [if_neg h1, if_neg (fun h => h1 h.1)]
      rfl
  | x :: r, e, done, o, ⟨h1, h2, h3⟩, hd => by
    have ih := comb_fnd pol a b r (endQ x) (endQ x) o h3 (fun p _ => Iff.rfl)
    have hN := segC_fnd a b o
    have hX : fndC (celP x) o = if x.at_ ≤ o ∧ o < endQ x then some ⟨o, x.dat.getD (o - x.at_).toNat 0, x.fr, x.to_⟩ else none := celF_fnd x.fr x.to_ o x.dat x.at_
    have hR : o < endQ x → fndC (cels r) o = none := fun h => fndC_below (cels_srt h3) h
    have hp : 0 < x.dat.length := List.length_pos_iff.2 h1.1
    have hC : ∀ f t, fndC (celP (clipP ⟨a, b, a, a + b.length⟩ f t)) o = if f ≤ o ∧ o < t then fndC (segC a b) o else none := fun f t => clip_fnd _ f t o
    show fndC (cels (combP pol ⟨a, b, a, a + b.length⟩ done x ++ combL pol ⟨a, b, a, a + b.length⟩ (endQ x) r)) o = _
    rw [cels_append, fndC_append, ih, cels_cons, fndC_append]
    have hP : fndC (cels (combP pol ⟨a, b, a, a + b.length⟩ done x)) o = match (if done ≤ o ∧ o < x.at_ then fndC (segC a b) o else none) with
        | some y => some y
        | none => match (if x.at_ ≤ o ∧ o < a then fndC (celP x) o else none) with
          | some y => some y
          | none => match (if winsB pol x.fr x.to_ a (a + b.length) = true then (if x.at_ ≤ o ∧ o < endQ x then fndC (segC a b) o else none) else (if a ≤ o ∧ o < a + b.length then fndC (celP x) o else none)) with
            | some y => some y
            | none => if a + b.length ≤ o ∧ o < endQ x then fndC (celP x) o else none := by
      unfold combP
      rw [cels_cons, fndC_append, hC, cels_cons, fndC_append, clip_fnd, cels_cons, fndC_append, cels_cons, fndC_append, clip_fnd]
      have e3 : fndC (celP (if winsB pol x.fr x.to_ a (a + b.length) = true then clipP ⟨a, b, a, a + b.length⟩ x.at_ (endQ x) else clipP x a (a + b.length))) o = (if winsB pol x.fr x.to_ a (a + b.length) = true then (if x.at_ ≤ o ∧ o < endQ x then fndC (segC a b) o else none) else (if a ≤ o ∧ o < a + b.length then fndC (celP x) o else none)) := by
        split
        · rw [hC]
        · rw [clip_fnd]
      rw [e3]
      have e4 : fndC (cels []) o = none := rfl
      rw [e4]
      cases (if done ≤ o ∧ o < x.at_ then fndC (segC a b) o else none) with
      | some y => rfl
      | none =>
        cases (if x.at_ ≤ o ∧ o < a then fndC (celP x) o else none) with
        | some y => rfl
        | none =>
          cases (if winsB pol x.fr x.to_ a (a + b.length) = true then (if x.at_ ≤ o ∧ o < endQ x then fndC (segC a b) o else none) else (if a ≤ o ∧ o < a + b.length then fndC (celP x) o else none)) with
          | some y => rfl
          | none =>
            cases (if a + b.length ≤ o ∧ o < endQ x then fndC (celP x) o else none) <;> rfl
    rw [hP]
    clear hP ih hC
    rcases Int.lt_or_le o x.at_ with q | q
    · -- ahead of the piece
      have hX0 : fndC (celP x) o = none := by rw [hX, if_neg (by omega)]
      have hR0 := hR (by unfold endQ; omega)
      rw [hX0, hR0, if_neg (show ¬ (x.at_ ≤ o ∧ o < endQ x) by omega), if_neg (show ¬ endQ x ≤ o by unfold endQ; omega)]
      simp only [ite_self]
      by_cases h4 : done ≤ o
      · rw [if_pos ⟨h4, q⟩, if_pos h4]
        cases fndC (segC a b) o <;> rfl
      · rw [if_neg (fun h => h4 h.1), if_neg h4]
    · rcases Int.lt_or_le o (endQ x) with q2 | q2
      · -- within the piece
        have hR0 := hR q2
        obtain ⟨y, hy⟩ : ∃ y, fndC (celP x) o = some y ∧ y.fr = x.fr ∧ y.to_ = x.to_ := ⟨_, by rw [hX, if_pos ⟨q, q2⟩], rfl, rfl⟩
        obtain ⟨hy, hyf, hyt⟩ := hy
        rw [hy, hR0, if_neg (show ¬ (done ≤ o ∧ o < x.at_) by omega)]
        by_cases h4 : a ≤ o
        · have h5 : done ≤ o := (hd o h4).2 (by omega)
          rw [if_pos h5, if_neg (show ¬ (x.at_ ≤ o ∧ o < a) by omega), if_pos (show x.at_ ≤ o ∧ o < endQ x from ⟨q, q2⟩)]
          by_cases h6 : o < a + b.length
          · obtain ⟨nv, hnv, hnf, hnt⟩ : ∃ nv, fndC (segC a b) o = some nv ∧ nv.fr = a ∧ nv.to_ = a + b.length := ⟨_, by rw [hN, if_pos (show a ≤ o ∧ o < a + (b.length : Int) from ⟨h4, h6⟩)], rfl, rfl⟩
            rw [hnv, if_pos (show a ≤ o ∧ o < a + (b.length : Int) from ⟨h4, h6⟩)]
            have hw : winC pol (some y) nv = if winsB pol x.fr x.to_ a (a + b.length) = true then nv else y := by
              unfold winC
              simp only
              rw [hyf, hyt, hnf, hnt]
            by_cases h7 : winsB pol x.fr x.to_ a (a + b.length) = true
            · rw [if_pos h7]
              simp only
              rw [hw, if_pos h7]
            · rw [if_neg h7]
              simp only
              rw [hw, if_neg h7]
          · have hN0 : fndC (segC a b) o = none := by rw [hN, if_neg (fun h => h6 h.2)]
            rw [hN0, if_neg (show ¬ (a ≤ o ∧ o < a + (b.length : Int)) by omega), if_pos (show a + (b.length : Int) ≤ o ∧ o < endQ x by omega)]
            simp only [ite_self]
        · have hN0 : fndC (segC a b) o = none := by rw [hN, if_neg (fun h => h4 h.1)]
          rw [hN0, if_pos (show x.at_ ≤ o ∧ o < a by omega)]
          simp only [ite_self]
      · -- behind the piece
        have hX0 : fndC (celP x) o = none := by rw [hX, if_neg (by omega)]
        rw [hX0, if_neg (show ¬ (done ≤ o ∧ o < x.at_) by omega), if_neg (show ¬ (x.at_ ≤ o ∧ o < endQ x) by omega), if_pos q2]
        simp only [ite_self]
        by_cases h4 : done ≤ o
        · rw [if_pos h4]
        · rw [if_neg h4, hN, if_neg (fun h => h4 ((hd o h.1).2 (by unfold endQ at q2; omega)))]
theorem combP_srt {pol : Int} {nx x : PcR} {done e : Int} (hn : nx.at_ ≤ nx.to_) (hz : endQ nx = nx.to_) (he : e ≤ x.at_) (hd : e ≤ max done nx.at_) (hx : 0 ≤ (x.dat.length : Int)) {c : List CeR} (hc : srtF (endQ x) c) : srtF e (cels (combP pol nx done x) ++ c) := by
  have hxe : x.at_ ≤ endQ x := by unfold endQ; omega
  unfold combP
  rw [cels_cons, cels_cons, cels_cons, cels_cons]
  simp only [List.append_assoc]
  refine srtF_append (m := x.at_) (clip_srt hd) (fun y hy => by have := clip_mem hy; omega) he ?_
  refine srtF_append (m := max x.at_ (min nx.at_ (endQ x))) (clip_srt (by omega)) (fun y hy => by have := clip_mem hy; omega) (by omega) ?_
  have h3 : ∀ y ∈ celP (if winsB pol x.fr x.to_ nx.fr nx.to_ = true then clipP nx x.at_ (endQ x) else clipP x nx.at_ nx.to_), max nx.at_ x.at_ ≤ y.at_ ∧ y.at_ < endQ x ∧ y.at_ < nx.to_ := fun y hy => by
    split at hy
    · have := clip_mem hy; omega
    · have := clip_mem hy; omega
  refine srtF_append (m := max x.at_ (min nx.to_ (endQ x))) (srtF_up (by split <;> exact ⟨_, celF_srt _ _ _ _⟩) (fun y hy => by have := h3 y hy; omega)) (fun y hy => by have := h3 y hy; omega) (by omega) ?_
  exact srtF_append (m := endQ x) (srtF_up ⟨_, celF_srt _ _ _ _⟩ (fun y hy => by have := clip_mem hy; omega)) (fun y hy => by have := clip_mem hy; omega) (by omega) hc
theorem comb_srt {pol : Int} {nx : PcR} (hn : nx.at_ ≤ nx.to_) (hz : endQ nx = nx.to_) : ∀ (l : List PcR) (e done : Int), vldF e l → e ≤ max done nx.at_ → srtF e (cels (combL pol nx done l))
  | [], e, done, _, hd => by
    show srtF e (celP (clipP nx done nx.to_) ++ [])
    rw [List.append_nil]
    exact clip_srt hd
  | x :: r, e, done, ⟨h1, h2, h3⟩, hd => by
    show srtF e (cels (combP pol nx done x ++ combL pol nx (endQ x) r))
    rw [cels_append]
    exact combP_srt hn hz h2 hd (by omega) (comb_srt hn hz r (endQ x) (endQ x) h3 (by omega))
/-- THE PARTS THAT COUNT ARE THE CELLS AFTER THE SEGMENT CAME. -/
theorem comb_cels (pol : Int) {l : List PcR} (hv : vldL l) {a : Int} (h0 : 0 ≤ a) (b : List UInt8) : cels (combL pol ⟨a, b, a, a + b.length⟩ a l) = insC pol (cels l) (segC a b) := by
  obtain ⟨g1, g2⟩ := insC_fnd (pol := pol) (cels_srt hv) h0 b
  refine srt_ext (comb_srt (by show a ≤ a + (b.length : Int); omega) rfl l 0 a hv (by show (0 : Int) ≤ max a a; omega)) g1 (fun o => ?_)
  rw [comb_fnd pol a b l 0 a o hv (fun p hp => by omega), g2]
  have hN := segC_fnd a b o
  by_cases h : a ≤ o
  · rw [if_pos h]
    cases fndC (segC a b) o <;> rfl
  · rw [if_neg h, hN, if_neg (fun q => h q.1)]
theorem combP_ok {pol : Int} {nx x : PcR} (hn : okP nx) (hx : okP x) (done : Int) : ∀ y ∈ combP pol nx done x, y.dat ≠ [] → okP y := fun y hy hd => by
  unfold combP at hy
  simp only [List.mem_cons, List.not_mem_nil, or_false] at hy
  rcases hy with rfl | rfl | rfl | rfl
  · exact clip_ok hn _ _ hd
  · exact clip_ok hx _ _ hd
  · revert hd
    split
    · exact clip_ok hn _ _
    · exact clip_ok hx _ _
  · exact clip_ok hx _ _ hd
theorem comb_ok {pol : Int} {nx : PcR} (hn : okP nx) : ∀ (l : List PcR) (done : Int), (∀ x ∈ l, okP x) → ∀ y ∈ combL pol nx done l, y.dat ≠ [] → okP y
  | [], done, _, y, hy, hd => by
    obtain rfl := List.mem_singleton.1 hy
    exact clip_ok hn _ _ hd
  | x :: r, done, h, y, hy, hd => by
    rcases List.mem_append.1 hy with hy | hy
    · exact combP_ok hn (h x (List.mem_cons_self ..)) done y hy hd
    · exact comb_ok hn r (endQ x) (fun z hz => h z (List.mem_cons_of_mem _ hz)) y hy hd
theorem comb_len (pol : Int) (nx : PcR) : ∀ (l : List PcR) (done : Int), (combL pol nx done l).length = 4 * l.length + 1
  | [], _ => rfl
  | x :: r, done => by
    show (combP pol nx done x ++ combL pol nx (endQ x) r).length = _
    rw [List.length_append, comb_len pol nx r, List.length_cons]
    show 4 + _ = _
    omega
/-! ### Joining -/
def datL (l : List PcR) : List UInt8 := l.flatMap (fun x => x.dat)
theorem datL_len : ∀ l : List PcR, (datL l).length = sizeL l
  | [] => rfl
  | x :: r => by
    show (x.dat ++ datL r).length = _
    rw [List.length_append, datL_len r]
    rfl
theorem datL_append (a b : List PcR) : datL (a ++ b) = datL a ++ datL b := by unfold datL; rw [List.flatMap_append]
theorem datL_next {l : List PcR} {k : Nat} {x : PcR} (hx : l[k]? = some x) : datL (l.take (k + 1)) = datL (l.take k) ++ x.dat := by
  obtain ⟨hk, e⟩ := List.getElem?_eq_some_iff.1 hx
  rw [List.take_succ_eq_append_getElem hk, e, datL_append]
  congr 1
  show x.dat ++ [] = _
  rw [List.append_nil]
theorem cels_next {l : List PcR} {k : Nat} {x : PcR} (hx : l[k]? = some x) : cels (l.take (k + 1)) = cels (l.take k) ++ celP x := by
  obtain ⟨hk, e⟩ := List.getElem?_eq_some_iff.1 hx
  rw [List.take_succ_eq_append_getElem hk, e, cels_append]
  congr 1
  show celP x ++ [] = _
  rw [List.append_nil]
/-- The first n pieces of a list are one run of bytes of a segment, from the first one's place; the last one is y. -/
structure RunI (ps : List PcR) (x : PcR) (n : Nat) (y : PcR) : Prop where
  pos : 1 ≤ n
  len : n ≤ ps.length
  last : ps[n - 1]? = some y
  run : cels (ps.take n) = celF x.fr x.to_ x.at_ (datL (ps.take n))
  end_ : endQ y = x.at_ + (datL (ps.take n)).length
  ne : datL (ps.take n) ≠ []
theorem RunI.start {ps : List PcR} {x : PcR} (h : ps[0]? = some x) (hd : x.dat ≠ []) : RunI ps x 1 x := by
  obtain ⟨hk, e⟩ := List.getElem?_eq_some_iff.1 h
  have e1 := datL_next h
  have e2 := cels_next h
  have e3 : datL (ps.take 1) = x.dat := e1
  refine ⟨Nat.le_refl _, hk, h, ?_, by rw [e3]; rfl, by rw [e3]; exact hd⟩
  rw [e3]
  exact e2
theorem RunI.next {ps : List PcR} {x y z : PcR} {n : Nat} (h : RunI ps x n y) (hz : ps[n]? = some z) (ha : z.at_ = endQ y) (hf : z.fr = x.fr) (ht : z.to_ = x.to_) : RunI ps x (n + 1) z := by
  obtain ⟨hk, -⟩ := List.getElem?_eq_some_iff.1 hz
  refine ⟨by omega, hk, hz, ?_, ?_, ?_⟩
  · rw [cels_next hz, h.run, datL_next hz, celF_append]
    congr 1
    unfold celP
    rw [hf, ht, ha, h.end_]
  · rw [datL_next hz, List.length_append]
    unfold endQ
    rw [ha, h.end_]
    omega
  · rw [datL_next hz]
    intro e
    exact h.ne (List.append_eq_nil_iff.1 e).1
/-- Where a run ends, its piece is the first of the cells' pieces. -/
theorem RunI.stop {ps : List PcR} {x y : PcR} {n : Nat} (h : RunI ps x n y) (hd : ∀ z ∈ ps, z.dat ≠ []) (hs : ∀ z, ps[n]? = some z → ¬ (z.at_ = endQ y ∧ z.fr = x.fr ∧ z.to_ = x.to_)) : pcs (cels ps) = ⟨x.at_, datL (ps.take n), x.fr, x.to_⟩ :: pcs (cels (ps.drop n)) := by
  have e : cels ps = cels (ps.take n) ++ cels (ps.drop n) := by rw [← cels_append, List.take_append_drop]
  rw [e, h.run]
  refine pcs_run x.fr x.to_ _ x.at_ _ h.ne (fun w r hw => ?_)
  cases hq : ps.drop n with
  | nil => rw [hq] at hw; cases hw
  | cons z r2 =>
    have hz : ps[n]? = some z := by
      have : (ps.drop n)[0]? = some z := by rw [hq]; rfl
      rwa [List.getElem?_drop, Nat.add_zero] at this
    have hzd := hd z (List.mem_of_getElem? hz)
    rw [hq, cels_cons] at hw
    have hw2 : w.at_ = z.at_ ∧ w.fr = z.fr ∧ w.to_ = z.to_ := by
      unfold celP at hw
      cases hzq : z.dat with
      | nil => exact absurd hzq hzd
      | cons c cs =>
        rw [hzq] at hw
        have := (List.cons.inj hw).1
        rw [← this]
        exact ⟨rfl, rfl, rfl⟩
    obtain ⟨w1, w2, w3⟩ := hw2
    rw [w1, w2, w3, ← h.end_]
    exact hs z hz
/-! ### Taking -/
/-- The first n pieces follow each other without a gap from an offset on; the next offset. -/
theorem cutL_low : ∀ {l : List PcR} {e a : Int}, vldF e l → a ≤ e → cutL l a = l
  | [], _, _, _, _ => rfl
  | x :: r, e, a, ⟨h1, h2, h3⟩, h => by
    have hp : 0 < x.dat.length := List.length_pos_iff.2 h1.1
    rw [cutL_cons, show cutP a x = some x by unfold cutP; rw [if_neg (by omega), if_neg (by omega)]]
    simp only
    rw [cutL_low h3 (by omega)]
structure TakJ (l : List PcR) (a : Int) (n : Nat) (o : Int) : Prop where
  len : n ≤ l.length
  off : o = a + (datL (l.take n)).length
  vld : vldF o (l.drop n)
  found : ∀ (j : Nat) (hj : j < (datL (l.take n)).length), ∃ y, fndC (cels l) (a + j) = some y ∧ y.c = (datL (l.take n))[j]
  rest : cutL l o = l.drop n
theorem TakJ.start {l : List PcR} {a : Int} (h : vldF a l) : TakJ l a 0 a :=
  ⟨Nat.zero_le _, by rw [List.take_zero]; show a = a + ((0 : Nat) : Int); omega, h, fun j hj => absurd hj (by simp [datL]), cutL_low h (Int.le_refl _)⟩
theorem fnd_piece2 {l : List PcR} {e : Int} (hv : vldF e l) {x : PcR} (hx : x ∈ l) (j : Nat) (hj : j < x.dat.length) : fndC (cels l) (x.at_ + j) = some ⟨x.at_ + j, x.dat[j], x.fr, x.to_⟩ := fnd_piece hv hx j hj
theorem TakJ.next {l : List PcR} {a o : Int} {n : Nat} {x : PcR} (hv : vldF a l) (h : TakJ l a n o) (hx : l[n]? = some x) (ha : x.at_ = o) : TakJ l a (n + 1) (endQ x) := by
  obtain ⟨hk, e⟩ := List.getElem?_eq_some_iff.1 hx
  have hd : l.drop n = x :: l.drop (n + 1) := by rw [List.drop_eq_getElem_cons hk, e]
  have hvd := h.vld
  rw [hd] at hvd
  obtain ⟨v1, v2, v3⟩ := hvd
  have hlen : (datL (l.take (n + 1))).length = (datL (l.take n)).length + x.dat.length := by rw [datL_next hx, List.length_append]
  refine ⟨hk, ?_, v3, fun j hj => ?_, ?_⟩
  · rw [hlen]; unfold endQ; rw [ha, h.off]; omega
  · rw [hlen] at hj
    by_cases q : j < (datL (l.take n)).length
    · obtain ⟨y, y1, y2⟩ := h.found j q
      refine ⟨y, y1, y2.trans ?_⟩
      simp only [datL_next hx]
      rw [List.getElem_append_left q]
    · have h1 := fnd_piece2 hv (List.mem_of_getElem? hx) (j - (datL (l.take n)).length) (by omega)
      refine ⟨⟨a + j, x.dat[j - (datL (l.take n)).length], x.fr, x.to_⟩, ?_, ?_⟩
      · rw [show x.at_ + ((j - (datL (l.take n)).length : Nat) : Int) = a + j by rw [ha, h.off]; omega] at h1
        exact h1
      · simp only [datL_next hx]
        rw [List.getElem_append_right (by omega)]
  · have hcc := cut_cut l hv (a := o) (b := endQ x) (by unfold endQ; omega)
    rw [← hcc, h.rest, hd, cutL_cons, show cutP (endQ x) x = none by unfold cutP; rw [if_pos (by unfold endQ; omega)]]
    simp only
    exact cutL_low v3 (Int.le_refl _)
/-- Where the run ends. -/
theorem TakJ.stop {l : List PcR} {a o : Int} {n : Nat} (hv : vldF a l) (h : TakJ l a n o) (hs : ∀ x, l[n]? = some x → x.at_ ≠ o) : takL l a = datL (l.take n) ∧ cutL l (a + (takL l a).length) = l.drop n := by
  obtain ⟨r, hr⟩ := takL_pre hv a (datL (l.take n)) h.found
  have hnone : fndC (cels l) o = none := by
    have e : cels l = cels (l.take n) ++ cels (l.drop n) := by rw [← cels_append, List.take_append_drop]
    have hc : fndC (cels (cutL l o)) o = none := by
      rw [h.rest]
      cases hq : l.drop n with
      | nil => rfl
      | cons z r2 =>
        have hz : l[n]? = some z := by
          have : (l.drop n)[0]? = some z := by rw [hq]; rfl
          rwa [List.getElem?_drop, Nat.add_zero] at this
        have hvd := h.vld
        rw [hq] at hvd
        obtain ⟨v1, v2, v3⟩ := hvd
        have hne := hs z hz
        refine fndC_below (e := o + 1) (cels_srt (l := z :: r2) ⟨v1, ?_, v3⟩) (by omega)
        omega
    rwa [cels_cut, fnd_filter (Int.le_refl _)] at hc
  have hr0 : r = [] := by
    cases r with
    | nil => rfl
    | cons c cs =>
      obtain ⟨y, y1, -⟩ := takC_fnd (cels l) ((cels l).length + 1) a (datL (l.take n)).length (by
        show _ < (takL l a).length
        rw [hr]; simp)
      rw [← h.off, hnone] at y1
      cases y1
  rw [hr0, List.append_nil] at hr
  refine ⟨hr, ?_⟩
  rw [hr, ← h.off]
  exact h.rest
/-! ### Counting -/
def cntC (R : CeR → CeR → Bool) (c N : List CeR) : Nat := N.countP (fun x => match fndC c x.at_ with | none => false | some y => R y x)
theorem countP_one (R : CeR → CeR → Bool) (y : CeR) : ∀ {N : List CeR} {e : Int}, srtF e N → N.countP (fun x => y.at_ == x.at_ && R y x) = (match fndC N y.at_ with | none => 0 | some x => if R y x = true then 1 else 0)
  | [], _, _ => rfl
  | x :: r, e, ⟨h1, h2⟩ => by
    rw [List.countP_cons, countP_one R y h2, fndC_cons]
    by_cases q : x.at_ = y.at_
    · rw [if_pos q, fndC_below h2 (by omega)]
      simp only [q, beq_self_eq_true, Bool.true_and, Nat.zero_add]
    · rw [if_neg q, show (y.at_ == x.at_) = false by simpa using fun h => q h.symm]
      simp
theorem cnt_swap (R : CeR → CeR → Bool) {N : List CeR} {e2 : Int} (hN : srtF e2 N) : ∀ {c : List CeR} {e : Int}, srtF e c → cntC R c N = c.countP (fun y => match fndC N y.at_ with | none => false | some x => R y x)
  | [], _, _ => by
    show N.countP (fun x => false) = 0
    rw [List.countP_eq_zero]
    intro _ _ h
    cases h
  | y :: r, e, ⟨h1, h2⟩ => by
    rw [List.countP_cons, ← cnt_swap R hN h2]
    have hsplit : ∀ M : List CeR, M.countP (fun x => match fndC (y :: r) x.at_ with | none => false | some z => R z x) = M.countP (fun x => match fndC r x.at_ with | none => false | some z => R z x) + M.countP (fun x => y.at_ == x.at_ && R y x) := by
      intro M
      induction M with
      | nil => rfl
      | cons x M ih =>
        rw [List.countP_cons, List.countP_cons, List.countP_cons, ih, fndC_cons]
        by_cases q : y.at_ = x.at_
        · rw [if_pos q, ← q, fndC_below h2 (by omega)]
          simp only [beq_self_eq_true, Bool.true_and]
          by_cases hR : R y x = true
          · rw [if_pos hR]
            simp
            omega
          · rw [if_neg hR]
            simp
        · rw [if_neg q, show (y.at_ == x.at_) = false by simpa using q]
          simp only [Bool.false_and]
          simp only [Bool.false_eq_true, if_false]
          omega
    unfold cntC
    rw [hsplit, countP_one R y hN]
    congr 1
    cases fndC N y.at_ <;> rfl
/-- A cell lies in the segment; and holds another byte than the segment. -/
def inB (a : Int) (b : List UInt8) (y : CeR) : Bool := decide (a ≤ y.at_) && decide (y.at_ < a + b.length)
def otherB (a : Int) (b : List UInt8) (y : CeR) : Bool := inB a b y && y.c != b.getD (y.at_ - a).toNat 0
theorem there_cnt {c : List CeR} {e : Int} (hc : srtF e c) (a : Int) (b : List UInt8) : thereC c (segC a b) = c.countP (inB a b) := by
  have h := cnt_swap (fun _ _ => true) (celF_srt a (a + b.length) b a) hc
  have e1 : thereC c (segC a b) = cntC (fun _ _ => true) c (segC a b) := by
    unfold thereC cntC
    rw [List.countP_eq_length_filter]
    congr 2
    funext x
    cases fndC c x.at_ <;> rfl
  rw [e1]
  refine h.trans (congrArg (fun p => c.countP p) (funext fun y => ?_))
  have hN := segC_fnd a b y.at_
  show (match fndC (segC a b) y.at_ with | none => false | some x => true) = inB a b y
  unfold inB
  rw [hN]
  by_cases q : a ≤ y.at_ ∧ y.at_ < a + b.length
  · rw [if_pos q]; simp [q.1, q.2]
  · rw [if_neg q]
    by_cases q1 : a ≤ y.at_
    · have : ¬ y.at_ < a + b.length := fun h => q ⟨q1, h⟩
      simp [this]
    · simp [q1]
theorem differ_cnt {c : List CeR} {e : Int} (hc : srtF e c) (a : Int) (b : List UInt8) : differC c (segC a b) = c.countP (otherB a b) := by
  have h := cnt_swap (fun y x => y.c != x.c) (celF_srt a (a + b.length) b a) hc
  have e1 : differC c (segC a b) = cntC (fun y x => y.c != x.c) c (segC a b) := by
    unfold differC cntC
    rw [List.countP_eq_length_filter]
    rfl
  rw [e1]
  refine h.trans (congrArg (fun p => c.countP p) (funext fun y => ?_))
  have hN := segC_fnd a b y.at_
  show (match fndC (segC a b) y.at_ with | none => false | some x => y.c != x.c) = otherB a b y
  unfold otherB inB
  rw [hN]
  by_cases q : a ≤ y.at_ ∧ y.at_ < a + b.length
  · rw [if_pos q]; simp [q.1, q.2]
  · rw [if_neg q]
    by_cases q1 : a ≤ y.at_
    · have : ¬ y.at_ < a + b.length := fun h => q ⟨q1, h⟩
      simp [this]
    · simp [q1]
end Go.Proofs.Ytafpmlikocchpaa
