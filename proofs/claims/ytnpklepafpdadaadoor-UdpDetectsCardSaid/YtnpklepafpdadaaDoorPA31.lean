/- Contracts of the functions, part 31: RdB, UdpPRd. -/
import Derived.Deep.Cut
import Derived.Test.YtnpklepafpdadaaDoorPA4
import Derived.Test.YtnpklepafpdadaaDoorPA25
import Derived.Test.YtnpklepafpdadaaDoorPA28
import Derived.Test.YtnpklepafpdadaaDoorPA30
/- The program's reader, all of whose blocks lie below a number B: so it stands apart from whatever the caller makes later. -/
namespace Go.Proofs.YtnpklepafpdadaaDoor
open Go.ChangeShapes Go.WideShapes Go.ChangeAt Go.RowKit
set_option linter.unusedVariables false

/-- A reader at block p below B. -/
def RdB (w : World) (B p : Nat) (l : List UInt8) (err : Int) : Prop :=
  ∃ A cap, p < B ∧ Cells w p 60 #[.slice A l.length cap, .int .i64 err] ∧ Left w p A l cap ∧ (0 < l.length → ∀ a, A = some a → a.block < B)
theorem RdB.rd {w : World} {B p : Nat} {l : List UInt8} {err : Int} (h : RdB w B p l err) : Rd w p l err := by
  obtain ⟨A, cap, _, h1, h2, _⟩ := h
  exact ⟨A, cap, h1, h2⟩
theorem RdB.lt {w : World} {B p : Nat} {l : List UInt8} {err : Int} (h : RdB w B p l err) : p < B := by
  obtain ⟨A, cap, h0, _⟩ := h
  exact h0
theorem RdB.of {w : World} {p : Nat} {l : List UInt8} {err : Int} (h : Rd w p l err) : RdB w w.heap.size p l err := by
  obtain ⟨A, cap, h1, h2⟩ := h
  refine ⟨A, cap, h1.lt, h1, h2, fun hp a ha => ?_⟩
  obtain ⟨g, o, e, _, hlt, _⟩ := h2.2 hp
  rw [e] at ha
  obtain rfl := Option.some.inj ha
  exact hlt
theorem RdB.mono {w : World} {B B' p : Nat} {l : List UInt8} {err : Int} (h : RdB w B p l err) (hB : B ≤ B') : RdB w B' p l err := by
  obtain ⟨A, cap, h0, h1, h2, h3⟩ := h
  exact ⟨A, cap, by omega, h1, h2, fun hp a ha => by have := h3 hp a ha; omega⟩
/-- Whatever writes at or above B. -/
theorem RdB.blocks {w w' : World} {B p : Nat} {l : List UInt8} {err : Int} (h : RdB w B p l err) (hz : w.heap.size ≤ w'.heap.size) (hb : ∀ b, b < B → w'.heap[b]? = w.heap[b]?) : RdB w' B p l err := by
  obtain ⟨A, cap, h0, h1, h2, h3⟩ := h
  refine ⟨A, cap, h0, (hb p h0).trans h1, ⟨h2.1, fun hp => ?_⟩, h3⟩
  obtain ⟨g, o, e, hne, hlt, hc⟩ := h2.2 hp
  have hgB : g < B := h3 hp _ e
  refine ⟨g, o, e, hne, by omega, fun j hj => ?_⟩
  rw [World.cell?_of_block (w := w) (w' := w') (a := ⟨g, o + j, none⟩) (hb g hgB), World.frozen?_of_block (w := w) (w' := w') (a := ⟨g, o + j, none⟩) (hb g hgB)]
  exact hc j hj
theorem RdB.set {w : World} {B p g i : Nat} {l : List UInt8} {err : Int} (h : RdB w B p l err) (hg : B ≤ g) (v : Value) : RdB (w.setCell ⟨g, i, none⟩ v) B p l err :=
  h.blocks (by simp [World.setCell]) (fun b hb => Below.heap_setCell w ⟨g, i, none⟩ v b (by simp only; omega))
theorem RdB.kept {w w' : World} {B p : Nat} {l : List UInt8} {err : Int} (h : RdB w B p l err) (hb : Below w.heap.size w w') (hB : B ≤ w.heap.size) : RdB w' B p l err :=
  h.blocks hb.size (fun b hlt => hb.block b (by omega))
theorem RdB.grown {w w' : World} {B p : Nat} {l : List UInt8} {err : Int} {row : Option Nat} (h : RdB w B p l err) (hg : w.grownBy w' row) (hB : B ≤ w.heap.size) (hr : ∀ g, row = some g → B ≤ g) : RdB w' B p l err :=
  h.blocks hg.size (fun b hlt => hg.block b (by omega) (by intro e; have := hr b e.symm; omega))
theorem nextB_short (B p : Nat) (l : List UInt8) (n : Int) (w : World) (h : RdB w B p l 0) (hm : l.length ≤ 9223372036854775807) (hn : (l.length : Int) < n) :
    Calls Tryd.prog 34 #[.pointer (some ⟨p, 0, none⟩), .int .i64 n, .bool true] w fun e w' => e = .returned (.slice none 0 0) ∧ RdB w' B p l 1 ∧ w.grownBy w' (some p) := by
  obtain ⟨A, cap, h0, hc, hl, h3⟩ := h
  have c0 := hc.cell 0
  have c1 := hc.cell 1
  have f1 := hc.frozen 1
  simp at c0 c1
  have H3 := Lib.hid h3
  clear h3
  go_enter Tryd.func34, Tryd.ntmps34
  go_wp2_with fail
  go_ret
  exact ⟨rfl, ⟨A, cap, h0, hc.set 1 _, hl.only (only_set ..), H3.out⟩, only_set ..⟩
theorem add_block (a : Addr) (n : Nat) : (a.add n).block = a.block := by
  unfold Addr.add
  split <;> rfl
theorem nextB_ok (B p : Nat) (l : List UInt8) (n : Nat) (w : World) (h : RdB w B p l 0) (hm : l.length ≤ 9223372036854775807) (hn : n ≤ l.length) :
    Calls Tryd.prog 34 #[.pointer (some ⟨p, 0, none⟩), .int .i64 n, .bool true] w fun e w' => ∃ A, e = .returned (.slice A n n) ∧ BS w' 0 (.slice A n n) (l.take n) ∧ RdB w' B p (l.drop n) 0 ∧ w.grownBy w' (some p) := by
  obtain ⟨A, cap, h0, hc, hl, h3⟩ := h
  have c0 := hc.cell 0
  have c1 := hc.cell 1
  have f0 := hc.frozen 0
  have hcap := hl.1
  have H3 := Lib.hid h3
  clear h3
  simp at c0 c1
  by_cases hcn : cap = n
  · obtain rfl : cap = l.length := by omega
    subst hcn
    go_enter Tryd.func34, Tryd.ntmps34
    go_wp2_with fail
    go_ret
    have hx := hc.set 0 (.slice A 0 0)
    exact ⟨A, rfl, ((hl.only (only_set w p 0 _)).take _ (Nat.le_refl _)), ⟨A, 0, h0, by simpa using hx, ⟨by simp, by simp⟩, by simp⟩, only_set ..⟩
  · go_enter Tryd.func34, Tryd.ntmps34
    go_wp2_with fail
    go_ret
    have hx := hc.set 0 (.slice (A.map fun x => x.add n) (l.length - n) (cap - n))
    rw [← List.length_drop] at hx
    refine ⟨A, rfl, ((hl.only (only_set w p 0 _)).take _ hn), ⟨_, _, h0, by rw [List.length_drop] at *; exact hx, (hl.drop n hn).only (only_set ..), fun hp a ha => ?_⟩, only_set ..⟩
    rw [List.length_drop] at hp
    obtain ⟨a0, h1, h2⟩ := Option.map_eq_some_iff.1 ha
    have := H3.out (by omega) a0 h1
    rw [← h2, add_block]
    exact this
/-- What a call of Int reads: the number, what is left, the error. -/
def rdI (l : List UInt8) (err n : Nat) : Nat × List UInt8 × Nat := if err ≠ 0 then (0, l, err) else if l.length < n then (0, l, 1) else (num (l.take n), l.drop n, 0)
theorem rdI_lt (l : List UInt8) (err n : Nat) : (rdI l err n).1 < 256 ^ n := by
  have h : 0 < 256 ^ n := Nat.pow_pos (by decide)
  unfold rdI
  split
  · exact h
  · split
    · exact h
    · have := num_lt (l.take n)
      rwa [show (l.take n).length = n by rw [List.length_take]; omega] at this
theorem rdI_len (l : List UInt8) (err n : Nat) : (rdI l err n).2.1.length ≤ l.length := by
  unfold rdI
  split
  · exact Nat.le_refl _
  · split
    · exact Nat.le_refl _
    · rw [List.length_drop]; omega
theorem next_any_err (B p n : Nat) (l : List UInt8) (err : Nat) (w : World) (h : RdB w B p l (err : Int)) (he : err ≠ 0) (h1 : 1 ≤ n) (h7 : n ≤ 7) :
    Calls Tryd.prog 23 #[.pointer (some ⟨p, 0, none⟩), .int .i64 (n : Int)] w fun e w' => e = .returned (.int .i64 ((0 : Nat) : Int)) ∧ RdB w' B p l (err : Int) ∧ w.grownBy w' (some p) := by
  have he' : (err : Int) ≠ 0 := by omega
  have HNX := Lib.hid (fun (W : World) (hh : Rd W p l (err : Int)) => next_err p l (err : Int) (n : Int) true W hh he')
  have HR := Lib.hid h
  clear h he he'
  go_enter Tryd.func23, Tryd.ntmps23
  go_wp2_with fail
  refine (valid_yes n _ (by omega) (by omega)).mono ?_
  rintro e w1 ⟨rfl, rfl⟩
  go_wp2_with fail
  refine (HNX.out _ HR.out.rd).mono ?_
  rintro e w1 ⟨rfl, rfl⟩
  go_wp2_with fail
  refine (number_any none 0 0 [] _ (bs_nil _ _) (by simp)).mono ?_
  rintro e w1 ⟨rfl, rfl⟩
  go_wp2_with fail
  go_ret
  exact ⟨rfl, HR.out, only_refl ..⟩
set_option maxHeartbeats 2000000 in
theorem intB_any (B p n : Nat) (N : Int) (hN : (n : Int) = N) (l : List UInt8) (err : Nat) (w : World) (h : RdB w B p l (err : Int)) (hm : l.length ≤ 9223372036854775807) (h1 : 1 ≤ n) (h7 : n ≤ 7) :
    Calls Tryd.prog 23 #[.pointer (some ⟨p, 0, none⟩), .int .i64 N] w fun e w' => e = .returned (.int .i64 ((rdI l err n).1 : Int)) ∧ RdB w' B p (rdI l err n).2.1 ((rdI l err n).2.2 : Int) ∧ w.grownBy w' (some p) := by
  subst hN
  unfold rdI
  by_cases he : err ≠ 0
  · rw [if_pos he]
    refine (next_any_err B p n l err w h he (by omega) (by omega)).mono ?_
    exact fun e w' h => h
  · obtain rfl : err = 0 := by omega
    rw [if_neg (by simp)]
    by_cases hs : l.length < n
    · rw [if_pos hs]
      go_enter Tryd.func23, Tryd.ntmps23
      go_wp2_with fail
      refine (valid_yes n _ (by omega) (by omega)).mono ?_
      rintro e w1 ⟨rfl, rfl⟩
      go_wp2_with fail
      refine (nextB_short B p l n _ h hm (by omega)).mono ?_
      rintro e w1 ⟨rfl, h1, hg1⟩
      go_wp2_with fail
      refine (number_any none 0 0 [] _ (bs_nil _ _) (by simp)).mono ?_
      rintro e w2 ⟨rfl, rfl⟩
      go_wp2_with fail
      go_ret
      exact ⟨rfl, h1, hg1⟩
    · rw [if_neg hs]
      have hlen : (l.take n).length = n := by rw [List.length_take]; omega
      have HL := Lib.hid hlen
      clear hlen
      have hn : n ≤ l.length := by omega
      clear hs
      go_enter Tryd.func23, Tryd.ntmps23
      go_wp2_with fail
      refine (valid_yes n _ (by omega) (by omega)).mono ?_
      rintro e w1 ⟨rfl, rfl⟩
      go_wp2_with fail
      refine (nextB_ok B p l n _ h hm hn).mono ?_
      rintro e w1 ⟨A, rfl, hbs, h2, hg1⟩
      go_wp2_with fail
      have hc := number_any A n 0 (l.take n) w1 (by rw [HL.out]; exact hbs) (by rw [HL.out]; exact h7)
      rw [HL.out] at hc
      refine hc.mono ?_
      rintro e w2 ⟨rfl, rfl⟩
      go_wp2_with fail
      go_ret
      exact ⟨rfl, h2, hg1⟩
end Go.Proofs.YtnpklepafpdadaaDoor

/- Contract of the program of layer 13: readHeader. -/
namespace Go.Proofs.YtnpklepafpdadaaDoor
open Go.ChangeShapes Go.WideShapes Go.ChangeAt Go.RowKit
set_option linter.unusedVariables false

theorem rdI_ok13 {l : List UInt8} {n : Nat} (h : ¬ l.length < n) : rdI l 0 n = (num (l.take n), l.drop n, 0) := by unfold rdI; rw [if_neg (by simp), if_neg h]
theorem rdI_step13 {N pos : Nat} {l l' : List UInt8} {err k v e : Nat} (h : err = 1 ∨ (err = 0 ∧ l.length + pos = N)) (hr : rdI l err k = (v, l', e)) : e = 1 ∨ (e = 0 ∧ l'.length + (pos + k) = N) := by
  unfold rdI at hr
  rcases h with rfl | ⟨rfl, h⟩
  · rw [if_pos (by decide)] at hr
    injection hr with _ hr
    injection hr with _ hr
    exact .inl hr.symm
  · rw [if_neg (by simp)] at hr
    by_cases hs : l.length < k
    · rw [if_pos hs] at hr
      injection hr with _ hr
      injection hr with _ hr
      exact .inl hr.symm
    · rw [if_neg hs] at hr
      injection hr with _ hr
      injection hr with h1 h2
      exact .inr ⟨h2.symm, by rw [← h1, List.length_drop]; omega⟩
theorem drop8 (S : List UInt8) (i k : Nat) (h : i + k ≤ 8) : ((S.take 8).drop i).take k = (S.drop i).take k := by
  rw [List.drop_take, List.take_take]
  congr 1
  omega
theorem take_min8 (S : List UInt8) : S.take (min S.length 8) = S.take 8 := by
  by_cases h : S.length ≤ 8
  · rw [Nat.min_eq_left h, List.take_of_length_le (Nat.le_refl _), List.take_of_length_le h]
  · rw [Nat.min_eq_right (by omega)]
def HeadV (S : List UInt8) (X Y Z C er : Nat) : Prop := (S.length < 8 ∧ er = 1) ∨ (8 ≤ S.length ∧ er = 0 ∧ X = nm2 S 0 ∧ Y = nm2 S 2 ∧ Z = nm2 S 4 ∧ C = nm2 S 6)
theorem head_fin {S l1 l2 l3 l4 : List UInt8} {X Y Z C e1 e2 e3 e4 : Nat} (h1 : rdI (S.take 8) 0 2 = (X, l1, e1)) (h2 : rdI l1 e1 2 = (Y, l2, e2)) (h3 : rdI l2 e2 2 = (Z, l3, e3)) (h4 : rdI l3 e3 2 = (C, l4, e4)) : HeadV S X Y Z C e4 := by
  by_cases hs : S.length < 8
  · refine .inl ⟨hs, ?_⟩
    have a := rdI_step13 (rdI_step13 (rdI_step13 (rdI_step13 (N := (S.take 8).length) (pos := 0) (.inr ⟨rfl, rfl⟩) h1) h2) h3) h4
    rcases a with a | ⟨_, a⟩
    · exact a
    · rw [List.length_take] at a
      omega
  · refine .inr ⟨by omega, ?_⟩
    have hl : (S.take 8).length = 8 := by rw [List.length_take]; omega
    rw [rdI_ok13 (by omega)] at h1
    obtain ⟨rfl, rfl, rfl⟩ := (by simpa only [Prod.mk.injEq] using h1 : _ ∧ _ ∧ _)
    rw [rdI_ok13 (by simp only [List.length_drop]; omega)] at h2
    obtain ⟨rfl, rfl, rfl⟩ := (by simpa only [Prod.mk.injEq] using h2 : _ ∧ _ ∧ _)
    rw [rdI_ok13 (by simp only [List.length_drop]; omega)] at h3
    obtain ⟨rfl, rfl, rfl⟩ := (by simpa only [Prod.mk.injEq] using h3 : _ ∧ _ ∧ _)
    rw [rdI_ok13 (by simp only [List.length_drop]; omega)] at h4
    obtain ⟨rfl, rfl, rfl⟩ := (by simpa only [Prod.mk.injEq] using h4 : _ ∧ _ ∧ _)
    simp only [List.drop_drop]
    exact ⟨trivial, congrArg num (drop8 S 0 2 (by omega)), congrArg num (drop8 S 2 2 (by omega)), congrArg num (drop8 S 4 2 (by omega)), congrArg num (drop8 S 6 2 (by omega))⟩
/-! ### The state in memory -/
structure HdD (wb W : World) (g0 gx p : Nat) (cs : Array Value) (l : List UInt8) (err : Nat) : Prop where
  rd : RdB W gx p l (err : Int)
  x : Cells W gx 43 cs
  g : Cells W g0 43 #[.int .i64 0, .int .i64 0, .int .i64 0, .int .i64 0]
  bel : Below wb.heap.size wb W
  lo : wb.heap.size = g0
  lp : g0 < p
  ll : l.length ≤ 1000000
theorem HdD.ggx {wb W : World} {g0 gx p err : Nat} {cs : Array Value} {l : List UInt8} (h : HdD wb W g0 gx p cs l err) : g0 < gx := by have := h.rd.lt; have := h.lp; omega
theorem HdD.grown {wb W W' : World} {g0 gx p err : Nat} {cs : Array Value} {l l' : List UInt8} {err' : Nat} (h : HdD wb W g0 gx p cs l err) (hg : W.grownBy W' (some p)) (hr : RdB W' gx p l' (err' : Int)) (hl : l'.length ≤ l.length) : HdD wb W' g0 gx p cs l' err' := by
  have hpg := h.rd.lt
  have hlo := h.lo
  have hlp := h.lp
  exact ⟨hr, h.x.only hg (by intro e; injection e with e; omega), h.g.only hg (by intro e; injection e with e; omega), below_only h.bel hg (by omega) h.bel.size, h.lo, h.lp, Nat.le_trans hl h.ll⟩
theorem HdD.set {wb W : World} {g0 gx p err : Nat} {cs : Array Value} {l : List UInt8} (h : HdD wb W g0 gx p cs l err) (i : Nat) (v : Value) : HdD wb (W.setCell ⟨gx, i, none⟩ v) g0 gx p (cs.setIfInBounds i v) l err := by
  have hg := h.ggx
  have hlo := h.lo
  exact ⟨h.rd.set (Nat.le_refl _) _, h.x.set i v, h.g.far (by omega) _, h.bel.setCell (p := ⟨gx, i, none⟩) (by simp only; omega) _, h.lo, h.lp, h.ll⟩
theorem HdD.int {wb W : World} {g0 gx p err : Nat} {cs : Array Value} {l : List UInt8} (h : HdD wb W g0 gx p cs l err) :
    Calls Tryd.prog 23 #[.pointer (some ⟨p, 0, none⟩), .int .i64 2] W fun e w' => e = .returned (.int .i64 ((rdI l err 2).1 : Int)) ∧ HdD wb w' g0 gx p cs (rdI l err 2).2.1 (rdI l err 2).2.2 :=
  (intB_any gx p 2 2 rfl l err W h.rd (by have := h.ll; omega) (by decide) (by decide)).mono fun e w' ⟨h2, h3, h4⟩ => ⟨h2, h.grown h4 h3 (rdI_len _ _ _)⟩
theorem HdD.init {w1 W : World} {p : Nat} {S : List UInt8} (hb : Below (w1.alloc (.cells #[.int .i64 0, .int .i64 0, .int .i64 0, .int .i64 0] 43)).heap.size (w1.alloc (.cells #[.int .i64 0, .int .i64 0, .int .i64 0, .int .i64 0] 43)) W) (hp : (w1.alloc (.cells #[.int .i64 0, .int .i64 0, .int .i64 0, .int .i64 0] 43)).heap.size ≤ p) (hr : Rd W p S 0) (hS : S.length ≤ 1000000) :
    HdD w1 (W.alloc (.cells #[.int .i64 0, .int .i64 0, .int .i64 0, .int .i64 0] 43)) w1.heap.size W.heap.size p #[.int .i64 0, .int .i64 0, .int .i64 0, .int .i64 0] S 0 := by
  have hz : (w1.alloc (.cells #[.int .i64 0, .int .i64 0, .int .i64 0, .int .i64 0] 43)).heap.size = w1.heap.size + 1 := by simp
  have h0 : Cells (w1.alloc (.cells #[.int .i64 0, .int .i64 0, .int .i64 0, .int .i64 0] 43)) w1.heap.size 43 #[.int .i64 0, .int .i64 0, .int .i64 0, .int .i64 0] := heap_alloc_new w1 _
  have hB := below_alloc6 W (.cells #[.int .i64 0, .int .i64 0, .int .i64 0, .int .i64 0] 43)
  have h1 := Cells.kept h0 hb h0.lt
  refine ⟨(RdB.of hr).kept hB (Nat.le_refl _), heap_alloc_new W _, Cells.kept h1 hB h1.lt, ?_, rfl, by omega, hS⟩
  exact ((below_alloc6 w1 _).trans (hb.mono (by omega))).trans (hB.mono (by have := hb.size; omega))
/-- What readHeader returns. -/
def HeadP (S : List UInt8) (w : World) (e : Ending) (w' : World) : Prop :=
  ∃ X Y Z C er : Nat, e = .returned (.tuple #[.agg #[.int .i64 (X : Int), .int .i64 (Y : Int), .int .i64 (Z : Int), .int .i64 (C : Int)], .int .i64 (er : Int)]) ∧ Hid (X < 65536 ∧ Y < 65536 ∧ Z < 65536 ∧ C < 65536) ∧ Hid (HeadV S X Y Z C er) ∧ Below w.heap.size w w'
set_option maxHeartbeats 8000000 in
set_option maxRecDepth 20000 in
theorem prhead13_any (S : List UInt8) (w : World) (hs : S.length ≤ 1000000) :
    Calls Tryd.prog 13 #[.string (str S)] w (HeadP S w) := by
  obtain ⟨s, hS⟩ : ∃ s, s = str S := ⟨_, rfl⟩
  have hsz : s.size = S.length := by rw [hS, str_size]
  have hs6 : s.size ≤ 1000000 := by omega
  obtain ⟨q, hq⟩ : ∃ q, q = min s.size 8 := ⟨_, rfl⟩
  have hmn : min (s.size : Int) 8 = (q : Int) := by omega
  have hqs : q ≤ s.size := by omega
  have hqsi : (q : Int) ≤ (s.size : Int) := by omega
  have HQX := Lib.hid (show s.extract 0 q = str (S.take 8) by rw [extract_str10 s S hS, List.drop_zero, hq, hsz, Nat.sub_zero, take_min8])
  have HNEW := Lib.hid (fun (D : ByteArray) (hD : D = str (S.take 8)) (W : World) => show Calls Tryd.prog 22 #[.string D] W fun e w' => ∃ p, e = .returned (.pointer (some ⟨p, 0, none⟩)) ∧ W.heap.size ≤ p ∧ Rd w' p (S.take 8) 0 ∧ Below W.heap.size W w' from by
    subst hD
    have := new_any (str (S.take 8)) W
    rwa [str_toList] at this)
  have HSL := Lib.hid (show (S.take 8).length ≤ 1000000 by rw [List.length_take]; omega)
  rw [← hS]
  obtain ⟨q1, hq1⟩ : ∃ q, rdI (S.take 8) 0 2 = q := ⟨_, rfl⟩
  have hlt1 := rdI_lt (S.take 8) 0 2
  rw [hq1] at hlt1
  obtain ⟨X, l1, e1⟩ := q1
  simp only at hlt1
  have b1 : X < 65536 := by omega
  obtain ⟨q2, hq2⟩ : ∃ q, rdI l1 e1 2 = q := ⟨_, rfl⟩
  have hlt2 := rdI_lt l1 e1 2
  rw [hq2] at hlt2
  obtain ⟨Y, l2, e2⟩ := q2
  simp only at hlt2
  have b2 : Y < 65536 := by omega
  obtain ⟨q3, hq3⟩ : ∃ q, rdI l2 e2 2 = q := ⟨_, rfl⟩
  have hlt3 := rdI_lt l2 e2 2
  rw [hq3] at hlt3
  obtain ⟨Z, l3, e3⟩ := q3
  simp only at hlt3
  have b3 : Z < 65536 := by omega
  obtain ⟨q4, hq4⟩ : ∃ q, rdI l3 e3 2 = q := ⟨_, rfl⟩
  have hlt4 := rdI_lt l3 e3 2
  rw [hq4] at hlt4
  obtain ⟨C, l4, e4⟩ := q4
  simp only at hlt4
  have b4 : C < 65536 := by omega
  have HFIN := Lib.hid (head_fin hq1 hq2 hq3 hq4)
  have HBD := Lib.hid (And.intro b1 (And.intro b2 (And.intro b3 b4)))
  have HQ1 := Lib.hid hq1
  have HQ2 := Lib.hid hq2
  have HQ3 := Lib.hid hq3
  have HQ4 := Lib.hid hq4
  clear hq hsz hs hS hq1 hq2 hq3 hq4 hlt1 hlt2 hlt3 hlt4
  go_enter Tryd.func13, Tryd.ntmps13
  go_wp2_with fail
  refine (HNEW.out _ HQX.out _).mono ?_
  rintro e w1 ⟨p, rfl, hp, hrd, hbw⟩
  obtain ⟨W2, hW2⟩ : ∃ W, W = w1.alloc (.cells #[.int .i64 0, .int .i64 0, .int .i64 0, .int .i64 0] 43) := ⟨_, rfl⟩
  obtain ⟨gx, hgx⟩ : ∃ g, g = w1.heap.size := ⟨_, rfl⟩
  obtain ⟨g0, hg0⟩ : ∃ g, g = w.heap.size := ⟨_, rfl⟩
  have H0 := Lib.hid (show HdD w W2 g0 gx p #[.int .i64 0, .int .i64 0, .int .i64 0, .int .i64 0] (S.take 8) 0 by rw [hW2, hgx, hg0]; exact HdD.init hbw hp hrd HSL.out)
  clear hp hrd hbw HNEW HSL
  go_wp2_with fail
  rw [← hW2, ← hgx, ← hg0]
  clear hW2 hgx hg0
  refine H0.out.int.mono ?_
  rintro e U1 ⟨rfl, h⟩
  rw [HQ1.out] at h ⊢
  have C1 := Lib.hid (show HdD w U1 g0 gx p #[.int .i64 0, .int .i64 0, .int .i64 0, .int .i64 0] l1 e1 from h)
  clear h H0 HQ1
  dsimp only
  have x0 := (Cells.cell C1.out.x 0).trans (show _ = some (Value.int .i64 0) from rfl)
  have z0 := Cells.frozen C1.out.x 0
  have hgl := C1.out.x.lt
  go_wp2_with fail
  have S1 := Lib.hid (show HdD w (U1.setCell ⟨gx, 0, none⟩ (.int .i64 (X : Int))) g0 gx p #[.int .i64 (X : Int), .int .i64 0, .int .i64 0, .int .i64 0] l1 e1 from C1.out.set 0 (.int .i64 (X : Int)))
  clear x0 z0 hgl C1
  generalize (U1.setCell ⟨gx, 0, none⟩ (.int .i64 (X : Int))) = V1 at *
  refine S1.out.int.mono ?_
  rintro e U2 ⟨rfl, h⟩
  rw [HQ2.out] at h ⊢
  have C2 := Lib.hid (show HdD w U2 g0 gx p #[.int .i64 (X : Int), .int .i64 0, .int .i64 0, .int .i64 0] l2 e2 from h)
  clear h S1 HQ2
  dsimp only
  have x1 := (Cells.cell C2.out.x 1).trans (show _ = some (Value.int .i64 0) from rfl)
  have z1 := Cells.frozen C2.out.x 1
  have hgl := C2.out.x.lt
  go_wp2_with fail
  have S2 := Lib.hid (show HdD w (U2.setCell ⟨gx, 1, none⟩ (.int .i64 (Y : Int))) g0 gx p #[.int .i64 (X : Int), .int .i64 (Y : Int), .int .i64 0, .int .i64 0] l2 e2 from C2.out.set 1 (.int .i64 (Y : Int)))
  clear x1 z1 hgl C2
  generalize (U2.setCell ⟨gx, 1, none⟩ (.int .i64 (Y : Int))) = V2 at *
  refine S2.out.int.mono ?_
  rintro e U3 ⟨rfl, h⟩
  rw [HQ3.out] at h ⊢
  have C3 := Lib.hid (show HdD w U3 g0 gx p #[.int .i64 (X : Int), .int .i64 (Y : Int), .int .i64 0, .int .i64 0] l3 e3 from h)
  clear h S2 HQ3
  dsimp only
  have x2 := (Cells.cell C3.out.x 2).trans (show _ = some (Value.int .i64 0) from rfl)
  have z2 := Cells.frozen C3.out.x 2
  have hgl := C3.out.x.lt
  go_wp2_with fail
  have S3 := Lib.hid (show HdD w (U3.setCell ⟨gx, 2, none⟩ (.int .i64 (Z : Int))) g0 gx p #[.int .i64 (X : Int), .int .i64 (Y : Int), .int .i64 (Z : Int), .int .i64 0] l3 e3 from C3.out.set 2 (.int .i64 (Z : Int)))
  clear x2 z2 hgl C3
  generalize (U3.setCell ⟨gx, 2, none⟩ (.int .i64 (Z : Int))) = V3 at *
  refine S3.out.int.mono ?_
  rintro e U4 ⟨rfl, h⟩
  rw [HQ4.out] at h ⊢
  have C4 := Lib.hid (show HdD w U4 g0 gx p #[.int .i64 (X : Int), .int .i64 (Y : Int), .int .i64 (Z : Int), .int .i64 0] l4 e4 from h)
  clear h S3 HQ4
  dsimp only
  have x3 := (Cells.cell C4.out.x 3).trans (show _ = some (Value.int .i64 0) from rfl)
  have z3 := Cells.frozen C4.out.x 3
  have hgl := C4.out.x.lt
  go_upto_region 7 with fail
  have S4 := Lib.hid (show HdD w (U4.setCell ⟨gx, 3, none⟩ (.int .i64 (C : Int))) g0 gx p #[.int .i64 (X : Int), .int .i64 (Y : Int), .int .i64 (Z : Int), .int .i64 (C : Int)] l4 e4 from C4.out.set 3 (.int .i64 (C : Int)))
  clear x3 z3 hgl C4
  generalize (U4.setCell ⟨gx, 3, none⟩ (.int .i64 (C : Int))) = V4 at *
  have HRD := Lib.hid S4.out.rd
  have HX := Lib.hid S4.out.x
  have HG := Lib.hid S4.out.g
  have HB := Lib.hid S4.out.bel
  have HLO := Lib.hid S4.out.lo
  clear S4
  refine wp_region_specs_tail 3 [.val (Value.agg #[.int .i64 (X : Int), .int .i64 (Y : Int), .int .i64 (Z : Int), .int .i64 (C : Int)]), .val (Value.pointer (some ⟨p, 0, none⟩)), .val (Value.int .i64 (e4 : Int))] (by kernel_rfl) (by kernel_rfl) (by kernel_rfl) (by kernel_rfl) (by kernel_rfl) (by kernel_rfl) (by kernel_rfl) (by kernel_rfl) ?_ ?_
  · refine ⟨⟨rfl, ?_⟩, ⟨rfl, ?_⟩, ⟨rfl, ?_⟩, trivial⟩
    · intro a W hbW hk K hK
      have e5 := kvalT hk 5 (Value.pointer (some ⟨gx, 0, none⟩)) (by kernel_rfl)
      clear hk
      have y0 := box_cell HX.out hbW 0 (Value.int .i64 (X : Int)) rfl
      have y1 := box_cell HX.out hbW 1 (Value.int .i64 (Y : Int)) rfl
      have y2 := box_cell HX.out hbW 2 (Value.int .i64 (Z : Int)) rfl
      have y3 := box_cell HX.out hbW 3 (Value.int .i64 (C : Int)) rfl
      go_simp
      exact ⟨_, rfl, hK _ _ rfl (Below.refl _ _)⟩
    · intro a W hbW hk K hK
      have e4 := kvalT hk 4 (Value.pointer (some ⟨p, 0, none⟩)) (by kernel_rfl)
      clear hk
      go_simp
      exact ⟨_, rfl, hK _ _ rfl (Below.refl _ _)⟩
    · intro a W hbW hk K hK
      have e25 := kvalT hk 25 (Value.pointer (some ⟨p, 0, none⟩)) (by kernel_rfl)
      clear hk
      go_simp
      refine (err_any p l4 (e4 : Int) W ?_).mono ?_
      · exact (HRD.out.kept hbW (Nat.le_of_lt HX.out.lt)).rd
      rintro e w9 ⟨rfl, rfl⟩
      exact ⟨_, rfl, hK _ _ rfl (Below.refl _ _)⟩
  · intro W9 hb9
    simp only [List.take_succ_cons, List.take_zero, List.drop_succ_cons, List.drop_zero, endT]
    have HG9 := Lib.hid (HG.out.kept hb9 HG.out.lt)
    have HB9 := Lib.hid (HB.out.trans (hb9.mono HB.out.size))
    clear hb9 HX HRD HG HB
    have x0 := (Cells.cell HG9.out 0).trans (show _ = some (Value.int .i64 0) from rfl)
    have z0 := Cells.frozen HG9.out 0
    have x1 := (Cells.cell HG9.out 1).trans (show _ = some (Value.int .i64 0) from rfl)
    have z1 := Cells.frozen HG9.out 1
    have x2 := (Cells.cell HG9.out 2).trans (show _ = some (Value.int .i64 0) from rfl)
    have z2 := Cells.frozen HG9.out 2
    have x3 := (Cells.cell HG9.out 3).trans (show _ = some (Value.int .i64 0) from rfl)
    have z3 := Cells.frozen HG9.out 3
    have hgl := HG9.out.lt
    go_wp2_with fail
    refine bodyPost_ret (res_box2 hdTy rfl _ _ rfl (HG9.out.put [.int .i64 (X : Int), .int .i64 (Y : Int), .int .i64 (Z : Int), .int .i64 (C : Int)] rfl)) rfl ?_
    exact ⟨X, Y, Z, C, e4, rfl, HBD, HFIN, putB_below (Nat.le_of_eq HLO.out) [.int .i64 (X : Int), .int .i64 (Y : Int), .int .i64 (Z : Int), .int .i64 (C : Int)] 0 _ HB9.out⟩
end Go.Proofs.YtnpklepafpdadaaDoor
