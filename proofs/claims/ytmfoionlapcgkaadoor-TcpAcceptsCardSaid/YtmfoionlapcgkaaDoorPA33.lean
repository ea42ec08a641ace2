/- Contracts of the functions, part 33: TcpPSt. -/
import Derived.StillTailTactics
import Derived.Deep.Cut
import Derived.Deep.RegionWith
import Derived.Test.YtmfoionlapcgkaaDoorPA6
import Derived.Test.YtmfoionlapcgkaaDoorPA19
import Derived.Test.YtmfoionlapcgkaaDoorPA22
import Derived.Test.YtmfoionlapcgkaaDoorPA24
import Derived.Test.YtmfoionlapcgkaaDoorPA28
import Derived.Test.YtmfoionlapcgkaaDoorPA30
import Derived.Test.YtmfoionlapcgkaaDoorPA31
import Derived.Test.YtmfoionlapcgkaaDoorPA32
/- Contract of the program of layer 14: readStart. -/
namespace Go.Proofs.YtmfoionlapcgkaaDoor
open Go.ChangeShapes Go.WideShapes Go.ChangeAt Go.RowKit
set_option linter.unusedVariables false
set_option maxRecDepth 100000

/-! ### The table of bits that count -/
/-- The table in memory. -/
def TCt (w : World) : Prop := w.cell? ⟨0, 0, none⟩ = some (.int .i64 240) ∧ w.cell? ⟨0, 1, none⟩ = some (.int .i64 63)
theorem cell_lt14 {w : World} {g i : Nat} {v : Value} (h : w.cell? ⟨g, i, none⟩ = some v) : g < w.heap.size := by
  unfold World.cell? at h
  cases hg : w.heap[g]? with
  | none => simp [hg] at h
  | some o => exact (Array.getElem?_eq_some_iff.1 hg).1
theorem TCt.kept {w w' : World} (h : TCt w) (hb : Below w.heap.size w w') : TCt w' :=
  ⟨(hb.cell (p := ⟨_, 0, none⟩) (cell_lt14 h.1)).trans h.1, (hb.cell (p := ⟨_, 1, none⟩) (cell_lt14 h.2)).trans h.2⟩
theorem and_lit (n k m r : Nat) (hn : n < 256) (hk : k < 256) (h : ∀ x : Fin 256, x.val &&& k = x.val / m * m % r) : bits .and .i64 (n : Int) (k : Int) = ((n / m * m % r : Nat) : Int) := by
  have e : n &&& k = n / m * m % r := h ⟨n, hn⟩
  have hl : n &&& k < 256 := Nat.lt_of_le_of_lt Nat.and_le_left hn
  rw [e] at hl
  have ht : (2 : Nat) ^ IntKind.i64.bits = 18446744073709551616 := by decide
  show IntKind.i64.wrap (((((n : Int) % ((2 : Nat) ^ IntKind.i64.bits : Nat)).toNat &&& ((k : Int) % ((2 : Nat) ^ IntKind.i64.bits : Nat)).toNat) : Nat) : Int) = _
  rw [ht]
  have e1 : ((n : Int) % (18446744073709551616 : Nat)).toNat = n := by omega
  have e2 : ((k : Int) % (18446744073709551616 : Nat)).toNat = k := by omega
  rw [e1, e2, e]
  exact IntWalk.i64_in _ (by omega)
theorem and240 (n : Nat) (hn : n < 256) : bits .and .i64 (n : Int) 240 = ((n / 16 * 16 : Nat) : Int) := by
  have := and_lit n 240 16 256 hn (by decide) (by decide)
  rwa [Nat.mod_eq_of_lt (by omega)] at this
theorem and63 (n : Nat) (hn : n < 256) : bits .and .i64 (n : Int) 63 = ((n % 64 : Nat) : Int) := by
  have := and_lit n 63 1 64 hn (by decide) (by decide)
  rwa [Nat.div_one, Nat.mul_one] at this
/-! ### The state in memory -/
def zT : Array Value := #[.int .i64 0, .int .i64 0, .int .u32 0, .int .u32 0, .int .i64 0, .int .i64 0, .int .i64 0, .slice none 0 0, .string ⟨#[]⟩]
theorem take_min20T (S : List UInt8) : S.take (min S.length 20) = S.take 20 := by
  by_cases h : S.length ≤ 20
  · rw [Nat.min_eq_left h, List.take_of_length_le (Nat.le_refl _), List.take_of_length_le h]
  · rw [Nat.min_eq_right (by omega)]
structure SDT (wb W : World) (g0 gx p : Nat) (cs : Array Value) (l : List UInt8) (err : Nat) : Prop where
  rd : RdB W gx p l (err : Int)
  x : Cells W gx 31 cs
  g : Cells W g0 31 zT
  bel : Below wb.heap.size wb W
  lo : wb.heap.size = g0
  lp : g0 < p
  ll : l.length ≤ 1000000
variable {wb W W' : World} {g0 gx p err : Nat} {cs : Array Value} {l l' : List UInt8}
theorem SDT.ggx (h : SDT wb W g0 gx p cs l err) : g0 < gx := by have := h.rd.lt; have := h.lp; omega
theorem SDT.grown {err' : Nat} (h : SDT wb W g0 gx p cs l err) (hg : W.grownBy W' (some p)) (hr : RdB W' gx p l' (err' : Int)) (hl : l'.length ≤ l.length) : SDT wb W' g0 gx p cs l' err' := by
  have hpg := h.rd.lt
  have hlo := h.lo
  have hlp := h.lp
  exact ⟨hr, h.x.only hg (by intro e; injection e with e; omega), h.g.only hg (by intro e; injection e with e; omega), below_only h.bel hg (by omega) h.bel.size, h.lo, h.lp, Nat.le_trans hl h.ll⟩
theorem SDT.set (h : SDT wb W g0 gx p cs l err) (i : Nat) (v : Value) : SDT wb (W.setCell ⟨gx, i, none⟩ v) g0 gx p (cs.setIfInBounds i v) l err := by
  have hg := h.ggx
  have hlo := h.lo
  exact ⟨h.rd.set (Nat.le_refl _) _, h.x.set i v, h.g.far (by omega) _, h.bel.setCell (p := ⟨gx, i, none⟩) (by simp only; omega) _, h.lo, h.lp, h.ll⟩
theorem SDT.below (h : SDT wb W g0 gx p cs l err) (hb : Below W.heap.size W W') : SDT wb W' g0 gx p cs l err :=
  ⟨h.rd.kept hb (Nat.le_of_lt h.x.lt), h.x.kept hb h.x.lt, h.g.kept hb h.g.lt, h.bel.trans (hb.mono h.bel.size), h.lo, h.lp, h.ll⟩
theorem SDT.drew (h : SDT wb W g0 gx p cs l err) : SDT wb W.drew g0 gx p cs l err := h.below (Below.refl _ _).drew
theorem SDT.int (h : SDT wb W g0 gx p cs l err) (k : Nat) (K : Int) (hK : (k : Int) = K) (h1 : 1 ≤ k) (h7 : k ≤ 7) :
    Calls Tryd.prog 48 #[.pointer (some ⟨p, 0, none⟩), .int .i64 K] W fun e w' => e = .returned (.int .i64 ((rdI l err k).1 : Int)) ∧ SDT wb w' g0 gx p cs (rdI l err k).2.1 (rdI l err k).2.2 :=
  (intB_any gx p k K hK l err W h.rd (by have := h.ll; omega) h1 h7).mono fun e w' ⟨h2, h3, h4⟩ => ⟨h2, h.grown h4 h3 (rdI_len _ _ _)⟩
theorem SDT.init {w1 : World} {S : List UInt8} (hb : Below (w1.alloc (.cells zT 31)).heap.size (w1.alloc (.cells zT 31)) W) (hp : (w1.alloc (.cells zT 31)).heap.size ≤ p) (hr : Rd W p S 0) (hS : S.length ≤ 1000000) :
    SDT w1 (W.alloc (.cells zT 31)) w1.heap.size W.heap.size p zT S 0 := by
  have hz : (w1.alloc (.cells zT 31)).heap.size = w1.heap.size + 1 := by simp
  have h0 : Cells (w1.alloc (.cells zT 31)) w1.heap.size 31 zT := heap_alloc_new w1 _
  have hB := below_alloc6 W (.cells zT 31)
  have h1 := Cells.kept h0 hb h0.lt
  refine ⟨(RdB.of hr).kept hB (Nat.le_refl _), heap_alloc_new W _, Cells.kept h1 hB h1.lt, ?_, rfl, by omega, hS⟩
  exact ((below_alloc6 w1 _).trans (hb.mono (by omega))).trans (hB.mono (by have := hb.size; omega))
/-- The values of a whole start. -/
def StartT (S : List UInt8) (c1 c2 c3 c4 c5 c6 c7 c9 : Nat) : Prop :=
  c1 = nm2 S 0 ∧ c2 = nm2 S 2 ∧ c3 = nm4 S 4 ∧ c4 = nm4 S 8 ∧ c5 = byt S 12 ∧ c6 = byt S 13 ∧ c7 = nm2 S 14 ∧ c9 = nm2 S 18
theorem start_finT {S l1 l2 l3 l4 l5 l6 l7 l8 l9 : List UInt8} {c1 c2 c3 c4 c5 c6 c7 c8 c9 e1 e2 e3 e4 e5 e6 e7 e8 e9 : Nat}
    (h1 : rdI (S.take 20) 0 2 = (c1, l1, e1)) (h2 : rdI l1 e1 2 = (c2, l2, e2)) (h3 : rdI l2 e2 4 = (c3, l3, e3)) (h4 : rdI l3 e3 4 = (c4, l4, e4)) (h5 : rdI l4 e4 1 = (c5, l5, e5)) (h6 : rdI l5 e5 1 = (c6, l6, e6)) (h7 : rdI l6 e6 2 = (c7, l7, e7)) (h8 : rdI l7 e7 2 = (c8, l8, e8)) (h9 : rdI l8 e8 2 = (c9, l9, e9)) :
    (S.length < 20 ∧ e9 = 1) ∨ (20 ≤ S.length ∧ e9 = 0 ∧ StartT S c1 c2 c3 c4 c5 c6 c7 c9) := by
  by_cases hs : S.length < 20
  · refine .inl ⟨hs, ?_⟩
    have a := rdI_step (rdI_step (rdI_step (rdI_step (rdI_step (rdI_step (rdI_step (rdI_step (rdI_step (N := (S.take 20).length) (pos := 0) (.inr ⟨rfl, rfl⟩) h1) h2) h3) h4) h5) h6) h7) h8) h9
    rcases a with a | ⟨_, a⟩
    · exact a
    · rw [List.length_take] at a
      omega
  · refine .inr ⟨by omega, ?_⟩
    have hl : (S.take 20).length = 20 := by rw [List.length_take]; omega
    rw [rdI_ok11 (by omega)] at h1
    obtain ⟨rfl, rfl, rfl⟩ := (by simpa only [Prod.mk.injEq] using h1 : _ ∧ _ ∧ _)
    rw [rdI_ok11 (by simp only [List.length_drop]; omega)] at h2
    obtain ⟨rfl, rfl, rfl⟩ := (by simpa only [Prod.mk.injEq] using h2 : _ ∧ _ ∧ _)
    rw [rdI_ok11 (by simp only [List.length_drop]; omega)] at h3
    obtain ⟨rfl, rfl, rfl⟩ := (by simpa only [Prod.mk.injEq] using h3 : _ ∧ _ ∧ _)
    rw [rdI_ok11 (by simp only [List.length_drop]; omega)] at h4
    obtain ⟨rfl, rfl, rfl⟩ := (by simpa only [Prod.mk.injEq] using h4 : _ ∧ _ ∧ _)
    rw [rdI_ok11 (by simp only [List.length_drop]; omega)] at h5
    obtain ⟨rfl, rfl, rfl⟩ := (by simpa only [Prod.mk.injEq] using h5 : _ ∧ _ ∧ _)
    rw [rdI_ok11 (by simp only [List.length_drop]; omega)] at h6
    obtain ⟨rfl, rfl, rfl⟩ := (by simpa only [Prod.mk.injEq] using h6 : _ ∧ _ ∧ _)
    rw [rdI_ok11 (by simp only [List.length_drop]; omega)] at h7
    obtain ⟨rfl, rfl, rfl⟩ := (by simpa only [Prod.mk.injEq] using h7 : _ ∧ _ ∧ _)
    rw [rdI_ok11 (by simp only [List.length_drop]; omega)] at h8
    obtain ⟨rfl, rfl, rfl⟩ := (by simpa only [Prod.mk.injEq] using h8 : _ ∧ _ ∧ _)
    rw [rdI_ok11 (by simp only [List.length_drop]; omega)] at h9
    obtain ⟨rfl, rfl, rfl⟩ := (by simpa only [Prod.mk.injEq] using h9 : _ ∧ _ ∧ _)
    refine ⟨rfl, ?_⟩
    unfold StartT
    simp only [List.drop_drop]
    refine ⟨?_, ?_, ?_, ?_, ?_, ?_, ?_, ?_⟩
    · exact congrArg num (drop20 S 0 2 (by omega))
    · exact congrArg num (drop20 S 2 2 (by omega))
    · exact congrArg num (drop20 S 4 4 (by omega))
    · exact congrArg num (drop20 S 8 4 (by omega))
    · exact (congrArg num (drop20 S 12 1 (by omega))).trans (num_byt S 12 (by omega))
    · exact (congrArg num (drop20 S 13 1 (by omega))).trans (num_byt S 13 (by omega))
    · exact congrArg num (drop20 S 14 2 (by omega))
    · exact congrArg num (drop20 S 18 2 (by omega))
theorem Cells.drewT {t : TypeId} {w : World} {g : Nat} {cs : Array Value} (h : Cells w g t cs) : Cells w.drew g t cs := h
theorem wpStill_load_rowT {P : Program} {ops : Array Oper} {rest : List Oper} {o : Oper} {a : Act} {w : World} {Q : Act → Prop} (hgd : o.guard = none) (ty : TypeId) (x : Operand) (ho : o.op = .load ty x)
    (g : Nat) (hx : a.eval x = .pointer (some ⟨g, 0, none⟩)) (t : TypeId) (cs : Array Value) (fr : Nat × Nat) (d : TypeDesc) (hg : w.heap[g]? = some (.cells cs t fr))
    (hu : P.underlying ty = some d) (hd : (match d with | .struct _ | .array _ _ => true | _ => false) = true) (hi : (P.info? ty).map (·.size) = some cs.size)
    (h : wpStill P ops w Q rest (a.put o.dst (.agg cs))) : wpStill P ops w Q (o :: rest) a := by
  refine wpStill_step (fun K hK => ?_)
  have hw : Region.wanted o (yielded ops a.tmps) = true := by unfold Region.wanted; rw [hgd]
  rw [if_pos hw]
  unfold Oper.still execOp
  simp only [ho, hx, Instr.loadAt, Instr.sureAddr, Sem.run_bind, Sem.run_pure, Result.andThen_ok, run_loadVar_row w g t ty cs fr d hg hu hd hi]
  rw [Oper.stillUpon_value]
  exact hK _ h
/-- What readStart returns. -/
def StartCT (c1 c2 c3 c4 c6 c7 c9 : Nat) : Array Value :=
  #[.int .i64 (c1 : Int), .int .i64 (c2 : Int), .int .u32 (c3 : Int), .int .u32 (c4 : Int), .int .i64 ((c6 % 64 : Nat) : Int), .int .i64 (c7 : Int), .int .i64 (c9 : Int), .slice none 0 0, .string ⟨#[]⟩]
def StartPT (S : List UInt8) (w : World) (e : Ending) (w' : World) : Prop :=
  ∃ (c1 c2 c3 c4 c5 c6 c7 c9 er : Nat), e = .returned (.tuple #[.agg (StartCT c1 c2 c3 c4 c6 c7 c9), .int .i64 ((c5 / 16 * 4 : Nat) : Int), .int .i64 (er : Int)]) ∧ Hid (c1 < 65536 ∧ c2 < 65536 ∧ c3 < 4294967296 ∧ c4 < 4294967296 ∧ c5 < 256 ∧ c6 < 256 ∧ c7 < 65536 ∧ c9 < 65536) ∧
    Hid ((S.length < 20 ∧ er = 1) ∨ (20 ≤ S.length ∧ er = 0 ∧ StartT S c1 c2 c3 c4 c5 c6 c7 c9)) ∧ Below w.heap.size w w'
set_option maxHeartbeats 8000000 in
set_option maxRecDepth 100000 in
theorem pstart14_any (S : List UInt8) (w : World) (hs : S.length ≤ 1000000) (htc : TCt w) :
    Calls Tryd.prog 27 #[.string (str S)] w (StartPT S w) := by
  obtain ⟨s, hS⟩ : ∃ s, s = str S := ⟨_, rfl⟩
  have hsz : s.size = S.length := by rw [hS, str_size]
  have hs6 : s.size ≤ 1000000 := by omega
  obtain ⟨q, hq⟩ : ∃ q, q = min s.size 20 := ⟨_, rfl⟩
  have hmn : min (s.size : Int) 20 = (q : Int) := by omega
  have hqs : q ≤ s.size := by omega
  have hqsi : (q : Int) ≤ (s.size : Int) := by omega
  have HQX := Lib.hid (show s.extract 0 q = str (S.take 20) by rw [extract_str10 s S hS, List.drop_zero, hq, hsz, Nat.sub_zero, take_min20T])
  have HNEW := Lib.hid (fun (D : ByteArray) (hD : D = str (S.take 20)) (W : World) => show Calls Tryd.prog 47 #[.string D] W fun e w' => ∃ p, e = .returned (.pointer (some ⟨p, 0, none⟩)) ∧ W.heap.size ≤ p ∧ Rd w' p (S.take 20) 0 ∧ Below W.heap.size W w' from by
    subst hD
    have := new_any (str (S.take 20)) W
    rwa [str_toList] at this)
  have HSL := Lib.hid (show (S.take 20).length ≤ 1000000 by rw [List.length_take]; omega)
  have HTC := Lib.hid htc
  rw [← hS]
  obtain ⟨q1, hq1⟩ : ∃ q, rdI (S.take 20) 0 2 = q := ⟨_, rfl⟩
  have hlt1 := rdI_lt (S.take 20) 0 2
  rw [hq1] at hlt1
  obtain ⟨c1, l1, e1⟩ := q1
  simp only at hlt1
  obtain ⟨q2, hq2⟩ : ∃ q, rdI l1 e1 2 = q := ⟨_, rfl⟩
  have hlt2 := rdI_lt l1 e1 2
  rw [hq2] at hlt2
  obtain ⟨c2, l2, e2⟩ := q2
  simp only at hlt2
  obtain ⟨q3, hq3⟩ : ∃ q, rdI l2 e2 4 = q := ⟨_, rfl⟩
  have hlt3 := rdI_lt l2 e2 4
  rw [hq3] at hlt3
  obtain ⟨c3, l3, e3⟩ := q3
  simp only at hlt3
  obtain ⟨q4, hq4⟩ : ∃ q, rdI l3 e3 4 = q := ⟨_, rfl⟩
  have hlt4 := rdI_lt l3 e3 4
  rw [hq4] at hlt4
  obtain ⟨c4, l4, e4⟩ := q4
  simp only at hlt4
  obtain ⟨q5, hq5⟩ : ∃ q, rdI l4 e4 1 = q := ⟨_, rfl⟩
  have hlt5 := rdI_lt l4 e4 1
  rw [hq5] at hlt5
  obtain ⟨c5, l5, e5⟩ := q5
  simp only at hlt5
  obtain ⟨q6, hq6⟩ : ∃ q, rdI l5 e5 1 = q := ⟨_, rfl⟩
  have hlt6 := rdI_lt l5 e5 1
  rw [hq6] at hlt6
  obtain ⟨c6, l6, e6⟩ := q6
  simp only at hlt6
  obtain ⟨q7, hq7⟩ : ∃ q, rdI l6 e6 2 = q := ⟨_, rfl⟩
  have hlt7 := rdI_lt l6 e6 2
  rw [hq7] at hlt7
  obtain ⟨c7, l7, e7⟩ := q7
  simp only at hlt7
  obtain ⟨q8, hq8⟩ : ∃ q, rdI l7 e7 2 = q := ⟨_, rfl⟩
  have hlt8 := rdI_lt l7 e7 2
  rw [hq8] at hlt8
  obtain ⟨c8, l8, e8⟩ := q8
  simp only at hlt8
  obtain ⟨q9, hq9⟩ : ∃ q, rdI l8 e8 2 = q := ⟨_, rfl⟩
  have hlt9 := rdI_lt l8 e8 2
  rw [hq9] at hlt9
  obtain ⟨c9, l9, e9⟩ := q9
  simp only at hlt9
  have HFIN := Lib.hid (start_finT hq1 hq2 hq3 hq4 hq5 hq6 hq7 hq8 hq9)
  have HQ1 := Lib.hid hq1
  have HQ2 := Lib.hid hq2
  have HQ3 := Lib.hid hq3
  have HQ4 := Lib.hid hq4
  have HQ5 := Lib.hid hq5
  have HQ6 := Lib.hid hq6
  have HQ7 := Lib.hid hq7
  have HQ8 := Lib.hid hq8
  have HQ9 := Lib.hid hq9
  have b1 : c1 < 65536 := by omega
  have b2 : c2 < 65536 := by omega
  have b3 : c3 < 4294967296 := by omega
  have b4 : c4 < 4294967296 := by omega
  have b5 : c5 < 256 := by omega
  have b6 : c6 < 256 := by omega
  have b7 : c7 < 65536 := by omega
  have b9 : c9 < 65536 := by omega
  have HBD := Lib.hid (show c1 < 65536 ∧ c2 < 65536 ∧ c3 < 4294967296 ∧ c4 < 4294967296 ∧ c5 < 256 ∧ c6 < 256 ∧ c7 < 65536 ∧ c9 < 65536 from ⟨b1, b2, b3, b4, b5, b6, b7, b9⟩)
  have u3 : IntKind.u32.wrap (c3 : Int) = (c3 : Int) := by rw [IntKind.wrap_u32]; omega
  have u4 : IntKind.u32.wrap (c4 : Int) = (c4 : Int) := by rw [IntKind.wrap_u32]; omega
  obtain ⟨v5, hv5⟩ : ∃ v, v = c5 / 16 * 16 := ⟨_, rfl⟩
  obtain ⟨v7, hv7⟩ : ∃ v, v = c5 / 16 * 4 := ⟨_, rfl⟩
  obtain ⟨v6, hv6⟩ : ∃ v, v = c6 % 64 := ⟨_, rfl⟩
  have a5 : bits .and .i64 (c5 : Int) 240 = (v5 : Int) := by rw [hv5]; exact and240 c5 b5
  have a6 : bits .and .i64 (c6 : Int) 63 = (v6 : Int) := by rw [hv6]; exact and63 c6 b6
  have d5 : (v5 : Int) / 4 = (v7 : Int) := by omega
  have d5' : (v5 : Int).tdiv 4 = (v7 : Int) := by rw [Int.tdiv_eq_ediv_of_nonneg (by omega)]; omega
  have hv7l : v7 ≤ 60 := by omega
  have HW7 := Lib.hid (show IntKind.i64.wrap (v7 : Int) = (v7 : Int) by rw [IntKind.wrap_i64]; omega)
  have hv5l : v5 ≤ 240 := by omega
  have hv6l : v6 ≤ 63 := by omega
  have HV7 := Lib.hid (And.intro hv7 hv6)
  have HSZ := Lib.hid hsz
  clear hq hsz hs hS hv5 hv7 hv6 htc
  clear hq1 hq2 hq3 hq4 hq5 hq6 hq7 hq8 hq9 hlt1 hlt2 hlt3 hlt4 hlt5 hlt6 hlt7 hlt8 hlt9
  go_enter Tryd.func27, Tryd.ntmps27
  go_wp2_with fail
  refine (HNEW.out _ HQX.out _).mono ?_
  rintro e w1 ⟨p, rfl, hp, hrd, hbw⟩
  obtain ⟨W2, hW2⟩ : ∃ W, W = w1.alloc (.cells zT 31) := ⟨_, rfl⟩
  obtain ⟨gx, hgx⟩ : ∃ g, g = w1.heap.size := ⟨_, rfl⟩
  obtain ⟨g0, hg0⟩ : ∃ g, g = w.heap.size := ⟨_, rfl⟩
  have H0 := Lib.hid (show SDT w W2 g0 gx p zT (S.take 20) 0 by rw [hW2, hgx, hg0]; exact SDT.init hbw hp hrd HSL.out)
  unfold zT at hW2
  clear hp hrd hbw HNEW HSL
  go_wp2_with fail
  rw [← hW2, ← hgx, ← hg0]
  clear hW2 hgx hg0
  refine (H0.out.int 2 2 rfl (by decide) (by decide)).mono ?_
  rintro e U1 ⟨rfl, h⟩
  rw [HQ1.out] at h ⊢
  have C1 := Lib.hid (show SDT w U1 g0 gx p #[.int .i64 0, .int .i64 0, .int .u32 0, .int .u32 0, .int .i64 0, .int .i64 0, .int .i64 0, .slice none 0 0, .string ⟨#[]⟩] l1 e1 from h)
  clear h H0 HQ1
  dsimp only
  have x0 := (Cells.cell C1.out.x 0).trans (show _ = some (Value.int .i64 0) from rfl)
  have z0 := Cells.frozen C1.out.x 0
  have hgl := C1.out.x.lt
  go_wp2_with fail
  have S2 := Lib.hid (show SDT w (U1.setCell ⟨gx, 0, none⟩ (.int .i64 (c1 : Int))) g0 gx p #[.int .i64 (c1 : Int), .int .i64 0, .int .u32 0, .int .u32 0, .int .i64 0, .int .i64 0, .int .i64 0, .slice none 0 0, .string ⟨#[]⟩] l1 e1 from (C1.out.set 0 (.int .i64 (c1 : Int))))
  clear x0 z0 C1 hgl
  generalize (U1.setCell ⟨gx, 0, none⟩ (.int .i64 (c1 : Int))) = V2 at *
  refine (S2.out.int 2 2 rfl (by decide) (by decide)).mono ?_
  rintro e U3 ⟨rfl, h⟩
  rw [HQ2.out] at h ⊢
  have C3 := Lib.hid (show SDT w U3 g0 gx p #[.int .i64 (c1 : Int), .int .i64 0, .int .u32 0, .int .u32 0, .int .i64 0, .int .i64 0, .int .i64 0, .slice none 0 0, .string ⟨#[]⟩] l2 e2 from h)
  clear h S2 HQ2
  dsimp only
  have x1 := (Cells.cell C3.out.x 1).trans (show _ = some (Value.int .i64 0) from rfl)
  have z1 := Cells.frozen C3.out.x 1
  have hgl := C3.out.x.lt
  go_wp2_with fail
  have S4 := Lib.hid (show SDT w (U3.setCell ⟨gx, 1, none⟩ (.int .i64 (c2 : Int))) g0 gx p #[.int .i64 (c1 : Int), .int .i64 (c2 : Int), .int .u32 0, .int .u32 0, .int .i64 0, .int .i64 0, .int .i64 0, .slice none 0 0, .string ⟨#[]⟩] l2 e2 from (C3.out.set 1 (.int .i64 (c2 : Int))))
  clear x1 z1 C3 hgl
  generalize (U3.setCell ⟨gx, 1, none⟩ (.int .i64 (c2 : Int))) = V4 at *
  refine (S4.out.int 4 4 rfl (by decide) (by decide)).mono ?_
  rintro e U5 ⟨rfl, h⟩
  rw [HQ3.out] at h ⊢
  have C5 := Lib.hid (show SDT w U5 g0 gx p #[.int .i64 (c1 : Int), .int .i64 (c2 : Int), .int .u32 0, .int .u32 0, .int .i64 0, .int .i64 0, .int .i64 0, .slice none 0 0, .string ⟨#[]⟩] l3 e3 from h)
  clear h S4 HQ3
  dsimp only
  have x2 := (Cells.cell C5.out.x 2).trans (show _ = some (Value.int .u32 0) from rfl)
  have z2 := Cells.frozen C5.out.x 2
  have hgl := C5.out.x.lt
  go_wp2_with fail
  have S6 := Lib.hid (show SDT w (U5.setCell ⟨gx, 2, none⟩ (.int .u32 (c3 : Int))) g0 gx p #[.int .i64 (c1 : Int), .int .i64 (c2 : Int), .int .u32 (c3 : Int), .int .u32 0, .int .i64 0, .int .i64 0, .int .i64 0, .slice none 0 0, .string ⟨#[]⟩] l3 e3 from (C5.out.set 2 (.int .u32 (c3 : Int))))
  clear x2 z2 C5 hgl
  generalize (U5.setCell ⟨gx, 2, none⟩ (.int .u32 (c3 : Int))) = V6 at *
  refine (S6.out.int 4 4 rfl (by decide) (by decide)).mono ?_
  rintro e U7 ⟨rfl, h⟩
  rw [HQ4.out] at h ⊢
  have C7 := Lib.hid (show SDT w U7 g0 gx p #[.int .i64 (c1 : Int), .int .i64 (c2 : Int), .int .u32 (c3 : Int), .int .u32 0, .int .i64 0, .int .i64 0, .int .i64 0, .slice none 0 0, .string ⟨#[]⟩] l4 e4 from h)
  clear h S6 HQ4
  dsimp only
  have x3 := (Cells.cell C7.out.x 3).trans (show _ = some (Value.int .u32 0) from rfl)
  have z3 := Cells.frozen C7.out.x 3
  have hgl := C7.out.x.lt
  go_upto_region 7 with fail
  have S8 := Lib.hid (show SDT w (U7.setCell ⟨gx, 3, none⟩ (.int .u32 (c4 : Int))) g0 gx p #[.int .i64 (c1 : Int), .int .i64 (c2 : Int), .int .u32 (c3 : Int), .int .u32 (c4 : Int), .int .i64 0, .int .i64 0, .int .i64 0, .slice none 0 0, .string ⟨#[]⟩] l4 e4 from (C7.out.set 3 (.int .u32 (c4 : Int))))
  clear x3 z3 C7 hgl
  generalize (U7.setCell ⟨gx, 3, none⟩ (.int .u32 (c4 : Int))) = V8 at *
  have t0 := (HTC.out.kept S8.out.bel).1
  have t1 := (HTC.out.kept S8.out.bel).2
  go_cut [7] from 28 (fun s7 wc => s7 = .int .i64 (v7 : Int) ∧ Hid (SDT w wc g0 gx p #[.int .i64 (c1 : Int), .int .i64 (c2 : Int), .int .u32 (c3 : Int), .int .u32 (c4 : Int), .int .i64 0, .int .i64 0, .int .i64 0, .slice none 0 0, .string ⟨#[]⟩] l5 e5))
  case first =>
    go_region_with (go_at_call 48; refine (SDT.int (by first | exact S8.out | exact S8.out.drew) 1 1 rfl (by decide) (by decide)).mono ?_; rintro e w2 ⟨rfl, h⟩; rw [HQ5.out] at h ⊢; have C := Lib.hid (show SDT w w2 g0 gx p #[.int .i64 (c1 : Int), .int .i64 (c2 : Int), .int .u32 (c3 : Int), .int .u32 (c4 : Int), .int .i64 0, .int .i64 0, .int .i64 0, .slice none 0 0, .string ⟨#[]⟩] l5 e5 from h); clear h; dsimp only; have t0 := (HTC.out.kept C.out.bel).1; have t1 := (HTC.out.kept C.out.bel).2)
    all_goals
      go_wp2_with fail
      go_meet
      exact ⟨by first | rfl | rw [HW7.out], C⟩
  case rest =>
    obtain ⟨rfl, C5⟩ := hcut
    clear S8 HQ5
    have t0 := (HTC.out.kept C5.out.bel).1
    have t1 := (HTC.out.kept C5.out.bel).2
    go_upto_region 8 with fail
    go_cut [] from 34 (fun wd => Hid (SDT w wd g0 gx p #[.int .i64 (c1 : Int), .int .i64 (c2 : Int), .int .u32 (c3 : Int), .int .u32 (c4 : Int), .int .i64 (v6 : Int), .int .i64 0, .int .i64 0, .slice none 0 0, .string ⟨#[]⟩] l6 e6))
    case first =>
      go_region_with (go_at_call 48; refine (SDT.int (by first | exact C5.out | exact C5.out.drew) 1 1 rfl (by decide) (by decide)).mono ?_; rintro e w2 ⟨rfl, h⟩; rw [HQ6.out] at h ⊢; have C := Lib.hid (show SDT w w2 g0 gx p #[.int .i64 (c1 : Int), .int .i64 (c2 : Int), .int .u32 (c3 : Int), .int .u32 (c4 : Int), .int .i64 0, .int .i64 0, .int .i64 0, .slice none 0 0, .string ⟨#[]⟩] l6 e6 from h); clear h; dsimp only; have t0 := (HTC.out.kept C.out.bel).1; have t1 := (HTC.out.kept C.out.bel).2; have x4 := (Cells.cell C.out.x 4).trans (show _ = some (Value.int .i64 0) from rfl); have z4 := Cells.frozen C.out.x 4; have hgl := C.out.x.lt)
      all_goals
        go_wp2_with fail
        go_meet
        exact Lib.hid (C.out.set 4 (.int .i64 (v6 : Int)))
    case rest =>
      have C6 := hcut
      clear hcut C5 HQ6
      go_wp2_with fail
      refine (C6.out.int 2 2 rfl (by decide) (by decide)).mono ?_
      rintro e U9 ⟨rfl, h⟩
      rw [HQ7.out] at h ⊢
      have C9 := Lib.hid (show SDT w U9 g0 gx p #[.int .i64 (c1 : Int), .int .i64 (c2 : Int), .int .u32 (c3 : Int), .int .u32 (c4 : Int), .int .i64 (v6 : Int), .int .i64 0, .int .i64 0, .slice none 0 0, .string ⟨#[]⟩] l7 e7 from h)
      clear h C6 HQ7
      dsimp only
      have x5 := (Cells.cell C9.out.x 5).trans (show _ = some (Value.int .i64 0) from rfl)
      have z5 := Cells.frozen C9.out.x 5
      have hgl := C9.out.x.lt
      go_wp2_with fail
      have S10 := Lib.hid (show SDT w (U9.setCell ⟨gx, 5, none⟩ (.int .i64 (c7 : Int))) g0 gx p #[.int .i64 (c1 : Int), .int .i64 (c2 : Int), .int .u32 (c3 : Int), .int .u32 (c4 : Int), .int .i64 (v6 : Int), .int .i64 (c7 : Int), .int .i64 0, .slice none 0 0, .string ⟨#[]⟩] l7 e7 from (C9.out.set 5 (.int .i64 (c7 : Int))))
      clear x5 z5 C9 hgl
      generalize (U9.setCell ⟨gx, 5, none⟩ (.int .i64 (c7 : Int))) = V10 at *
      refine (S10.out.int 2 2 rfl (by decide) (by decide)).mono ?_
      rintro e U11 ⟨rfl, h⟩
      rw [HQ8.out] at h ⊢
      have C11 := Lib.hid (show SDT w U11 g0 gx p #[.int .i64 (c1 : Int), .int .i64 (c2 : Int), .int .u32 (c3 : Int), .int .u32 (c4 : Int), .int .i64 (v6 : Int), .int .i64 (c7 : Int), .int .i64 0, .slice none 0 0, .string ⟨#[]⟩] l8 e8 from h)
      clear h S10 HQ8
      dsimp only
      go_wp2_with fail
      refine (C11.out.int 2 2 rfl (by decide) (by decide)).mono ?_
      rintro e U12 ⟨rfl, h⟩
      rw [HQ9.out] at h ⊢
      have C12 := Lib.hid (show SDT w U12 g0 gx p #[.int .i64 (c1 : Int), .int .i64 (c2 : Int), .int .u32 (c3 : Int), .int .u32 (c4 : Int), .int .i64 (v6 : Int), .int .i64 (c7 : Int), .int .i64 0, .slice none 0 0, .string ⟨#[]⟩] l9 e9 from h)
      clear h C11 HQ9
      dsimp only
      have x6 := (Cells.cell C12.out.x 6).trans (show _ = some (Value.int .i64 0) from rfl)
      have z6 := Cells.frozen C12.out.x 6
      have hgl := C12.out.x.lt
      go_wp2_with fail
      have S13 := Lib.hid (show SDT w (U12.setCell ⟨gx, 6, none⟩ (.int .i64 (c9 : Int))) g0 gx p #[.int .i64 (c1 : Int), .int .i64 (c2 : Int), .int .u32 (c3 : Int), .int .u32 (c4 : Int), .int .i64 (v6 : Int), .int .i64 (c7 : Int), .int .i64 (c9 : Int), .slice none 0 0, .string ⟨#[]⟩] l9 e9 from (C12.out.set 6 (.int .i64 (c9 : Int))))
      clear x6 z6 C12 hgl
      generalize (U12.setCell ⟨gx, 6, none⟩ (.int .i64 (c9 : Int))) = V13 at *
      have HRD := Lib.hid (show Rd V13.drew p l9 (e9 : Int) from S13.out.drew.rd.rd)
      have HGZ := Lib.hid S13.out.g
      have HB := Lib.hid S13.out.bel
      have HLO := Lib.hid S13.out.lo
      have HNC := Lib.hid (fun (W : World) (hh : Rd W p l9 (e9 : Int)) => show Calls Tryd.prog 55 #[.pointer (some ⟨p, 0, none⟩)] W fun e w' => e = .returned (.int .i64 (e9 : Int)) ∧ w' = W from (err_any p l9 (e9 : Int) W (by obtain ⟨A, c, h1, h2⟩ := hh; exact ⟨A, c, h1, h2⟩)).mono fun e w' h => ⟨h.1, h.2.symm⟩)
      have x0 := (Cells.cell S13.out.x 0).trans (show _ = some (Value.int .i64 (c1 : Int)) from rfl)
      have x1 := (Cells.cell S13.out.x 1).trans (show _ = some (Value.int .i64 (c2 : Int)) from rfl)
      have x2 := (Cells.cell S13.out.x 2).trans (show _ = some (Value.int .u32 (c3 : Int)) from rfl)
      have x3 := (Cells.cell S13.out.x 3).trans (show _ = some (Value.int .u32 (c4 : Int)) from rfl)
      have x4 := (Cells.cell S13.out.x 4).trans (show _ = some (Value.int .i64 (v6 : Int)) from rfl)
      have x5 := (Cells.cell S13.out.x 5).trans (show _ = some (Value.int .i64 (c7 : Int)) from rfl)
      have x6 := (Cells.cell S13.out.x 6).trans (show _ = some (Value.int .i64 (c9 : Int)) from rfl)
      have x7 := (Cells.cell S13.out.x 7).trans (show _ = some (Value.slice none 0 0) from rfl)
      have x8 := (Cells.cell S13.out.x 8).trans (show _ = some (Value.string ⟨#[]⟩) from rfl)
      have y0 := (Cells.cell S13.out.g 0).trans (show _ = some (Value.int .i64 0) from rfl)
      have z0 := Cells.frozen S13.out.g 0
      have y1 := (Cells.cell S13.out.g 1).trans (show _ = some (Value.int .i64 0) from rfl)
      have z1 := Cells.frozen S13.out.g 1
      have y2 := (Cells.cell S13.out.g 2).trans (show _ = some (Value.int .u32 0) from rfl)
      have z2 := Cells.frozen S13.out.g 2
      have y3 := (Cells.cell S13.out.g 3).trans (show _ = some (Value.int .u32 0) from rfl)
      have z3 := Cells.frozen S13.out.g 3
      have y4 := (Cells.cell S13.out.g 4).trans (show _ = some (Value.int .i64 0) from rfl)
      have z4 := Cells.frozen S13.out.g 4
      have y5 := (Cells.cell S13.out.g 5).trans (show _ = some (Value.int .i64 0) from rfl)
      have z5 := Cells.frozen S13.out.g 5
      have y6 := (Cells.cell S13.out.g 6).trans (show _ = some (Value.int .i64 0) from rfl)
      have z6 := Cells.frozen S13.out.g 6
      have y7 := (Cells.cell S13.out.g 7).trans (show _ = some (Value.slice none 0 0) from rfl)
      have z7 := Cells.frozen S13.out.g 7
      have y8 := (Cells.cell S13.out.g 8).trans (show _ = some (Value.string ⟨#[]⟩) from rfl)
      have z8 := Cells.frozen S13.out.g 8
      have hgl := S13.out.x.lt
      have hgg := S13.out.g.lt
      have hne := Nat.ne_of_lt S13.out.ggx
      have hne' := (Nat.ne_of_lt S13.out.ggx).symm
      clear S13
      go_cut [3, 4] from 48 (fun s3 s4 wz => s3 = .int .i64 (v7 : Int) ∧ s4 = .int .i64 (e9 : Int) ∧ Hid (Cells wz g0 31 #[.int .i64 (c1 : Int), .int .i64 (c2 : Int), .int .u32 (c3 : Int), .int .u32 (c4 : Int), .int .i64 (v6 : Int), .int .i64 (c7 : Int), .int .i64 (c9 : Int), .slice none 0 0, .string ⟨#[]⟩]) ∧ Hid (Below w.heap.size w wz))
      case first =>
        go_region_with (go_at_call 55; refine (HNC.out _ HRD.out).mono ?_; rintro e w2 ⟨rfl, rfl⟩)
        all_goals
          clear x0 y0 z0 x1 y1 z1 x2 y2 z2 x3 y3 z3 x4 y4 z4 x5 y5 z5 x6 y6 z6 x7 y7 z7 x8 y8 z8 hgl hgg hne hne' HNC
          go_wp2_with fail
          go_meet
          exact ⟨rfl, rfl, Lib.hid (Cells.drewT (Cells.put HGZ.out [.int .i64 (c1 : Int), .int .i64 (c2 : Int), .int .u32 (c3 : Int), .int .u32 (c4 : Int), .int .i64 (v6 : Int), .int .i64 (c7 : Int), .int .i64 (c9 : Int), .slice none 0 0, .string ⟨#[]⟩] rfl)), Lib.hid (Below.drew (putB_below (Nat.le_of_eq HLO.out) [.int .i64 (c1 : Int), .int .i64 (c2 : Int), .int .u32 (c3 : Int), .int .u32 (c4 : Int), .int .i64 (v6 : Int), .int .i64 (c7 : Int), .int .i64 (c9 : Int), .slice none 0 0, .string ⟨#[]⟩] 0 _ HB.out))⟩
      case rest =>
        obtain ⟨rfl, rfl, HGR, HBR⟩ := hcut
        go_wp2_with fail
        refine bodyPost_ret (res_box3 tcpTy rfl _ _ rfl HGR.out) rfl ?_
        obtain ⟨hv7, hv6⟩ := HV7.out
        refine ⟨c1, c2, c3, c4, c5, c6, c7, c9, e9, ?_, HBD, HFIN, HBR.out⟩
        unfold StartCT
        rw [← hv7, ← hv6]
        rfl
end Go.Proofs.YtmfoionlapcgkaaDoor
