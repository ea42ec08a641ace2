/- Contracts of the functions, part 5: InRow, In09, CapPWr, CapPMrg, CapProg, Awk09. -/
import Derived.Deep.Slices
import Derived.Deep.Strs
import Derived.Lib.SmallJoins
import Derived.Test.YtnckcdngmffahaaCA2
import Derived.Test.YtnckcdngmffahaaCA3
import Derived.Test.YtnckcdngmffahaaCA4
/- Slices of elements as they come in: a row that reads as a list; strings. -/
namespace Go.Proofs.Ytnckcdngmffahaa
open Go.ChangeShapes Go.WideShapes Go.ChangeAt Go.RowKit
set_option linter.unusedVariables false

theorem choose_some {α : Type} [Inhabited α] {p : Nat → α → Prop} {m : Nat} (h : ∀ i, i < m → ∃ x, p i x) : ∃ f : Nat → α, ∀ i, i < m → p i (f i) := by
  classical
  exact ⟨fun i => if hi : i < m then (h i hi).choose else default, fun i hi => by simp only [dif_pos hi]; exact (h i hi).choose_spec⟩
theorem addr_twice (a : Addr) (x y : Nat) : (a.add x).add y = a.add (x + y) := by
  unfold Addr.add
  by_cases hx : x = 0 <;> by_cases hy : y = 0 <;> simp [hx, hy] <;> omega
/-- A slice that comes in, its elements opened one by one. -/
theorem in_row {H : Type} {enc : TypeId × Value → H} {α : Type} [Inhabited α] {E : Enc α} {P : α → Prop} {t e : TypeId} (ht : Try.prog.underlying t = some (.slice e)) (hk : Try.prog.cellsOf e = E.k)
    {W : World} {base : Nat} {sp : Nat → Bool} {held : Bool} (each : ∀ fuel (cs : List Value) (x : DataW H × List MemPlace), cs.length = E.k → DataW.trod enc Try.prog W base sp held fuel e cs = some x → ∃ q : α, P q ∧ cs = E.c q)
    {A : Option Addr} {n cap : Nat} {d : DataW H} {p : List MemPlace} (h : DataW.Trod enc Try.prog W base sp held t (.slice A n cap) d p) : ∃ l : List α, RowL E W A l ∧ n = l.length ∧ (A = none → cap = 0) ∧ n ≤ maxLen ∧ ∀ r ∈ l, P r := by
  obtain ⟨fuel, hf⟩ := h
  rcases Go.Deep.open_slice ht hf with ⟨hcs, _⟩ | ⟨a, l, c, m, k, D, Pl, hcs, _, hl, hm, hmm, _, hx⟩
  · simp [Value.cells] at hcs
    obtain ⟨rfl, rfl, rfl⟩ := hcs
    exact ⟨[], RowL.nil _ _, rfl, fun _ => rfl, by simp [maxLen], by simp⟩
  · simp [Value.cells] at hcs
    obtain ⟨rfl, rfl, rfl⟩ := hcs
    have hlm : n ≤ m := by rw [hmm]; split <;> omega
    have every : ∀ i, i < n → ∃ q : α, P q ∧ ∀ j v, (E.c q)[j]? = some v → W.cell? (a.add (i * E.k + j)) = some v := by
      intro i hi
      obtain ⟨cs', h1, h2⟩ := hx i (by omega)
      rw [hk] at h1
      obtain ⟨_, hlen, hcell⟩ := World.cells?_some h1
      obtain ⟨q, hq, rfl⟩ := each _ cs' _ hlen h2
      refine ⟨q, hq, fun j v hv => ?_⟩
      have hj : j < E.k := by rw [← E.len q]; exact (List.getElem?_eq_some_iff.1 hv).1
      have := hcell j hj
      rw [addr_twice] at this
      rw [this]
      exact hv
    obtain ⟨q, hq⟩ := choose_some every
    refine ⟨(List.range n).map q, fun hp => ?_, by simp, (fun e => by simp at e), by omega, fun r hr => ?_⟩
    · simp only [List.length_map, List.length_range] at hp
      obtain ⟨b, off, spot⟩ := a
      have hpos := E.pos
      obtain ⟨u, hu⟩ : ∃ u, (E.c (q 0))[0]? = some u := ⟨_, List.getElem?_eq_getElem (by rw [E.len]; exact hpos)⟩
      have h0 := (hq 0 hp).2 0 u hu
      have hspot : spot = none := by simpa [Addr.add] using World.cell?_spot h0
      subst hspot
      have hlt := World.block_lt_of_cell? W _ h0
      refine ⟨b, off, rfl, by simpa [Addr.add] using hlt, fun i x hx j v hv => ?_⟩
      rw [List.getElem?_map] at hx
      by_cases hi : i < n
      · rw [List.getElem?_range hi] at hx
        simp only [Option.map_some, Option.some.injEq] at hx
        subst hx
        have := (hq i hi).2 j v hv
        rw [addr_add7] at this
        rw [Nat.add_assoc]
        exact this
      · rw [List.getElem?_eq_none (by simpa using hi)] at hx
        simp at hx
    · obtain ⟨i, hi, rfl⟩ := List.mem_map.1 hr
      exact (hq i (List.mem_range.1 hi)).1
/-- A slice that is a field of what comes in. -/
theorem in_row_field {H : Type} {enc : TypeId × Value → H} {α : Type} [Inhabited α] {E : Enc α} {P : α → Prop} {t e : TypeId} (ht : Try.prog.underlying t = some (.slice e)) (hk : Try.prog.cellsOf e = E.k)
    {W : World} {base : Nat} {sp : Nat → Bool} {held : Bool} (each : ∀ fuel (cs : List Value) (x : DataW H × List MemPlace), cs.length = E.k → DataW.trod enc Try.prog W base sp held fuel e cs = some x → ∃ q : α, P q ∧ cs = E.c q)
    {fuel : Nat} {cs : List Value} {x : DataW H × List MemPlace} (h : DataW.trod enc Try.prog W base sp held fuel t cs = some x) : ∃ (A : Option Addr) (cap : Nat) (l : List α), cs = [.slice A l.length cap] ∧ RowL E W A l ∧ (A = none → cap = 0) ∧ l.length ≤ maxLen ∧ ∀ r ∈ l, P r := by
  obtain ⟨A, n, cap, rfl⟩ : ∃ A n cap, cs = [.slice A n cap] := by
    rcases Go.Deep.open_slice ht h with ⟨hcs, _⟩ | ⟨a, l, c, m, k, D, Pl, hcs, _⟩
    · exact ⟨_, _, _, hcs⟩
    · exact ⟨_, _, _, hcs⟩
  obtain ⟨l, h1, rfl, h3, h4, h5⟩ := in_row (E := E) (P := P) ht hk each (A := A) (n := n) (cap := cap) (d := x.1) (p := x.2) ⟨fuel, h⟩
  exact ⟨A, cap, l, rfl, h1, h3, h4, h5⟩
theorem arr5 {cs : Array Value} (h : cs.size = 5) : ∃ a b c d e, cs = #[a, b, c, d, e] := by
  obtain ⟨l⟩ := cs
  match l, h with
  | [a, b, c, d, e], _ => exact ⟨a, b, c, d, e, rfl⟩
end Go.Proofs.Ytnckcdngmffahaa

/- Lists of records and of strings as the laws of layer 9 take them. -/
namespace Go.Proofs.Ytnckcdngmffahaa
open Go.ChangeShapes Go.WideShapes Go.ChangeAt Go.RowKit
set_option linter.unusedVariables false

theorem toList_length9 (s : ByteArray) : s.data.toList.length = s.size := by show s.data.toList.length = s.data.size; simp only [Array.length_toList]
instance : Inhabited CRec := ⟨⟨0, 0, []⟩⟩
theorem cellsRec9 : Try.prog.cellsOf 33 = 3 := by kernel_rfl
theorem cellsStr9 : Try.prog.cellsOf 9 = 1 := by kernel_rfl
theorem cellsInt9 : Try.prog.cellsOf 3 = 1 := by kernel_rfl
theorem offsRec9 : ∃ f0 f1 f2, Try.prog.underlying 33 = some (.struct #[f0, f1, f2]) ∧ f0.type = 3 ∧ f0.offset = 0 ∧ f1.type = 3 ∧ f1.offset = 1 ∧ f2.type = 9 ∧ f2.offset = 2 := ⟨_, _, _, Try.underlying33, rfl, rfl, rfl, rfl, rfl, rfl⟩
/-- Strings as elements. -/
def ESt9 : Enc (List UInt8) := ⟨1, by decide, fun p => [.string (str p)], fun _ => rfl, fun s v hv => by
  simp only [List.mem_cons, List.not_mem_nil, or_false] at hv
  subst hv
  rfl⟩
variable {H : Type} {enc : TypeId × Value → H}
/-- A record's numbers are ints. -/
def recWf (x : CRec) : Prop := (Lit.int .i64 x.tm).wf = true ∧ (Lit.int .i64 x.sz).wf = true ∧ x.dat.length ≤ maxLen
theorem in_recs {W : World} {base : Nat} {sp : Nat → Bool} {held : Bool} {A : Option Addr} {n cap : Nat} {d : DataW H} {p : List MemPlace}
    (h : DataW.Trod enc Try.prog W base sp held 23 (.slice A n cap) d p) : ∃ l : List CRec, RowL ERec W A l ∧ n = l.length ∧ (A = none → cap = 0) ∧ n ≤ maxLen ∧ ∀ r ∈ l, recWf r := by
  refine in_row (E := ERec) (P := recWf) Try.underlying23 cellsRec9 (fun fuel cs x hl hx => ?_) h
  match cs, hl with
  | [v0, v1, v2], _ =>
    obtain ⟨g0, g1, g2, hsA, u0, q0, u1, q1, u2, q2⟩ := offsRec9
    obtain ⟨z0, z1, z2, m, hy, _, k0, k1, k2⟩ := Go.Deep.trod_struct3 hsA hx
    rw [u0, q0, cellsInt9] at k0
    rw [u1, q1, cellsInt9] at k1
    rw [u2, q2, cellsStr9] at k2
    obtain ⟨a, e0, _, wa⟩ := DataW.trod_int Try.underlying3 k0
    obtain ⟨b, e1, _, wb⟩ := DataW.trod_int Try.underlying3 k1
    obtain ⟨s, e2, _, hs⟩ := DataW.trod_string Try.underlying9 k2
    simp at e0 e1 e2
    refine ⟨⟨a, b, s.data.toList⟩, ⟨wa, wb, ?_⟩, ?_⟩
    · rw [toList_length9]; exact hs
    · subst e0 e1 e2
      exact congrArg (fun z => [Value.int .i64 a, Value.int .i64 b, Value.string z]) (str_of s).symm
theorem in_strs9 {W : World} {base : Nat} {sp : Nat → Bool} {held : Bool} {A : Option Addr} {n cap : Nat} {d : DataW H} {p : List MemPlace}
    (h : DataW.Trod enc Try.prog W base sp held 36 (.slice A n cap) d p) : ∃ l : List (List UInt8), RowL ESt9 W A l ∧ n = l.length ∧ (A = none → cap = 0) ∧ n ≤ maxLen ∧ ∀ r ∈ l, r.length ≤ maxLen := by
  refine in_row (E := ESt9) (P := fun r => r.length ≤ maxLen) Try.underlying36 cellsStr9 (fun fuel cs x hl hx => ?_) h
  match cs, hl with
  | [v], _ =>
    obtain ⟨s, e2, _, hs⟩ := DataW.trod_string Try.underlying9 hx
    simp at e2
    refine ⟨s.data.toList, ?_, ?_⟩
    · rw [toList_length9]; exact hs
    · subst e2
      exact congrArg (fun z => [Value.string z]) (str_of s).symm
end Go.Proofs.Ytnckcdngmffahaa

/- Contract of the program of layer 9: Write. -/
namespace Go.Proofs.Ytnckcdngmffahaa
open Go.ChangeShapes Go.WideShapes Go.ChangeAt Go.RowKit
set_option linter.unusedVariables false

def lastI (l : List CRec) (k : Nat) : Int := (prevW l k).getD 0
theorem wErr1_last (l : List CRec) (k : Nat) (x : CRec) : wErr1 (prevW l k) x = wErr1 (some (lastI l k)) x := by
  unfold lastI
  cases prevW l k with
  | none => exact wErr1_0 x
  | some t => rfl
theorem lastI_next {l : List CRec} {k : Nat} {x : CRec} (h : l[k]? = some x) : lastI l (k + 1) = x.tm := by
  unfold lastI
  show ((l[k]?).map (·.tm)).getD 0 = _
  rw [h]
  rfl
theorem pw4 : pw 4 = 4294967296 := by decide
theorem pw2 : pw 2 = 65536 := by decide
set_option maxHeartbeats 8000000 in
set_option maxRecDepth 20000 in
theorem pwrite9_any (A : Option Addr) (cap : Nat) (l : List CRec) (w : World) (h : RowL ERec w A l) (hl : l.length ≤ 1000000) (hwf : ∀ x ∈ l, recWf x) :
    Calls Try.prog 16 #[.slice A l.length cap] w fun e w' => e = .returned (.tuple #[.string (str (writeC l).1), .int .i64 ((writeC l).2 : Int)]) ∧ Below w.heap.size w w' := by
  obtain ⟨i0, hi, hz0, hz1, hz2⟩ := info_parts info5
  obtain ⟨R, hR⟩ : ∃ R, R = writeC l := ⟨_, rfl⟩
  rw [← hR]
  unfold writeC at hR
  obtain ⟨n, hn⟩ : ∃ n, n = l.length := ⟨_, rfl⟩
  rw [← hn] at hR hl ⊢
  have HB0 := Lib.hid (Below.refl w.heap.size w)
  by_cases h2 : 2000 < n
  · have HR2 := Lib.hid (show R = ([], 3) by rw [hR, if_pos h2])
    have d2 : decide ((2000 : Int) < (n : Int)) = true := by simp; omega
    have n2 : (2000 : Int) < (n : Int) := by omega
    clear hR hn h hwf
    go_enter Try.func16, Try.ntmps16
    go_wp2_with fail
    go_ret2
    exact ⟨by rw [HR2.out]; rfl, HB0.out⟩
  · have HR1 := Lib.hid (show R = if wErr none l ≠ 0 then ([], wErr none l) else (wHd ++ l.flatMap wRec, 0) by rw [hR, if_neg h2])
    have d2 : decide ((2000 : Int) < (n : Int)) = false := by simp; omega
    have n2 : ¬ (2000 : Int) < (n : Int) := by omega
    have hn2 : n ≤ 2000 := by omega
    have HN := Lib.hid hn
    have HS := Lib.hid h
    have HW := Lib.hid (show ∀ x ∈ l, x.dat.length ≤ 9223372036854775807 from fun x hx => by have := (hwf x hx).2.2; unfold maxLen at this; omega)
    clear hR hn h h2 hl hwf
    obtain ⟨B, hB⟩ : ∃ b, b = w.heap.size := ⟨_, rfl⟩
    have HBE := Lib.hid hB
    clear hB
    go_enter Try.func16, Try.ntmps16
    go_wp2_with fail
    refine (papn9_any none 0 0 [] 4 [2712847316] w.heap.size 1 1 w.heap.size (w.alloc (.cells #[.int .i64 2712847316] 3)) (World.ownsRow_nil _ _ _ _) (heap_alloc_new w _) rfl (by decide) (fun x hx => by rw [pw4]; simp at hx; omega) (by simp) (by simp)).mono ?_
    rintro e w1 ⟨A1, c1, n1, rfl, ho1, hk1⟩
    have HB1 := Lib.hid (hk1.below (below_alloc6 w _) (fun j hj => hj.1))
    have HO1 := Lib.hid ho1
    clear ho1 hk1
    go_wp2_with fail
    refine (papn9_any A1 n1 c1 _ 2 [2, 4] w1.heap.size 2 2 w.heap.size (w1.alloc (.cells #[.int .i64 2, .int .i64 4] 3)) (HO1.out.alloc _) (heap_alloc_new w1 _) rfl (by decide) (fun x hx => by rw [pw2]; simp at hx; omega) (by simp [leL_length]) (by have := HB1.out.size; simp; omega)).mono ?_
    rintro e w2 ⟨A2, c2, n2', rfl, ho2, hk2⟩
    have HB2 := Lib.hid (hk2.below (HB1.out.trans ((below_alloc6 w1 _).mono HB1.out.size)) (fun j hj => hj.1))
    have HO2 := Lib.hid ho2
    clear ho2 hk2 HB1 HO1
    go_wp2_with fail
    refine (papn9_any A2 n2' c2 _ 4 [0, 0, 4096, 1] w2.heap.size 4 4 w.heap.size (w2.alloc (.cells #[.int .i64 0, .int .i64 0, .int .i64 4096, .int .i64 1] 3)) (HO2.out.alloc _) (heap_alloc_new w2 _) rfl (by decide) (fun x hx => by rw [pw4]; simp at hx; omega) (by simp [leL_length]) (by have := HB2.out.size; simp; omega)).mono ?_
    rintro e w3 ⟨A3, c3, n3, rfl, ho3, hk3⟩
    have HB3 := Lib.hid (hk3.below (HB2.out.trans ((below_alloc6 w2 _).mono HB2.out.size)) (fun j hj => hj.1))
    have HO3 := Lib.hid (show w3.ownsRow w.heap.size 5 1 (.slice A3 n3 c3) n3 (cellsOf (preW l 0)) from by
      have e1 : preW l 0 = [] ++ [2712847316].flatMap (leL 4) ++ [2, 4].flatMap (leL 2) ++ [0, 0, 4096, 1].flatMap (leL 4) := by unfold preW wHd; simp
      rw [e1]
      exact ho3)
    clear ho3 hk3 HB2 HO2
    go_wp2_with fail
    go_loopw [4, 5, 22] (fun v4 v5 v22 wr => ∃ (k n3 c3 : Nat) (A3 : Option Addr), v4 = .slice A3 n3 c3 ∧ v5 = .int .i64 (lastI l k) ∧ v22 = .int .i64 (k : Int) ∧ k ≤ n ∧ Hid ((preW l k).length ≤ 24 + 4112 * k) ∧ Hid (wErr none l = wErr (prevW l k) (l.drop k)) ∧ Hid (wr.ownsRow w.heap.size 5 1 (.slice A3 n3 c3) n3 (cellsOf (preW l k))) ∧ Hid (Below w.heap.size w wr)) (fun _ _ v22 _ => n - (intOf v22).toNat)
    case atStart => exact ⟨0, n3, c3, A3, rfl, rfl, rfl, Nat.zero_le _, Lib.hid (by unfold preW; simp [wHd_len]), Lib.hid rfl, HO3, HB3⟩
    case round =>
      clear HB3 HO3
      obtain ⟨k, n3, c3, A3, rfl, rfl, rfl, hk, HPL, HWE, HO, HBr⟩ := hrel
      obtain ⟨k1, hk1'⟩ : ∃ k1, k1 = k + 1 := ⟨_, rfl⟩
      have k1i : (k : Int) + 1 = (k1 : Int) := by omega
      by_cases hlt : k < n
      · have hki : (k : Int) < (n : Int) := by omega
        have hki0 : (0 : Int) ≤ (k : Int) := by omega
        have dlt : decide ((k : Int) < (n : Int)) = true := by simp; omega
        have k1n : k1 ≤ n := by omega
        obtain ⟨x, hget⟩ : ∃ x, l[k]? = some x := ⟨l[k]'(by have := HN.out; omega), List.getElem?_eq_getElem _⟩
        obtain ⟨g, ob, rfl, hg, hc⟩ := HS.out (by have := HN.out; omega)
        have c0 : wr.cell? ⟨g, ob + k * 3, none⟩ = some (.int .i64 x.tm) := HS.out.at_ hget HBr.out 0 _ rfl
        have c1 : wr.cell? ⟨g, ob + k * 3 + 1, none⟩ = some (.int .i64 x.sz) := HS.out.at_ hget HBr.out 1 _ rfl
        have c2 : wr.cell? ⟨g, ob + k * 3 + 2, none⟩ = some (.string (str x.dat)) := HS.out.at_ hget HBr.out 2 _ rfl
        have HPN := Lib.hid (preW_next hget)
        have HLN := Lib.hid (lastI_next hget)
        have hws := wErr_step hget
        rw [wErr1_last] at hws
        have HWS := Lib.hid hws
        have HCH := Lib.hid (fun (W : World) => pchk9_any x (lastI l k) W (HW.out x (List.mem_of_getElem? hget)))
        rw [← hk1'] at HPN HWS HLN
        have HK1 := Lib.hid hk1'
        obtain ⟨la, hla⟩ : ∃ a, a = lastI l k := ⟨_, rfl⟩
        rw [← hla] at HWS HCH ⊢
        obtain ⟨E1, hE1⟩ : ∃ E, E = wErr1 (some la) x := ⟨_, rfl⟩
        rw [← hE1] at HWS HCH
        obtain ⟨tm, sz, dat⟩ := x
        simp only at c0 c1 c2 HCH HLN
        have HSO := Lib.hid (str_size dat)
        have HE1 := Lib.hid hE1
        clear hc hk1' hla hE1 hget hws
        generalize hD : str dat = D at *
        have HD := Lib.hid hD
        clear hD
        obtain ⟨gb, hgb⟩ : ∃ g, g = wr.heap.size := ⟨_, rfl⟩
        obtain ⟨W1, hW1⟩ : ∃ W, W = wr.alloc (.cells #[.int .i64 tm, .int .i64 sz, .string D] 33) := ⟨_, rfl⟩
        have HX1 := Lib.hid (show Cells W1 gb 33 #[.int .i64 tm, .int .i64 sz, .string D] by rw [hW1, hgb]; exact heap_alloc_new wr _)
        have HB1 := Lib.hid (show Below w.heap.size w W1 by rw [hW1]; exact HBr.out.trans ((below_alloc6 wr _).mono HBr.out.size))
        have HO1 := Lib.hid (show W1.ownsRow w.heap.size 5 1 (.slice A3 n3 c3) n3 (cellsOf (preW l k)) by rw [hW1]; exact HO.out.alloc _)
        go_wp2_with fail
        rw [← hW1, ← hgb]
        clear hW1 hgb HBr HO c0 c1 c2
        refine (HCH.out _).mono ?_
        rintro e w2 ⟨rfl, hb2⟩
        have HX2 := Lib.hid (Cells.kept HX1.out hb2 HX1.out.lt)
        have HB2 := Lib.hid (HB1.out.trans (hb2.mono HB1.out.size))
        have HO2 := Lib.hid (own_kept HO1.out hb2 (Nat.le_refl _))
        clear hb2 HX1 HB1 HO1 HCH
        cases E1 with
        | succ m =>
          have HR2 := Lib.hid (show R = ([], m + 1) from by
            have hh : wErr none l = m + 1 := by rw [HWE.out, HWS.out, if_pos (by omega)]
            rw [HR1.out, hh, if_pos (by omega)])
          have te : (((m + 1 : Nat) : Int) != 0) = true := by rw [bne_iff_ne]; omega
          go_wp2_with fail
          go_ret2
          exact ⟨by rw [HR2.out]; rfl, HB2.out⟩
        | zero =>
          have HWN := Lib.hid (show wErr none l = wErr (prevW l k1) (l.drop k1) by rw [HWE.out, HWS.out, if_neg (by decide)])
          obtain ⟨g1, g2, g3, g4, g5, -⟩ := wErr1_ok HE1.out.symm
          simp only at g1 g2 g3 g4 g5
          have hD4 : D.size ≤ 4096 := by have := HSO.out; omega
          obtain ⟨T, rfl⟩ : ∃ T : Nat, tm = (T : Int) := ⟨tm.toNat, by omega⟩
          obtain ⟨Y, rfl⟩ : ∃ Y : Nat, sz = (Y : Int) := ⟨sz.toNat, by omega⟩
          have hT : T ≤ 1099511627776 := by omega
          have hY : Y ≤ 65535 := by omega
          clear g1 g2 g3 g4 g5 HE1 HWE HWS
          obtain ⟨a, ha⟩ : ∃ a, a = T / 1000 := ⟨_, rfl⟩
          obtain ⟨b0, hb0⟩ : ∃ b, b = T % 1000 := ⟨_, rfl⟩
          obtain ⟨b, hbb⟩ : ∃ b1, b1 = b0 * 1000 := ⟨_, rfl⟩
          have ka : (T : Int) / 1000 = (a : Int) := by omega
          have kb0 : (T : Int) % 1000 = (b0 : Int) := by omega
          have kb : (b0 : Int) * 1000 = (b : Int) := by omega
          have hb0l : b0 < 1000 := by omega
          have hbl : b < 1000000 := by omega
          have hal : a ≤ 1099511628 := by omega
          have xb : IntKind.i64.wrap ((b0 : Int) * 1000) = (b : Int) := by rw [IntKind.wrap_i64]; omega
          have yb : IntKind.i64.wrap (b : Int) = (b : Int) := by rw [IntKind.wrap_i64]; omega
          obtain ⟨Q, hQ⟩ : ∃ Q, Q = preW l k ++ [a, b, D.size, Y].flatMap (leL 4) := ⟨_, rfl⟩
          have HFIN := Lib.hid (show cellsOf Q ++ Lib.strCells D = cellsOf (preW l k1) by
            rw [hQ]
            have e1 : preW l k1 = preW l k ++ [a, b, D.size, Y].flatMap (leL 4) ++ dat := by
              rw [HPN.out, ← HD.out, str_size, ha, hbb, hb0]
              unfold wRec
              simp
            rw [e1, ← HD.out]
            unfold Lib.strCells
            rw [str_toList]
            unfold cellsOf
            simp)
          have HPL1 := Lib.hid (show (preW l k1).length ≤ 24 + 4112 * k1 by
            rw [HPN.out, List.length_append, wRec_len]
            have h1 := HPL.out
            have h2 := HK1.out
            have h3 : dat.length ≤ 4096 := by have := HSO.out; omega
            simp only
            omega)
          have c0 := (Cells.cell HX2.out 0).trans (show _ = some (Value.int .i64 (T : Int)) from rfl)
          have c1 := (Cells.cell HX2.out 1).trans (show _ = some (Value.int .i64 (Y : Int)) from rfl)
          have c2 := (Cells.cell HX2.out 2).trans (show _ = some (Value.string D) from rfl)
          have HPB := Lib.hid (show (preW l k).length + 7 * 4 ≤ 100000000 by have := HPL.out; omega)
          have HFT := Lib.hid (show ∀ x ∈ [a, b, D.size, Y], x < pw 4 by intro x hx; rw [pw4]; simp at hx; omega)
          have HQQ := Lib.hid hQ
          clear ha hb0 hbb hQ
          go_wp2_with fail
          refine (papn9_any A3 n3 c3 (preW l k) 4 [a, b, D.size, Y] w2.heap.size 4 4 w.heap.size (w2.alloc (.cells #[.int .i64 (a : Int), .int .i64 (b : Int), .int .i64 (D.size : Int), .int .i64 (Y : Int)] 3)) (HO2.out.alloc _) (heap_alloc_new w2 _) rfl (by decide) HFT.out HPB.out (by have := HB2.out.size; simp; omega)).mono ?_
          rintro e w4 ⟨A4, c4, n4, rfl, ho4, hk4⟩
          have HX3 : Cells (w2.alloc (.cells #[.int .i64 (a : Int), .int .i64 (b : Int), .int .i64 (D.size : Int), .int .i64 (Y : Int)] 3)) gb 33 #[.int .i64 (T : Int), .int .i64 (Y : Int), .string D] := Cells.kept HX2.out (below_alloc6 w2 _) HX2.out.lt
          have HX4 := Lib.hid (HX3.keep8 hk4 (by decide))
          have HB4 := Lib.hid (hk4.below (HB2.out.trans ((below_alloc6 w2 _).mono HB2.out.size)) (fun j hj => hj.1))
          have HO4 := Lib.hid (show w4.ownsRow w.heap.size 5 1 (.slice A4 n4 c4) n4 (cellsOf Q) by rw [HQQ.out]; exact ho4)
          clear HX3 hk4 ho4 HX2 HB2 HO2 c0 c1 c2
          have c2 := (Cells.cell HX4.out 2).trans (show _ = some (Value.string D) from rfl)
          have hn4 : n4 ≤ 99000000 := by
            have h1 := own_len9 HO4.out
            rw [h1, HQQ.out, List.length_append]
            have h2 := HPL.out
            have h3 : ([a, b, D.size, Y].flatMap (leL 4)).length = 16 := by simp [leL_length]
            omega
          go_wp2_with (at_builtin; refine Lib.wpList_append_own_string _ rfl _ _ 52 9 rfl w.heap.size 5 i0 Try.underlying52 Try.underlying9 hi hz0 hz1 hz2 _ n4 _ rfl HO4.out D rfl ?c3 ?c4 ?c5 ?_)
          case c3 => unfold maxLen; omega
          case c4 => omega
          case c5 => exact HB4.out.size
          intro v' w5 hown5 hgrow _
          rw [HFIN.out] at hown5
          obtain ⟨A5, c5, rfl⟩ := own_shape hown5
          have HB5 := Lib.hid (HB4.out.grown hgrow HB4.out.size (fun j hj => (HO4.out.lt j hj).1))
          have HO5 := Lib.hid hown5
          clear hown5 hgrow HB4 HO4 HX4 c2
          go_wp2_with fail
          go_roundw
          case rel => exact ⟨k1, _, c5, A5, rfl, by rw [HLN.out], by go_num, k1n, HPL1, HWN, HO5, HB5⟩
          case measure => have := HK1.out; simp [intOf]; omega
      · obtain rfl : k = n := by omega
        have dlt : decide ((k : Int) < (k : Int)) = false := by simp
        have nlt : ¬ (k : Int) < (k : Int) := by omega
        have HR2 := Lib.hid (show R = (preW l k, 0) from by
          have e1 : l.drop k = [] := by rw [HN.out]; exact List.drop_length
          have hh : wErr none l = 0 := by rw [HWE.out, e1]; rfl
          rw [HR1.out, hh, if_neg (by omega)]
          unfold preW
          rw [HN.out, List.take_length])
        have hnl := own_len9 HO.out
        have hcv := bs_string (bs_of_own (A := A3) (cap := c3) (l := preW l k) (w := wr) (base := w.heap.size) (by rw [← hnl]; exact HO.out))
        rw [← hnl] at hcv
        clear hnl
        generalize hP : str (preW l k) = P at *
        have HPP := Lib.hid hP
        clear hP
        go_wp2_with fail
        go_ret2
        exact ⟨by rw [HR2.out, HPP.out]; rfl, HBr.out⟩
end Go.Proofs.Ytnckcdngmffahaa

/- Contract of the program of layer 9: Merge. -/
namespace Go.Proofs.Ytnckcdngmffahaa
open Go.ChangeShapes Go.WideShapes Go.ChangeAt Go.RowKit
set_option linter.unusedVariables false

/-- A slice that comes in is no longer than its capacity. -/
theorem in_cap {H : Type} {enc : TypeId × Value → H} {t e : TypeId} (ht : Try.prog.underlying t = some (.slice e)) {W : World} {base : Nat} {sp : Nat → Bool} {held : Bool} {A : Option Addr} {n cap : Nat} {d : DataW H} {p : List MemPlace}
    (h : DataW.Trod enc Try.prog W base sp held t (.slice A n cap) d p) : n ≤ cap := by
  obtain ⟨fuel, hf⟩ := h
  rcases Go.Deep.open_slice ht hf with ⟨hcs, _⟩ | ⟨a, l, c, m, k, D, Pl, hcs, _, hl, _⟩
  · simp [Value.cells] at hcs
    omega
  · simp [Value.cells] at hcs
    omega
/-- A list of records that is cut from the front. -/
def SlO (w : World) (A : Option Addr) (l : List CRec) (c : Nat) : Prop := RowL ERec w A l ∧ (A = none → c = 0) ∧ (l.length ≤ 1 ∨ l.length ≤ c)
theorem SlO.tail {w : World} {g o c : Nat} {x : CRec} {r : List CRec} (h : SlO w (some ⟨g, o, none⟩) (x :: r) c) : SlO w (if c = 1 then some ⟨g, o, none⟩ else some ⟨g, o + 3, none⟩) r (c - 1) := by
  obtain ⟨h1, h2, h3⟩ := h
  rw [List.length_cons] at h3
  by_cases hc : c = 1
  · rw [if_pos hc]
    have hr : r = [] := List.eq_nil_of_length_eq_zero (by omega)
    subst hr
    exact ⟨RowL.nil _ _, fun e => (by cases e), .inl (by simp)⟩
  · rw [if_neg hc]
    exact ⟨RowL.tail h1, fun e => (by cases e), by omega⟩
theorem SlO.head {w W : World} {g o c : Nat} {x : CRec} {r : List CRec} (h : SlO w (some ⟨g, o, none⟩) (x :: r) c) (hb : Below w.heap.size w W) : W.cell? ⟨g, o, none⟩ = some (.int .i64 x.tm) ∧ W.cell? ⟨g, o + 1, none⟩ = some (.int .i64 x.sz) ∧ W.cell? ⟨g, o + 2, none⟩ = some (.string (str x.dat)) := by
  have h0 := RowL.at_ h.1 (show (x :: r)[0]? = some x from rfl) hb 0 _ rfl
  have h1 := RowL.at_ h.1 (show (x :: r)[0]? = some x from rfl) hb 1 _ rfl
  have h2 := RowL.at_ h.1 (show (x :: r)[0]? = some x from rfl) hb 2 _ rfl
  simp only [Nat.zero_mul, Nat.add_zero] at h0 h1 h2
  exact ⟨h0, h1, h2⟩
theorem SlO.shape {w : World} {A : Option Addr} {x : CRec} {r : List CRec} {c : Nat} (h : SlO w A (x :: r) c) : ∃ g o, A = some ⟨g, o, none⟩ ∧ g < w.heap.size := RowL.shapeA h.1 (by simp)
def lenV9 : Value → Nat
  | .slice _ n _ => n
  | _ => 0
/-- Where Merge stands. -/
structure MgI (w wr : World) (R la lb out : List CRec) (A B A' : Option Addr) (i1 c1 i2 c2 n c' tot : Nat) : Prop where
  la_ : i1 = la.length
  lb_ : i2 = lb.length
  tot_ : n + (i1 + i2) = tot
  no_ : n = out.length
  res : R = out ++ mergeC la lb
  sa : SlO w A la c1
  sb : SlO w B lb c2
  own : wr.ownsRow w.heap.size 33 3 (.slice A' n c') n (ERec.cells out)
  bel : Below w.heap.size w wr
set_option maxHeartbeats 8000000 in
set_option maxRecDepth 20000 in
theorem pmerge9_any (A B : Option Addr) (ca cb : Nat) (l m : List CRec) (w : World) (h1 : RowL ERec w A l) (h2 : RowL ERec w B m) (hA : A = none → ca = 0) (hB : B = none → cb = 0) (hl : l.length + m.length ≤ 1000) (hca : l.length ≤ 1 ∨ l.length ≤ ca) (hcb : m.length ≤ 1 ∨ m.length ≤ cb) :
    Calls Try.prog 18 #[.slice A l.length ca, .slice B m.length cb] w (MrgQ w (mergeC l m)) := by
  obtain ⟨i0, hi, hz0, hz1, hz2⟩ := info_parts info_rec
  obtain ⟨R, hR⟩ : ∃ R, R = mergeC l m := ⟨_, rfl⟩
  rw [← hR]
  obtain ⟨p, hp⟩ : ∃ p, p = l.length := ⟨_, rfl⟩
  obtain ⟨q, hq⟩ : ∃ q, q = m.length := ⟨_, rfl⟩
  rw [← hp, ← hq] at hl ⊢
  obtain ⟨tot, htot⟩ : ∃ t, t = p + q := ⟨_, rfl⟩
  have hti : (p : Int) + (q : Int) = (tot : Int) := by omega
  have htl : tot ≤ 1000 := by omega
  have HI := Lib.hid (fun (v : Value) (w0 : World) (A' : Option Addr) (c' : Nat) (hv : v = .slice A' 0 c') (ho : w0.ownsRow w.heap.size 33 3 v 0 []) (hg : w.grownBy w0 none) => (show MgI w w0 R l m [] A B A' p ca q cb 0 c' tot from
    ⟨hp, hq, by omega, rfl, by rw [hR]; rfl, ⟨h1, hA, hca⟩, ⟨h2, hB, hcb⟩, by rw [← hv]; exact ho, (Below.refl _ _).grown hg (Nat.le_refl _) (fun k hk => by cases hk)⟩))
  clear hR hp hq h1 h2 hA hB hca hcb htot
  go_enter Try.func18, Try.ntmps18
  go_wp2_with (at_make; refine wpList_make_own _ rfl _ _ 23 rfl w.heap.size 33 i0 (.agg #[.int .i64 0, .int .i64 0, .string ⟨#[]⟩]) 3 Try.underlying23 hi hz0 hz1 .i64 .i64 _ tot rfl rfl (by rfl) (by rw [hz2]; omega) (by unfold maxLen; omega) (Nat.le_refl _) ?_; intro w0 hown0 hgrow0)
  have HI0 := Lib.hid (HI.out _ _ _ _ rfl hown0 hgrow0)
  clear hown0 hgrow0 HI
  go_loopw [0, 1, 5] (fun v0 v1 v5 wr => ∃ (la lb out : List CRec) (A B A' : Option Addr) (i1 c1 i2 c2 n c' : Nat), v0 = .slice A i1 c1 ∧ v1 = .slice B i2 c2 ∧ v5 = .slice A' n c' ∧ Hid (MgI w wr R la lb out A B A' i1 c1 i2 c2 n c' tot)) (fun v0 v1 _ _ => lenV9 v0 + lenV9 v1)
  case atStart => exact ⟨l, m, [], A, B, _, p, ca, q, cb, 0, _, rfl, rfl, rfl, HI0⟩
  case round =>
    clear HI0
    obtain ⟨la, lb, out, A, B, A', i1, c1, i2, c2, n, c', rfl, rfl, rfl, HI⟩ := hrel
    have hl1 := HI.out.la_
    have hl2 := HI.out.lb_
    have hn := HI.out.tot_
    by_cases e1 : 0 < i1
    · have d1 : decide ((0 : Int) < (i1 : Int)) = true := by simp; omega
      have n1 : (0 : Int) < (i1 : Int) := by omega
      by_cases e2 : 0 < i2
      · have d2 : decide ((0 : Int) < (i2 : Int)) = true := by simp; omega
        have n2 : (0 : Int) < (i2 : Int) := by omega
        obtain ⟨x, ra, rfl⟩ : ∃ x r, la = x :: r := by
          cases la with
          | nil => simp at hl1; omega
          | cons x r => exact ⟨x, r, rfl⟩
        obtain ⟨y, rb, rfl⟩ : ∃ x r, lb = x :: r := by
          cases lb with
          | nil => simp at hl2; omega
          | cons x r => exact ⟨x, r, rfl⟩
        obtain ⟨ga, oa, rfl, hga⟩ := HI.out.sa.shape
        obtain ⟨gb, ob, rfl, hgb⟩ := HI.out.sb.shape
        have HXC := Lib.hid (fun (W : World) (hb : Below w.heap.size w W) => HI.out.sa.head hb)
        have HYC := Lib.hid (fun (W : World) (hb : Below w.heap.size w W) => HI.out.sb.head hb)
        obtain ⟨c0, -, -⟩ := HXC.out _ HI.out.bel
        obtain ⟨d0, -, -⟩ := HYC.out _ HI.out.bel
        have HM := Lib.hid (show R = out ++ (if x.tm ≤ y.tm then x :: mergeC ra (y :: rb) else y :: mergeC (x :: ra) rb) by rw [HI.out.res, mergeC])
        have HTA := Lib.hid HI.out.sa.tail
        have HTB := Lib.hid HI.out.sb.tail
        have HLR := Lib.hid (show i1 - 1 = ra.length ∧ i2 - 1 = rb.length by rw [hl1, hl2]; simp)
        have h11 : (1 : Int) ≤ (i1 : Int) := by omega
        have h12 : (1 : Int) ≤ (i2 : Int) := by omega
        have h13 : 1 ≤ i1 := by omega
        have h14 : 1 ≤ i2 := by omega
        clear hl1 hl2
        obtain ⟨xt, xs, xd⟩ := x
        obtain ⟨yt, ys, yd⟩ := y
        simp only at HXC HYC HM c0 d0
        by_cases hle : xt ≤ yt
        · have dle : decide (xt ≤ yt) = true := by simp; omega
          have HN := Lib.hid (show R = (out ++ [⟨xt, xs, xd⟩]) ++ mergeC ra (⟨yt, ys, yd⟩ :: rb) by rw [HM.out, if_pos hle]; simp)
          clear HM
          go_wp2_with fail
          go_quiet (fail)
          have HB2 := Lib.hid (show Below w.heap.size w (wr.drewN nq) from ⟨HI.out.bel.os, HI.out.bel.tape, HI.out.bel.output, HI.out.bel.size, HI.out.bel.block⟩)
          have HO2 := Lib.hid (show (wr.drewN nq).ownsRow w.heap.size 33 3 (.slice A' n c') n (ERec.cells out) from HI.out.own)
          have HSA := Lib.hid HI.out.sa
          have HNO := Lib.hid HI.out.no_
          have HSB := Lib.hid HI.out.sb
          clear HI c0 d0
          generalize wr.drewN nq = w2 at *
          obtain ⟨c0, c1', c2'⟩ := HXC.out _ HB2.out
          have HCS := Lib.hid (show (#[.int .i64 xt, .int .i64 xs, .string (str xd)] : Array Value).toList = ERec.cells [⟨xt, xs, xd⟩] from rfl)
          obtain ⟨D, hD⟩ : ∃ D, D = str xd := ⟨_, rfl⟩
          rw [← hD] at c2' HCS
          clear hD
          go_wp2_with (at_builtin; refine wpList_push (E := ERec) rcTy (by rfl) _ _ (by rfl) w.heap.size _ n out [⟨xt, xs, xd⟩] (by rfl) (HO2.out.alloc _) _ 1 1 #[.int .i64 xt, .int .i64 xs, .string D] (0, 0) (by rfl) (heap_alloc_new _ _) HCS.out rfl (by omega) (by omega) (by decide) ?hb ?_)
          case hb => have := HB2.out.size; simp; omega
          intro g2 cap2 w9 hown hgrow hat hlt2
          have HB9 := Lib.hid ((HB2.out.alloc HB2.out.size (.cells #[.int .i64 xt, .int .i64 xs, .string D] 33)).grown hgrow (by have := HB2.out.size; simp; omega) (fun j hj => (HO2.out.lt j hj).1))
          have HO9 := Lib.hid hown
          clear hown hgrow hat hlt2 HB2 HO2 c0 c1' c2'
          go_wp2_with fail
          go_roundw
          case rel => exact ⟨ra, ⟨yt, ys, yd⟩ :: rb, out ++ [CRec.mk xt xs xd], _, some ⟨gb, ob, none⟩, some ⟨g2, 0, none⟩, i1 - 1, c1 - 1, i2, c2, n + 1, cap2, rfl, rfl, rfl, Lib.hid ⟨HLR.out.1, by rw [List.length_cons, ← HLR.out.2]; omega, by omega, by rw [List.length_append, ← HNO.out]; rfl, HN.out, HTA.out, HSB.out, HO9.out, HB9.out⟩⟩
          case measure => simp [lenV9]; omega
        · have dle : decide (xt ≤ yt) = false := by simp; omega
          have HN := Lib.hid (show R = (out ++ [⟨yt, ys, yd⟩]) ++ mergeC (⟨xt, xs, xd⟩ :: ra) rb by rw [HM.out, if_neg hle]; simp)
          clear HM
          go_wp2_with fail
          go_quiet (fail)
          have HB2 := Lib.hid (show Below w.heap.size w (wr.drewN nq) from ⟨HI.out.bel.os, HI.out.bel.tape, HI.out.bel.output, HI.out.bel.size, HI.out.bel.block⟩)
          have HO2 := Lib.hid (show (wr.drewN nq).ownsRow w.heap.size 33 3 (.slice A' n c') n (ERec.cells out) from HI.out.own)
          have HSA := Lib.hid HI.out.sa
          have HNO := Lib.hid HI.out.no_
          have HSB := Lib.hid HI.out.sb
          clear HI c0 d0
          generalize wr.drewN nq = w2 at *
          obtain ⟨c0, c1', c2'⟩ := HYC.out _ HB2.out
          have HCS := Lib.hid (show (#[.int .i64 yt, .int .i64 ys, .string (str yd)] : Array Value).toList = ERec.cells [⟨yt, ys, yd⟩] from rfl)
          obtain ⟨D, hD⟩ : ∃ D, D = str yd := ⟨_, rfl⟩
          rw [← hD] at c2' HCS
          clear hD
          go_wp2_with (at_builtin; refine wpList_push (E := ERec) rcTy (by rfl) _ _ (by rfl) w.heap.size _ n out [⟨yt, ys, yd⟩] (by rfl) (HO2.out.alloc _) _ 1 1 #[.int .i64 yt, .int .i64 ys, .string D] (0, 0) (by rfl) (heap_alloc_new _ _) HCS.out rfl (by omega) (by omega) (by decide) ?hb ?_)
          case hb => have := HB2.out.size; simp; omega
          intro g2 cap2 w9 hown hgrow hat hlt2
          have HB9 := Lib.hid ((HB2.out.alloc HB2.out.size (.cells #[.int .i64 yt, .int .i64 ys, .string D] 33)).grown hgrow (by have := HB2.out.size; simp; omega) (fun j hj => (HO2.out.lt j hj).1))
          have HO9 := Lib.hid hown
          clear hown hgrow hat hlt2 HB2 HO2 c0 c1' c2'
          go_wp2_with fail
          go_roundw
          case rel => exact ⟨⟨xt, xs, xd⟩ :: ra, rb, out ++ [CRec.mk yt ys yd], some ⟨ga, oa, none⟩, _, some ⟨g2, 0, none⟩, i1, c1, i2 - 1, c2 - 1, n + 1, cap2, rfl, rfl, rfl, Lib.hid ⟨by rw [List.length_cons, ← HLR.out.1]; omega, HLR.out.2, by omega, by rw [List.length_append, ← HNO.out]; rfl, HN.out, HSA.out, HTB.out, HO9.out, HB9.out⟩⟩
          case measure => simp [lenV9]; omega
      · have d2 : decide ((0 : Int) < (i2 : Int)) = false := by simp; omega
        have n2 : ¬ (0 : Int) < (i2 : Int) := by omega
        have HRR := Lib.hid (show R = out ++ (la ++ lb) by
          have hlb : lb = [] := List.eq_nil_of_length_eq_zero (by omega)
          rw [HI.out.res, hlb, merge_nil, List.append_nil])
        have HNO := Lib.hid HI.out.no_
        have HSA := Lib.hid HI.out.sa
        have HSB := Lib.hid HI.out.sb
        have HO := Lib.hid HI.out.own
        have HB := Lib.hid HI.out.bel
        have HL1 := Lib.hid hl1
        have HL2 := Lib.hid hl2
        clear HI hl1 hl2
        go_wp2_with (at_builtin; refine wpList_cat9 (E := ERec) rcTy (by rfl) _ _ (by rfl) w.heap.size (.slice A' n c') n out la (by rfl) HO.out A i1 c1 (by rfl) HL1.out HSA.out.2.1 (HSA.out.1.kept HB.out) (by omega) (by decide) HB.out.size ?_)
        intro A5 c5 w5 hown hgrow hat
        have HB5 := Lib.hid (HB.out.grown hgrow HB.out.size (fun j hj => (HO.out.lt j hj).1))
        have HO5 := Lib.hid hown
        clear hown hgrow hat HB HO
        go_wp2_with (at_builtin; refine wpList_cat9 (E := ERec) rcTy (by rfl) _ _ (by rfl) w.heap.size (.slice A5 (n + i1) c5) (n + i1) (out ++ la) lb (by rfl) HO5.out B i2 c2 (by rfl) HL2.out HSB.out.2.1 (HSB.out.1.kept HB5.out) (by omega) (by decide) HB5.out.size ?_)
        intro A6 c6 w6 hown hgrow hat
        have HB6 := Lib.hid (HB5.out.grown hgrow HB5.out.size (fun j hj => (HO5.out.lt j hj).1))
        have HO6 := Lib.hid hown
        clear hown hgrow hat HB5 HO5
        go_wp2_with fail
        go_ret
        rw [HRR.out]
        have hq : n + i1 + i2 = (out ++ (la ++ lb)).length := by
          rw [List.length_append, List.length_append, ← HL1.out, ← HL2.out, ← HNO.out]
          omega
        exact ⟨A6, c6, by rw [← hq]; rfl, rowl_of_own (E := ERec) (l := out ++ (la ++ lb)) HO6.out hq, fun hA => by subst hA; exact (own_none HO6.out).2, HB6.out⟩
    · have d1 : decide ((0 : Int) < (i1 : Int)) = false := by simp; omega
      have n1 : ¬ (0 : Int) < (i1 : Int) := by omega
      have HRR := Lib.hid (show R = out ++ (la ++ lb) by
        have hla : la = [] := List.eq_nil_of_length_eq_zero (by omega)
        rw [HI.out.res, hla, nil_merge, List.nil_append])
      have HNO := Lib.hid HI.out.no_
      have HSA := Lib.hid HI.out.sa
      have HSB := Lib.hid HI.out.sb
      have HO := Lib.hid HI.out.own
      have HB := Lib.hid HI.out.bel
      have HL1 := Lib.hid hl1
      have HL2 := Lib.hid hl2
      clear HI hl1 hl2
      go_wp2_with (at_builtin; refine wpList_cat9 (E := ERec) rcTy (by rfl) _ _ (by rfl) w.heap.size (.slice A' n c') n out la (by rfl) HO.out A i1 c1 (by rfl) HL1.out HSA.out.2.1 (HSA.out.1.kept HB.out) (by omega) (by decide) HB.out.size ?_)
      intro A5 c5 w5 hown hgrow hat
      have HB5 := Lib.hid (HB.out.grown hgrow HB.out.size (fun j hj => (HO.out.lt j hj).1))
      have HO5 := Lib.hid hown
      clear hown hgrow hat HB HO
      go_wp2_with (at_builtin; refine wpList_cat9 (E := ERec) rcTy (by rfl) _ _ (by rfl) w.heap.size (.slice A5 (n + i1) c5) (n + i1) (out ++ la) lb (by rfl) HO5.out B i2 c2 (by rfl) HL2.out HSB.out.2.1 (HSB.out.1.kept HB5.out) (by omega) (by decide) HB5.out.size ?_)
      intro A6 c6 w6 hown hgrow hat
      have HB6 := Lib.hid (HB5.out.grown hgrow HB5.out.size (fun j hj => (HO5.out.lt j hj).1))
      have HO6 := Lib.hid hown
      clear hown hgrow hat HB5 HO5
      go_wp2_with fail
      go_ret
      rw [HRR.out]
      have hq : n + i1 + i2 = (out ++ (la ++ lb)).length := by
        rw [List.length_append, List.length_append, ← HL1.out, ← HL2.out, ← HNO.out]
        omega
      exact ⟨A6, c6, by rw [← hq]; rfl, rowl_of_own (E := ERec) (l := out ++ (la ++ lb)) HO6.out hq, fun hA => by subst hA; exact (own_none HO6.out).2, HB6.out⟩
end Go.Proofs.Ytnckcdngmffahaa

/- All contracts of the program of layer 9. -/
namespace Go.Proofs.Ytnckcdngmffahaa
theorem capProg_there : True := trivial
end Go.Proofs.Ytnckcdngmffahaa

/- The law package of layer 9: long, lives. -/
namespace Go.Proofs.Ytnckcdngmffahaa
open Go.ChangeShapes Go.WideShapes Go.ChangeAt Go.RowKit
set_option linter.unusedVariables false

theorem st_at9 {w0 w : World} {g ob : Nat} {l : List (List UInt8)} {k : Nat} {x : List UInt8} (h : RowL ESt9 w0 (some ⟨g, ob, none⟩) l) (hx : l[k]? = some x) (hb : Below w0.heap.size w0 w) : w.cell? ⟨g, ob + k, none⟩ = some (.string (str x)) := by
  have := h.at_ hx hb 0 _ rfl
  rwa [show ob + k * ESt9.k + 0 = ob + k from by show ob + k * 1 + 0 = ob + k; omega] at this
/-- What 'long' answers: if no, there are at most 40 strings of at most 9000 bytes together. -/
def LongS (l : List (List UInt8)) (w : World) (e : Ending) (w' : World) : Prop := ∃ b : Bool, e = .returned (.bool b) ∧ w = w' ∧ (b = false → l.length ≤ 40 ∧ l.flatten.length ≤ 9000)
set_option maxRecDepth 20000 in
theorem long9_any (A : Option Addr) (cap : Nat) (l : List (List UInt8)) (w : World) (h : RowL ESt9 w A l) (hl : l.length ≤ 9223372036854775807) (hd : ∀ x ∈ l, x.length ≤ 9223372036854775807) :
    Calls Try.prog 21 #[.slice A l.length cap] w (LongS l w) := by
  obtain ⟨n, hn⟩ : ∃ n, n = l.length := ⟨_, rfl⟩
  rw [← hn] at hl ⊢
  have H := Lib.hid h
  have HN := Lib.hid hn
  have HD := Lib.hid hd
  clear h hn hd
  go_enter Try.func21, Try.ntmps21
  go_wp2_with fail
  go_loop [3, 4] (fun s i => ∃ k t : Nat, k ≤ n ∧ k ≤ 41 ∧ i = .int .i64 k ∧ s = .int .i64 t ∧ t ≤ 9000 * k ∧ Hid (t = (l.take k).flatten.length)) (fun _ i => n - (intOf i).toNat)
  case atStart => exact ⟨0, 0, Nat.zero_le _, by omega, rfl, rfl, by omega, Lib.hid (by simp)⟩
  case round =>
    obtain ⟨k, t, hk, hk2, rfl, rfl, ht, HT⟩ := hrel
    by_cases hlt : k < n
    · have hki : (k : Int) < (n : Int) := by omega
      have hki0 : (0 : Int) ≤ (k : Int) := by omega
      have dlt : decide ((k : Int) < (n : Int)) = true := by simp; omega
      by_cases h41 : k < 41
      · have d41 : decide ((k : Int) < (41 : Int)) = true := by simp; omega
        have e41 : (k : Int) < (41 : Int) := by omega
        obtain ⟨x, hget⟩ : ∃ x, l[k]? = some x := ⟨l[k]'(by have := HN.out; omega), List.getElem?_eq_getElem _⟩
        obtain ⟨g, ob, rfl, hg, -⟩ := H.out (by have := HN.out; omega)
        have a0 := st_at9 H.out hget (Below.refl _ _)
        have hdx : x.length ≤ 9223372036854775807 := HD.out x (List.mem_of_getElem? hget)
        have HN2 := Lib.hid (show t + x.length = (l.take (k + 1)).flatten.length by rw [tot_next hget, List.length_append, HT.out])
        have HS := Lib.hid (str_size x)
        by_cases hbig : 9000 < x.length
        · have db : decide ((9000 : Int) < ((str x).size : Int)) = true := by simp [str_size]; omega
          have eb : (9000 : Int) < ((str x).size : Int) := by rw [str_size]; omega
          generalize str x = D at *
          clear hget hbig hdx
          go_wp2_with fail
          go_ret
          exact ⟨true, rfl, rfl, by simp⟩
        · have db : decide ((9000 : Int) < ((str x).size : Int)) = false := by simp [str_size]; omega
          have eb : ¬ (9000 : Int) < ((str x).size : Int) := by rw [str_size]; omega
          obtain ⟨t2, ht2⟩ : ∃ t2, t2 = t + (str x).size := ⟨_, rfl⟩
          have hti : (t : Int) + ((str x).size : Int) = (t2 : Int) := by omega
          have ht3 : t2 ≤ 9000 * (k + 1) := by rw [ht2, str_size]; omega
          have HT2 := Lib.hid (show t2 = (l.take (k + 1)).flatten.length by rw [ht2, str_size]; exact HN2.out)
          generalize str x = D at *
          clear hget hbig hdx ht2
          go_wp2_with fail
          go_round
          case rel => exact ⟨k + 1, t2, by omega, by omega, by go_num, rfl, ht3, HT2⟩
          case measure => simp [intOf]; omega
      · have d41 : decide ((k : Int) < (41 : Int)) = false := by simp; omega
        have e41 : ¬ (k : Int) < (41 : Int) := by omega
        have d40 : decide ((40 : Int) < (n : Int)) = true := by simp; omega
        have e40 : (40 : Int) < (n : Int) := by omega
        go_wp2_with fail
        go_ret
        exact ⟨true, rfl, rfl, by simp⟩
    · have nlt : ¬ (k : Int) < (n : Int) := by omega
      have dlt : decide ((k : Int) < (n : Int)) = false := by simp; omega
      have HE := Lib.hid (show l.take k = l by rw [List.take_of_length_le]; have := HN.out; omega)
      by_cases h40 : 40 < n
      · have d40 : decide ((40 : Int) < (n : Int)) = true := by simp; omega
        have e40 : (40 : Int) < (n : Int) := by omega
        clear h40
        go_wp2_with fail
        go_ret
        exact ⟨true, rfl, rfl, by simp⟩
      · have d40 : decide ((40 : Int) < (n : Int)) = false := by simp; omega
        have e40 : ¬ (40 : Int) < (n : Int) := by omega
        by_cases h9 : 9000 < t
        · have d9 : decide ((9000 : Int) < (t : Int)) = true := by simp; omega
          have e9 : (9000 : Int) < (t : Int) := by omega
          clear h40 h9
          go_wp2_with fail
          go_ret
          exact ⟨true, rfl, rfl, by simp⟩
        · have d9 : decide ((9000 : Int) < (t : Int)) = false := by simp; omega
          have e9 : ¬ (9000 : Int) < (t : Int) := by omega
          have HL := Lib.hid (show l.length ≤ 40 ∧ l.flatten.length ≤ 9000 by
            have h1 := HT.out
            rw [HE.out] at h1
            have := HN.out
            omega)
          clear h40 h9
          go_wp2_with fail
          go_ret
          exact ⟨false, rfl, rfl, fun _ => HL.out⟩
set_option maxRecDepth 20000 in
theorem rec_eql (a b : Int) (t : ByteArray) (W : World) :
    (binOp .eql 33 (.agg #[.int .i64 a, .int .i64 b, .string t]) (.agg #[.int .i64 a, .int .i64 b, .string t])).run Try.prog W = .ok (.bool true) W := by
  have u3 := Try.underlying3
  have a3 := Try.isAgg3
  have z3 := Try.sizeOf3
  have u9 := Try.underlying9
  have a9 := Try.isAgg9
  have z9 := Try.sizeOf9
  have hS : Try.prog.underlying 33 = some (.struct (Try.prog.fieldsOf 33)) := by kernel_rfl
  have hp : Try.prog.stoodInHeld 33 = false := by kernel_rfl
  rw [run_eql_struct, show (10000 : Nat) = 9999 + 1 from rfl, run_equalIn_agg W 9999 33 _ _ hS hp]
  simp only [Program.fieldsOf, Try.underlying33]
  go_simp
def exR : CRec := ⟨1002, 3, [97, 98]⟩
theorem exR_ok : wErr none [exR] = 0 := by decide +kernel
theorem exR_len : (writeC [exR]).1.length = 42 := by decide +kernel
theorem exR_write : writeC [exR] = (wHd ++ [exR].flatMap wRec, 0) := by
  unfold writeC
  rw [if_neg (by decide), exR_ok, if_neg (by decide)]
theorem exR_read : readC (writeC [exR]).1 = ([exR], 0, 0) := by rw [exR_write]; exact read_write exR_ok (by decide)
theorem exR_merge : (mergeC [exR] [exR]).length = 2 := by rw [merge_len]; rfl
set_option maxHeartbeats 2000000 in
set_option maxRecDepth 20000 in
theorem lives_any (w : World) :
    Calls Try.prog 11 #[] w fun e w' => e = .returned (.bool true) ∧ Below w.heap.size w w' := by
  obtain ⟨S, hS⟩ : ∃ S, S = str (writeC [exR]).1 := ⟨_, rfl⟩
  have hsz : (S.size : Int) = 42 := by rw [hS, str_size, exR_len]; rfl
  have hz : ((S.size : Int) == 42) = true := by rw [hsz]; rfl
  have H1 := Lib.hid (fun (A : Option Addr) (W : World) (h : RowL ERec W A [exR]) => show Calls Try.prog 16 #[.slice A 1 1] W fun e w' => e = .returned (.tuple #[.string S, .int .i64 0]) ∧ Below W.heap.size W w' from by
    have h1 := pwrite9_any A 1 [exR] W h (by simp) (by intro x hx; obtain rfl := List.mem_singleton.1 hx; exact ⟨by decide, by decide, by decide⟩)
    rw [← hS, show ((writeC [exR]).2 : Int) = 0 by rw [exR_write]; rfl] at h1
    exact h1)
  have H2 := Lib.hid (fun (W : World) => show Calls Try.prog 12 #[.string S] W fun e w' => ∃ A cap, e = .returned (.tuple #[.slice A 1 cap, .int .i64 0, .int .i64 0]) ∧ RcQ W [exR] A cap w' from by
    have h1 := pread9_any (writeC [exR]).1 W (by rw [exR_len]; decide)
    rw [← hS, exR_read] at h1
    exact h1)
  have H3 := Lib.hid (fun (W : World) => show Calls Try.prog 12 #[.string ⟨#[]⟩] W fun e w' => ∃ A cap, e = .returned (.tuple #[.slice A 0 cap, .int .i64 1, .int .i64 0]) ∧ RcQ W [] A cap w' from
    pread9_any [] W (by simp))
  have H4 := Lib.hid (fun (A : Option Addr) (c : Nat) (W : World) (h : RowL ERec W A [exR]) (hn : A = none → c = 0) => show Calls Try.prog 18 #[.slice A 1 c, .slice A 1 c] W fun e w' => ∃ B cap, e = .returned (.slice B 2 cap) ∧ Below W.heap.size W w' from
    (pmerge9_any A A c c [exR] [exR] W h h hn hn (by simp) (.inl (by simp)) (.inl (by simp))).mono fun e w' ⟨B, cap, h1, h2, h3, h4⟩ => ⟨B, cap, by rw [exR_merge] at h1; exact h1, h4⟩)
  have hm := rec_guard
  have hq := fun W => rec_eql 1002 3 ⟨#[97, 98]⟩ W
  clear hS
  go_enter Try.func11, Try.ntmps11
  go_wp2_with fail
  refine (H1.out _ _ (rowl_block (heap_alloc_new w _) rfl)).mono ?_
  rintro e w1 ⟨rfl, b1⟩
  have B1 := Lib.hid ((below_alloc6 w _).trans (b1.mono (by simp)))
  clear b1
  go_wp2_with fail
  refine (H2.out _).mono ?_
  rintro e w2 ⟨A2, c2, rfl, r2, n2, b2⟩
  have B2 := Lib.hid (B1.out.trans (b2.mono B1.out.size))
  have R2 := Lib.hid r2
  have N2 := Lib.hid n2
  clear b2 B1 r2 n2
  go_wp2_with fail
  refine (H3.out _).mono ?_
  rintro e w3 ⟨A3, c3, rfl, r3, n3, b3⟩
  have B3 := Lib.hid (B2.out.trans (b3.mono B2.out.size))
  have R3 := Lib.hid (R2.out.kept b3)
  clear b3 B2 r3 n3 R2
  obtain ⟨g, ob, rfl, hg⟩ := R3.out.shape9 (by simp)
  obtain ⟨k0, k1, k2⟩ := rec_at9 (k := 0) R3.out rfl (Below.refl _ _)
  have k2' : w3.cell? ⟨g, ob + 0 * 3 + 2, none⟩ = some (.string ⟨#[97, 98]⟩) := k2
  have k0' : w3.cell? ⟨g, ob + 0 * 3, none⟩ = some (.int .i64 1002) := k0
  have k1' : w3.cell? ⟨g, ob + 0 * 3 + 1, none⟩ = some (.int .i64 3) := k1
  clear k0 k1 k2
  simp only [Nat.zero_mul, Nat.add_zero] at k0' k1' k2'
  go_wp2_with fail
  refine (H4.out _ _ _ R3.out N2.out).mono ?_
  rintro e w4 ⟨A4, c4, rfl, b4⟩
  have B4 := Lib.hid (B3.out.trans (b4.mono B3.out.size))
  clear b4 B3
  go_wp2_with fail
  go_ret
  exact ⟨rfl, B4.out⟩
end Go.Proofs.Ytnckcdngmffahaa
