/- Contracts of the functions, part 41: InRow, In11. -/
import Derived.Deep.Slices
import Derived.Deep.Strs
import Derived.Lib.SmallJoins
import Derived.SizedLaws
import Derived.Test.YtimilcjlogcfhaaPE6
import Derived.Test.YtimilcjlogcfhaaPE13
/- Slices of elements as they come in: a row that reads as a list; strings. -/
namespace Go.Proofs.Ytimilcjlogcfhaa
open Go.ChangeShapes Go.WideShapes Go.ChangeAt Go.RowKit
set_option linter.unusedVariables false

theorem choose_some {α : Type} [Inhabited α] {p : Nat → α → Prop} {m : Nat} (h : ∀ i, i < m → ∃ x, p i x) : ∃ f : Nat → α, ∀ i, i < m → p i (f i) := by
  classical
  exact ⟨fun i => if hi : i < m then (h i hi).choose else default, fun i hi => by simp only [dif_pos hi]; exact (h i hi).choose_spec⟩
theorem addr_twice (a : Addr) (x y : Nat) : (a.add x).add y = a.add (x + y) := by
  unfold Addr.add
  by_cases hx : x = 0 <;> by_cases hy : y = 0 <;> simp [hx, hy] <;> omega
/-- A slice that comes in, its elements opened one by one. -/
theorem in_row {H : Type} {enc : TypeId × Value → H} {α : Type} [Inhabited α] {E : Enc α} {P : α → Prop} {t e : TypeId} (ht : Try.prog.underlying t = some (.slice e)) (hk : Try.prog.cellsOf e = E.k)
    {W : World} {base : Nat} {sp : Nat → Bool} {held : Bool} (each : ∀ fuel (cs : List Value) (x : DataW H × List MemPlace), cs.length = E.k → DataW.trod enc Try.prog W base sp held fuel e cs = some x → ∃ q : α, P q ∧ cs = E.c q)
    {A : Option Addr} {n cap : Nat} {d : DataW H} {p : List MemPlace} (h : DataW.Trod enc Try.prog W base sp held t (.slice A n cap) d p) : ∃ l : List α, RowL E W A l ∧ n = l.length ∧ (A = none → cap = 0) ∧ n ≤ maxLen ∧ ∀ r ∈ l, P r := by
  obtain ⟨fuel, hf⟩ := h
  rcases Go.Deep.open_slice ht hf with ⟨hcs, _⟩ | ⟨a, l, c, m, k, D, Pl, hcs, _, hl, hm, hmm, _, hx⟩
  · simp [Value.cells] at hcs
    obtain ⟨rfl, rfl, rfl⟩ := hcs
    exact ⟨[], RowL.nil _ _, rfl, fun _ => rfl, by simp [maxLen], by simp⟩
  · simp [Value.cells] at hcs
    obtain ⟨rfl, rfl, rfl⟩ := hcs
    have hlm : n ≤ m := by rw [hmm]; split <;> omega
    have every : ∀ i, i < n → ∃ q : α, P q ∧ ∀ j v, (E.c q)[j]? = some v → W.cell? (a.add (i * E.k + j)) = some v := by
      intro i hi
      obtain ⟨cs', h1, h2⟩ := hx i (by omega)
      rw [hk] at h1
      obtain ⟨_, hlen, hcell⟩ := World.cells?_some h1
      obtain ⟨q, hq, rfl⟩ := each _ cs' _ hlen h2
      refine ⟨q, hq, fun j v hv => ?_⟩
      have hj : j < E.k := by rw [← E.len q]; exact (List.getElem?_eq_some_iff.1 hv).1
      have := hcell j hj
      rw [addr_twice] at this
      rw [this]
      exact hv
    obtain ⟨q, hq⟩ := choose_some every
    refine ⟨(List.range n).map q, fun hp => ?_, by simp, (fun e => by simp at e), by omega, fun r hr => ?_⟩
    · simp only [List.length_map, List.length_range] at hp
      obtain ⟨b, off, spot⟩ := a
      have hpos := E.pos
      obtain ⟨u, hu⟩ : ∃ u, (E.c (q 0))[0]? = some u := ⟨_, List.getElem?_eq_getElem (by rw [E.len]; exact hpos)⟩
      have h0 := (hq 0 hp).2 0 u hu
      have hspot : spot = none := by simpa [Addr.add] using World.cell?_spot h0
      subst hspot
      have hlt := World.block_lt_of_cell? W _ h0
      refine ⟨b, off, rfl, by simpa [Addr.add] using hlt, fun i x hx j v hv => ?_⟩
      rw [List.getElem?_map] at hx
      by_cases hi : i < n
      · rw [List.getElem?_range hi] at hx
        simp only [Option.map_some, Option.some.injEq] at hx
        subst hx
        have := (hq i hi).2 j v hv
        rw [addr_add7] at this
        rw [Nat.add_assoc]
        exact this
      · rw [List.getElem?_eq_none (by simpa using hi)] at hx
        simp at hx
    · obtain ⟨i, hi, rfl⟩ := List.mem_map.1 hr
      exact (hq i (List.mem_range.1 hi)).1
/-- A slice that is a field of what comes in. -/
theorem in_row_field {H : Type} {enc : TypeId × Value → H} {α : Type} [Inhabited α] {E : Enc α} {P : α → Prop} {t e : TypeId} (ht : Try.prog.underlying t = some (.slice e)) (hk : Try.prog.cellsOf e = E.k)
    {W : World} {base : Nat} {sp : Nat → Bool} {held : Bool} (each : ∀ fuel (cs : List Value) (x : DataW H × List MemPlace), cs.length = E.k → DataW.trod enc Try.prog W base sp held fuel e cs = some x → ∃ q : α, P q ∧ cs = E.c q)
    {fuel : Nat} {cs : List Value} {x : DataW H × List MemPlace} (h : DataW.trod enc Try.prog W base sp held fuel t cs = some x) : ∃ (A : Option Addr) (cap : Nat) (l : List α), cs = [.slice A l.length cap] ∧ RowL E W A l ∧ (A = none → cap = 0) ∧ l.length ≤ maxLen ∧ ∀ r ∈ l, P r := by
  obtain ⟨A, n, cap, rfl⟩ : ∃ A n cap, cs = [.slice A n cap] := by
    rcases Go.Deep.open_slice ht h with ⟨hcs, _⟩ | ⟨a, l, c, m, k, D, Pl, hcs, _⟩
    · exact ⟨_, _, _, hcs⟩
    · exact ⟨_, _, _, hcs⟩
  obtain ⟨l, h1, rfl, h3, h4, h5⟩ := in_row (E := E) (P := P) ht hk each (A := A) (n := n) (cap := cap) (d := x.1) (p := x.2) ⟨fuel, h⟩
  exact ⟨A, cap, l, rfl, h1, h3, h4, h5⟩
theorem arr5 {cs : Array Value} (h : cs.size = 5) : ∃ a b c d e, cs = #[a, b, c, d, e] := by
  obtain ⟨l⟩ := cs
  match l, h with
  | [a, b, c, d, e], _ => exact ⟨a, b, c, d, e, rfl⟩
end Go.Proofs.Ytimilcjlogcfhaa

/- A packet as the laws of layer 11 take it. -/
namespace Go.Proofs.Ytimilcjlogcfhaa
open Go.ChangeShapes Go.WideShapes Go.ChangeAt Go.RowKit
set_option linter.unusedVariables false

theorem cellsIp11 : Try.prog.cellsOf 28 = 15 := by kernel_rfl
theorem cellsInt11 : Try.prog.cellsOf 3 = 1 := by kernel_rfl
theorem cellsBool11 : Try.prog.cellsOf 4 = 1 := by kernel_rfl
theorem cellsU6411 : Try.prog.cellsOf 23 = 1 := by kernel_rfl
theorem cellsStr11 : Try.prog.cellsOf 9 = 1 := by kernel_rfl
theorem cellsAd11 : Try.prog.cellsOf 25 = 3 := by kernel_rfl
theorem cellsOpt11 : Try.prog.cellsOf 50 = 2 := by kernel_rfl
theorem cellsOps11 : Try.prog.cellsOf 26 = 1 := by kernel_rfl
theorem offsA11 : ∃ f0 f1 f2, Try.prog.underlying 25 = some (.struct #[f0, f1, f2]) ∧ f0.type = 4 ∧ f0.offset = 0 ∧ f1.type = 23 ∧ f1.offset = 1 ∧ f2.type = 23 ∧ f2.offset = 2 := ⟨_, _, _, Try.underlying25, rfl, rfl, rfl, rfl, rfl, rfl⟩
theorem offsO11 : ∃ f0 f1, Try.prog.underlying 50 = some (.struct #[f0, f1]) ∧ f0.type = 3 ∧ f0.offset = 0 ∧ f1.type = 9 ∧ f1.offset = 1 := ⟨_, _, Try.underlying50, rfl, rfl, rfl, rfl⟩
theorem nat_of_wf11 {x : Int} (h : (Lit.int .u64 x).wf = true) : ∃ n : Nat, x = n ∧ n < 18446744073709551616 := by
  have h' : IntKind.u64.min ≤ x ∧ x ≤ IntKind.u64.max := by simpa [Lit.wf] using h
  have h0 : (0 : Int) ≤ x := h'.1
  have h1 : x ≤ 18446744073709551615 := h'.2
  obtain ⟨k, rfl⟩ := Int.eq_ofNat_of_zero_le h0
  exact ⟨k, rfl, by omega⟩
theorem toList_length11 (s : ByteArray) : s.data.toList.length = s.size := by show s.data.toList.length = s.data.size; simp only [Array.length_toList]
theorem arr15 {cs : Array Value} (h : cs.size = 15) : ∃ c0 c1 c2 c3 c4 c5 c6 c7 c8 c9 c10 c11 c12 c13 c14, cs = #[c0, c1, c2, c3, c4, c5, c6, c7, c8, c9, c10, c11, c12, c13, c14] := by
  obtain ⟨l⟩ := cs
  match l, h with
  | [c0, c1, c2, c3, c4, c5, c6, c7, c8, c9, c10, c11, c12, c13, c14], _ => exact ⟨c0, c1, c2, c3, c4, c5, c6, c7, c8, c9, c10, c11, c12, c13, c14, rfl⟩
instance : Inhabited OpR := ⟨⟨0, []⟩⟩
variable {H : Type} {enc : TypeId × Value → H}
def adrFits (a : AdR) : Prop := a.hi < 18446744073709551616 ∧ a.lo < 18446744073709551616
def optWf (y : OpR) : Prop := (Lit.int .i64 y.kd).wf = true ∧ y.dat.length ≤ 281474976710656
theorem open_ad11 {w : World} {base : Nat} {sp : Nat → Bool} {held : Bool} {fuel : Nat} {v0 v1 v2 : Value} {x : DataW H × List MemPlace} (h : DataW.trod enc Try.prog w base sp held fuel 25 [v0, v1, v2] = some x) : ∃ a : AdR, adrFits a ∧ v0 = .bool a.v6 ∧ v1 = .int .u64 (a.hi : Int) ∧ v2 = .int .u64 (a.lo : Int) := by
  obtain ⟨g0, g1, g2, hsA, u0, q0, u1, q1, u2, q2⟩ := offsA11
  obtain ⟨z0, z1, z2, m, hy, _, k0, k1, k2⟩ := Go.Deep.trod_struct3 hsA h
  rw [u0, q0, cellsBool11] at k0
  rw [u1, q1, cellsU6411] at k1
  rw [u2, q2, cellsU6411] at k2
  obtain ⟨b, e0, _⟩ := DataW.trod_bool Try.underlying4 k0
  obtain ⟨x, e1, _, wx⟩ := DataW.trod_int Try.underlying23 k1
  obtain ⟨z, e2, _, wz⟩ := DataW.trod_int Try.underlying23 k2
  simp at e0 e1 e2
  obtain ⟨X, rfl, hX⟩ := nat_of_wf11 wx
  obtain ⟨Z, rfl, hZ⟩ := nat_of_wf11 wz
  exact ⟨⟨b, X, Z⟩, ⟨hX, hZ⟩, e0, e1, e2⟩
/-- A slice that is a field of what comes in, where what comes in holds a bounded number of bytes. -/
theorem weightsAll_mem {P : Program} {e : TypeId} {n : Nat} : ∀ {ds : List (DataW H)} {d : DataW H}, d ∈ ds → n ∈ d.weights P e → n ∈ DataW.weightsAll P e ds
  | d0 :: r, d, hd, hn => by
    simp only [DataW.weightsAll, List.mem_append]
    rcases List.mem_cons.1 hd with rfl | hd
    · exact Or.inl hn
    · exact Or.inr (weightsAll_mem hd hn)
theorem in_rowS {α : Type} [Inhabited α] {E : Enc α} {P : α → Prop} {t e : TypeId} (ht : Try.prog.underlying t = some (.slice e)) (hk : Try.prog.cellsOf e = E.k)
    {W : World} {base : Nat} {sp : Nat → Bool} {held : Bool} (each : ∀ fuel (cs : List Value) (x : DataW H × List MemPlace), cs.length = E.k → DataW.trod enc Try.prog W base sp held fuel e cs = some x → (∀ k ∈ x.1.weights Try.prog e, k ≤ reachBytes) → ∃ q : α, P q ∧ cs = E.c q)
    {fuel : Nat} {cs : List Value} {x : DataW H × List MemPlace} (h : DataW.trod enc Try.prog W base sp held fuel t cs = some x) (hz : ∀ k ∈ x.1.weights Try.prog t, k ≤ reachBytes) : ∃ (A : Option Addr) (cap : Nat) (l : List α), cs = [.slice A l.length cap] ∧ RowL E W A l ∧ (A = none → cap = 0) ∧ l.length ≤ maxLen ∧ ∀ r ∈ l, P r := by
  rcases Go.Deep.open_slice ht h with ⟨hcs, _⟩ | ⟨a, n, cap, m, k, D, Pl, rfl, _, hl, hm, hmm, hxx, hx⟩
  · exact ⟨none, 0, [], hcs, RowL.nil _ _, fun _ => rfl, by simp [maxLen], by simp⟩
  · have hlm : n ≤ m := by rw [hmm]; split <;> omega
    have every : ∀ i, i < n → ∃ q : α, P q ∧ ∀ j v, (E.c q)[j]? = some v → W.cell? (a.add (i * E.k + j)) = some v := by
      intro i hi
      obtain ⟨cs', h1, h2⟩ := hx i (by omega)
      rw [hk] at h1
      obtain ⟨_, hlen, hcell⟩ := World.cells?_some h1
      obtain ⟨q, hq, rfl⟩ := each _ cs' _ hlen h2 (fun y hy => hz y (by
        rw [hxx]
        simp only [DataW.weights, ht]
        exact List.mem_cons_of_mem _ (List.mem_append_left _ (weightsAll_mem (List.mem_map.2 ⟨i, List.mem_range.2 hi, rfl⟩) hy))))
      refine ⟨q, hq, fun j v hv => ?_⟩
      have hj : j < E.k := by rw [← E.len q]; exact (List.getElem?_eq_some_iff.1 hv).1
      have := hcell j hj
      rw [addr_twice] at this
      rw [this]
      exact hv
    obtain ⟨q, hq⟩ := choose_some every
    refine ⟨some a, cap, (List.range n).map q, by simp, fun hp => ?_, (fun e => by simp at e), by simp; omega, fun r hr => ?_⟩
    · simp only [List.length_map, List.length_range] at hp
      obtain ⟨b, off, spot⟩ := a
      have hpos := E.pos
      obtain ⟨u, hu⟩ : ∃ u, (E.c (q 0))[0]? = some u := ⟨_, List.getElem?_eq_getElem (by rw [E.len]; exact hpos)⟩
      have h0 := (hq 0 hp).2 0 u hu
      have hspot : spot = none := by simpa [Addr.add] using World.cell?_spot h0
      subst hspot
      have hlt := World.block_lt_of_cell? W _ h0
      refine ⟨b, off, rfl, by simpa [Addr.add] using hlt, fun i x hx j v hv => ?_⟩
      rw [List.getElem?_map] at hx
      by_cases hi : i < n
      · rw [List.getElem?_range hi] at hx
        simp only [Option.map_some, Option.some.injEq] at hx
        subst hx
        have := (hq i hi).2 j v hv
        rw [addr_add7] at this
        rw [Nat.add_assoc]
        exact this
      · rw [List.getElem?_eq_none (by simpa using hi)] at hx
        simp at hx
    · obtain ⟨i, hi, rfl⟩ := List.mem_map.1 hr
      exact (hq i (List.mem_range.1 hi)).1
theorem weights_str {P : Program} {t : TypeId} (s : List UInt8) : s.length ∈ (DataW.lit (.string s) : DataW H).weights P t := by simp [DataW.weights]
theorem open_opt11 {w : World} {base : Nat} {sp : Nat → Bool} {held : Bool} (fuel : Nat) (cs : List Value) (x : DataW H × List MemPlace) (hl : cs.length = 2) (h : DataW.trod enc Try.prog w base sp held fuel 50 cs = some x) (hz : ∀ k ∈ x.1.weights Try.prog 50, k ≤ reachBytes) : ∃ y : OpR, optWf y ∧ cs = EOpt.c y := by
  obtain ⟨f0, f1, hs, t0, o0, t1, o1⟩ := offsO11
  obtain ⟨y0, y1, m, hxx, _, h0, h1⟩ := trod_struct2 hs h
  rw [t0, o0, cellsInt11] at h0
  rw [t1, o1, cellsStr11] at h1
  match cs, hl with
  | [v0, v1], _ =>
    obtain ⟨k, e0, _, wk⟩ := DataW.trod_int Try.underlying3 h0
    obtain ⟨s, e1, hy1, hs1⟩ := DataW.trod_string Try.underlying9 h1
    have hr : s.data.toList.length ≤ reachBytes := hz _ (by
      rw [hxx]
      simp only [DataW.weights, hs]
      refine DataW.weights_mem_each (j := 1) (t := f1.type) (d := y1.1) rfl rfl _ ?_
      rw [hy1]
      exact weights_str _)
    simp at e0 e1
    subst e0 e1
    refine ⟨⟨k, s.data.toList⟩, ⟨wk, Nat.le_trans hr (by decide)⟩, ?_⟩
    show _ = [_, _]
    simp only [str_of]
/-- What a packet that comes in is known to be. -/
def ipWf (x : Ip4R) : Prop := ((Lit.int .i64 x.tos).wf = true ∧ (Lit.int .i64 x.id).wf = true ∧ (Lit.int .i64 x.ttl).wf = true ∧ (Lit.int .i64 x.proto).wf = true ∧ (Lit.int .i64 x.off).wf = true) ∧ adrFits x.src ∧ adrFits x.dst ∧ x.pay.length ≤ maxLen ∧ x.ops.length ≤ maxLen ∧ ∀ y ∈ x.ops, optWf y
theorem in_ip4 {r : Reach} {w : World} {base b0 : Nat} {spare : Nat → Bool} {held : Bool} {v : Value} {d : DataW H} {p : List MemPlace} (hv : Value.okWide Try.prog w r b0 28 v) (h : DataW.Trod enc Try.prog w base spare held 28 v d p) (hz : ∀ k ∈ d.weights Try.prog 28, k ≤ reachBytes) :
    ∃ (x : Ip4R) (A : Option Addr) (c : Nat), ipWf x ∧ v = .agg (ipC x x.ops.length A c (str x.pay)) ∧ RowL EOpt w A x.ops ∧ (A = none → c = 0) := by
  have hs := Try.underlying28
  obtain ⟨cs, rfl, hsz⟩ := okWide_struct hs hv
  obtain ⟨c0, c1, c2, c3, c4, c5, c6, c7, c8, c9, c10, c11, c12, c13, c14, rfl⟩ := arr15 (hsz.trans cellsIp11)
  obtain ⟨fuel, hf⟩ := h
  obtain ⟨xs, k', _, hxy, _, hxl, hfs⟩ := DataW.trod_struct hs hf
  match xs, hxl with
  | [y0, y1, y2, y3, y4, y5, y6, y7, y8, y9, y10], _ =>
    have g0 := hfs 0 _ rfl
    have g1 := hfs 1 _ rfl
    have g2 := hfs 2 _ rfl
    have g3 := hfs 3 _ rfl
    have g4 := hfs 4 _ rfl
    have g5 := hfs 5 _ rfl
    have g6 := hfs 6 _ rfl
    have g7 := hfs 7 _ rfl
    have g8 := hfs 8 _ rfl
    have g9 := hfs 9 _ rfl
    have g10 := hfs 10 _ rfl
    simp [cellsInt11, cellsBool11, cellsStr11, cellsAd11, cellsOps11, Value.cells] at g0 g1 g2 g3 g4 g5 g6 g7 g8 g9 g10
    obtain ⟨a0, e0, _, w0⟩ := DataW.trod_int Try.underlying3 g0
    obtain ⟨a1, e1, _, w1⟩ := DataW.trod_int Try.underlying3 g1
    obtain ⟨a2, e2, _, w2⟩ := DataW.trod_int Try.underlying3 g2
    obtain ⟨a3, e3, _, w3⟩ := DataW.trod_int Try.underlying3 g3
    obtain ⟨a6, e6, _, w6⟩ := DataW.trod_int Try.underlying3 g6
    obtain ⟨a4, e4, _⟩ := DataW.trod_bool Try.underlying4 g4
    obtain ⟨a5, e5, _⟩ := DataW.trod_bool Try.underlying4 g5
    obtain ⟨s, hsf, rfl, rfl, rfl⟩ := open_ad11 g7
    obtain ⟨t, htf, rfl, rfl, rfl⟩ := open_ad11 g8
    obtain ⟨A, cap, l, e9, hr, hn, hl, hw⟩ := in_rowS (E := EOpt) (P := optWf) Try.underlying26 cellsOpt11 (fun fuel cs x hl h => open_opt11 fuel cs x hl h) g9 (fun k hk => hz k (by
      rw [show d = .agg [y0.1, y1.1, y2.1, y3.1, y4.1, y5.1, y6.1, y7.1, y8.1, y9.1, y10.1] from congrArg Prod.fst hxy]
      simp only [DataW.weights, hs]
      exact DataW.weights_mem_each (j := 9) (t := 26) (d := y9.1) rfl rfl _ hk))
    obtain ⟨q, e10, _, hq⟩ := DataW.trod_string Try.underlying9 g10
    simp at e0 e1 e2 e3 e4 e5 e6 e9 e10
    subst e0 e1 e2 e3 e4 e5 e6 e9 e10
    refine ⟨⟨a0, a1, a2, a3, a4, a5, a6, s, t, l, q.data.toList⟩, A, cap, ⟨⟨w0, w1, w2, w3, w6⟩, hsf, htf, by simp only [toList_length11]; exact hq, hl, hw⟩, ?_, hr, hn⟩
    simp only [str_of]
    rfl
end Go.Proofs.Ytimilcjlogcfhaa
