/- Contracts of the functions, part 5: Tied10, InRow, In10. -/
import Derived.Test.YtpfhljidjnagkaaDoorTie
import Derived.ProofKit
import Derived.LaidMore
import Derived.Lay
import Derived.LaidOnce
import Derived.OpenShut
import Derived.Stop.Joined
import Derived.Stop.LaidErr
import Derived.Lib.LaidTab
import Derived.SevenTiedAt
import Derived.HandedShaped
import Derived.Shelf.Vars
import Derived.Deep.Slices
import Derived.Deep.Strs
import Derived.Lib.SmallJoins
import Derived.Test.YtpfhljidjnagkaaDoorEM1
import Derived.Test.YtpfhljidjnagkaaDoorEM2
import Derived.Test.YtpfhljidjnagkaaDoorEM4
/- The listed variables of layer 10: the table of tag types alone, and with it those of Go's library (ParseMac); the wrap that keeps the world's shape. -/
namespace Go.Proofs.YtpfhljidjnagkaaDoor
open Go.ChangeShapes Go.WideShapes Go.ChangeAt Go.RowKit
set_option linter.unusedVariables false

/-- What the rows list. -/
def laidA : List (String × DataW Unit) := [("intrusion/ethernet.tagTypes", Rows.laid_intrusion_ethernet_tagTypes)]
def laidB : List (String × DataW Unit) := [("math/bits.deBruijn32tab", Rows.laid_math_bits_deBruijn32tab), ("math/bits.deBruijn64tab", Rows.laid_math_bits_deBruijn64tab), ("internal/strconv.uint64pow10", Rows.laid_internal_strconv_uint64pow10), ("unicode/utf8.acceptRanges", Rows.laid_unicode_utf8_acceptRanges), ("strconv.ErrRange", Rows.laid_strconv_ErrRange), ("strconv.ErrSyntax", Rows.laid_strconv_ErrSyntax), ("intrusion/ethernet.tagTypes", Rows.laid_intrusion_ethernet_tagTypes), ("unicode/utf8.first", Rows.laid_unicode_utf8_first)]
/-- The witness's heap, with the tables laid, meets the condition. -/
theorem doorA (os : Os) (args : Array Value) : laidMetH Tryd.prog laidA ((World.laidAll Tryd.prog os laidA).forCall (fun _ _ => 0) ⟨#[], args, []⟩).memory := by
  rw [MakeChecks.laidMetH_plain _ _ _ (by kernel_rfl)]
  exact laidMet_laidAll _ (by kernel_rfl) (by kernel_rfl)
theorem doorB (os : Os) (args : Array Value) : laidMetH Tryd.prog laidB ((World.laidAll Tryd.prog os laidB).forCall (fun _ _ => 0) ⟨#[], args, []⟩).memory := by
  rw [MakeChecks.laidMetH_plain _ _ _ (by kernel_rfl)]
  exact laidMet_laidAll _ (by kernel_rfl) (by kernel_rfl)
theorem gTagT : Tryd.prog.globalNamed "intrusion/ethernet.tagTypes" = some 0 := by kernel_rfl
theorem tTagT : (Tryd.prog.globals[0]?).map (·.type) = some 47 := by kernel_rfl
theorem cIntT : Tryd.prog.cellsOf 3 = 1 := by kernel_rfl
theorem cTagT : Tryd.prog.cellsOf 47 = 2 := by kernel_rfl
theorem tg_of_head {W : World} {rest : List (String × DataW Unit)} (h : laidMet Tryd.prog (("intrusion/ethernet.tagTypes", Rows.laid_intrusion_ethernet_tagTypes) :: rest) W) : TG W := by
  have hT := Lib.tabIs_of_head (zs := [33024, 34984]) (k := .i64) gTagT tTagT Tryd.underlying47 Tryd.underlying3 cIntT cTagT h
  exact ⟨Lib.TabIs.cell hT gTagT 0 (by decide), Lib.TabIs.cell hT gTagT 1 (by decide)⟩
theorem tiedA {W : World} (h : laidMetH Tryd.prog laidA W) (hsh : W.ShapedOpen Tryd.prog) : TG W := by
  rw [MakeChecks.laidMetH_plain _ _ _ (by kernel_rfl)] at h
  exact tg_of_head h
theorem starT : "*errors.errorString" = "*" ++ "errors.errorString" := by decide
theorem rowErr (u : TypeId) (h : Tryd.prog.typeName? 3 u = some "*errors.errorString") : u = 83 :=
  typeName_ptr_named (nm := "errors.errorString") (by rw [← starT]; kernel_rfl) (by kernel_rfl) (by decide) u (by rw [← starT]; exact h)
theorem gRngT : Tryd.prog.globalNamed "strconv.ErrRange" = some 2 := by kernel_rfl
theorem tRngT : (Tryd.prog.globals[2]?).map (·.type) = some 53 := by kernel_rfl
theorem gSynT : Tryd.prog.globalNamed "strconv.ErrSyntax" = some 1 := by kernel_rfl
theorem tSynT : (Tryd.prog.globals[1]?).map (·.type) = some 53 := by kernel_rfl
theorem cEstT : Tryd.prog.cellsOf 85 = 1 := by kernel_rfl
theorem cStrT : Tryd.prog.cellsOf 9 = 1 := by kernel_rfl
/-- What the walks of ParseMac's law ask of memory. -/
structure TB (w : World) : Prop where
  tg : TG w
  ts : TS w
theorem TB.kept {w w' : World} (h : TB w) (hb : Below w.heap.size w w') : TB w' := ⟨h.tg.kept hb, h.ts.kept hb⟩
theorem tiedB {W : World} (h : laidMetH Tryd.prog laidB W) (hsh : W.ShapedOpen Tryd.prog) : TB W := by
  rw [MakeChecks.laidMetH_plain _ _ _ (by kernel_rfl)] at h
  have h1 := laidMet.tail h
  have h2 := laidMet.tail h1
  have h3 := laidMet.tail h2
  have h4 := laidMet.tail h3
  have h5 := laidMet.tail h4
  have h6 := laidMet.tail h5
  obtain ⟨a0, s0, hv0, _, _, _⟩ := laid_sentinel h4 gRngT tRngT Tryd.underlying53 rowErr Tryd.underlying83 Tryd.underlying85 rfl rfl Tryd.underlying9 cEstT cStrT
  obtain ⟨a1, s1, hv1, _, _, _⟩ := laid_sentinel h5 gSynT tSynT Tryd.underlying53 rowErr Tryd.underlying83 Tryd.underlying85 rfl rfl Tryd.underlying9 cEstT cStrT
  refine ⟨tg_of_head h6, ?_, ⟨_, _, World.var?_cell gSynT hv1 0⟩, ⟨_, _, World.var?_cell gRngT hv0 0⟩⟩
  exact cell_of_shapedOpen_int (t := 3) (zero := #[.int .i64 0]) hsh (by decide +kernel) (by kernel_rfl) rfl (by kernel_rfl) (by kernel_rfl) Tryd.underlying3
set_option linter.unusedVariables false
variable {H : Type} {enc : TypeId × Value → H}
/-- The wrap of a law that lists variables and is handed the world's shape. -/
theorem wrap10 {a : Assume} {C : Checked} {os : Os} {f : FuncId} {fn : Func} {s : ChangeSpec} {conds : List PathCond} {apart fresh handsOn again : Bool} {X : World → Array Value → Prop}
    (hX : ∀ (w w' : World) (args : Array Value), w.heap = w'.heap → X w args → X w' args)
    (own : ownKnob C.prog.godebug = none) (started : os.Started) (noInit : C.prog.inits.idxOf? f = none) (hfn : C.prog.funcs[f]? = some fn)
    (witness : ∃ (w : World) (tape : Tape) (i : Input), w.os = os ∧ (w.forCall tape i).Shaped C.prog ∧ i.vars = [] ∧ Input.okWide C.prog (w.forCall tape i) .any w.heap.size f i ∧
      ((s.pre enc C.prog fn conds apart (w.forCall tape i).memory i.args ∧ X (w.forCall tape i).memory i.args) ∧ sizedMet enc C.prog fn (OpenSpec.ofChange s) apart (w.forCall tape i).memory i.args) ∧ a.holds C.prog (lone (Frame.enter C.prog f i.args .normal) [] (w.forCall tape i)))
    (walk : ∀ (W : World) (base : Nat) (args : Array Value) (ds gs : List (DataW H)) (before : List MemPlace),
      (∀ (j : Nat) t v, fn.params[j]? = some t → args[j]? = some v → Value.okWide C.prog W .any base t v) →
      DataW.Whole enc C.prog fn.params.toList s.vars apart W args.toList ds gs before → X W args → W.ShapedOpen C.prog →
      Calls C.prog f args W fun e W' => ∃ v, e = .returned v ∧ s.post enc C.prog fn apart fresh handsOn again W args v W') :
    ReturnsInHanded a C os f .any (fun w args => (s.pre enc C.prog fn conds apart w args ∧ X w args) ∧ sizedMet enc C.prog fn (OpenSpec.ofChange s) apart w args) (s.post enc C.prog fn apart fresh handsOn again) := by
  refine returnsInHanded_of_calls own started noInit witness ?_
  intro w tape i _ hsh _ hok hpre _
  obtain ⟨_, _, _, fn2, hfn2, _, _, _, _, hval⟩ := hok
  obtain rfl : fn2 = fn := Option.some.inj (hfn2.symm.trans hfn)
  obtain ⟨⟨⟨ds, gs, before, hw, _⟩, hx⟩, _⟩ := hpre
  refine (walk (w.forCall tape i) w.heap.size i.args ds gs before hval (DataW.Whole.of_heap (w' := w.forCall tape i) (by rfl) hw) (hX _ _ _ (by rfl) hx) hsh).mono fun e W' ⟨v, he, hp⟩ => ?_
  subst he
  exact ChangeSpec.post_blind hp
end Go.Proofs.YtpfhljidjnagkaaDoor

/- Slices of elements as they come in: a row that reads as a list; strings. -/
namespace Go.Proofs.YtpfhljidjnagkaaDoor
open Go.ChangeShapes Go.WideShapes Go.ChangeAt Go.RowKit
set_option linter.unusedVariables false

theorem choose_some {α : Type} [Inhabited α] {p : Nat → α → Prop} {m : Nat} (h : ∀ i, i < m → ∃ x, p i x) : ∃ f : Nat → α, ∀ i, i < m → p i (f i) := by
  classical
  exact ⟨fun i => if hi : i < m then (h i hi).choose else default, fun i hi => by simp only [dif_pos hi]; exact (h i hi).choose_spec⟩
theorem addr_twice (a : Addr) (x y : Nat) : (a.add x).add y = a.add (x + y) := by
  unfold Addr.add
  by_cases hx : x = 0 <;> by_cases hy : y = 0 <;> simp [hx, hy] <;> omega
/-- A slice that comes in, its elements opened one by one. -/
theorem in_row {H : Type} {enc : TypeId × Value → H} {α : Type} [Inhabited α] {E : Enc α} {P : α → Prop} {t e : TypeId} (ht : Tryd.prog.underlying t = some (.slice e)) (hk : Tryd.prog.cellsOf e = E.k)
    {W : World} {base : Nat} {sp : Nat → Bool} {held : Bool} (each : ∀ fuel (cs : List Value) (x : DataW H × List MemPlace), cs.length = E.k → DataW.trod enc Tryd.prog W base sp held fuel e cs = some x → ∃ q : α, P q ∧ cs = E.c q)
    {A : Option Addr} {n cap : Nat} {d : DataW H} {p : List MemPlace} (h : DataW.Trod enc Tryd.prog W base sp held t (.slice A n cap) d p) : ∃ l : List α, RowL E W A l ∧ n = l.length ∧ (A = none → cap = 0) ∧ n ≤ maxLen ∧ ∀ r ∈ l, P r := by
  obtain ⟨fuel, hf⟩ := h
  rcases Go.Deep.open_slice ht hf with ⟨hcs, _⟩ | ⟨a, l, c, m, k, D, Pl, hcs, _, hl, hm, hmm, _, hx⟩
  · simp [Value.cells] at hcs
    obtain ⟨rfl, rfl, rfl⟩ := hcs
    exact ⟨[], RowL.nil _ _, rfl, fun _ => rfl, by simp [maxLen], by simp⟩
  · simp [Value.cells] at hcs
    obtain ⟨rfl, rfl, rfl⟩ := hcs
    have hlm : n ≤ m := by rw [hmm]; split <;> omega
    have every : ∀ i, i < n → ∃ q : α, P q ∧ ∀ j v, (E.c q)[j]? = some v → W.cell? (a.add (i * E.k + j)) = some v := by
      intro i hi
      obtain ⟨cs', h1, h2⟩ := hx i (by omega)
      rw [hk] at h1
      obtain ⟨_, hlen, hcell⟩ := World.cells?_some h1
      obtain ⟨q, hq, rfl⟩ := each _ cs' _ hlen h2
      refine ⟨q, hq, fun j v hv => ?_⟩
      have hj : j < E.k := by rw [← E.len q]; exact (List.getElem?_eq_some_iff.1 hv).1
      have := hcell j hj
      rw [addr_twice] at this
      rw [this]
      exact hv
    obtain ⟨q, hq⟩ := choose_some every
    refine ⟨(List.range n).map q, fun hp => ?_, by simp, (fun e => by simp at e), by omega, fun r hr => ?_⟩
    · simp only [List.length_map, List.length_range] at hp
      obtain ⟨b, off, spot⟩ := a
      have hpos := E.pos
      obtain ⟨u, hu⟩ : ∃ u, (E.c (q 0))[0]? = some u := ⟨_, List.getElem?_eq_getElem (by rw [E.len]; exact hpos)⟩
      have h0 := (hq 0 hp).2 0 u hu
      have hspot : spot = none := by simpa [Addr.add] using World.cell?_spot h0
      subst hspot
      have hlt := World.block_lt_of_cell? W _ h0
      refine ⟨b, off, rfl, by simpa [Addr.add] using hlt, fun i x hx j v hv => ?_⟩
      rw [List.getElem?_map] at hx
      by_cases hi : i < n
      · rw [List.getElem?_range hi] at hx
        simp only [Option.map_some, Option.some.injEq] at hx
        subst hx
        have := (hq i hi).2 j v hv
        rw [addr_add7] at this
        rw [Nat.add_assoc]
        exact this
      · rw [List.getElem?_eq_none (by simpa using hi)] at hx
        simp at hx
    · obtain ⟨i, hi, rfl⟩ := List.mem_map.1 hr
      exact (hq i (List.mem_range.1 hi)).1
/-- A slice that is a field of what comes in. -/
theorem in_row_field {H : Type} {enc : TypeId × Value → H} {α : Type} [Inhabited α] {E : Enc α} {P : α → Prop} {t e : TypeId} (ht : Tryd.prog.underlying t = some (.slice e)) (hk : Tryd.prog.cellsOf e = E.k)
    {W : World} {base : Nat} {sp : Nat → Bool} {held : Bool} (each : ∀ fuel (cs : List Value) (x : DataW H × List MemPlace), cs.length = E.k → DataW.trod enc Tryd.prog W base sp held fuel e cs = some x → ∃ q : α, P q ∧ cs = E.c q)
    {fuel : Nat} {cs : List Value} {x : DataW H × List MemPlace} (h : DataW.trod enc Tryd.prog W base sp held fuel t cs = some x) : ∃ (A : Option Addr) (cap : Nat) (l : List α), cs = [.slice A l.length cap] ∧ RowL E W A l ∧ (A = none → cap = 0) ∧ l.length ≤ maxLen ∧ ∀ r ∈ l, P r := by
  obtain ⟨A, n, cap, rfl⟩ : ∃ A n cap, cs = [.slice A n cap] := by
    rcases Go.Deep.open_slice ht h with ⟨hcs, _⟩ | ⟨a, l, c, m, k, D, Pl, hcs, _⟩
    · exact ⟨_, _, _, hcs⟩
    · exact ⟨_, _, _, hcs⟩
  obtain ⟨l, h1, rfl, h3, h4, h5⟩ := in_row (E := E) (P := P) ht hk each (A := A) (n := n) (cap := cap) (d := x.1) (p := x.2) ⟨fuel, h⟩
  exact ⟨A, cap, l, rfl, h1, h3, h4, h5⟩
theorem arr5 {cs : Array Value} (h : cs.size = 5) : ∃ a b c d e, cs = #[a, b, c, d, e] := by
  obtain ⟨l⟩ := cs
  match l, h with
  | [a, b, c, d, e], _ => exact ⟨a, b, c, d, e, rfl⟩
end Go.Proofs.YtpfhljidjnagkaaDoor

/- A frame as the laws of layer 10 take it. -/
namespace Go.Proofs.YtpfhljidjnagkaaDoor
open Go.ChangeShapes Go.WideShapes Go.ChangeAt Go.RowKit
set_option linter.unusedVariables false

theorem cellsEth10 : Tryd.prog.cellsOf 26 = 5 := by kernel_rfl
theorem cellsInt10 : Tryd.prog.cellsOf 3 = 1 := by kernel_rfl
theorem cellsU64a10 : Tryd.prog.cellsOf 23 = 1 := by kernel_rfl
theorem cellsStr10 : Tryd.prog.cellsOf 9 = 1 := by kernel_rfl
theorem cellsSl10 : Tryd.prog.cellsOf 24 = 1 := by kernel_rfl
theorem nat_of_wf10 {x : Int} (h : (Lit.int .u64 x).wf = true) : ∃ n : Nat, x = n ∧ n < 18446744073709551616 := by
  have h' : IntKind.u64.min ≤ x ∧ x ≤ IntKind.u64.max := by simpa [Lit.wf] using h
  have h0 : (0 : Int) ≤ x := h'.1
  have h1 : x ≤ 18446744073709551615 := h'.2
  obtain ⟨k, rfl⟩ := Int.eq_ofNat_of_zero_le h0
  exact ⟨k, rfl, by omega⟩
variable {H : Type} {enc : TypeId × Value → H}
/-- What a frame that comes in is known to be. -/
def ethWf (x : EthR) : Prop := x.dst < 18446744073709551616 ∧ x.src < 18446744073709551616 ∧ (Lit.int .i64 x.ty).wf = true ∧ x.pay.length ≤ maxLen ∧ x.vl.length ≤ maxLen ∧ ∀ y ∈ x.vl, (Lit.int .i64 y).wf = true
theorem in_eth {r : Reach} {w : World} {base b0 : Nat} {spare : Nat → Bool} {held : Bool} {v : Value} {d : DataW H} {p : List MemPlace} (hv : Value.okWide Tryd.prog w r b0 26 v) (h : DataW.Trod enc Tryd.prog w base spare held 26 v d p) :
    ∃ (x : EthR) (A : Option Addr) (c : Nat), ethWf x ∧ v = .agg #[.int .u64 (x.dst : Int), .int .u64 (x.src : Int), .slice A x.vl.length c, .int .i64 x.ty, .string (str x.pay)] ∧ RowL EInt w A x.vl ∧ (A = none → c = 0) := by
  have hs := Tryd.underlying26
  obtain ⟨cs, rfl, hsz⟩ := okWide_struct hs hv
  obtain ⟨c0, c1, c2, c3, c4, rfl⟩ := arr5 (hsz.trans cellsEth10)
  obtain ⟨fuel, hf⟩ := h
  obtain ⟨xs, k', _, hxy, _, hxl, hfs⟩ := DataW.trod_struct hs hf
  match xs, hxl with
  | [y0, y1, y2, y3, y4], _ =>
    have g0 := hfs 0 _ rfl
    have g1 := hfs 1 _ rfl
    have g2 := hfs 2 _ rfl
    have g3 := hfs 3 _ rfl
    have g4 := hfs 4 _ rfl
    simp [cellsInt10, cellsU64a10, cellsStr10, cellsSl10, Value.cells] at g0 g1 g2 g3 g4
    obtain ⟨a0, e0, _, w0⟩ := DataW.trod_int Tryd.underlying23 g0
    obtain ⟨a1, e1, _, w1⟩ := DataW.trod_int Tryd.underlying23 g1
    obtain ⟨A, cap, l, e2, hr, hn, hl, hw⟩ := in_row_field (E := EInt) (P := fun y => (Lit.int .i64 y).wf = true) Tryd.underlying24 cellsInt10 (fun fuel cs x hl hx => by
      match cs, hl with
      | [v], _ =>
        obtain ⟨b, eb, _, wb⟩ := DataW.trod_int Tryd.underlying3 hx
        simp at eb
        subst eb
        exact ⟨b, wb, rfl⟩) g2
    obtain ⟨a3, e3, _, w3⟩ := DataW.trod_int Tryd.underlying3 g3
    obtain ⟨s, e4, _, hs4⟩ := DataW.trod_string Tryd.underlying9 g4
    simp at e0 e1 e2 e3 e4
    subst e0 e1 e2 e3 e4
    obtain ⟨n0, rfl, k0⟩ := nat_of_wf10 w0
    obtain ⟨n1, rfl, k1⟩ := nat_of_wf10 w1
    have hsl : s.data.toList.length = s.size := by show s.data.toList.length = s.data.size; simp only [Array.length_toList]
    refine ⟨⟨n0, n1, l, a3, s.data.toList⟩, A, cap, ⟨k0, k1, w3, by simp only [hsl]; exact hs4, hl, hw⟩, ?_, hr, hn⟩
    simp only [str_of]
theorem wf64 {z : Int} (h0 : 0 ≤ z) (h1 : z < 9223372036854775808) : (Lit.int .i64 z).wf = true := by
  have h : IntKind.i64.min ≤ z ∧ z ≤ IntKind.i64.max := by
    have e1 : IntKind.i64.min = -9223372036854775808 := by decide
    have e2 : IntKind.i64.max = 9223372036854775807 := by decide
    rw [e1, e2]
    omega
  simpa [Lit.wf] using h
theorem enc_wf {x : EthR} {s : List UInt8} (h : encE x = (s, 0)) : ethWf x ∧ x.vl.length ≤ 2 ∧ x.pay.length ≤ 4096 := by
  obtain ⟨hb, hv, rfl, hl⟩ := encE_ok h
  rw [bodyE_len] at hl
  unfold badE at hb
  simp only [not_or] at hb
  obtain ⟨b1, b2, b3, b4, b5, b6⟩ := hb
  refine ⟨⟨by omega, by omega, wf64 (by omega) (by omega), by unfold maxLen; omega, by unfold maxLen; omega, fun y hy => ?_⟩, hv, by omega⟩
  have hh : ¬ (y < 0 ∨ 4095 < y) := fun h => b3 ⟨y, hy, h⟩
  exact wf64 (by omega) (by omega)
end Go.Proofs.YtpfhljidjnagkaaDoor
