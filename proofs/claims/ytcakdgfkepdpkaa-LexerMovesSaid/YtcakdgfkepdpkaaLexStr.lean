/- Contract: one step of the program's reader of strings (a closure). -/
import Derived.Test.YtcakdgfkepdpkaaLexTok2
import Derived.Deep.AppendLies
namespace Go.Proofs.Ytcakdgfkepdpkaa
open Go.ChangeShapes Go.WideShapes Go.ChangeAt Go.RowKit

/-- A row of the call's own keeps where its blocks keep. -/
theorem own_of_blocks {w w' : World} {base : Nat} {e : TypeId} {size : Nat} {v : Value} {n : Nat} {xs : List Value} (h : w.ownsRow base e size v n xs) (hb : ∀ b, base ≤ b → b < w.heap.size → w'.heap[b]? = w.heap[b]?) : w'.ownsRow base e size v n xs := by
  refine ⟨h.1, ?_⟩
  rcases h.2 with hn | ⟨g, cap, cur, hv, hg, hh, rest⟩
  · exact .inl hn
  · exact .inr ⟨g, cap, cur, hv, hg, (hb g hg (Array.getElem?_eq_some_iff.1 hh).1).trans hh, rest⟩

/-- The reader of a string: block g the result's token, then the state, the first digit, the content. -/
structure SW (a0 W : World) (g : Nat) (st hi : Int) (out : List UInt8) : Prop where
  below : Below g a0 W
  tok : TB W g 0 ⟨#[]⟩ 0
  state : Cells W (g + 1) 3 #[.int .i64 st]
  high : Cells W (g + 2) 3 #[.int .i64 hi]
  own : ∃ A cap, Cells W (g + 3) 51 #[.slice A out.length cap] ∧ W.ownsRow (g + 4) 5 1 (.slice A out.length cap) out.length (cellsOf out)
theorem cells_set_far {w : World} {g k i : Nat} {t : TypeId} {cs : Array Value} {v : Value} (h : Cells w g t cs) (hne : g ≠ k) : Cells (w.setCell ⟨k, i, none⟩ v) g t cs :=
  Cells.only h (only_set w k i v) (by intro e; injection e with e; exact hne e)
theorem SW.setState {a0 W : World} {g : Nat} {st hi : Int} {out : List UInt8} (h : SW a0 W g st hi out) (st' : Int) : SW a0 (W.setCell ⟨g + 1, 0, none⟩ (.int .i64 st')) g st' hi out := by
  obtain ⟨A, cap, hc, ho⟩ := h.own
  exact ⟨h.below.setCell (by show g ≤ g + 1; omega) _, cells_set_far h.tok (by omega), h.state.set 0 _, cells_set_far h.high (by omega), A, cap, cells_set_far hc (by omega), own_of_blocks ho fun b hb hl => (only_set W (g + 1) 0 (.int .i64 st')).block b hl (by intro e; injection e with e; omega)⟩
theorem SW.setHigh {a0 W : World} {g : Nat} {st hi : Int} {out : List UInt8} (h : SW a0 W g st hi out) (hi' : Int) : SW a0 (W.setCell ⟨g + 2, 0, none⟩ (.int .i64 hi')) g st hi' out := by
  obtain ⟨A, cap, hc, ho⟩ := h.own
  exact ⟨h.below.setCell (by show g ≤ g + 2; omega) _, cells_set_far h.tok (by omega), cells_set_far h.state (by omega), h.high.set 0 _, A, cap, cells_set_far hc (by omega), own_of_blocks ho fun b hb hl => (only_set W (g + 2) 0 (.int .i64 hi')).block b hl (by intro e; injection e with e; omega)⟩
/-- Behind an append: the content's slice is stored. -/
theorem SW.setOut {a0 W w1 : World} {g gg cap' : Nat} {st hi : Int} {out out2 : List UInt8} {row : Option Nat} {o : Obj} (h : SW a0 W g st hi out) (hg : (W.alloc o).grownBy w1 row) (hr : ∀ k, row = some k → g + 4 ≤ k)
    (ho : w1.ownsRow (g + 4) 5 1 (.slice (some ⟨gg, 0, none⟩) out2.length cap') out2.length (cellsOf out2)) : SW a0 (w1.setCell ⟨g + 3, 0, none⟩ (.slice (some ⟨gg, 0, none⟩) out2.length cap')) g st hi out2 := by
  obtain ⟨A, cap, hc, _⟩ := h.own
  have hl3 := hc.lt
  have hal : W.heap.size ≤ (W.alloc o).heap.size := Nat.le_of_lt (alloc_lt W o)
  have kept : ∀ b t cs, b < g + 4 → Cells W b t cs → Cells w1 b t cs := fun b t cs hb hcs =>
    Cells.only (show Cells (W.alloc o) b t cs from (heap_alloc_old W o hcs.lt).trans hcs) hg (by intro e; have := hr b e.symm; omega)
  have hB : Below g a0 w1 := (h.below.alloc (by omega) o).grown hg (by omega) (fun k hk => by have := hr k hk; omega)
  exact ⟨hB.setCell (by show g ≤ g + 3; omega) _, cells_set_far (kept _ _ _ (by omega) h.tok) (by omega), cells_set_far (kept _ _ _ (by omega) h.state) (by omega), cells_set_far (kept _ _ _ (by omega) h.high) (by omega), some ⟨gg, 0, none⟩, cap', (kept _ _ _ (by omega) hc).set 0 _, own_of_blocks ho fun b hb hl => (only_set w1 (g + 3) 0 _).block b hl (by intro e; injection e with e; omega)⟩
theorem SW.cst {a0 W : World} {g : Nat} {st hi : Int} {out : List UInt8} (h : SW a0 W g st hi out) : W.cell? ⟨g + 1, 0, none⟩ = some (.int .i64 st) := (h.state.cell 0).trans rfl
theorem SW.chi {a0 W : World} {g : Nat} {st hi : Int} {out : List UInt8} (h : SW a0 W g st hi out) : W.cell? ⟨g + 2, 0, none⟩ = some (.int .i64 hi) := (h.high.cell 0).trans rfl
theorem cell_alloc_old {W : World} {o : Obj} {b i : Nat} {v : Value} (h : W.cell? ⟨b, i, none⟩ = some v) : (W.alloc o).cell? ⟨b, i, none⟩ = some v := by
  have hlt := World.block_lt_of_cell? W _ h
  rw [World.cell?_of_block (w := W) (w' := W.alloc o) (a := ⟨b, i, none⟩) (heap_alloc_old W o hlt)]
  exact h
theorem hexV_lt : ∀ n : Fin 256, ∀ v, hexV (UInt8.ofNat n.1) = some v → v < 16 := by
  intro n v
  have h : ∀ n : Fin 256, (hexV (UInt8.ofNat n.1)).all (fun v => decide (v < 16)) = true := by decide +kernel
  have := h n
  intro e
  rw [e] at this
  simpa using this
theorem hex_lt {c : UInt8} {v : Nat} (h : hexV c = some v) : v < 16 := by
  have := hexV_lt ⟨c.toNat, c.toNat_lt⟩ v
  rw [show UInt8.ofNat (⟨c.toNat, c.toNat_lt⟩ : Fin 256).1 = c by simp] at this
  exact this h
theorem or16 : ∀ (h d : Fin 16), bits .or .i64 ((h.1 : Int) * 16) (d.1 : Int) = ((16 * h.1 + d.1 : Nat) : Int) := by decide +kernel
theorem or16_of {h d : Nat} (hh : h < 16) (hd : d < 16) : bits .or .i64 ((h : Int) * 16) (d : Int) = ((16 * h + d : Nat) : Int) := or16 ⟨h, hh⟩ ⟨d, hd⟩

/-- What a call of the step with the byte c answers and leaves. -/
def Step1 (a0 W : World) (g : Nat) (c : UInt8) (b : Bool) (st' hi' : Int) (out' : List UInt8) : Prop :=
  Calls Try.prog 58 #[.int .i32 (c.toNat : Int), .pointer (some ⟨g + 1, 0, none⟩), .pointer (some ⟨g + 3, 0, none⟩), .pointer (some ⟨g + 2, 0, none⟩)] W fun e w' => e = .returned (.bool b) ∧ SW a0 w' g st' hi' out'

set_option maxRecDepth 20000 in
theorem step_plain_esc {a0 W : World} {g : Nat} {hi : Int} {out : List UInt8} (c : UInt8) (h : SW a0 W g 0 hi out) (hp : plainB c = false) (hc : c.toNat = 92) : Step1 a0 W g c true 1 hi out := by
  unfold Step1
  have hb8 := u8_lt c
  have cst := h.cst
  have fst := h.state.frozen 0
  have hp0 := fun V => pplain_any c V
  rw [hp] at hp0
  have HP := Lib.hid hp0
  clear hp0
  have t1 : ((c.toNat : Int) == 92) = true := by simp; omega
  clear hp hc
  have HS := Lib.hid (h.setState 1)
  cases hx : hexV c with
  | none =>
    have hx0 := fun V => phex_no c V hx
    have H0 := Lib.hid hx0
    clear hx0 hx h
    generalize c.toNat = n at *
    go_enter Try.func58, Try.ntmps58
    go_wp2_with fail
    refine (H0.out _).mono ?_
    rintro e w1 ⟨rfl, rfl⟩
    go_wp2_with fail
    refine (HP.out _).mono ?_
    rintro e w1 ⟨rfl, rfl⟩
    go_wp2_with fail
    go_ret
    exact ⟨rfl, HS.out⟩
  | some v =>
    have hx0 := fun V => phex_yes c v V hx
    have H0 := Lib.hid hx0
    clear hx0 hx h
    generalize c.toNat = n at *
    go_enter Try.func58, Try.ntmps58
    go_wp2_with fail
    refine (H0.out _).mono ?_
    rintro e w1 ⟨rfl, rfl⟩
    go_wp2_with fail
    refine (HP.out _).mono ?_
    rintro e w1 ⟨rfl, rfl⟩
    go_wp2_with fail
    go_ret
    exact ⟨rfl, HS.out⟩

set_option maxRecDepth 20000 in
theorem step_plain_bar {a0 W : World} {g : Nat} {hi : Int} {out : List UInt8} (c : UInt8) (h : SW a0 W g 0 hi out) (hp : plainB c = false) (hc : c.toNat = 124) : Step1 a0 W g c true 2 hi out := by
  unfold Step1
  have hb8 := u8_lt c
  have cst := h.cst
  have fst := h.state.frozen 0
  have hp0 := fun V => pplain_any c V
  rw [hp] at hp0
  have HP := Lib.hid hp0
  clear hp0
  have t1 : ((c.toNat : Int) == 92) = false := by simp; omega
  have t2 : ((c.toNat : Int) == 124) = true := by simp; omega
  clear hp hc
  have HS := Lib.hid (h.setState 2)
  cases hx : hexV c with
  | none =>
    have hx0 := fun V => phex_no c V hx
    have H0 := Lib.hid hx0
    clear hx0 hx h
    generalize c.toNat = n at *
    go_enter Try.func58, Try.ntmps58
    go_wp2_with fail
    refine (H0.out _).mono ?_
    rintro e w1 ⟨rfl, rfl⟩
    go_wp2_with fail
    refine (HP.out _).mono ?_
    rintro e w1 ⟨rfl, rfl⟩
    go_wp2_with fail
    go_ret
    exact ⟨rfl, HS.out⟩
  | some v =>
    have hx0 := fun V => phex_yes c v V hx
    have H0 := Lib.hid hx0
    clear hx0 hx h
    generalize c.toNat = n at *
    go_enter Try.func58, Try.ntmps58
    go_wp2_with fail
    refine (H0.out _).mono ?_
    rintro e w1 ⟨rfl, rfl⟩
    go_wp2_with fail
    refine (HP.out _).mono ?_
    rintro e w1 ⟨rfl, rfl⟩
    go_wp2_with fail
    go_ret
    exact ⟨rfl, HS.out⟩

set_option maxRecDepth 20000 in
theorem step_plain_end {a0 W : World} {g : Nat} {hi : Int} {out : List UInt8} (c : UInt8) (h : SW a0 W g 0 hi out) (hp : plainB c = false) (hc : c.toNat = 34) : Step1 a0 W g c true 5 hi out := by
  unfold Step1
  have hb8 := u8_lt c
  have cst := h.cst
  have fst := h.state.frozen 0
  have hp0 := fun V => pplain_any c V
  rw [hp] at hp0
  have HP := Lib.hid hp0
  clear hp0
  have t1 : ((c.toNat : Int) == 92) = false := by simp; omega
  have t2 : ((c.toNat : Int) == 124) = false := by simp; omega
  have t3 : ((c.toNat : Int) == 34) = true := by simp; omega
  clear hp hc
  have HS := Lib.hid (h.setState 5)
  cases hx : hexV c with
  | none =>
    have hx0 := fun V => phex_no c V hx
    have H0 := Lib.hid hx0
    clear hx0 hx h
    generalize c.toNat = n at *
    go_enter Try.func58, Try.ntmps58
    go_wp2_with fail
    refine (H0.out _).mono ?_
    rintro e w1 ⟨rfl, rfl⟩
    go_wp2_with fail
    refine (HP.out _).mono ?_
    rintro e w1 ⟨rfl, rfl⟩
    go_wp2_with fail
    go_ret
    exact ⟨rfl, HS.out⟩
  | some v =>
    have hx0 := fun V => phex_yes c v V hx
    have H0 := Lib.hid hx0
    clear hx0 hx h
    generalize c.toNat = n at *
    go_enter Try.func58, Try.ntmps58
    go_wp2_with fail
    refine (H0.out _).mono ?_
    rintro e w1 ⟨rfl, rfl⟩
    go_wp2_with fail
    refine (HP.out _).mono ?_
    rintro e w1 ⟨rfl, rfl⟩
    go_wp2_with fail
    go_ret
    exact ⟨rfl, HS.out⟩

set_option maxRecDepth 20000 in
theorem step_plain_no {a0 W : World} {g : Nat} {hi : Int} {out : List UInt8} (c : UInt8) (h : SW a0 W g 0 hi out) (hp : plainB c = false) (h1 : c.toNat ≠ 92) (h2 : c.toNat ≠ 124) (h3 : c.toNat ≠ 34) : Step1 a0 W g c false 0 hi out := by
  unfold Step1
  have hb8 := u8_lt c
  have cst := h.cst
  have fst := h.state.frozen 0
  have hp0 := fun V => pplain_any c V
  rw [hp] at hp0
  have HP := Lib.hid hp0
  clear hp0
  have t1 : ((c.toNat : Int) == 92) = false := by simp; omega
  have t2 : ((c.toNat : Int) == 124) = false := by simp; omega
  have t3 : ((c.toNat : Int) == 34) = false := by simp; omega
  clear hp h1 h2 h3
  have HS := Lib.hid h
  cases hx : hexV c with
  | none =>
    have hx0 := fun V => phex_no c V hx
    have H0 := Lib.hid hx0
    clear hx0 hx h
    generalize c.toNat = n at *
    go_enter Try.func58, Try.ntmps58
    go_wp2_with fail
    refine (H0.out _).mono ?_
    rintro e w1 ⟨rfl, rfl⟩
    go_wp2_with fail
    refine (HP.out _).mono ?_
    rintro e w1 ⟨rfl, rfl⟩
    go_wp2_with fail
    go_ret
    exact ⟨rfl, HS.out⟩
  | some v =>
    have hx0 := fun V => phex_yes c v V hx
    have H0 := Lib.hid hx0
    clear hx0 hx h
    generalize c.toNat = n at *
    go_enter Try.func58, Try.ntmps58
    go_wp2_with fail
    refine (H0.out _).mono ?_
    rintro e w1 ⟨rfl, rfl⟩
    go_wp2_with fail
    refine (HP.out _).mono ?_
    rintro e w1 ⟨rfl, rfl⟩
    go_wp2_with fail
    go_ret
    exact ⟨rfl, HS.out⟩

set_option maxRecDepth 20000 in
theorem step_esc_no {a0 W : World} {g : Nat} {hi : Int} {out : List UInt8} (c : UInt8) (h : SW a0 W g 1 hi out) (hp : specB c = false) : Step1 a0 W g c false 1 hi out := by
  unfold Step1
  have hb8 := u8_lt c
  have cst := h.cst
  have fst := h.state.frozen 0
  have hp0 := fun V => pspecial_any c V
  rw [hp] at hp0
  have HP := Lib.hid hp0
  clear hp0
  clear hp
  have HS := Lib.hid h
  cases hx : hexV c with
  | none =>
    have hx0 := fun V => phex_no c V hx
    have H0 := Lib.hid hx0
    clear hx0 hx h
    generalize c.toNat = n at *
    go_enter Try.func58, Try.ntmps58
    go_wp2_with fail
    refine (H0.out _).mono ?_
    rintro e w1 ⟨rfl, rfl⟩
    go_wp2_with fail
    refine (HP.out _).mono ?_
    rintro e w1 ⟨rfl, rfl⟩
    go_wp2_with fail
    go_ret
    exact ⟨rfl, HS.out⟩
  | some v =>
    have hx0 := fun V => phex_yes c v V hx
    have H0 := Lib.hid hx0
    clear hx0 hx h
    generalize c.toNat = n at *
    go_enter Try.func58, Try.ntmps58
    go_wp2_with fail
    refine (H0.out _).mono ?_
    rintro e w1 ⟨rfl, rfl⟩
    go_wp2_with fail
    refine (HP.out _).mono ?_
    rintro e w1 ⟨rfl, rfl⟩
    go_wp2_with fail
    go_ret
    exact ⟨rfl, HS.out⟩

set_option maxRecDepth 20000 in
theorem step_g1_no {a0 W : World} {g : Nat} {hi : Int} {out : List UInt8} (c : UInt8) (h : SW a0 W g 2 hi out) (hx : hexV c = none) : Step1 a0 W g c false 2 hi out := by
  unfold Step1
  have hb8 := u8_lt c
  have cst := h.cst
  have fst := h.state.frozen 0
  have HS := Lib.hid h
  have hx0 := fun V => phex_no c V hx
  have H0 := Lib.hid hx0
  clear hx0 hx h
  generalize c.toNat = n at *
  go_enter Try.func58, Try.ntmps58
  go_wp2_with fail
  refine (H0.out _).mono ?_
  rintro e w1 ⟨rfl, rfl⟩
  go_wp2_with fail
  go_ret
  exact ⟨rfl, HS.out⟩

set_option maxRecDepth 20000 in
theorem step_g2_no {a0 W : World} {g : Nat} {hi : Int} {out : List UInt8} (c : UInt8) (h : SW a0 W g 3 hi out) (hx : hexV c = none) : Step1 a0 W g c false 3 hi out := by
  unfold Step1
  have hb8 := u8_lt c
  have cst := h.cst
  have fst := h.state.frozen 0
  have HS := Lib.hid h
  have hx0 := fun V => phex_no c V hx
  have H0 := Lib.hid hx0
  clear hx0 hx h
  generalize c.toNat = n at *
  go_enter Try.func58, Try.ntmps58
  go_wp2_with fail
  refine (H0.out _).mono ?_
  rintro e w1 ⟨rfl, rfl⟩
  go_wp2_with fail
  go_ret
  exact ⟨rfl, HS.out⟩

set_option maxRecDepth 20000 in
theorem step_g3_sp {a0 W : World} {g : Nat} {hi : Int} {out : List UInt8} (c : UInt8) (h : SW a0 W g 4 hi out) (hc : c.toNat = 32) : Step1 a0 W g c true 2 hi out := by
  unfold Step1
  have hb8 := u8_lt c
  have cst := h.cst
  have fst := h.state.frozen 0
  have t1 : ((c.toNat : Int) == 32) = true := by simp; omega
  clear hc
  have HS := Lib.hid (h.setState 2)
  cases hx : hexV c with
  | none =>
    have hx0 := fun V => phex_no c V hx
    have H0 := Lib.hid hx0
    clear hx0 hx h
    generalize c.toNat = n at *
    go_enter Try.func58, Try.ntmps58
    go_wp2_with fail
    refine (H0.out _).mono ?_
    rintro e w1 ⟨rfl, rfl⟩
    go_wp2_with fail
    go_ret
    exact ⟨rfl, HS.out⟩
  | some v =>
    have hx0 := fun V => phex_yes c v V hx
    have H0 := Lib.hid hx0
    clear hx0 hx h
    generalize c.toNat = n at *
    go_enter Try.func58, Try.ntmps58
    go_wp2_with fail
    refine (H0.out _).mono ?_
    rintro e w1 ⟨rfl, rfl⟩
    go_wp2_with fail
    go_ret
    exact ⟨rfl, HS.out⟩

set_option maxRecDepth 20000 in
theorem step_g3_bar {a0 W : World} {g : Nat} {hi : Int} {out : List UInt8} (c : UInt8) (h : SW a0 W g 4 hi out) (hc : c.toNat = 124) : Step1 a0 W g c true 0 hi out := by
  unfold Step1
  have hb8 := u8_lt c
  have cst := h.cst
  have fst := h.state.frozen 0
  have t1 : ((c.toNat : Int) == 32) = false := by simp; omega
  have t2 : ((c.toNat : Int) == 124) = true := by simp; omega
  clear hc
  have HS := Lib.hid (h.setState 0)
  cases hx : hexV c with
  | none =>
    have hx0 := fun V => phex_no c V hx
    have H0 := Lib.hid hx0
    clear hx0 hx h
    generalize c.toNat = n at *
    go_enter Try.func58, Try.ntmps58
    go_wp2_with fail
    refine (H0.out _).mono ?_
    rintro e w1 ⟨rfl, rfl⟩
    go_wp2_with fail
    go_ret
    exact ⟨rfl, HS.out⟩
  | some v =>
    have hx0 := fun V => phex_yes c v V hx
    have H0 := Lib.hid hx0
    clear hx0 hx h
    generalize c.toNat = n at *
    go_enter Try.func58, Try.ntmps58
    go_wp2_with fail
    refine (H0.out _).mono ?_
    rintro e w1 ⟨rfl, rfl⟩
    go_wp2_with fail
    go_ret
    exact ⟨rfl, HS.out⟩

set_option maxRecDepth 20000 in
theorem step_g3_no {a0 W : World} {g : Nat} {hi : Int} {out : List UInt8} (c : UInt8) (h : SW a0 W g 4 hi out) (h1 : c.toNat ≠ 32) (h2 : c.toNat ≠ 124) : Step1 a0 W g c false 4 hi out := by
  unfold Step1
  have hb8 := u8_lt c
  have cst := h.cst
  have fst := h.state.frozen 0
  have t1 : ((c.toNat : Int) == 32) = false := by simp; omega
  have t2 : ((c.toNat : Int) == 124) = false := by simp; omega
  clear h1 h2
  have HS := Lib.hid h
  cases hx : hexV c with
  | none =>
    have hx0 := fun V => phex_no c V hx
    have H0 := Lib.hid hx0
    clear hx0 hx h
    generalize c.toNat = n at *
    go_enter Try.func58, Try.ntmps58
    go_wp2_with fail
    refine (H0.out _).mono ?_
    rintro e w1 ⟨rfl, rfl⟩
    go_wp2_with fail
    go_ret
    exact ⟨rfl, HS.out⟩
  | some v =>
    have hx0 := fun V => phex_yes c v V hx
    have H0 := Lib.hid hx0
    clear hx0 hx h
    generalize c.toNat = n at *
    go_enter Try.func58, Try.ntmps58
    go_wp2_with fail
    refine (H0.out _).mono ?_
    rintro e w1 ⟨rfl, rfl⟩
    go_wp2_with fail
    go_ret
    exact ⟨rfl, HS.out⟩

set_option maxRecDepth 20000 in
theorem step_end {a0 W : World} {g : Nat} {hi : Int} {out : List UInt8} (c : UInt8) (h : SW a0 W g 5 hi out) : Step1 a0 W g c false 5 hi out := by
  unfold Step1
  have hb8 := u8_lt c
  have cst := h.cst
  have fst := h.state.frozen 0
  have HS := Lib.hid h
  cases hx : hexV c with
  | none =>
    have hx0 := fun V => phex_no c V hx
    have H0 := Lib.hid hx0
    clear hx0 hx h
    generalize c.toNat = n at *
    go_enter Try.func58, Try.ntmps58
    go_wp2_with fail
    refine (H0.out _).mono ?_
    rintro e w1 ⟨rfl, rfl⟩
    go_wp2_with fail
    go_ret
    exact ⟨rfl, HS.out⟩
  | some v =>
    have hx0 := fun V => phex_yes c v V hx
    have H0 := Lib.hid hx0
    clear hx0 hx h
    generalize c.toNat = n at *
    go_enter Try.func58, Try.ntmps58
    go_wp2_with fail
    refine (H0.out _).mono ?_
    rintro e w1 ⟨rfl, rfl⟩
    go_wp2_with fail
    go_ret
    exact ⟨rfl, HS.out⟩

set_option maxRecDepth 20000 in
theorem step_g1_yes {a0 W : World} {g : Nat} {hi : Int} {out : List UInt8} (c : UInt8) (h : SW a0 W g 2 hi out) {v : Nat} (hx : hexV c = some v) : Step1 a0 W g c true 3 v out := by
  unfold Step1
  have hb8 := u8_lt c
  have cst := h.cst
  have fst := h.state.frozen 0
  have hx0 := fun V => phex_yes c v V hx
  have H0 := Lib.hid hx0
  have fhi := h.high.frozen 0
  have chi := h.chi
  have HS := Lib.hid ((h.setHigh v).setState 3)
  clear hx0 hx h
  generalize c.toNat = n at *
  go_enter Try.func58, Try.ntmps58
  go_wp2_with fail
  refine (H0.out _).mono ?_
  rintro e w1 ⟨rfl, rfl⟩
  go_wp2_with fail
  go_ret
  exact ⟨rfl, HS.out⟩

set_option maxRecDepth 20000 in
theorem step_plain_chr {a0 W : World} {g : Nat} {hi : Int} {out : List UInt8} (c : UInt8) (h : SW a0 W g 0 hi out) (hol : out.length ≤ 70000000000) (hp : plainB c = true) : Step1 a0 W g c true 0 hi (out ++ [c]) := by
  unfold Step1
  have hb8 := u8_lt c
  have cst := h.cst
  have fst := h.state.frozen 0
  have hp0 := fun V => pplain_any c V
  rw [hp] at hp0
  have HP := Lib.hid hp0
  clear hp0
  clear hp
  obtain ⟨i0, hii, hz0, hz1, hz2⟩ := info_parts info5
  obtain ⟨M, hM⟩ : ∃ M, M = out ++ [c] := ⟨_, rfl⟩
  rw [← hM]
  obtain ⟨A, cap, hc, hown⟩ := h.own
  have cc := (hc.cell 0).trans (show _ = some (Value.slice A out.length cap) from rfl)
  have hlt3 := hc.lt
  cases hx : hexV c with
  | none =>
    have hx0 := fun V => phex_no c V hx
    have H0 := Lib.hid hx0
    clear hx0 hx
    go_enter Try.func58, Try.ntmps58
    go_wp2_with fail
    refine (H0.out _).mono ?_
    rintro e w1 ⟨rfl, rfl⟩
    go_wp2_with fail
    refine (HP.out _).mono ?_
    rintro e w1 ⟨rfl, rfl⟩
    go_wp2_with (at_builtin; refine wpList_append_lies _ rfl _ _ 51 rfl (g + 4) 5 i0 (.int .u8 0) 1 1 Try.underlying51 hii hz0 hz1 hz2 rfl (by omega) _ out.length (cellsOf out) rfl (hown.alloc _) ⟨W.heap.size, 0, none⟩ 1 1 [.int .u8 (c.toNat : Int)] rfl rfl ?c1 ?c2 (by omega) ?c3 ?c4 ?c5 _ rfl ?_)
    case c1 => exact World.news_of_block (cs := #[.int .u8 (c.toNat : Int)]) (t := 5) (fr := (0, 0)) (heap_alloc_new W _)
    case c2 => simp [Value.oneCell']
    case c3 => unfold maxLen; omega
    case c4 => omega
    case c5 => simp; omega
    intro gg cap' w1 hown1 hgrow hat hlt1
    have hr : ∀ k, (Value.slice A out.length cap).ownBlock = some k → g + 4 ≤ k := fun k hk => (hown.lt k hk).1
    have hlen : out.length + 1 = M.length := by rw [hM]; simp
    rw [hlen] at hown1 ⊢
    rw [show cellsOf out ++ [.int .u8 (c.toNat : Int)] = cellsOf M by rw [hM]; simp [cellsOf]] at hown1
    have hsw := h.setOut hgrow hr hown1
    have hsw2 := hsw.setState 0
    have e1 : w1.cell? ⟨g + 3, 0, none⟩ = some (.slice A out.length cap) := by
      rw [World.cell?_of_block (w := W.alloc _) (w' := w1) (a := ⟨g + 3, 0, none⟩) (hgrow.block (g + 3) (by simp; omega) (by intro e; have := hr _ e.symm; omega))]
      exact cell_alloc_old cc
    have e3 : w1.frozen? ⟨g + 3, 0, none⟩ = false := by
      have hf := hsw.own.choose_spec.choose_spec.1.frozen 0
      rw [frozen_set] at hf
      exact hf
    have e2 := hsw.cst
    have e4 := hsw.state.frozen 0
    have HS := Lib.hid hsw2
    clear hown hown1 hgrow hat hlt1 hr hlen hsw hsw2 h hc cc cst fst hM
    go_wp2_with fail
    go_ret
    exact ⟨rfl, HS.out⟩
  | some v =>
    have hx0 := fun V => phex_yes c v V hx
    have H0 := Lib.hid hx0
    clear hx0 hx
    go_enter Try.func58, Try.ntmps58
    go_wp2_with fail
    refine (H0.out _).mono ?_
    rintro e w1 ⟨rfl, rfl⟩
    go_wp2_with fail
    refine (HP.out _).mono ?_
    rintro e w1 ⟨rfl, rfl⟩
    go_wp2_with (at_builtin; refine wpList_append_lies _ rfl _ _ 51 rfl (g + 4) 5 i0 (.int .u8 0) 1 1 Try.underlying51 hii hz0 hz1 hz2 rfl (by omega) _ out.length (cellsOf out) rfl (hown.alloc _) ⟨W.heap.size, 0, none⟩ 1 1 [.int .u8 (c.toNat : Int)] rfl rfl ?c1 ?c2 (by omega) ?c3 ?c4 ?c5 _ rfl ?_)
    case c1 => exact World.news_of_block (cs := #[.int .u8 (c.toNat : Int)]) (t := 5) (fr := (0, 0)) (heap_alloc_new W _)
    case c2 => simp [Value.oneCell']
    case c3 => unfold maxLen; omega
    case c4 => omega
    case c5 => simp; omega
    intro gg cap' w1 hown1 hgrow hat hlt1
    have hr : ∀ k, (Value.slice A out.length cap).ownBlock = some k → g + 4 ≤ k := fun k hk => (hown.lt k hk).1
    have hlen : out.length + 1 = M.length := by rw [hM]; simp
    rw [hlen] at hown1 ⊢
    rw [show cellsOf out ++ [.int .u8 (c.toNat : Int)] = cellsOf M by rw [hM]; simp [cellsOf]] at hown1
    have hsw := h.setOut hgrow hr hown1
    have hsw2 := hsw.setState 0
    have e1 : w1.cell? ⟨g + 3, 0, none⟩ = some (.slice A out.length cap) := by
      rw [World.cell?_of_block (w := W.alloc _) (w' := w1) (a := ⟨g + 3, 0, none⟩) (hgrow.block (g + 3) (by simp; omega) (by intro e; have := hr _ e.symm; omega))]
      exact cell_alloc_old cc
    have e3 : w1.frozen? ⟨g + 3, 0, none⟩ = false := by
      have hf := hsw.own.choose_spec.choose_spec.1.frozen 0
      rw [frozen_set] at hf
      exact hf
    have e2 := hsw.cst
    have e4 := hsw.state.frozen 0
    have HS := Lib.hid hsw2
    clear hown hown1 hgrow hat hlt1 hr hlen hsw hsw2 h hc cc cst fst hM
    go_wp2_with fail
    go_ret
    exact ⟨rfl, HS.out⟩

set_option maxRecDepth 20000 in
theorem step_esc_chr {a0 W : World} {g : Nat} {hi : Int} {out : List UInt8} (c : UInt8) (h : SW a0 W g 1 hi out) (hol : out.length ≤ 70000000000) (hp : specB c = true) : Step1 a0 W g c true 0 hi (out ++ [c]) := by
  unfold Step1
  have hb8 := u8_lt c
  have cst := h.cst
  have fst := h.state.frozen 0
  have hp0 := fun V => pspecial_any c V
  rw [hp] at hp0
  have HP := Lib.hid hp0
  clear hp0
  clear hp
  obtain ⟨i0, hii, hz0, hz1, hz2⟩ := info_parts info5
  obtain ⟨M, hM⟩ : ∃ M, M = out ++ [c] := ⟨_, rfl⟩
  rw [← hM]
  obtain ⟨A, cap, hc, hown⟩ := h.own
  have cc := (hc.cell 0).trans (show _ = some (Value.slice A out.length cap) from rfl)
  have hlt3 := hc.lt
  cases hx : hexV c with
  | none =>
    have hx0 := fun V => phex_no c V hx
    have H0 := Lib.hid hx0
    clear hx0 hx
    go_enter Try.func58, Try.ntmps58
    go_wp2_with fail
    refine (H0.out _).mono ?_
    rintro e w1 ⟨rfl, rfl⟩
    go_wp2_with fail
    refine (HP.out _).mono ?_
    rintro e w1 ⟨rfl, rfl⟩
    go_wp2_with (at_builtin; refine wpList_append_lies _ rfl _ _ 51 rfl (g + 4) 5 i0 (.int .u8 0) 1 1 Try.underlying51 hii hz0 hz1 hz2 rfl (by omega) _ out.length (cellsOf out) rfl (hown.alloc _) ⟨W.heap.size, 0, none⟩ 1 1 [.int .u8 (c.toNat : Int)] rfl rfl ?c1 ?c2 (by omega) ?c3 ?c4 ?c5 _ rfl ?_)
    case c1 => exact World.news_of_block (cs := #[.int .u8 (c.toNat : Int)]) (t := 5) (fr := (0, 0)) (heap_alloc_new W _)
    case c2 => simp [Value.oneCell']
    case c3 => unfold maxLen; omega
    case c4 => omega
    case c5 => simp; omega
    intro gg cap' w1 hown1 hgrow hat hlt1
    have hr : ∀ k, (Value.slice A out.length cap).ownBlock = some k → g + 4 ≤ k := fun k hk => (hown.lt k hk).1
    have hlen : out.length + 1 = M.length := by rw [hM]; simp
    rw [hlen] at hown1 ⊢
    rw [show cellsOf out ++ [.int .u8 (c.toNat : Int)] = cellsOf M by rw [hM]; simp [cellsOf]] at hown1
    have hsw := h.setOut hgrow hr hown1
    have hsw2 := hsw.setState 0
    have e1 : w1.cell? ⟨g + 3, 0, none⟩ = some (.slice A out.length cap) := by
      rw [World.cell?_of_block (w := W.alloc _) (w' := w1) (a := ⟨g + 3, 0, none⟩) (hgrow.block (g + 3) (by simp; omega) (by intro e; have := hr _ e.symm; omega))]
      exact cell_alloc_old cc
    have e3 : w1.frozen? ⟨g + 3, 0, none⟩ = false := by
      have hf := hsw.own.choose_spec.choose_spec.1.frozen 0
      rw [frozen_set] at hf
      exact hf
    have e2 := hsw.cst
    have e4 := hsw.state.frozen 0
    have HS := Lib.hid hsw2
    clear hown hown1 hgrow hat hlt1 hr hlen hsw hsw2 h hc cc cst fst hM
    go_wp2_with fail
    go_ret
    exact ⟨rfl, HS.out⟩
  | some v =>
    have hx0 := fun V => phex_yes c v V hx
    have H0 := Lib.hid hx0
    clear hx0 hx
    go_enter Try.func58, Try.ntmps58
    go_wp2_with fail
    refine (H0.out _).mono ?_
    rintro e w1 ⟨rfl, rfl⟩
    go_wp2_with fail
    refine (HP.out _).mono ?_
    rintro e w1 ⟨rfl, rfl⟩
    go_wp2_with (at_builtin; refine wpList_append_lies _ rfl _ _ 51 rfl (g + 4) 5 i0 (.int .u8 0) 1 1 Try.underlying51 hii hz0 hz1 hz2 rfl (by omega) _ out.length (cellsOf out) rfl (hown.alloc _) ⟨W.heap.size, 0, none⟩ 1 1 [.int .u8 (c.toNat : Int)] rfl rfl ?c1 ?c2 (by omega) ?c3 ?c4 ?c5 _ rfl ?_)
    case c1 => exact World.news_of_block (cs := #[.int .u8 (c.toNat : Int)]) (t := 5) (fr := (0, 0)) (heap_alloc_new W _)
    case c2 => simp [Value.oneCell']
    case c3 => unfold maxLen; omega
    case c4 => omega
    case c5 => simp; omega
    intro gg cap' w1 hown1 hgrow hat hlt1
    have hr : ∀ k, (Value.slice A out.length cap).ownBlock = some k → g + 4 ≤ k := fun k hk => (hown.lt k hk).1
    have hlen : out.length + 1 = M.length := by rw [hM]; simp
    rw [hlen] at hown1 ⊢
    rw [show cellsOf out ++ [.int .u8 (c.toNat : Int)] = cellsOf M by rw [hM]; simp [cellsOf]] at hown1
    have hsw := h.setOut hgrow hr hown1
    have hsw2 := hsw.setState 0
    have e1 : w1.cell? ⟨g + 3, 0, none⟩ = some (.slice A out.length cap) := by
      rw [World.cell?_of_block (w := W.alloc _) (w' := w1) (a := ⟨g + 3, 0, none⟩) (hgrow.block (g + 3) (by simp; omega) (by intro e; have := hr _ e.symm; omega))]
      exact cell_alloc_old cc
    have e3 : w1.frozen? ⟨g + 3, 0, none⟩ = false := by
      have hf := hsw.own.choose_spec.choose_spec.1.frozen 0
      rw [frozen_set] at hf
      exact hf
    have e2 := hsw.cst
    have e4 := hsw.state.frozen 0
    have HS := Lib.hid hsw2
    clear hown hown1 hgrow hat hlt1 hr hlen hsw hsw2 h hc cc cst fst hM
    go_wp2_with fail
    go_ret
    exact ⟨rfl, HS.out⟩

set_option maxRecDepth 20000 in
theorem step_g2_yes {a0 W : World} {g : Nat} {d : Nat} {out : List UInt8} (c : UInt8) (h : SW a0 W g 3 (d : Int) out) (hol : out.length ≤ 70000000000) {v : Nat} (hx : hexV c = some v) (hd : d < 16) : Step1 a0 W g c true 4 (d : Int) (out ++ [UInt8.ofNat (16 * d + v)]) := by
  unfold Step1
  have hb8 := u8_lt c
  have cst := h.cst
  have fst := h.state.frozen 0
  have hx0 := fun V => phex_yes c v V hx
  have H0 := Lib.hid hx0
  have chi := h.chi
  have hv := hex_lt hx
  have hor := or16_of hd hv
  have hb16 : (16 * d + v : Nat) < 256 := by omega
  have e16 : 16 * d + v = (UInt8.ofNat (16 * d + v)).toNat := by rw [UInt8.toNat_ofNat']; omega
  generalize UInt8.ofNat (16 * d + v) = c2 at *
  have hsh : (d : Int) * 2 ^ 4 = (d : Int) * 16 := by omega
  rw [e16] at hor
  have hc2 := u8_lt c2
  clear hx0 hx e16 hb16
  obtain ⟨i0, hii, hz0, hz1, hz2⟩ := info_parts info5
  obtain ⟨M, hM⟩ : ∃ M, M = out ++ [c2] := ⟨_, rfl⟩
  rw [← hM]
  obtain ⟨A, cap, hc, hown⟩ := h.own
  have cc := (hc.cell 0).trans (show _ = some (Value.slice A out.length cap) from rfl)
  have hlt3 := hc.lt
  go_enter Try.func58, Try.ntmps58
  go_wp2_with fail
  refine (H0.out _).mono ?_
  rintro e w1 ⟨rfl, rfl⟩
  go_wp2_with (at_builtin; refine wpList_append_lies _ rfl _ _ 51 rfl (g + 4) 5 i0 (.int .u8 0) 1 1 Try.underlying51 hii hz0 hz1 hz2 rfl (by omega) _ out.length (cellsOf out) rfl (hown.alloc _) ⟨W.heap.size, 0, none⟩ 1 1 [.int .u8 (c2.toNat : Int)] rfl rfl ?c1 ?c2 (by omega) ?c3 ?c4 ?c5 _ rfl ?_)
  case c1 => exact World.news_of_block (cs := #[.int .u8 (c2.toNat : Int)]) (t := 5) (fr := (0, 0)) (heap_alloc_new W _)
  case c2 => simp [Value.oneCell']
  case c3 => unfold maxLen; omega
  case c4 => omega
  case c5 => simp; omega
  intro gg cap' w1 hown1 hgrow hat hlt1
  have hr : ∀ k, (Value.slice A out.length cap).ownBlock = some k → g + 4 ≤ k := fun k hk => (hown.lt k hk).1
  have hlen : out.length + 1 = M.length := by rw [hM]; simp
  rw [hlen] at hown1 ⊢
  rw [show cellsOf out ++ [.int .u8 (c2.toNat : Int)] = cellsOf M by rw [hM]; simp [cellsOf]] at hown1
  have hsw := h.setOut hgrow hr hown1
  have hsw2 := hsw.setState 4
  have e1 : w1.cell? ⟨g + 3, 0, none⟩ = some (.slice A out.length cap) := by
    rw [World.cell?_of_block (w := W.alloc _) (w' := w1) (a := ⟨g + 3, 0, none⟩) (hgrow.block (g + 3) (by simp; omega) (by intro e; have := hr _ e.symm; omega))]
    exact cell_alloc_old cc
  have e3 : w1.frozen? ⟨g + 3, 0, none⟩ = false := by
    have hf := hsw.own.choose_spec.choose_spec.1.frozen 0
    rw [frozen_set] at hf
    exact hf
  have e2 := hsw.cst
  have e4 := hsw.state.frozen 0
  have HS := Lib.hid hsw2
  clear hown hown1 hgrow hat hlt1 hr hlen hsw hsw2 h hc cc cst fst hM
  go_wp2_with fail
  go_ret
  exact ⟨rfl, HS.out⟩
end Go.Proofs.Ytcakdgfkepdpkaa
