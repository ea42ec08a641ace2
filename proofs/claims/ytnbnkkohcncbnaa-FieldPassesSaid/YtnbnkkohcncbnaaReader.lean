/- Contracts of the program's reader: next, Int, Take, Rest, Left, Err, NewReader. -/
import Derived.Test.YtnbnkkohcncbnaaRef2
namespace Go.Proofs.Ytnbnkkohcncbnaa
open Go.ChangeShapes Go.WideShapes Go.ChangeAt Go.RowKit
set_option linter.unusedVariables false

/-- Block g is just these cells. -/
def Cells (w : World) (g : Nat) (t : TypeId) (cs : Array Value) : Prop := w.heap[g]? = some (.cells cs t (0, 0))
theorem Cells.lt {w : World} {g : Nat} {t : TypeId} {cs : Array Value} (h : Cells w g t cs) : g < w.heap.size := (Array.getElem?_eq_some_iff.1 h).1
theorem Cells.cell {w : World} {g : Nat} {t : TypeId} {cs : Array Value} (h : Cells w g t cs) (i : Nat) : w.cell? ⟨g, i, none⟩ = cs[i]? := by
  have h' : w.heap[g]? = some (.cells cs t (0, 0)) := h
  simp [World.cell?, h']
theorem Cells.frozen {w : World} {g : Nat} {t : TypeId} {cs : Array Value} (h : Cells w g t cs) (i : Nat) : w.frozen? ⟨g, i, none⟩ = false := by
  have h' : w.heap[g]? = some (.cells cs t (0, 0)) := h
  simp [World.frozen?, h']
theorem Cells.set {w : World} {g : Nat} {t : TypeId} {cs : Array Value} (h : Cells w g t cs) (i : Nat) (u : Value) : Cells (w.setCell ⟨g, i, none⟩ u) g t (cs.setIfInBounds i u) := by
  have h' : w.heap[g]? = some (.cells cs t (0, 0)) := h
  show (w.setCell ⟨g, i, none⟩ u).heap[g]? = _
  simp [World.setCell, Array.getElem?_modify, h']
theorem Cells.only {w w' : World} {g : Nat} {t : TypeId} {cs : Array Value} {row : Option Nat} (h : Cells w g t cs) (hg : w.grownBy w' row) (hne : some g ≠ row) : Cells w' g t cs :=
  (hg.block g h.lt hne).trans h
theorem only_set (w : World) (g i : Nat) (u : Value) : w.grownBy (w.setCell ⟨g, i, none⟩ u) (some g) :=
  ⟨rfl, rfl, rfl, by simp [World.setCell], fun k _ hne => Below.heap_setCell w ⟨g, i, none⟩ u k (by intro e; exact hne (by rw [e]))⟩
theorem only_trans {a b c : World} {row : Option Nat} (h : a.grownBy b row) (k : b.grownBy c row) : a.grownBy c row :=
  ⟨k.os.trans h.os, k.tape.trans h.tape, k.output.trans h.output, Nat.le_trans h.size k.size, fun i hi hne => (k.block i (Nat.lt_of_lt_of_le hi h.size) hne).trans (h.block i hi hne)⟩
theorem only_refl (w : World) (row : Option Nat) : w.grownBy w row := ⟨rfl, rfl, rfl, Nat.le_refl _, fun _ _ _ => rfl⟩
theorem only_below {w w' : World} (h : Below w.heap.size w w') (row : Option Nat) : w.grownBy w' row := ⟨h.os, h.tape, h.output, h.size, fun k hk _ => h.block k hk⟩

/-- The bytes that a reader has left lie outside its own block. -/
def Left (w : World) (p : Nat) (A : Option Addr) (l : List UInt8) (cap : Nat) : Prop :=
  l.length ≤ cap ∧ (0 < l.length → ∃ g o, A = some ⟨g, o, none⟩ ∧ g ≠ p ∧ g < w.heap.size ∧
    ∀ j (hj : j < l.length), w.cell? ⟨g, o + j, none⟩ = some (.int .u8 (l[j].toNat : Int)) ∧ w.frozen? ⟨g, o + j, none⟩ = false)

/-- A reader at block p with the bytes l left and an error. -/
def Rd (w : World) (p : Nat) (l : List UInt8) (err : Int) : Prop :=
  ∃ A cap, Cells w p 57 #[.slice A l.length cap, .int .i64 err] ∧ Left w p A l cap

theorem Left.only {w w' : World} {p : Nat} {A : Option Addr} {l : List UInt8} {cap : Nat} (h : Left w p A l cap) (hg : w.grownBy w' (some p)) : Left w' p A l cap := by
  refine ⟨h.1, fun hp => ?_⟩
  obtain ⟨g, o, e, hne, hlt, hc⟩ := h.2 hp
  have hb : w'.heap[g]? = w.heap[g]? := hg.block g hlt (by intro e; injection e with e; exact hne e)
  refine ⟨g, o, e, hne, Nat.lt_of_lt_of_le hlt hg.size, fun j hj => ?_⟩
  rw [World.cell?_of_block (w := w) (w' := w') (a := ⟨g, o + j, none⟩) hb, World.frozen?_of_block (w := w) (w' := w') (a := ⟨g, o + j, none⟩) hb]
  exact hc j hj
theorem Left.bs {w : World} {p : Nat} {A : Option Addr} {l : List UInt8} {cap : Nat} (h : Left w p A l cap) : BS w 0 (.slice A l.length cap) l :=
  ⟨A, cap, rfl, h.1, fun hp => by
    obtain ⟨g, o, e, _, hlt, hc⟩ := h.2 hp
    exact ⟨g, o, e, Nat.zero_le _, hlt, hc⟩⟩

theorem add_flat (g o n : Nat) : (⟨g, o, none⟩ : Addr).add n = ⟨g, o + n, none⟩ := by
  unfold Addr.add
  split
  · subst_vars; rfl
  · rfl
theorem Left.drop {w : World} {p : Nat} {A : Option Addr} {l : List UInt8} {cap : Nat} (h : Left w p A l cap) (n : Nat) (hn : n ≤ l.length) : Left w p (A.map (fun x => x.add n)) (l.drop n) (cap - n) := by
  refine ⟨by rw [List.length_drop]; have := h.1; omega, fun hp => ?_⟩
  rw [List.length_drop] at hp
  obtain ⟨g, o, rfl, hne, hlt, hc⟩ := h.2 (by omega)
  refine ⟨g, o + n, by rw [Option.map_some, add_flat], hne, hlt, fun j hj => ?_⟩
  rw [List.length_drop] at hj
  have := hc (n + j) (by omega)
  rw [List.getElem_drop, Nat.add_assoc]
  exact this
theorem Left.take {w : World} {p : Nat} {A : Option Addr} {l : List UInt8} {cap : Nat} (h : Left w p A l cap) (n : Nat) (hn : n ≤ l.length) : BS w 0 (.slice A n n) (l.take n) := by
  have hlen : (l.take n).length = n := by rw [List.length_take]; omega
  refine ⟨A, n, by rw [hlen], by rw [hlen]; exact Nat.le_refl _, fun hp => ?_⟩
  rw [hlen] at hp
  obtain ⟨g, o, rfl, _, hlt, hc⟩ := h.2 (by omega)
  refine ⟨g, o, rfl, Nat.zero_le _, hlt, fun j hj => ?_⟩
  rw [hlen] at hj
  have := hc j (by omega)
  rw [List.getElem_take]
  exact this

theorem next_err (p : Nat) (l : List UInt8) (err n : Int) (b : Bool) (w : World) (h : Rd w p l err) (he : err ≠ 0) :
    Calls Try.prog 36 #[.pointer (some ⟨p, 0, none⟩), .int .i64 n, .bool b] w fun e w' => e = .returned (.slice none 0 0) ∧ w = w' := by
  obtain ⟨A, cap, hc, hl⟩ := h
  have c0 := hc.cell 0
  have c1 := hc.cell 1
  have hb : (err != 0) = true := by simpa using he
  simp at c0 c1
  clear hc hl he
  go_enter Try.func36, Try.ntmps36
  go_wp2_with fail
  go_ret
  exact ⟨rfl, rfl⟩

theorem next_bad (p : Nat) (l : List UInt8) (n : Int) (w : World) (h : Rd w p l 0) :
    Calls Try.prog 36 #[.pointer (some ⟨p, 0, none⟩), .int .i64 n, .bool false] w fun e w' => e = .returned (.slice none 0 0) ∧ Rd w' p l 4 ∧ w.grownBy w' (some p) := by
  obtain ⟨A, cap, hc, hl⟩ := h
  have c0 := hc.cell 0
  have c1 := hc.cell 1
  have f1 := hc.frozen 1
  simp at c0 c1
  go_enter Try.func36, Try.ntmps36
  go_wp2_with fail
  go_ret
  exact ⟨rfl, ⟨A, cap, hc.set 1 _, hl.only (only_set ..)⟩, only_set ..⟩

theorem next_short (p : Nat) (l : List UInt8) (n : Int) (w : World) (h : Rd w p l 0) (hm : l.length ≤ 9223372036854775807) (hn : (l.length : Int) < n) :
    Calls Try.prog 36 #[.pointer (some ⟨p, 0, none⟩), .int .i64 n, .bool true] w fun e w' => e = .returned (.slice none 0 0) ∧ Rd w' p l 1 ∧ w.grownBy w' (some p) := by
  obtain ⟨A, cap, hc, hl⟩ := h
  have c0 := hc.cell 0
  have c1 := hc.cell 1
  have f1 := hc.frozen 1
  simp at c0 c1
  go_enter Try.func36, Try.ntmps36
  go_wp2_with fail
  go_ret
  exact ⟨rfl, ⟨A, cap, hc.set 1 _, hl.only (only_set ..)⟩, only_set ..⟩

theorem next_ok (p : Nat) (l : List UInt8) (n : Nat) (w : World) (h : Rd w p l 0) (hm : l.length ≤ 9223372036854775807) (hn : n ≤ l.length) :
    Calls Try.prog 36 #[.pointer (some ⟨p, 0, none⟩), .int .i64 n, .bool true] w fun e w' => ∃ A, e = .returned (.slice A n n) ∧ BS w' 0 (.slice A n n) (l.take n) ∧ Rd w' p (l.drop n) 0 ∧ w.grownBy w' (some p) := by
  obtain ⟨A, cap, hc, hl⟩ := h
  have c0 := hc.cell 0
  have c1 := hc.cell 1
  have f0 := hc.frozen 0
  have hcap := hl.1
  simp at c0 c1
  by_cases hcn : cap = n
  · obtain rfl : cap = l.length := by omega
    subst hcn
    go_enter Try.func36, Try.ntmps36
    go_wp2_with fail
    go_ret
    have hx := hc.set 0 (.slice A 0 0)
    exact ⟨A, rfl, ((hl.only (only_set w p 0 _)).take _ (Nat.le_refl _)), ⟨A, 0, by simpa using hx, by simp, by simp⟩, only_set ..⟩
  · go_enter Try.func36, Try.ntmps36
    go_wp2_with fail
    go_ret
    have hx := hc.set 0 (.slice (A.map fun x => x.add n) (l.length - n) (cap - n))
    rw [← List.length_drop] at hx
    exact ⟨A, rfl, ((hl.only (only_set w p 0 _)).take _ hn), ⟨_, _, by rw [List.length_drop] at *; exact hx, (hl.drop n hn).only (only_set ..)⟩, only_set ..⟩

/-- How a reader answers a call of Int. -/
def intOk (l : List UInt8) (n : Int) : Prop := 1 ≤ n ∧ n ≤ 7 ∧ n ≤ l.length

theorem int_err (p : Nat) (l : List UInt8) (err n : Int) (w : World) (h : Rd w p l err) (he : err ≠ 0) :
    Calls Try.prog 19 #[.pointer (some ⟨p, 0, none⟩), .int .i64 n] w fun e w' => e = .returned (.int .i64 0) ∧ Rd w' p l err ∧ w.grownBy w' (some p) := by
  have hv : ∃ b, Calls Try.prog 37 #[.int .i64 n] w fun e w' => e = .returned (.bool b) ∧ w = w' := by
    by_cases hn : 1 ≤ n ∧ n ≤ 7
    · exact ⟨true, valid_yes n w hn.1 hn.2⟩
    · exact ⟨false, valid_no n w (by omega)⟩
  obtain ⟨b, hvb⟩ := hv
  have HV := Lib.hid hvb
  clear hvb
  go_enter Try.func19, Try.ntmps19
  go_wp2_with fail
  refine HV.out.mono ?_
  rintro e w1 ⟨rfl, rfl⟩
  go_wp2_with fail
  refine (next_err p l err n b _ h he).mono ?_
  rintro e w1 ⟨rfl, rfl⟩
  go_wp2_with fail
  refine (number_any none 0 0 [] _ (bs_nil _ _) (by simp)).mono ?_
  rintro e w1 ⟨rfl, rfl⟩
  go_wp2_with fail
  go_ret
  exact ⟨rfl, h, only_refl ..⟩

theorem int_bad (p : Nat) (l : List UInt8) (n : Int) (w : World) (h : Rd w p l 0) (hn : n < 1 ∨ 7 < n) :
    Calls Try.prog 19 #[.pointer (some ⟨p, 0, none⟩), .int .i64 n] w fun e w' => e = .returned (.int .i64 0) ∧ Rd w' p l 4 ∧ w.grownBy w' (some p) := by
  go_enter Try.func19, Try.ntmps19
  go_wp2_with fail
  refine (valid_no n _ hn).mono ?_
  rintro e w1 ⟨rfl, rfl⟩
  go_wp2_with fail
  refine (next_bad p l n _ h).mono ?_
  rintro e w1 ⟨rfl, h1, hg1⟩
  go_wp2_with fail
  refine (number_any none 0 0 [] _ (bs_nil _ _) (by simp)).mono ?_
  rintro e w2 ⟨rfl, rfl⟩
  go_wp2_with fail
  go_ret
  exact ⟨rfl, h1, hg1⟩

theorem int_short (p : Nat) (l : List UInt8) (n : Int) (w : World) (h : Rd w p l 0) (hm : l.length ≤ 9223372036854775807) (h1 : 1 ≤ n) (h7 : n ≤ 7) (hn : (l.length : Int) < n) :
    Calls Try.prog 19 #[.pointer (some ⟨p, 0, none⟩), .int .i64 n] w fun e w' => e = .returned (.int .i64 0) ∧ Rd w' p l 1 ∧ w.grownBy w' (some p) := by
  go_enter Try.func19, Try.ntmps19
  go_wp2_with fail
  refine (valid_yes n _ h1 h7).mono ?_
  rintro e w1 ⟨rfl, rfl⟩
  go_wp2_with fail
  refine (next_short p l n _ h hm hn).mono ?_
  rintro e w1 ⟨rfl, h1, hg1⟩
  go_wp2_with fail
  refine (number_any none 0 0 [] _ (bs_nil _ _) (by simp)).mono ?_
  rintro e w2 ⟨rfl, rfl⟩
  go_wp2_with fail
  go_ret
  exact ⟨rfl, h1, hg1⟩

theorem int_ok (p : Nat) (l : List UInt8) (n : Nat) (w : World) (h : Rd w p l 0) (hm : l.length ≤ 9223372036854775807) (h1 : 1 ≤ n) (h7 : n ≤ 7) (hn : n ≤ l.length) :
    Calls Try.prog 19 #[.pointer (some ⟨p, 0, none⟩), .int .i64 n] w fun e w' => e = .returned (.int .i64 (num (l.take n) : Nat)) ∧ Rd w' p (l.drop n) 0 ∧ w.grownBy w' (some p) := by
  have hlen : (l.take n).length = n := by rw [List.length_take]; omega
  have HL := Lib.hid hlen
  clear hlen
  go_enter Try.func19, Try.ntmps19
  go_wp2_with fail
  refine (valid_yes n _ (by omega) (by omega)).mono ?_
  rintro e w1 ⟨rfl, rfl⟩
  go_wp2_with fail
  refine (next_ok p l n _ h hm hn).mono ?_
  rintro e w1 ⟨A, rfl, hbs, h2, hg1⟩
  go_wp2_with fail
  have hc := number_any A n 0 (l.take n) w1 (by rw [HL.out]; exact hbs) (by rw [HL.out]; exact h7)
  rw [HL.out] at hc
  refine hc.mono ?_
  rintro e w2 ⟨rfl, rfl⟩
  go_wp2_with fail
  go_ret
  exact ⟨rfl, h2, hg1⟩

theorem take_err (p : Nat) (l : List UInt8) (err n : Int) (w : World) (h : Rd w p l err) (he : err ≠ 0) :
    Calls Try.prog 21 #[.pointer (some ⟨p, 0, none⟩), .int .i64 n] w fun e w' => e = .returned (.string (str [])) ∧ Rd w' p l err ∧ w.grownBy w' (some p) := by
  have hcv := bs_string (l := []) (A := none) (cap := 0) (bs_nil w 0)
  simp only [List.length_nil] at hcv
  go_enter Try.func21, Try.ntmps21
  go_wp2_with fail
  refine (next_err p l err n _ _ h he).mono ?_
  rintro e w1 ⟨rfl, rfl⟩
  go_wp2_with fail
  go_ret
  exact ⟨rfl, h, only_refl ..⟩

theorem take_bad (p : Nat) (l : List UInt8) (n : Int) (w : World) (h : Rd w p l 0) (hn : n < 0) :
    Calls Try.prog 21 #[.pointer (some ⟨p, 0, none⟩), .int .i64 n] w fun e w' => e = .returned (.string (str [])) ∧ Rd w' p l 4 ∧ w.grownBy w' (some p) := by
  have hd : decide (0 ≤ n) = false := by simp; omega
  go_enter Try.func21, Try.ntmps21
  go_wp2_with fail
  refine (next_bad p l n _ h).mono ?_
  rintro e w1 ⟨rfl, h1, hg1⟩
  have hcv := bs_string (l := []) (A := none) (cap := 0) (bs_nil w1 0)
  simp only [List.length_nil] at hcv
  go_wp2_with fail
  go_ret
  exact ⟨rfl, h1, hg1⟩

theorem take_short (p : Nat) (l : List UInt8) (n : Int) (w : World) (h : Rd w p l 0) (hm : l.length ≤ 9223372036854775807) (hn : (l.length : Int) < n) :
    Calls Try.prog 21 #[.pointer (some ⟨p, 0, none⟩), .int .i64 n] w fun e w' => e = .returned (.string (str [])) ∧ Rd w' p l 1 ∧ w.grownBy w' (some p) := by
  have hd : decide (0 ≤ n) = true := by simp; omega
  go_enter Try.func21, Try.ntmps21
  go_wp2_with fail
  refine (next_short p l n _ h hm hn).mono ?_
  rintro e w1 ⟨rfl, h1, hg1⟩
  have hcv := bs_string (l := []) (A := none) (cap := 0) (bs_nil w1 0)
  simp only [List.length_nil] at hcv
  go_wp2_with fail
  go_ret
  exact ⟨rfl, h1, hg1⟩

theorem take_ok (p : Nat) (l : List UInt8) (n : Nat) (w : World) (h : Rd w p l 0) (hm : l.length ≤ 9223372036854775807) (hn : n ≤ l.length) :
    Calls Try.prog 21 #[.pointer (some ⟨p, 0, none⟩), .int .i64 n] w fun e w' => e = .returned (.string (str (l.take n))) ∧ Rd w' p (l.drop n) 0 ∧ w.grownBy w' (some p) := by
  have hlen : (l.take n).length = n := by rw [List.length_take]; omega
  have HL := Lib.hid hlen
  clear hlen
  have hd : decide (0 ≤ (n : Int)) = true := by simp
  go_enter Try.func21, Try.ntmps21
  go_wp2_with fail
  refine (next_ok p l n _ h hm hn).mono ?_
  rintro e w1 ⟨A, rfl, hbs, h2, hg1⟩
  have hcv := bs_string (l := l.take n) (A := A) (cap := n) (w := w1) (base := 0) (by rw [HL.out]; exact hbs)
  rw [HL.out] at hcv
  go_wp2_with fail
  go_ret
  exact ⟨rfl, h2, hg1⟩

theorem left_any (p : Nat) (l : List UInt8) (err : Int) (w : World) (h : Rd w p l err) :
    Calls Try.prog 25 #[.pointer (some ⟨p, 0, none⟩)] w fun e w' => e = .returned (.int .i64 (l.length : Nat)) ∧ w = w' := by
  obtain ⟨A, cap, hc, hl⟩ := h
  have c0 := hc.cell 0
  simp at c0
  go_enter Try.func25, Try.ntmps25
  go_wp2_with fail
  go_ret
  exact ⟨rfl, rfl⟩

theorem err_any (p : Nat) (l : List UInt8) (err : Int) (w : World) (h : Rd w p l err) :
    Calls Try.prog 27 #[.pointer (some ⟨p, 0, none⟩)] w fun e w' => e = .returned (.int .i64 err) ∧ w = w' := by
  obtain ⟨A, cap, hc, hl⟩ := h
  have c1 := hc.cell 1
  simp at c1
  go_enter Try.func27, Try.ntmps27
  go_wp2_with fail
  go_ret
  exact ⟨rfl, rfl⟩

theorem rest_err (p : Nat) (l : List UInt8) (err : Int) (w : World) (h : Rd w p l err) (he : err ≠ 0) :
    Calls Try.prog 23 #[.pointer (some ⟨p, 0, none⟩)] w fun e w' => e = .returned (.string (str [])) ∧ Rd w' p l err ∧ w.grownBy w' (some p) := by
  go_enter Try.func23, Try.ntmps23
  go_wp2_with fail
  refine (left_any p l err _ h).mono ?_
  rintro e w1 ⟨rfl, rfl⟩
  go_wp2_with fail
  refine (take_err p l err _ _ h he).mono ?_
  rintro e w1 ⟨rfl, h1, hg⟩
  go_wp2_with fail
  go_ret
  exact ⟨rfl, h1, hg⟩

theorem rest_ok (p : Nat) (l : List UInt8) (w : World) (h : Rd w p l 0) (hm : l.length ≤ 9223372036854775807) :
    Calls Try.prog 23 #[.pointer (some ⟨p, 0, none⟩)] w fun e w' => e = .returned (.string (str l)) ∧ Rd w' p [] 0 ∧ w.grownBy w' (some p) := by
  go_enter Try.func23, Try.ntmps23
  go_wp2_with fail
  refine (left_any p l 0 _ h).mono ?_
  rintro e w1 ⟨rfl, rfl⟩
  go_wp2_with fail
  refine (take_ok p l l.length _ h hm (Nat.le_refl _)).mono ?_
  rw [List.take_length, List.drop_length]
  rintro e w1 ⟨rfl, h1, hg⟩
  go_wp2_with fail
  go_ret
  exact ⟨rfl, h1, hg⟩

theorem Rd.kept {w w' : World} {p : Nat} {l : List UInt8} {err : Int} (h : Rd w p l err) (hb : Below w.heap.size w w') : Rd w' p l err := by
  obtain ⟨A, cap, hc, hl⟩ := h
  exact ⟨A, cap, hc.only (only_below hb none) (by simp), hl.only (only_below hb _)⟩
theorem Rd.lt {w : World} {p : Nat} {l : List UInt8} {err : Int} (h : Rd w p l err) : p < w.heap.size := by
  obtain ⟨A, cap, hc, hl⟩ := h
  exact hc.lt
/-- A step that writes block p alone keeps what lies below a number up to p. -/
theorem below_only {B : Nat} {a w w' : World} {p : Nat} (h : Below B a w) (hg : w.grownBy w' (some p)) (hp : B ≤ p) (hB : B ≤ w.heap.size) : Below B a w' :=
  h.grown hg hB (fun k hk => by injection hk with hk; omega)

theorem cells_new (w : World) (t : TypeId) (cs : Array Value) : Cells (w.alloc (.cells cs t)) w.heap.size t cs := heap_alloc_new w _

theorem rd_new (w : World) (s : ByteArray) (cap : Nat) (hcap : s.size ≤ cap) :
    Rd ((w.alloc (.cells (bytesRow s cap) 5 ((bytesRow s cap).size, (bytesRow s cap).size + 1))).alloc (.cells #[.slice (some ⟨w.heap.size, 0, none⟩) s.size cap, .int .i64 0] 57)) (w.heap.size + 1) s.data.toList 0 := by
  have hl : s.data.toList.length = s.size := by simp
  have hz : (w.alloc (.cells (bytesRow s cap) 5 ((bytesRow s cap).size, (bytesRow s cap).size + 1))).heap.size = w.heap.size + 1 := by simp
  have hb := bs_new w s cap hcap
  generalize w.alloc (.cells (bytesRow s cap) 5 ((bytesRow s cap).size, (bytesRow s cap).size + 1)) = w1 at *
  obtain ⟨A, c, hv, hc, hr⟩ := hb
  cases hv
  refine ⟨some ⟨w.heap.size, 0, none⟩, cap, ?_, ?_⟩
  · rw [hl, ← hz]
    exact cells_new w1 _ _
  · refine ⟨hc, fun hp => ?_⟩
    obtain ⟨g, o, e, _, hlt, hcell⟩ := hr hp
    injection e with e
    cases e
    refine ⟨_, 0, rfl, by omega, by simp; omega, fun j hj => ?_⟩
    have hk := (Below.refl w1.heap.size w1).alloc (Nat.le_refl _) (.cells #[.slice (some ⟨w.heap.size, 0, none⟩) s.size cap, .int .i64 0] 57)
    rw [hk.cell (p := ⟨w.heap.size, 0 + j, none⟩) hlt, hk.frozen (p := ⟨w.heap.size, 0 + j, none⟩) hlt]
    exact hcell j hj

theorem new_any (s : ByteArray) (w : World) :
    Calls Try.prog 17 #[.string s] w fun e w' => ∃ p, e = .returned (.pointer (some ⟨p, 0, none⟩)) ∧ w.heap.size ≤ p ∧ Rd w' p s.data.toList 0 ∧ Below w.heap.size w w' := by
  have hconv := fun W s' => run_bytes_of_string (P := Try.prog) W 9 47 5 s' Try.underlying9 Try.underlying47 Try.underlying5
  go_enter Try.func17, Try.ntmps17
  go_wp2_with fail
  go_ret
  have hcap : s.size ≤ grownCap w s.size 0 5 := grownCap_ge ..
  exact ⟨w.heap.size + 1, rfl, by omega, rd_new w s _ hcap, (((Below.refl _ _).alloc (Nat.le_refl _) _).alloc (by simp) _).drew⟩
end Go.Proofs.Ytnbnkkohcncbnaa
