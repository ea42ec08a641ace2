/- Contracts: Clone, newToken, wordAt, variableAt, markAt of the program. -/
import Derived.Test.YtcakdgfkepdpkaaLexRMark
import Derived.Lib.BufferWrite
import Derived.Lib.UnsafeStr
import Derived.Deep.WholeRow
namespace Go.Proofs.Ytcakdgfkepdpkaa
open Go.ChangeShapes Go.WideShapes Go.ChangeAt Go.RowKit

theorem clone_nil (w : World) :
    Calls Try.prog 63 #[.string ⟨#[]⟩] w fun e w' => e = .returned (.string ⟨#[]⟩) ∧ Below w.heap.size w w' := by
  go_enter Try.func63, Try.ntmps63
  go_wp2_with fail
  go_ret
  exact ⟨rfl, Below.refl _ _⟩

set_option maxRecDepth 20000 in
theorem clone_some (s : ByteArray) (w : World) (h0 : 0 < s.size) (hs : s.size ≤ 281474976710656) :
    Calls Try.prog 63 #[.string s] w fun e w' => e = .returned (.string s) ∧ Below w.heap.size w w' := by
  obtain ⟨i0, hi, hz0, hz1, hz2⟩ := info_parts info5
  have hinfo : (Try.prog.info? 5).map (·.size) = some 1 := by rw [hi]; simp [hz1]
  have hco : Try.prog.cellsOf 5 = 1 := by kernel_rfl
  obtain ⟨M, hM⟩ : ∃ M, M = madeCells (Value.int .u8 0).cells (((s.size : Nat) : Int).toNat * i0.size) := ⟨_, rfl⟩
  have hMs : M.size = s.size := by rw [hM, size_madeCells, hz1]; simp
  have hmk : ∀ W : World, (Instr.makeSlice 51 (.int .i64 (s.size : Int)) (.int .i64 (s.size : Int))).run Try.prog W = .ok (.slice (some ⟨W.heap.size, 0, none⟩) s.size s.size) (W.alloc (.cells M 5)) := fun W => by
    have h := run_make (P := Try.prog) W 51 5 i0 (.int .u8 0) Try.underlying51 hi hz0 .i64 .i64 (s.size : Int) (s.size : Int) (by omega) (by omega) (by rw [hz2]; omega) (by omega)
    rw [← hM] at h
    simpa using h
  clear hM
  have hcp := Lib.run_copy_row_string (P := Try.prog) (w.alloc (.cells M 5)) 51 9 3 5 w.heap.size 0 s.size s.size s M 5 Try.underlying51 hinfo (heap_alloc_new w _) (Nat.le_refl _) (by omega)
  generalize hY : (M.toList.take 0 ++ Lib.byteCells s.data.toList ++ M.toList.drop (0 + s.size)).toArray = Y at *
  have hYl : Y.toList = Lib.byteCells s.data.toList := by
    rw [← hY, List.toList_toArray, List.take_zero, List.nil_append, List.drop_of_length_le (by rw [Array.length_toList]; omega), List.append_nil]
  have hYs : Y.size = s.size := by rw [← Array.length_toList, hYl, Lib.byteCells_length, ← Lib.size_eq]
  have hgY : ((w.alloc (.cells M 5)).setRow w.heap.size Y).heap[w.heap.size]? = some (.cells Y 5 (0, 0)) := setRow_heap _ _ M _ 5 (0, 0) (heap_alloc_new w _)
  have hne : s.data.toList ≠ [] := fun e => by rw [Lib.size_eq, e] at h0; exact absurd h0 (by decide)
  have hUS := Lib.run_unsafeString_row (P := Try.prog) ((w.alloc (.cells M 5)).setRow w.heap.size Y) 67 3 9 5 Try.underlying67 hco w.heap.size Y.size (by unfold World.shape?; rw [hgY]) s.data.toList hne (by rw [← Lib.size_eq]; omega) (by rw [← Lib.size_eq]; omega)
    (fun j x hx => Lib.cells_of_row hgY Y.size j _ (by rw [List.take_of_length_le (by rw [Array.length_toList]; exact Nat.le_refl _), hYl]; simp [Lib.byteCells, hx]))
  rw [← Lib.size_eq] at hUS
  have hb1 : Below w.heap.size w (w.alloc (.cells M 5)) := (Below.refl _ w).alloc (Nat.le_refl _) _
  have hb2 : Below w.heap.size (w.alloc (.cells M 5)) ((w.alloc (.cells M 5)).setRow w.heap.size Y) := ⟨rfl, rfl, rfl, by simp, fun k hk => setRow_other _ _ _ _ (by omega)⟩
  have HB := Lib.hid (hb1.trans hb2)
  clear hY hb1 hb2 hYl hYs hgY hne
  go_enter Try.func63, Try.ntmps63
  go_wp2_with fail
  go_ret
  exact ⟨rfl, Lib.below_freeze HB.out (p := ⟨w.heap.size, 0, none⟩) (Nat.le_refl _) _⟩

theorem sclone_any (s : ByteArray) (w : World) (hs : s.size ≤ 281474976710656) :
    Calls Try.prog 61 #[.string s] w fun e w' => e = .returned (.string s) ∧ Below w.heap.size w w' := by
  have h : Calls Try.prog 63 #[.string s] w fun e w' => e = .returned (.string s) ∧ Below w.heap.size w w' := by
    by_cases h0 : s.size = 0
    · obtain rfl : s = ⟨#[]⟩ := by
        apply ByteArray.ext
        exact Array.eq_empty_of_size_eq_zero h0
      exact clone_nil w
    · exact clone_some s w (by omega) hs
  have H := Lib.hid h
  clear h
  go_enter Try.func61, Try.ntmps61
  go_wp2_with fail
  refine H.out.mono ?_
  rintro e w1 ⟨rfl, hb⟩
  go_wp2_with fail
  go_ret
  exact ⟨rfl, hb⟩

/-- A token as a value; in memory. -/
def tokV (k : Int) (t : ByteArray) (a : Int) : Value := .agg #[.int .i64 k, .string t, .int .i64 a]
def TB (w : World) (g : Nat) (k : Int) (t : ByteArray) (a : Int) : Prop := Cells w g 36 #[.int .i64 k, .string t, .int .i64 a]
theorem tb_new (w : World) (k : Int) (t : ByteArray) (a : Int) : TB (w.alloc (.cells #[.int .i64 k, .string t, .int .i64 a] 36)) w.heap.size k t a := heap_alloc_new w _
theorem TB.kept {w w' : World} {g B : Nat} {k : Int} {t : ByteArray} {a : Int} (h : TB w g k t a) (hb : Below B w w') (hg : g < B) : TB w' g k t a := (hb.block _ hg).trans h
theorem TB.lt {w : World} {g : Nat} {k : Int} {t : ByteArray} {a : Int} (h : TB w g k t a) : g < w.heap.size := Cells.lt h
theorem TB.c0 {w : World} {g : Nat} {k : Int} {t : ByteArray} {a : Int} (h : TB w g k t a) : w.cell? ⟨g, 0, none⟩ = some (.int .i64 k) := (Cells.cell h 0).trans rfl
theorem TB.c1 {w : World} {g : Nat} {k : Int} {t : ByteArray} {a : Int} (h : TB w g k t a) : w.cell? ⟨g, 1, none⟩ = some (.string t) := (Cells.cell h 1).trans rfl
theorem TB.c2 {w : World} {g : Nat} {k : Int} {t : ByteArray} {a : Int} (h : TB w g k t a) : w.cell? ⟨g, 2, none⟩ = some (.int .i64 a) := (Cells.cell h 2).trans rfl
theorem TB.f {w : World} {g : Nat} {k : Int} {t : ByteArray} {a : Int} (h : TB w g k t a) (i : Nat) : w.frozen? ⟨g, i, none⟩ = false := Cells.frozen h i
/-- The three stores of a token. -/
def tset (w : World) (g : Nat) (k : Int) (t : ByteArray) (a : Int) : World := ((w.setCell ⟨g, 0, none⟩ (.int .i64 k)).setCell ⟨g, 1, none⟩ (.string t)).setCell ⟨g, 2, none⟩ (.int .i64 a)
theorem TB.set {w : World} {g : Nat} {k0 : Int} {t0 : ByteArray} {a0 : Int} (h : TB w g k0 t0 a0) (k : Int) (t : ByteArray) (a : Int) : TB (tset w g k t a) g k t a := by
  have h0 := Cells.set h 0 (.int .i64 k)
  have h1 := Cells.set h0 1 (.string t)
  have h2 := Cells.set h1 2 (.int .i64 a)
  exact h2
theorem tset_below {B : Nat} {a w : World} {g : Nat} (h : Below B a w) (hg : B ≤ g) (k : Int) (t : ByteArray) (x : Int) : Below B a (tset w g k t x) :=
  ((h.setCell hg _).setCell hg _).setCell hg _
theorem below_alloc (w : World) (o : Obj) : Below w.heap.size w (w.alloc o) := (Below.refl _ w).alloc (Nat.le_refl _) _
theorem alloc_lt (w : World) (o : Obj) : w.heap.size < (w.alloc o).heap.size := (Array.getElem?_eq_some_iff.1 (heap_alloc_new w o)).1

theorem tok_info : (Try.prog.info? 36).map (·.size) = some 3 := by kernel_rfl
theorem res_tok1 {fn : Func} {p : Tmp} (h : fn.results = #[.cell p 36]) (tmps : Array Value) (w : World) {g : Nat} {k : Int} {t : ByteArray} {a : Int} (hp : tmps.getD p undef = .pointer (some ⟨g, 0, none⟩)) (ht : TB w g k t a) :
    (results fn tmps).run Try.prog w = .ok (tokV k t a) w :=
  results_cell_row h tmps w g 36 _ (0, 0) _ hp ht Try.underlying36 rfl tok_info
theorem res_tok3 {fn : Func} {p u x : Tmp} (h : fn.results = #[.cell p 36, .tmp u, .tmp x]) (tmps : Array Value) (w : World) {g : Nat} {k : Int} {t : ByteArray} {a : Int} (hp : tmps.getD p undef = .pointer (some ⟨g, 0, none⟩)) (ht : TB w g k t a) :
    (results fn tmps).run Try.prog w = .ok (.tuple #[tokV k t a, tmps.getD u undef, tmps.getD x undef]) w := by
  have hp' : tmps[p]?.getD undef = .pointer (some ⟨g, 0, none⟩) := by simpa using hp
  simp [results, h, hp', asAddr, run_loadVar_row w g 36 36 _ (0, 0) _ ht Try.underlying36 rfl tok_info, tokV]

set_option maxRecDepth 20000 in
theorem newtok_any (k a : Int) (t : ByteArray) (w : World) (hs : t.size ≤ 281474976710656) :
    Calls Try.prog 57 #[.int .i64 k, .string t, .int .i64 a] w fun e w' => e = .returned (tokV k t a) ∧ Below w.heap.size w w' := by
  have h := fun W => sclone_any t W hs
  have H := Lib.hid h
  clear h
  go_enter Try.func57, Try.ntmps57
  go_wp2_with fail
  refine (H.out _).mono ?_
  rintro e w1 ⟨rfl, hb⟩
  have ht := (tb_new w 0 ⟨#[]⟩ 0).kept hb (alloc_lt _ _)
  have hb1 := (below_alloc w (.cells #[.int .i64 0, .string ⟨#[]⟩, .int .i64 0] 36)).trans (hb.mono (Nat.le_of_lt (alloc_lt _ _)))
  have c0 := ht.c0
  have c1 := ht.c1
  have c2 := ht.c2
  have f0 := ht.f 0
  have f1 := ht.f 1
  have f2 := ht.f 2
  have HB1 := Lib.hid hb1
  clear hb hb1
  go_wp2_with fail
  change bodyPost _ _ _ _ _ (tset w1 w.heap.size k t a)
  have ht2 := ht.set k t a
  have HB2 := Lib.hid (tset_below HB1.out (Nat.le_refl _) k t a)
  clear c0 c1 c2 f0 f1 f2 ht HB1
  generalize tset w1 w.heap.size k t a = w2 at *
  have c0 := ht2.c0
  have c1 := ht2.c1
  have c2 := ht2.c2
  refine bodyPost_ret (res_tok1 rfl _ _ rfl ht2) rfl ⟨rfl, HB2.out⟩

/-- What a token's reader answers. -/
def tokRes : Res Tok → Value
  | .ok t n => .tuple #[tokV t.kind (str t.text) t.at_, .int .i64 n, .int .i64 0]
  | .err e n => .tuple #[tokV 0 ⟨#[]⟩ 0, .int .i64 n, .int .i64 e]
def wordT (L : List UInt8) (off : Nat) : Res Tok := if 80 < (L.takeWhile wordB).length then .err 3 off else .ok ⟨1, L.takeWhile wordB, off⟩ (off + (L.takeWhile wordB).length)
def varT (r : List UInt8) (off : Nat) : Res Tok := if isName (r.takeWhile nameB) = true then .ok ⟨3, r.takeWhile nameB, off⟩ (off + 1 + (r.takeWhile nameB).length) else .err 5 off
def markT (L : List UInt8) (off : Nat) : Res Tok := match markOf L with
  | [] => .err 14 off
  | m => .ok ⟨4, m, off⟩ (off + m.length)

theorem extract_str (s : ByteArray) (a b : Nat) : s.extract a b = str ((s.data.toList.drop a).take (b - a)) := by
  apply ByteArray.ext
  apply Array.ext'
  rw [Lib.extract_data]
  simp [str]
theorem take_tw (L : List UInt8) (p : UInt8 → Bool) : L.take (L.takeWhile p).length = L.takeWhile p := ((List.prefix_iff_eq_take).1 (List.takeWhile_prefix p)).symm
theorem extract_tw (s : ByteArray) (a : Nat) (p : UInt8 → Bool) : s.extract a (a + ((s.data.toList.drop a).takeWhile p).length) = str ((s.data.toList.drop a).takeWhile p) := by
  rw [extract_str, Nat.add_sub_cancel_left, take_tw]
theorem tw_le (s : ByteArray) (a : Nat) (h : a ≤ s.size) (p : UInt8 → Bool) : a + ((s.data.toList.drop a).takeWhile p).length ≤ s.size := by
  have := (List.takeWhile_prefix (l := s.data.toList.drop a) p).length_le
  rw [List.length_drop] at this
  have e : s.data.toList.length = s.size := by simp
  omega

set_option maxRecDepth 20000 in
theorem pwordat_any (s : ByteArray) (a : Nat) (w : World) (ha : a ≤ s.size) (hs : s.size ≤ 281474976710656) :
    Calls Try.prog 50 #[.string s, .int .i64 (a : Int)] w fun e w' => e = .returned (tokRes (wordT (s.data.toList.drop a) a)) ∧ Below w.heap.size w w' := by
  have h1 := fun W => follow_pure s a 49 wordB W ha (by omega) pword_any eg_word
  have hle := tw_le s a ha wordB
  have hex := extract_tw s a wordB
  have hsz := str_size ((s.data.toList.drop a).takeWhile wordB)
  unfold wordT
  generalize hT : (s.data.toList.drop a).takeWhile wordB = T at *
  have hbi : ((a + T.length : Nat) : Int) - (a : Int) = (T.length : Int) := by omega
  have hab : (a : Int) ≤ ((a + T.length : Nat) : Int) := by omega
  have hTs : T.length ≤ 281474976710656 := by omega
  generalize a + T.length = b at *
  have H1 := Lib.hid h1
  clear h1
  by_cases h80 : 80 < T.length
  · have e80 : (80 : Int) < (T.length : Int) := by omega
    rw [if_pos h80]
    clear hex hT
    go_enter Try.func50, Try.ntmps50
    have ht := tb_new w 0 ⟨#[]⟩ 0
    have hb1 := below_alloc w (.cells #[.int .i64 0, .string ⟨#[]⟩, .int .i64 0] 36)
    go_wp2_with fail
    refine (H1.out _).mono ?_
    rintro e w1 ⟨rfl, rfl⟩
    generalize w.alloc (.cells #[.int .i64 0, .string ⟨#[]⟩, .int .i64 0] 36) = w1 at *
    have c0 := ht.c0
    have c1 := ht.c1
    have c2 := ht.c2
    have f0 := ht.f 0
    have f1 := ht.f 1
    have f2 := ht.f 2
    go_wp2_with fail
    change bodyPost _ _ _ _ _ (tset w1 w.heap.size 0 ⟨#[]⟩ 0)
    exact bodyPost_ret (res_tok3 rfl _ _ rfl (ht.set 0 ⟨#[]⟩ 0)) rfl ⟨rfl, tset_below hb1 (Nat.le_refl _) _ _ _⟩
  · have e80 : decide ((80 : Int) < (T.length : Int)) = false := by simp; omega
    rw [if_neg h80]
    have h2 : ∀ W, Calls Try.prog 57 #[.int .i64 1, .string (s.extract a b), .int .i64 (a : Int)] W fun e w' => e = .returned (.agg #[.int .i64 1, .string (str T), .int .i64 (a : Int)]) ∧ Below W.heap.size W w' := fun W =>
      (newtok_any 1 (a : Int) (s.extract a b) W (by rw [hex, hsz]; omega)).mono fun e w' ⟨h, hb⟩ => ⟨by rw [h, hex]; rfl, hb⟩
    have H2 := Lib.hid h2
    have HEX := Lib.hid hex
    clear h2 hT hex
    go_enter Try.func50, Try.ntmps50
    go_wp2_with fail
    refine (H1.out _).mono ?_
    rintro e w1 ⟨rfl, rfl⟩
    go_wp2_with fail
    refine (H2.out _).mono ?_
    rintro e w1 ⟨rfl, hb⟩
    have ht := (tb_new w 0 ⟨#[]⟩ 0).kept hb (alloc_lt _ _)
    have hb1 := (below_alloc w (.cells #[.int .i64 0, .string ⟨#[]⟩, .int .i64 0] 36)).trans (hb.mono (Nat.le_of_lt (alloc_lt _ _)))
    have c0 := ht.c0
    have c1 := ht.c1
    have c2 := ht.c2
    have f0 := ht.f 0
    have f1 := ht.f 1
    have f2 := ht.f 2
    have HB1 := Lib.hid hb1
    clear hb hb1
    go_wp2_with fail
    change bodyPost _ _ _ _ _ (tset w1 w.heap.size 1 (str T) a)
    exact bodyPost_ret (res_tok3 rfl _ _ rfl (ht.set 1 (str T) a)) rfl ⟨rfl, tset_below HB1.out (Nat.le_refl _) _ _ _⟩
end Go.Proofs.Ytcakdgfkepdpkaa
