/- Contracts: the program's cursor: Peek, Next, pass, Mark, Word, Int. -/
import Derived.Test.YtcakdgfkepdpkaaLexSame
namespace Go.Proofs.Ytcakdgfkepdpkaa
open Go.ChangeShapes Go.WideShapes Go.ChangeAt Go.RowKit
set_option linter.unusedVariables false

/-- A cursor at block p whose tokens begin at cell o of block g (m of them), the first of them a token of kind k, text t, offset a. -/
structure CA (w : World) (p g o m cp : Nat) (k : Int) (t : ByteArray) (a : Int) : Prop where
  cur : Cells w p 50 #[.slice (some ⟨g, o, none⟩) m cp]
  d0 : w.cell? ⟨g, o, none⟩ = some (.int .i64 k)
  d1 : w.cell? ⟨g, o + 1, none⟩ = some (.string t)
  d2 : w.cell? ⟨g, o + 2, none⟩ = some (.int .i64 a)
  ne : g ≠ p
  lt : g < w.heap.size
theorem CA.kept {w w' : World} {p g o m cp : Nat} {k : Int} {t : ByteArray} {a : Int} (h : CA w p g o m cp k t a) (hb : Below w.heap.size w w') : CA w' p g o m cp k t a := by
  have hB := hb.block g h.lt
  refine ⟨(hb.block p h.cur.lt).trans h.cur, ?_, ?_, ?_, h.ne, Nat.lt_of_lt_of_le h.lt hb.size⟩
  · rw [World.cell?_of_block (w := w) (w' := w') (a := ⟨g, o, none⟩) hB]; exact h.d0
  · rw [World.cell?_of_block (w := w) (w' := w') (a := ⟨g, o + 1, none⟩) hB]; exact h.d1
  · rw [World.cell?_of_block (w := w) (w' := w') (a := ⟨g, o + 2, none⟩) hB]; exact h.d2

set_option maxRecDepth 20000 in
theorem peek_any (w : World) {p g o m cp : Nat} {k : Int} {t : ByteArray} {a : Int} (h : CA w p g o m cp k t a) (hm : 0 < m) (hm2 : m ≤ 1000000) :
    Calls Try.prog 24 #[.pointer (some ⟨p, 0, none⟩)] w fun e w' => e = .returned (.agg #[.int .i64 k, .string t, .int .i64 a]) ∧ Below w.heap.size w w' := by
  have h' := h.kept (below_alloc w (.cells #[.int .i64 0, .string ⟨#[]⟩, .int .i64 0] 36))
  have ht := tb_new w 0 ⟨#[]⟩ 0
  have HB1 := Lib.hid (below_alloc w (.cells #[.int .i64 0, .string ⟨#[]⟩, .int .i64 0] 36))
  have hmz : decide (m = 0) = false := by simp; omega
  have hmz2 : ((m : Int) == 0) = false := by simp; omega
  have hmi : (0 : Int) < (m : Int) := by omega
  go_enter Try.func24, Try.ntmps24
  have q := (h'.cur.cell 0).trans (show _ = some (Value.slice (some ⟨g, o, none⟩) m cp) from rfl)
  have e0 := h'.d0
  have e1 := h'.d1
  have e2 := h'.d2
  have c0 := ht.c0
  have c1 := ht.c1
  have c2 := ht.c2
  have f0 := ht.f 0
  have f1 := ht.f 1
  have f2 := ht.f 2
  go_wp2_with fail
  exact bodyPost_ret (res_tok1 rfl _ _ rfl (tb_new w k t a)) rfl ⟨rfl, below_alloc _ _⟩

set_option maxRecDepth 20000 in
theorem next_stay (w : World) {p g o m cp : Nat} {t : ByteArray} {a : Int} (h : CA w p g o m cp 0 t a) (hm : 0 < m) (hm2 : m ≤ 1000000) :
    Calls Try.prog 25 #[.pointer (some ⟨p, 0, none⟩)] w fun e w' => e = .returned (.agg #[.int .i64 0, .string t, .int .i64 a]) ∧ Below w.heap.size w w' := by
  have h' := h.kept (below_alloc w (.cells #[.int .i64 0, .string ⟨#[]⟩, .int .i64 0] 36))
  have ht := tb_new w 0 ⟨#[]⟩ 0
  have hB := below_alloc w (.cells #[.int .i64 0, .string ⟨#[]⟩, .int .i64 0] 36)
  have hpk := peek_any _ h' hm hm2
  have HPK := Lib.hid hpk
  clear hpk h' h
  go_enter Try.func25, Try.ntmps25
  go_wp2_with fail
  refine HPK.out.mono ?_
  rintro e w1 ⟨rfl, hb⟩
  have ht1 := ht.kept hb ht.lt
  have ht2 := ht1.kept (below_alloc w1 (.cells #[.int .i64 0, .string t, .int .i64 a] 36)) ht1.lt
  have hB1 := hB.trans (hb.mono hB.size)
  have hB2 := hB1.alloc hB1.size (.cells #[.int .i64 0, .string t, .int .i64 a] 36)
  have hx := tb_new w1 0 t a
  have HB2 := Lib.hid hB2
  clear hb ht1 hB hB1 hB2 ht HPK
  have e0 := hx.c0
  have e1 := hx.c1
  have e2 := hx.c2
  have c0 := ht2.c0
  have c1 := ht2.c1
  have c2 := ht2.c2
  have f0 := ht2.f 0
  have f1 := ht2.f 1
  have f2 := ht2.f 2
  go_wp2_with fail
  change bodyPost _ _ _ _ _ (tset (w1.alloc (.cells #[.int .i64 0, .string t, .int .i64 a] 36)) w.heap.size 0 t a)
  exact bodyPost_ret (res_tok1 rfl _ _ rfl (ht2.set 0 t a)) rfl ⟨rfl, tset_below HB2.out (Nat.le_refl _) _ _ _⟩

set_option maxRecDepth 20000 in
theorem next_move (w : World) {p g o m cp : Nat} {k : Int} {t : ByteArray} {a : Int} (h : CA w p g o (m + 1) (cp + 1) k t a) (hk : k ≠ 0) (hm : 0 < m) (hm2 : m ≤ 100000) (hmc : m ≤ cp) :
    Calls Try.prog 25 #[.pointer (some ⟨p, 0, none⟩)] w fun e w' => e = .returned (.agg #[.int .i64 k, .string t, .int .i64 a]) ∧ Cells w' p 50 #[.slice (some ⟨g, o + 3, none⟩) m cp] ∧ w.grownBy w' (some p) := by
  have hp := h.cur.lt
  have h' := h.kept (below_alloc w (.cells #[.int .i64 0, .string ⟨#[]⟩, .int .i64 0] 36))
  have ht := tb_new w 0 ⟨#[]⟩ 0
  have hB := below_alloc w (.cells #[.int .i64 0, .string ⟨#[]⟩, .int .i64 0] 36)
  have hpk := peek_any _ h' (by omega) (by omega)
  have HPK := Lib.hid hpk
  obtain ⟨m1, hm1⟩ : ∃ m1, m1 = m + 1 := ⟨_, rfl⟩
  obtain ⟨cp1, hcp1⟩ : ∃ cp1, cp1 = cp + 1 := ⟨_, rfl⟩
  have HC := Lib.hid h'.cur
  rw [← hm1, ← hcp1] at HC
  have i1 : (m1 : Int) - 1 = (m : Int) := by omega
  have i2 : (cp1 : Int) - 1 = (cp : Int) := by omega
  have i3 : (1 : Int) ≤ (m1 : Int) := by omega
  have hk2 : (k != 0) = true := by simpa using hk
  clear hpk h' h hk
  go_enter Try.func25, Try.ntmps25
  go_wp2_with fail
  refine HPK.out.mono ?_
  rintro e w1 ⟨rfl, hb⟩
  have ht1 := ht.kept hb ht.lt
  have ht2 := ht1.kept (below_alloc w1 (.cells #[.int .i64 k, .string t, .int .i64 a] 36)) ht1.lt
  have hB1 := hB.trans (hb.mono hB.size)
  have hB2 := hB1.alloc hB1.size (.cells #[.int .i64 k, .string t, .int .i64 a] 36)
  have hx := tb_new w1 k t a
  have hcu1 : Cells (w1.alloc (.cells #[.int .i64 k, .string t, .int .i64 a] 36)) p 50 #[.slice (some ⟨g, o, none⟩) m1 cp1] := Cells.alloc ((hb.block p HC.out.lt).trans HC.out) _
  have hw1 : w.heap.size < w1.heap.size := Nat.lt_of_lt_of_le (alloc_lt w _) hb.size
  have c0 := ht1.c0
  have c1 := ht1.c1
  have c2 := ht1.c2
  have f0 := ht1.f 0
  have f1 := ht1.f 1
  have f2 := ht1.f 2
  clear hb ht1 hB hB1 ht HPK HC
  have q := (hcu1.cell 0).trans (show _ = some (Value.slice (some ⟨g, o, none⟩) m1 cp1) from rfl)
  have q2 := hcu1.frozen 0
  have e0 := hx.c0
  have e1 := hx.c1
  have e2 := hx.c2
  have n1 : p ≠ w1.heap.size := by omega
  have n2 : p ≠ w.heap.size := by omega
  have n3 : w1.heap.size ≠ p := by omega
  have n4 : w.heap.size ≠ p := by omega
  have hmm : m1 - 1 = m := by omega
  have hcc : cp1 - 1 = cp := by omega
  have ht3 : TB ((w1.alloc (.cells #[.int .i64 k, .string t, .int .i64 a] 36)).setCell ⟨p, 0, none⟩ (.slice (some ⟨g, o + 3, none⟩) m cp)) w.heap.size 0 ⟨#[]⟩ 0 := cells_set_far ht2 n4
  have hcu2 := hcu1.set 0 (.slice (some ⟨g, o + 3, none⟩) m cp)
  have hgr := only_trans (only_below hB2 (some p)) (only_set (w1.alloc (.cells #[.int .i64 k, .string t, .int .i64 a] 36)) p 0 (.slice (some ⟨g, o + 3, none⟩) m cp))
  have HT3 := Lib.hid ht3
  have HCU2 := Lib.hid hcu2
  have HGR := Lib.hid hgr
  have hlt3 : w.heap.size < ((w1.alloc (.cells #[.int .i64 k, .string t, .int .i64 a] 36)).setCell ⟨p, 0, none⟩ (.slice (some ⟨g, o + 3, none⟩) m cp)).heap.size := ht3.lt
  clear hm1 hcp1 hcu1 hcu2 hgr ht3 hx ht2 hB2
  go_wp2_with fail
  try simp only [hmm, hcc]
  generalize (w1.alloc (.cells #[.int .i64 k, .string t, .int .i64 a] 36)).setCell ⟨p, 0, none⟩ (.slice (some ⟨g, o + 3, none⟩) m cp) = w3 at *
  change bodyPost _ _ _ _ _ (tset w3 w.heap.size k t a)
  have hc3 : Cells w3 p 50 #[.slice (some ⟨g, o + 3, none⟩) m cp] := HCU2.out
  refine bodyPost_ret (res_tok1 rfl _ _ rfl (HT3.out.set k t a)) rfl ⟨rfl, ?_, ?_⟩
  · unfold tset
    exact cells_set_far (cells_set_far (cells_set_far hc3 n2) n2) n2
  · unfold tset
    have hset : ∀ (W : World) (i : Nat) (v : Value), w.grownBy W (some p) → w.grownBy (W.setCell ⟨w.heap.size, i, none⟩ v) (some p) := fun W i v hw =>
      ⟨hw.os, hw.tape, hw.output, by rw [size_set]; exact hw.size, fun b hb hne => (only_set W w.heap.size i v).block b (Nat.lt_of_lt_of_le hb hw.size) (by intro e; injection e with e; omega) |>.trans (hw.block b hb hne)⟩
    exact hset _ _ _ (hset _ _ _ (hset _ _ _ HGR.out))

/-- A cursor over the tokens l, at index i. -/
structure CL (w : World) (p g cap : Nat) (l : List Tok) (i : Nat) : Prop where
  cur : Cells w p 50 #[.slice (some ⟨g, i * 3, none⟩) (l.length - i) (cap - i)]
  ts : TS w g l
  ne : g ≠ p
  lt : i < l.length
  le : l.length ≤ cap
theorem CL.kept {w w' : World} {p g cap i : Nat} {l : List Tok} (h : CL w p g cap l i) (hb : Below w.heap.size w w') : CL w' p g cap l i :=
  ⟨(hb.block p h.cur.lt).trans h.cur, h.ts.kept hb h.ts.1, h.ne, h.lt, h.le⟩
theorem CL.drewN {w : World} {p g cap i : Nat} {l : List Tok} (h : CL w p g cap l i) (q : Nat) : CL (w.drewN q) p g cap l i := ⟨h.cur, h.ts, h.ne, h.lt, h.le⟩
theorem CL.drew {w : World} {p g cap i : Nat} {l : List Tok} (h : CL w p g cap l i) : CL w.drew p g cap l i := ⟨h.cur, h.ts, h.ne, h.lt, h.le⟩
theorem CL.ca {w : World} {p g cap i : Nat} {l : List Tok} {t : Tok} (h : CL w p g cap l i) (ht : l[i]? = some t) : CA w p g (i * 3) (l.length - i) (cap - i) t.kind (str t.text) t.at_ := by
  obtain ⟨a, b, c⟩ := h.ts.at ht
  exact ⟨h.cur, a, b, c, h.ne, h.ts.1⟩
/-- The last token alone is the end. -/
def GL (l : List Tok) : Prop := l.length ≤ 100000 ∧ ∀ i t, l[i]? = some t → (t.kind = 0 ↔ i + 1 = l.length)
theorem cpeek_any (w : World) {p g cap i : Nat} {l : List Tok} {t : Tok} (h : CL w p g cap l i) (ht : l[i]? = some t) (hl : GL l) :
    Calls Try.prog 24 #[.pointer (some ⟨p, 0, none⟩)] w fun e w' => e = .returned (.agg #[.int .i64 (t.kind : Nat), .string (str t.text), .int .i64 (t.at_ : Nat)]) ∧ Below w.heap.size w w' :=
  peek_any w (h.ca ht) (by have := h.lt; omega) (by have := hl.1; omega)
theorem cnext_any (w : World) {p g cap i : Nat} {l : List Tok} {t : Tok} (h : CL w p g cap l i) (ht : l[i]? = some t) (hl : GL l) :
    Calls Try.prog 25 #[.pointer (some ⟨p, 0, none⟩)] w fun e w' => e = .returned (.agg #[.int .i64 (t.kind : Nat), .string (str t.text), .int .i64 (t.at_ : Nat)]) ∧ CL w' p g cap l (if i + 1 < l.length then i + 1 else i) ∧ w.grownBy w' (some p) := by
  have hlt := h.lt
  have hle := h.le
  have hg := hl.1
  by_cases hk : t.kind = 0
  · have hi := (hl.2 i t ht).1 hk
    have hca := h.ca ht
    rw [hk] at hca ⊢
    rw [if_neg (by omega)]
    refine (next_stay w hca (by omega) (by omega)).mono ?_
    rintro e w' ⟨rfl, hb⟩
    exact ⟨rfl, h.kept hb, only_below hb _⟩
  · have hi : i + 1 < l.length := by
      have hne : ¬ (i + 1 = l.length) := fun e => hk ((hl.2 i t ht).2 e)
      omega
    rw [if_pos hi]
    have hca := h.ca ht
    obtain ⟨m, hm⟩ : ∃ m, l.length - i = m + 1 := ⟨l.length - i - 1, by omega⟩
    obtain ⟨cp, hcp⟩ : ∃ cp, cap - i = cp + 1 := ⟨cap - i - 1, by omega⟩
    rw [hm, hcp] at hca
    refine (next_move w hca (by omega) (by omega) (by omega) (by omega)).mono ?_
    rintro e w' ⟨rfl, hc, hgr⟩
    refine ⟨rfl, ⟨?_, ?_, h.ne, hi, hle⟩, hgr⟩
    · rw [show (i + 1) * 3 = i * 3 + 3 by omega, show l.length - (i + 1) = m by omega, show cap - (i + 1) = cp by omega]
      exact hc
    · refine ⟨Nat.lt_of_lt_of_le h.ts.1 hgr.size, fun j u hu => ?_⟩
      rw [World.cell?_of_block (w := w) (w' := w') (a := ⟨g, j, none⟩) (hgr.block g h.ts.1 (by intro e; injection e with e; exact h.ne e))]
      exact h.ts.2 j u hu

def passB (t : Tok) (kd : Nat) (s : ByteArray) : Bool := t.kind == kd && (str t.text).toList == s.toList
/-- Where the cursor stands behind a step: further, if it moved. -/
def stepI (b : Bool) (l : List Tok) (i : Nat) : Nat := if b = true ∧ i + 1 < l.length then i + 1 else i
set_option maxRecDepth 20000 in
theorem pass_any (w : World) {p g cap i : Nat} {l : List Tok} {t : Tok} (kd : Nat) (s : ByteArray) (h : CL w p g cap l i) (ht : l[i]? = some t) (hl : GL l) :
    Calls Try.prog 46 #[.pointer (some ⟨p, 0, none⟩), .int .i64 (kd : Int), .string s] w fun e w' => e = .returned (.bool (passB t kd s)) ∧ CL w' p g cap l (stepI (passB t kd s) l i) ∧ w.grownBy w' (some p) := by
  have hpk := cpeek_any w h ht hl
  have HPK := Lib.hid hpk
  have HCL := Lib.hid h
  have HN := Lib.hid (fun W (h : CL W p g cap l i) => cnext_any W h ht hl)
  unfold passB
  rw [nat_beq]
  generalize t.kind = tk at *
  generalize str t.text = tx at *
  generalize t.at_ = ta at *
  clear hpk h ht hl
  cases hk : ((tk : Int) == (kd : Int)) with
  | false =>
    have hk2 : ((tk : Int) != (kd : Int)) = true := by rw [bne, hk]; rfl
    clear hk
    go_enter Try.func46, Try.ntmps46
    go_wp2_with fail
    refine HPK.out.mono ?_
    rintro e w1 ⟨rfl, hb⟩
    have hx := tb_new w1 (tk : Int) tx (ta : Int)
    have hB := hb.alloc hb.size (.cells #[.int .i64 (tk : Int), .string tx, .int .i64 (ta : Int)] 36)
    have e0 := hx.c0
    have e1 := hx.c1
    have hc := HCL.out.kept hB
    clear hb hx
    go_wp2_with fail
    go_ret
    exact ⟨rfl, hc, only_below hB _⟩
  | true =>
    have hk2 : ((tk : Int) != (kd : Int)) = false := by rw [bne, hk]; rfl
    cases hs : (tx.toList == s.toList) with
    | false =>
      clear hk
      go_enter Try.func46, Try.ntmps46
      go_wp2_with fail
      refine HPK.out.mono ?_
      rintro e w1 ⟨rfl, hb⟩
      have hx := tb_new w1 (tk : Int) tx (ta : Int)
      have hB := hb.alloc hb.size (.cells #[.int .i64 (tk : Int), .string tx, .int .i64 (ta : Int)] 36)
      have e0 := hx.c0
      have e1 := hx.c1
      have hc := HCL.out.kept hB
      clear hb hx
      go_wp2_with fail
      go_ret
      exact ⟨rfl, hc, only_below hB _⟩
    | true =>
      clear hk
      go_enter Try.func46, Try.ntmps46
      go_wp2_with fail
      refine HPK.out.mono ?_
      rintro e w1 ⟨rfl, hb⟩
      have hx := tb_new w1 (tk : Int) tx (ta : Int)
      have hB := hb.alloc hb.size (.cells #[.int .i64 (tk : Int), .string tx, .int .i64 (ta : Int)] 36)
      have e0 := hx.c0
      have e1 := hx.c1
      have HCB := Lib.hid (HCL.out.kept hB)
      have HB := Lib.hid hB
      clear hb hx hB
      go_wp2_with fail
      refine (HN.out _ HCB.out).mono ?_
      rintro e w2 ⟨rfl, hc2, hg2⟩
      have hG := only_trans (only_below HB.out (some p)) hg2
      clear hg2
      go_wp2_with fail
      go_ret
      refine ⟨rfl, ?_, hG⟩
      unfold stepI
      by_cases hi : i + 1 < l.length
      · rw [if_pos ⟨rfl, hi⟩]; rw [if_pos hi] at hc2; exact hc2
      · rw [if_neg (fun h => hi h.2)]; rw [if_neg hi] at hc2; exact hc2

set_option maxRecDepth 20000 in
theorem cmark_any (w : World) {p g cap i : Nat} {l : List Tok} {t : Tok} (s : ByteArray) (h : CL w p g cap l i) (ht : l[i]? = some t) (hl : GL l) :
    Calls Try.prog 26 #[.pointer (some ⟨p, 0, none⟩), .string s] w fun e w' => e = .returned (.bool (passB t 4 s)) ∧ CL w' p g cap l (stepI (passB t 4 s) l i) ∧ w.grownBy w' (some p) := by
  have hp := pass_any w 4 s h ht hl
  generalize passB t 4 s = b at *
  have HP : Hid (Calls Try.prog 46 #[.pointer (some ⟨p, 0, none⟩), .int .i64 4, .string s] w fun e w' => e = .returned (.bool b) ∧ CL w' p g cap l (stepI b l i) ∧ w.grownBy w' (some p)) := hp
  clear hp h ht hl
  go_enter Try.func26, Try.ntmps26
  go_wp2_with fail
  refine HP.out.mono ?_
  rintro e w1 ⟨rfl, hc, hg⟩
  go_wp2_with fail
  go_ret
  exact ⟨rfl, hc, hg⟩

set_option maxRecDepth 20000 in
theorem cword_any (w : World) {p g cap i : Nat} {l : List Tok} {t : Tok} (s : ByteArray) (h : CL w p g cap l i) (ht : l[i]? = some t) (hl : GL l) :
    Calls Try.prog 27 #[.pointer (some ⟨p, 0, none⟩), .string s] w fun e w' => e = .returned (.bool (passB t 1 s)) ∧ CL w' p g cap l (stepI (passB t 1 s) l i) ∧ w.grownBy w' (some p) := by
  have hp := pass_any w 1 s h ht hl
  generalize passB t 1 s = b at *
  have HP : Hid (Calls Try.prog 46 #[.pointer (some ⟨p, 0, none⟩), .int .i64 1, .string s] w fun e w' => e = .returned (.bool b) ∧ CL w' p g cap l (stepI b l i) ∧ w.grownBy w' (some p)) := hp
  clear hp h ht hl
  go_enter Try.func27, Try.ntmps27
  go_wp2_with fail
  refine HP.out.mono ?_
  rintro e w1 ⟨rfl, hc, hg⟩
  go_wp2_with fail
  go_ret
  exact ⟨rfl, hc, hg⟩

/-- What Int answers at a token. -/
def intB (t : Tok) : Bool := t.kind == 1 && isNum t.text
def intN (t : Tok) : Nat := if intB t = true then numV t.text else 0
set_option maxRecDepth 20000 in
theorem cint_any (w : World) {p g cap i : Nat} {l : List Tok} {t : Tok} (h : CL w p g cap l i) (ht : l[i]? = some t) (hl : GL l) (hs : t.text.length ≤ 16000) :
    Calls Try.prog 28 #[.pointer (some ⟨p, 0, none⟩)] w fun e w' => e = .returned (.tuple #[.int .i64 (intN t : Nat), .bool (intB t)]) ∧ CL w' p g cap l (stepI (intB t) l i) ∧ w.grownBy w' (some p) := by
  have hpk := cpeek_any w h ht hl
  have HPK := Lib.hid hpk
  have HCL := Lib.hid h
  have HN := Lib.hid (fun W (h : CL W p g cap l i) => cnext_any W h ht hl)
  have hnm := fun W => pnumber_any (str t.text) W (by rw [str_size]; omega)
  unfold numR at hnm
  rw [str_toList] at hnm
  unfold intN intB
  rw [nat_beq]
  generalize t.kind = tk at *
  generalize str t.text = tx at *
  generalize t.at_ = ta at *
  generalize isNum t.text = nb at *
  generalize numV t.text = nv at *
  clear hpk h ht hl hs
  cases hk : ((tk : Int) == ((1 : Nat) : Int)) with
  | false =>
    have hk2 : ((tk : Int) != 1) = true := by
      have : ((tk : Int) == 1) = false := hk
      rw [bne, this]; rfl
    clear hk hnm
    go_enter Try.func28, Try.ntmps28
    go_wp2_with fail
    refine HPK.out.mono ?_
    rintro e w1 ⟨rfl, hb⟩
    have hx := tb_new w1 (tk : Int) tx (ta : Int)
    have hB := hb.alloc hb.size (.cells #[.int .i64 (tk : Int), .string tx, .int .i64 (ta : Int)] 36)
    have e0 := hx.c0
    have e1 := hx.c1
    have hc := HCL.out.kept hB
    clear hb hx
    go_wp2_with fail
    go_ret2
    exact ⟨rfl, hc, only_below hB _⟩
  | true =>
    have hk2 : ((tk : Int) != 1) = false := by
      have : ((tk : Int) == 1) = true := hk
      rw [bne, this]; rfl
    clear hk
    cases nb with
    | false =>
      have HNM := Lib.hid (show ∀ W, Calls Try.prog 20 #[.string tx] W (fun e w' => e = .returned (.tuple #[.int .i64 0, .bool false]) ∧ W = w') from hnm)
      clear hnm
      go_enter Try.func28, Try.ntmps28
      go_wp2_with fail
      refine HPK.out.mono ?_
      rintro e w1 ⟨rfl, hb⟩
      have hx := tb_new w1 (tk : Int) tx (ta : Int)
      have hB := hb.alloc hb.size (.cells #[.int .i64 (tk : Int), .string tx, .int .i64 (ta : Int)] 36)
      have e0 := hx.c0
      have e1 := hx.c1
      have hc := HCL.out.kept hB
      clear hb hx
      go_wp2_with fail
      refine (HNM.out _).mono ?_
      rintro e w2 ⟨rfl, rfl⟩
      go_wp2_with fail
      go_ret2
      exact ⟨rfl, hc, only_below hB _⟩
    | true =>
      have HNM := Lib.hid (show ∀ W, Calls Try.prog 20 #[.string tx] W (fun e w' => e = .returned (.tuple #[.int .i64 (nv : Int), .bool true]) ∧ W = w') from hnm)
      clear hnm
      go_enter Try.func28, Try.ntmps28
      go_wp2_with fail
      refine HPK.out.mono ?_
      rintro e w1 ⟨rfl, hb⟩
      have hx := tb_new w1 (tk : Int) tx (ta : Int)
      have hB := hb.alloc hb.size (.cells #[.int .i64 (tk : Int), .string tx, .int .i64 (ta : Int)] 36)
      have e0 := hx.c0
      have e1 := hx.c1
      have HCB := Lib.hid (HCL.out.kept hB)
      have HB := Lib.hid hB
      clear hb hx hB
      go_wp2_with fail
      refine (HNM.out _).mono ?_
      rintro e w2 ⟨rfl, rfl⟩
      clear e0 e1
      go_wp2_with fail
      refine (HN.out _ HCB.out).mono ?_
      rintro e w2 ⟨rfl, hc2, hg2⟩
      have hG := only_trans (only_below HB.out (some p)) hg2
      clear hg2
      go_wp2_with fail
      go_ret2
      refine ⟨rfl, ?_, hG⟩
      unfold stepI
      by_cases hi : i + 1 < l.length
      · rw [if_pos ⟨rfl, hi⟩]; rw [if_pos hi] at hc2; exact hc2
      · rw [if_neg (fun h => hi h.2)]; rw [if_neg hi] at hc2; exact hc2
end Go.Proofs.Ytcakdgfkepdpkaa
