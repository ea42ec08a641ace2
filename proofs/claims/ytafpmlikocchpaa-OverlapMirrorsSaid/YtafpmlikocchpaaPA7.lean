/- Contracts of the functions, part 7: EthMem, CapMath, CapWr. -/
import Derived.Test.YtafpmlikocchpaaPA1
import Derived.Test.YtafpmlikocchpaaPA2
import Derived.Test.YtafpmlikocchpaaPA4
import Derived.Test.YtafpmlikocchpaaPA6
/- Frames in memory. -/
namespace Go.Proofs.Ytafpmlikocchpaa
open Go.ChangeShapes Go.WideShapes Go.ChangeAt Go.RowKit
set_option linter.unusedVariables false

theorem info_int10 : (Try.prog.info? 3).map (fun i => (i.zero, i.size, i.bytes)) = some (some (.int .i64 0), 1, 8) := by kernel_rfl
theorem intTy10 : ElemTy 59 3 1 8 :=
  ⟨Try.underlying59, by
    obtain ⟨i, h1, h2, h3, h4⟩ := info_parts info_int10
    exact ⟨i, _, h1, h2, h3, h4, rfl⟩⟩
/-- A frame's cells. -/
def ethC (x : EthR) (A : Option Addr) (c : Nat) : Array Value := #[.int .u64 (x.dst : Int), .int .u64 (x.src : Int), .slice A x.vl.length c, .int .i64 x.ty, .string (str x.pay)]
/-- What Decode leaves. -/
def DecP (w : World) (R : EthR × Nat) (e : Ending) (w' : World) : Prop :=
  ∃ A cap, e = .returned (.tuple #[.agg #[.int .u64 (R.1.dst : Int), .int .u64 (R.1.src : Int), .slice A R.1.vl.length cap, .int .i64 R.1.ty, .string (str R.1.pay)], .int .i64 (R.2 : Int)]) ∧ RowL EInt w' A R.1.vl ∧ (A = none → cap = 0) ∧ Below w.heap.size w w'
end Go.Proofs.Ytafpmlikocchpaa

/- Plain mathematics of captures: no Go in sight. -/
namespace Go.Proofs.Ytafpmlikocchpaa
set_option linter.unusedVariables false

/-- A record: its time, its original length, its data. -/
structure CRec where
  tm : Int
  sz : Int
  dat : List UInt8
/-- The number of n bytes at place p, in a byte order. -/
def numC (big : Bool) (S : List UInt8) (p n : Nat) : Nat := num (if big then (S.drop p).take n else ((S.drop p).take n).reverse)
/-- Where the examining of records stands: the offset of the next one, the byte order, how many there were, the time of the last. -/
structure CSt where
  pos : Nat
  big : Bool
  cnt : Nat
  last : Nat
def tmC (S : List UInt8) (q : CSt) : Nat := numC q.big S q.pos 4 * 1000 + numC q.big S (q.pos + 4) 4 / 1000
def capC (S : List UInt8) (q : CSt) : Nat := numC q.big S (q.pos + 8) 4
def szC (S : List UInt8) (q : CSt) : Nat := numC q.big S (q.pos + 12) 4
/-- What is wrong with the record's header (0: nothing). -/
def chkC (S : List UInt8) (q : CSt) : Nat :=
  if 999999 < numC q.big S (q.pos + 4) 4 then 2
  else if q.cnt = 2000 ∨ 4096 < capC S q ∨ szC S q < capC S q then 3
  else if 0 < q.cnt ∧ tmC S q < q.last then 12 else 0
def recAt (S : List UInt8) (q : CSt) : CRec := ⟨tmC S q, szC S q, (S.drop (q.pos + 16)).take (capC S q)⟩
def nextC (S : List UInt8) (q : CSt) : CSt := ⟨q.pos + 16 + capC S q, q.big, q.cnt + 1, tmC S q⟩
/-- What comes next: no more (0), an error (its code), or one record (none). -/
def nowC (S : List UInt8) (q : CSt) : Option Nat :=
  if S.length < q.pos + 16 then some 0
  else if chkC S q ≠ 0 then some (chkC S q)
  else if S.length < q.pos + 16 + capC S q then some 0
  else none
/-- The records from here on, where their examining stops, and its error. -/
def recsC (S : List UInt8) : Nat → CSt → List CRec × CSt × Nat
  | 0, q => ([], q, 0)
  | f + 1, q => match nowC S q with
    | some e => ([], q, e)
    | none => (recAt S q :: (recsC S f (nextC S q)).1, (recsC S f (nextC S q)).2)
theorem nowC_none {S : List UInt8} {q : CSt} (h : nowC S q = none) : q.pos + 16 + capC S q ≤ S.length ∧ chkC S q = 0 := by
  unfold nowC at h
  split at h
  · cases h
  · split at h
    · cases h
    · rename_i h2
      split at h
      · cases h
      · exact ⟨by omega, by simpa using h2⟩
theorem chk_pos (S : List UInt8) (q : CSt) : chkC S q = 0 ∨ 0 < chkC S q := by omega
/-- With fuel for all bytes the walk comes to its end. -/
theorem recsC_end {S : List UInt8} : ∀ (f : Nat) (q : CSt), S.length < q.pos + f → nowC S (recsC S f q).2.1 = some (recsC S f q).2.2
  | 0, q, h => by
    show nowC S q = some 0
    unfold nowC
    rw [if_pos (by omega)]
  | f + 1, q, h => by
    cases hn : nowC S q with
    | some e => rw [recsC, hn]; exact hn
    | none =>
      rw [recsC, hn]
      have := (nowC_none hn).1
      exact recsC_end f (nextC S q) (by show S.length < q.pos + 16 + capC S q + f; omega)
/-- More fuel changes nothing. -/
theorem recsC_fuel {S : List UInt8} : ∀ (f g : Nat) (q : CSt), S.length < q.pos + f → S.length < q.pos + g → recsC S f q = recsC S g q
  | 0, 0, q, _, _ => rfl
  | 0, g + 1, q, h, _ => by
    have : nowC S q = some 0 := by unfold nowC; rw [if_pos (by omega)]
    rw [recsC, recsC, this]
  | f + 1, 0, q, _, h => by
    have : nowC S q = some 0 := by unfold nowC; rw [if_pos (by omega)]
    rw [recsC, recsC, this]
  | f + 1, g + 1, q, h1, h2 => by
    cases hn : nowC S q with
    | some e => rw [recsC, recsC, hn]
    | none =>
      have h3 := (nowC_none hn).1
      rw [recsC, recsC, hn]
      have := recsC_fuel f g (nextC S q) (by show S.length < q.pos + 16 + capC S q + f; omega) (by show S.length < q.pos + 16 + capC S q + g; omega)
      rw [this]
/-- All records from here on. -/
def allC (S : List UInt8) (q : CSt) : List CRec × CSt × Nat := recsC S (S.length + 1) q
theorem allC_stop {S : List UInt8} {q : CSt} {e : Nat} (h : nowC S q = some e) : allC S q = ([], q, e) := by
  unfold allC
  rw [recsC, h]
theorem allC_go {S : List UInt8} {q : CSt} (h : nowC S q = none) : allC S q = (recAt S q :: (allC S (nextC S q)).1, (allC S (nextC S q)).2) := by
  have h3 := (nowC_none h).1
  unfold allC
  rw [recsC, h]
  have := recsC_fuel (S := S) S.length (S.length + 1) (nextC S q) (by show S.length < q.pos + 16 + capC S q + S.length; omega) (by show S.length < q.pos + 16 + capC S q + (S.length + 1); omega)
  rw [this]
/-! ### More bytes -/
theorem numC_more {big : Bool} {S : List UInt8} {p n : Nat} (T : List UInt8) (h : p + n ≤ S.length) : numC big (S ++ T) p n = numC big S p n := by
  unfold numC
  rw [List.drop_append_of_le_length (by omega), List.take_append_of_le_length (by rw [List.length_drop]; omega)]
theorem head_more {S : List UInt8} {q : CSt} (T : List UInt8) (h : q.pos + 16 ≤ S.length) : tmC (S ++ T) q = tmC S q ∧ capC (S ++ T) q = capC S q ∧ szC (S ++ T) q = szC S q ∧ chkC (S ++ T) q = chkC S q := by
  have h0 := numC_more (big := q.big) (p := q.pos) (n := 4) T (show q.pos + 4 ≤ S.length by omega)
  have h1 := numC_more (big := q.big) (p := q.pos + 4) (n := 4) T (show q.pos + 4 + 4 ≤ S.length by omega)
  have h2 := numC_more (big := q.big) (p := q.pos + 8) (n := 4) T (show q.pos + 8 + 4 ≤ S.length by omega)
  have h3 := numC_more (big := q.big) (p := q.pos + 12) (n := 4) T (show q.pos + 12 + 4 ≤ S.length by omega)
  have a : tmC (S ++ T) q = tmC S q := by unfold tmC; rw [h0, h1]
  have b : capC (S ++ T) q = capC S q := h2
  have c : szC (S ++ T) q = szC S q := h3
  refine ⟨a, b, c, ?_⟩
  unfold chkC
  rw [h1, a, b, c]
theorem now_more {S : List UInt8} {q : CSt} (T : List UInt8) (h : nowC S q = none) : nowC (S ++ T) q = none ∧ recAt (S ++ T) q = recAt S q ∧ nextC (S ++ T) q = nextC S q := by
  obtain ⟨h1, h2⟩ := nowC_none h
  obtain ⟨a, b, c, d⟩ := head_more (S := S) (q := q) T (by omega)
  refine ⟨?_, ?_, ?_⟩
  · unfold nowC
    rw [d, b, List.length_append, if_neg (by omega), if_neg (by omega), if_neg (by omega)]
  · unfold recAt
    rw [a, b, c, List.drop_append_of_le_length (by omega), List.take_append_of_le_length (by rw [List.length_drop]; omega)]
  · unfold nextC
    rw [a, b]
theorem now_more_err {S : List UInt8} {q : CSt} (T : List UInt8) {e : Nat} (h : nowC S q = some e) (he : e ≠ 0) : nowC (S ++ T) q = some e := by
  unfold nowC at h
  split at h
  · exact absurd (Option.some.inj h).symm he
  · rename_i h1
    obtain ⟨a, b, c, d⟩ := head_more (S := S) (q := q) T (by omega)
    split at h
    · rename_i h2
      unfold nowC
      rw [d, List.length_append, if_neg (by omega), if_pos h2, ← h]
    · split at h
      · exact absurd (Option.some.inj h).symm he
      · cases h
/-- MORE BYTES: the records so far stay, the walk goes on where it stood. -/
theorem allC_more (T : List UInt8) {S : List UInt8} : ∀ (n : Nat) (q : CSt), S.length < q.pos + n → (allC S q).2.2 = 0 → allC (S ++ T) q = ((allC S q).1 ++ (allC (S ++ T) (allC S q).2.1).1, (allC (S ++ T) (allC S q).2.1).2)
  | n, q, hn, h => by
    cases hq : nowC S q with
    | some e =>
      rw [allC_stop hq]
      simp
    | none =>
      have h3 := (nowC_none hq).1
      obtain ⟨a, b, c⟩ := now_more T hq
      rw [allC_go hq] at h ⊢
      rw [allC_go a, b, c]
      cases n with
      | zero => omega
      | succ n =>
        have ih := allC_more T n (nextC S q) (by show S.length < q.pos + 16 + capC S q + n; omega) h
        simp only
        rw [ih]
        simp
theorem allC_more_err (T : List UInt8) {S : List UInt8} : ∀ (n : Nat) (q : CSt), S.length < q.pos + n → (allC S q).2.2 ≠ 0 → allC (S ++ T) q = allC S q
  | n, q, hn, h => by
    cases hq : nowC S q with
    | some e =>
      rw [allC_stop hq] at h ⊢
      exact allC_stop (now_more_err T hq h)
    | none =>
      have h3 := (nowC_none hq).1
      obtain ⟨a, b, c⟩ := now_more T hq
      rw [allC_go hq] at h ⊢
      rw [allC_go a, b, c]
      cases n with
      | zero => omega
      | succ n =>
        have ih := allC_more_err T n (nextC S q) (by show S.length < q.pos + 16 + capC S q + n; omega) h
        rw [ih]
/-- The end of a walk without an error lies within the bytes. -/
theorem allC_pos {S : List UInt8} : ∀ (n : Nat) (q : CSt), S.length < q.pos + n → q.pos ≤ S.length → q.pos ≤ (allC S q).2.1.pos ∧ (allC S q).2.1.pos ≤ S.length
  | n, q, hn, hq => by
    cases hnow : nowC S q with
    | some e => rw [allC_stop hnow]; exact ⟨Nat.le_refl _, hq⟩
    | none =>
      have h3 := (nowC_none hnow).1
      rw [allC_go hnow]
      cases n with
      | zero => omega
      | succ n =>
        have ih := allC_pos n (nextC S q) (by show S.length < q.pos + 16 + capC S q + n; omega) (show q.pos + 16 + capC S q ≤ S.length from h3)
        have e : (nextC S q).pos = q.pos + 16 + capC S q := rfl
        rw [e] at ih
        exact ⟨by simp only; omega, ih.2⟩
/-! ### The header -/
/-- The magic number's byte order, if it is one. -/
def magC (S : List UInt8) : Option Bool := if numC true S 0 4 = 2712847316 then some true else if numC true S 0 4 = 3569595041 then some false else none
def hdOk (S : List UInt8) (b : Bool) : Bool := decide (numC b S 4 2 = 2) && decide (numC b S 6 2 = 4) && decide (numC b S 20 4 = 1)
/-- Where the examining stands behind the header; none: it is wrong. -/
def headC (S : List UInt8) : Option CSt := match magC S with
  | none => none
  | some b => if hdOk S b = true then some ⟨24, b, 0, 0⟩ else none
theorem headC_more {S : List UInt8} (T : List UInt8) (h : 24 ≤ S.length) : headC (S ++ T) = headC S := by
  have h0 := numC_more (big := true) (p := 0) (n := 4) T (show 0 + 4 ≤ S.length by omega)
  have hm : magC (S ++ T) = magC S := by unfold magC; rw [h0]
  unfold headC
  rw [hm]
  cases magC S with
  | none => rfl
  | some b =>
    have h1 := numC_more (big := b) (p := 4) (n := 2) T (show 4 + 2 ≤ S.length by omega)
    have h2 := numC_more (big := b) (p := 6) (n := 2) T (show 6 + 2 ≤ S.length by omega)
    have h3 := numC_more (big := b) (p := 20) (n := 4) T (show 20 + 4 ≤ S.length by omega)
    have : hdOk (S ++ T) b = hdOk S b := by unfold hdOk; rw [h1, h2, h3]
    simp only [this]
/-! ### A reader that gets its bytes in pieces -/
/-- A reader: the bytes so far; where the records stand (none: the header is not there yet); has it ended. -/
structure RdC where
  S : List UInt8
  q : Option CSt
  e : Bool
def newC : RdC := ⟨[], none, false⟩
/-- What a Feed does: the records, the error, the reader behind it. -/
def feedC (r : RdC) (s : List UInt8) : List CRec × Nat × RdC :=
  if r.e = true then ([], 10, r) else
  match r.q with
  | some q => ((allC (r.S ++ s) q).1, (allC (r.S ++ s) q).2.2, ⟨r.S ++ s, some (allC (r.S ++ s) q).2.1, decide ((allC (r.S ++ s) q).2.2 ≠ 0)⟩)
  | none => if (r.S ++ s).length < 24 then ([], 0, ⟨r.S ++ s, none, false⟩) else
    match headC (r.S ++ s) with
    | none => ([], 2, ⟨r.S ++ s, none, true⟩)
    | some q => ((allC (r.S ++ s) q).1, (allC (r.S ++ s) q).2.2, ⟨r.S ++ s, some (allC (r.S ++ s) q).2.1, decide ((allC (r.S ++ s) q).2.2 ≠ 0)⟩)
def posC (r : RdC) : Nat := match r.q with
  | none => 0
  | some q => q.pos
/-- What Close returns. -/
def closeC (r : RdC) : Nat := if r.e = true then 10 else match r.q with
  | none => 1
  | some q => if q.pos < r.S.length then 1 else 0
/-- What Read returns: the records, the error, its offset. -/
def readC (s : List UInt8) : List CRec × Nat × Nat :=
  if (feedC newC s).2.1 ≠ 0 then ([], (feedC newC s).2.1, posC (feedC newC s).2.2)
  else if closeC (feedC newC s).2.2 ≠ 0 then ([], closeC (feedC newC s).2.2, posC (feedC newC s).2.2)
  else ((feedC newC s).1, 0, 0)
/-- A reader to which S came, all records out, no error: the pieces do not matter. -/
structure GoodC (r : RdC) (out : List CRec) : Prop where
  same : feedC newC r.S = (out, 0, r)
theorem good_new : GoodC newC [] := ⟨rfl⟩
theorem feed_ended (s : List UInt8) {r : RdC} (h : r.e = true) : feedC r s = ([], 10, r) := by unfold feedC; rw [if_pos h]
theorem feed_new (X : List UInt8) : feedC newC X = if X.length < 24 then ([], 0, ⟨X, none, false⟩) else match headC X with
      | none => ([], 2, ⟨X, none, true⟩)
      | some q => ((allC X q).1, (allC X q).2.2, ⟨X, some (allC X q).2.1, decide ((allC X q).2.2 ≠ 0)⟩) := rfl
/-- FEEDING IN PIECES IS FEEDING AT ONCE. -/
theorem feed_pieces {r : RdC} {out : List CRec} (h : GoodC r out) (s : List UInt8) : feedC newC (r.S ++ s) = (out ++ (feedC r s).1, (feedC r s).2) := by
  have hs := h.same
  obtain ⟨S, q, e⟩ := r
  simp only at hs ⊢
  have hnew : ∀ X, feedC newC X = if X.length < 24 then ([], 0, ⟨X, none, false⟩) else match headC X with
      | none => ([], 2, ⟨X, none, true⟩)
      | some q => ((allC X q).1, (allC X q).2.2, ⟨X, some (allC X q).2.1, decide ((allC X q).2.2 ≠ 0)⟩) := fun X => rfl
  rw [hnew] at hs
  by_cases h24 : S.length < 24
  · rw [if_pos h24] at hs
    simp only [Prod.mk.injEq, RdC.mk.injEq, true_and] at hs
    obtain ⟨rfl, rfl, rfl⟩ := hs
    rw [hnew]
    show _ = (([] : List CRec) ++ (feedC ⟨S, none, false⟩ s).1, (feedC ⟨S, none, false⟩ s).2)
    rw [List.nil_append]
    rfl
  · rw [if_neg h24] at hs
    have hh := headC_more s (show 24 ≤ S.length by omega)
    cases hq : headC S with
    | none => rw [hq] at hs; simp at hs
    | some q0 =>
      rw [hq] at hs
      simp only [Prod.mk.injEq, RdC.mk.injEq, true_and] at hs
      obtain ⟨h1, h2, h3, h4⟩ := hs
      rw [h2] at h4
      subst h1 h3 h4
      have hm := allC_more s (S := S) (S.length + 1) q0 (by omega) h2
      rw [hnew, hh, hq, if_neg (by rw [List.length_append]; omega)]
      simp only
      rw [hm]
      rfl
theorem good_feed {r : RdC} {out : List CRec} (h : GoodC r out) (s : List UInt8) (he : (feedC r s).2.1 = 0) : GoodC (feedC r s).2.2 (out ++ (feedC r s).1) := by
  have hp := feed_pieces h s
  have hS : (feedC r s).2.2.S = r.S ++ s := by
    have he2 : r.e = false := by
      have := h.same
      cases hre : r.e with
      | false => rfl
      | true =>
        rw [feed_ended s hre] at he
        cases he
    unfold feedC
    rw [if_neg (by rw [he2]; decide)]
    split
    · rfl
    · split
      · rfl
      · split <;> rfl
  refine ⟨?_⟩
  rw [hS, hp]
  refine Prod.ext rfl (Prod.ext he rfl)
theorem numC_len {b : Bool} {S : List UInt8} {p n : Nat} : numC b S p n < 256 ^ n := by
  unfold numC
  have h1 : ((S.drop p).take n).length ≤ n := by rw [List.length_take]; omega
  have h2 : (if b then (S.drop p).take n else ((S.drop p).take n).reverse).length ≤ n := by
    split
    · exact h1
    · rw [List.length_reverse]; exact h1
  exact Nat.lt_of_lt_of_le (num_lt _) (Nat.pow_le_pow_right (by omega) h2)
end Go.Proofs.Ytafpmlikocchpaa

/- Plain mathematics of captures: writing, reading what was written, merging. -/
namespace Go.Proofs.Ytafpmlikocchpaa
set_option linter.unusedVariables false

def wHd : List UInt8 := leL 4 2712847316 ++ leL 2 2 ++ leL 2 4 ++ leL 4 0 ++ leL 4 0 ++ leL 4 4096 ++ leL 4 1
theorem wHd_len : wHd.length = 24 := by decide
def wRec (x : CRec) : List UInt8 := leL 4 (x.tm.toNat / 1000) ++ (leL 4 (x.tm.toNat % 1000 * 1000) ++ (leL 4 x.dat.length ++ (leL 4 x.sz.toNat ++ x.dat)))
theorem wRec_len (x : CRec) : (wRec x).length = 16 + x.dat.length := by
  unfold wRec
  simp only [List.length_append, leL_length]
  omega
/-- What is wrong with a record (0: nothing), behind one of the time p (none: first). -/
def wErr1 (p : Option Int) (x : CRec) : Nat :=
  if 4096 < x.dat.length then 3
  else if x.tm < 0 ∨ 1099511627776 < x.tm ∨ x.sz < x.dat.length ∨ 65535 < x.sz then 4
  else match p with
    | none => 0
    | some t => if x.tm < t then 12 else 0
def wErr : Option Int → List CRec → Nat
  | _, [] => 0
  | p, x :: r => if wErr1 p x ≠ 0 then wErr1 p x else wErr (some x.tm) r
def writeC (l : List CRec) : List UInt8 × Nat :=
  if 2000 < l.length then ([], 3) else if wErr none l ≠ 0 then ([], wErr none l) else (wHd ++ l.flatMap wRec, 0)
theorem wErr1_ok {p : Option Int} {x : CRec} (h : wErr1 p x = 0) : x.dat.length ≤ 4096 ∧ 0 ≤ x.tm ∧ x.tm ≤ 1099511627776 ∧ (x.dat.length : Int) ≤ x.sz ∧ x.sz ≤ 65535 ∧ ∀ t, p = some t → t ≤ x.tm := by
  unfold wErr1 at h
  split at h
  · cases h
  · split at h
    · cases h
    · rename_i h1 h2
      refine ⟨by omega, by omega, by omega, by omega, by omega, fun t ht => ?_⟩
      subst ht
      simp only at h
      split at h
      · cases h
      · omega
/-! ### Reading what was written -/
theorem numC_le {pre post : List UInt8} {p n v : Nat} (hp : p = pre.length) : numC false (pre ++ (leL n v ++ post)) p n = v % 256 ^ n := by
  unfold numC
  subst hp
  rw [List.drop_left, List.take_append_of_le_length (by rw [leL_length]; exact Nat.le_refl _), List.take_of_length_le (by rw [leL_length]; exact Nat.le_refl _)]
  exact num_reverse_leL n v
theorem wRec_fields (pre post : List UInt8) (x : CRec) {p : Option Int} (h : wErr1 p x = 0) (q : CSt) (hq : q.pos = pre.length) (hb : q.big = false) :
    tmC (pre ++ (wRec x ++ post)) q = x.tm.toNat ∧ capC (pre ++ (wRec x ++ post)) q = x.dat.length ∧ szC (pre ++ (wRec x ++ post)) q = x.sz.toNat ∧ numC q.big (pre ++ (wRec x ++ post)) (q.pos + 4) 4 = x.tm.toNat % 1000 * 1000 := by
  obtain ⟨h1, h2, h3, h4, h5, -⟩ := wErr1_ok h
  have e : (256 : Nat) ^ 4 = 4294967296 := by decide
  have a0 : numC false (pre ++ (wRec x ++ post)) q.pos 4 = x.tm.toNat / 1000 := by
    have := numC_le (pre := pre) (post := leL 4 (x.tm.toNat % 1000 * 1000) ++ (leL 4 x.dat.length ++ (leL 4 x.sz.toNat ++ x.dat)) ++ post) (p := q.pos) (n := 4) (v := x.tm.toNat / 1000) hq
    rw [e, Nat.mod_eq_of_lt (show x.tm.toNat / 1000 < 4294967296 by omega)] at this
    rw [← this]
    unfold wRec
    simp only [List.append_assoc]
  have a1 : numC false (pre ++ (wRec x ++ post)) (q.pos + 4) 4 = x.tm.toNat % 1000 * 1000 := by
    have := numC_le (pre := pre ++ leL 4 (x.tm.toNat / 1000)) (post := leL 4 x.dat.length ++ (leL 4 x.sz.toNat ++ x.dat) ++ post) (p := q.pos + 4) (n := 4) (v := x.tm.toNat % 1000 * 1000) (by rw [List.length_append, leL_length, hq])
    rw [e, Nat.mod_eq_of_lt (show x.tm.toNat % 1000 * 1000 < 4294967296 by omega)] at this
    rw [← this]
    unfold wRec
    simp only [List.append_assoc]
  have a2 : numC false (pre ++ (wRec x ++ post)) (q.pos + 8) 4 = x.dat.length := by
    have := numC_le (pre := pre ++ leL 4 (x.tm.toNat / 1000) ++ leL 4 (x.tm.toNat % 1000 * 1000)) (post := leL 4 x.sz.toNat ++ x.dat ++ post) (p := q.pos + 8) (n := 4) (v := x.dat.length) (by rw [List.length_append, List.length_append, leL_length, leL_length, hq])
    rw [e, Nat.mod_eq_of_lt (show x.dat.length < 4294967296 by omega)] at this
    rw [← this]
    unfold wRec
    simp only [List.append_assoc]
  have a3 : numC false (pre ++ (wRec x ++ post)) (q.pos + 12) 4 = x.sz.toNat := by
    have := numC_le (pre := pre ++ leL 4 (x.tm.toNat / 1000) ++ leL 4 (x.tm.toNat % 1000 * 1000) ++ leL 4 x.dat.length) (post := x.dat ++ post) (p := q.pos + 12) (n := 4) (v := x.sz.toNat) (by rw [List.length_append, List.length_append, List.length_append, leL_length, leL_length, leL_length, hq])
    rw [e, Nat.mod_eq_of_lt (show x.sz.toNat < 4294967296 by omega)] at this
    rw [← this]
    unfold wRec
    simp only [List.append_assoc]
  unfold tmC capC szC
  rw [hb, a0, a1, a2, a3]
  exact ⟨by omega, rfl, rfl, rfl⟩
/-- What a state says of the record before. -/
def prevC (q : CSt) : Option Int := if q.cnt = 0 then none else some q.last
theorem wRec_now (pre post : List UInt8) (x : CRec) (q : CSt) (h : wErr1 (prevC q) x = 0) (hq : q.pos = pre.length) (hb : q.big = false) (hc : q.cnt < 2000) :
    nowC (pre ++ (wRec x ++ post)) q = none ∧ recAt (pre ++ (wRec x ++ post)) q = x ∧ nextC (pre ++ (wRec x ++ post)) q = ⟨pre.length + (wRec x).length, false, q.cnt + 1, x.tm.toNat⟩ := by
  obtain ⟨f1, f2, f3, f4⟩ := wRec_fields pre post x h q hq hb
  obtain ⟨h1, h2, h3, h4, h5, h6⟩ := wErr1_ok h
  have hl := wRec_len x
  have hchk : chkC (pre ++ (wRec x ++ post)) q = 0 := by
    unfold chkC
    rw [f1, f2, f3, f4, if_neg (by omega), if_neg (by omega), if_neg]
    rintro ⟨g1, g2⟩
    have := h6 q.last (by unfold prevC; rw [if_neg (by omega)])
    omega
  refine ⟨?_, ?_, ?_⟩
  · unfold nowC
    rw [hchk, f2, List.length_append, List.length_append, hl, if_neg (by omega), if_neg (by omega), if_neg (by omega)]
  · unfold recAt
    rw [f1, f2, f3]
    have hd : (pre ++ (wRec x ++ post)).drop (q.pos + 16) = x.dat ++ post := by
      have e : pre ++ (wRec x ++ post) = (pre ++ leL 4 (x.tm.toNat / 1000) ++ leL 4 (x.tm.toNat % 1000 * 1000) ++ leL 4 x.dat.length ++ leL 4 x.sz.toNat) ++ (x.dat ++ post) := by
        unfold wRec
        simp only [List.append_assoc]
      rw [e]
      exact List.drop_left' (by simp only [List.length_append, leL_length]; omega)
    rw [hd, List.take_left]
    obtain ⟨a, b, d⟩ := x
    simp only at h2 h4 ⊢
    rw [Int.toNat_of_nonneg h2, Int.toNat_of_nonneg (by omega)]
  · unfold nextC
    rw [f1, f2, hb, hq, hl]
    simp only [CSt.mk.injEq, and_true]
    omega
def endC (p : Nat) (q : CSt) : List CRec → CSt
  | [] => q
  | x :: r => endC (p + (wRec x).length) ⟨p + (wRec x).length, false, q.cnt + 1, x.tm.toNat⟩ r
theorem write_all (post : List UInt8) : ∀ (l : List CRec) (pre : List UInt8) (q : CSt), wErr (prevC q) l = 0 → q.pos = pre.length → q.big = false → q.cnt + l.length ≤ 2000 →
    allC (pre ++ (l.flatMap wRec ++ post)) q = (l ++ (allC (pre ++ (l.flatMap wRec ++ post)) (endC pre.length q l)).1, (allC (pre ++ (l.flatMap wRec ++ post)) (endC pre.length q l)).2)
  | [], pre, q, _, _, _, _ => by simp [endC]
  | x :: r, pre, q, h, hq, hb, hc => by
    rw [List.length_cons] at hc
    rw [wErr] at h
    have hx : wErr1 (prevC q) x = 0 := by
      by_cases e : wErr1 (prevC q) x = 0
      · exact e
      · rw [if_pos e] at h; exact absurd h e
    rw [if_neg (by omega)] at h
    have eS : pre ++ ((x :: r).flatMap wRec ++ post) = pre ++ (wRec x ++ (r.flatMap wRec ++ post)) := by rw [List.flatMap_cons, List.append_assoc]
    have eS2 : pre ++ ((x :: r).flatMap wRec ++ post) = (pre ++ wRec x) ++ (r.flatMap wRec ++ post) := by rw [eS, List.append_assoc]
    obtain ⟨n1, n2, n3⟩ := wRec_now pre (r.flatMap wRec ++ post) x q hx hq hb (by omega)
    have h0 := (wErr1_ok hx).2.1
    have ih := write_all post r (pre ++ wRec x) ⟨pre.length + (wRec x).length, false, q.cnt + 1, x.tm.toNat⟩ (by
      have e : prevC ⟨pre.length + (wRec x).length, false, q.cnt + 1, x.tm.toNat⟩ = some x.tm := by
        unfold prevC
        rw [if_neg (by simp)]
        simp only
        rw [Int.toNat_of_nonneg h0]
      rw [e]
      exact h) (by rw [List.length_append]) rfl (by show q.cnt + 1 + r.length ≤ 2000; omega)
    rw [← eS2, List.length_append] at ih
    rw [← eS] at n1 n2 n3
    rw [allC_go n1, n2, n3, endC, ih]
    rfl
theorem endC_snoc : ∀ (l : List CRec) (p : Nat) (q : CSt) (x : CRec), endC p q (l ++ [x]) = ⟨p + (l.flatMap wRec).length + (wRec x).length, false, q.cnt + l.length + 1, x.tm.toNat⟩
  | [], p, q, x => by simp [endC]
  | y :: r, p, q, x => by
    rw [List.cons_append, endC, endC_snoc r]
    simp only [List.flatMap_cons, List.length_append, List.length_cons, CSt.mk.injEq, true_and, and_true]
    omega
theorem endC_pos (l : List CRec) (p : Nat) (q : CSt) (hq : q.pos = p) (hb : q.big = false) : (endC p q l).pos = p + (l.flatMap wRec).length ∧ (endC p q l).big = false ∧ (endC p q l).cnt = q.cnt + l.length := by
  rcases List.eq_nil_or_concat l with rfl | ⟨i, x, rfl⟩
  · simp [endC, hq, hb]
  · rw [List.concat_eq_append, endC_snoc]
    simp only [List.flatMap_append, List.flatMap_cons, List.flatMap_nil, List.append_nil, List.length_append, List.length_cons, List.length_nil, true_and]
    omega
theorem headC_write (post : List UInt8) : headC (wHd ++ post) = some ⟨24, false, 0, 0⟩ := by
  rw [headC_more post (by rw [wHd_len]; exact Nat.le_refl _)]
  kernel_rfl
theorem nowC_short {S : List UInt8} {q : CSt} (h : S.length < q.pos + 16) : nowC S q = some 0 := by unfold nowC; rw [if_pos h]
/-- READING WHAT WAS WRITTEN RETURNS IT. -/
theorem read_write {l : List CRec} (h : wErr none l = 0) (hl : l.length ≤ 2000) : readC (wHd ++ l.flatMap wRec) = (l, 0, 0) := by
  have ha := write_all [] l wHd ⟨24, false, 0, 0⟩ h (by rw [wHd_len]) rfl (by simpa using hl)
  rw [List.append_nil] at ha
  have hp := endC_pos l wHd.length ⟨24, false, 0, 0⟩ (by rw [wHd_len]) rfl
  have hs : allC (wHd ++ l.flatMap wRec) (endC wHd.length ⟨24, false, 0, 0⟩ l) = ([], endC wHd.length ⟨24, false, 0, 0⟩ l, 0) := allC_stop (nowC_short (by rw [hp.1, List.length_append]; omega))
  rw [hs] at ha
  simp only [List.append_nil] at ha
  have hf : feedC newC (wHd ++ l.flatMap wRec) = (l, 0, ⟨wHd ++ l.flatMap wRec, some (endC wHd.length ⟨24, false, 0, 0⟩ l), false⟩) := by
    have hc := headC_write (l.flatMap wRec)
    rw [feed_new, if_neg (by rw [List.length_append, wHd_len]; omega), hc]
    simp only
    rw [ha]
    rfl
  unfold readC
  rw [hf]
  simp only
  rw [if_neg (by decide)]
  have hcl : closeC ⟨wHd ++ l.flatMap wRec, some (endC wHd.length ⟨24, false, 0, 0⟩ l), false⟩ = 0 := by
    unfold closeC
    rw [if_neg (by simp)]
    simp only
    rw [if_neg (by rw [hp.1, List.length_append]; omega)]
  rw [hcl, if_neg (by decide)]
/-- WITHOUT ITS LAST BYTE IT IS TOO SHORT. -/
theorem read_cut {l : List CRec} (h : wErr none l = 0) (hl : l.length ≤ 2000) : (readC ((wHd ++ l.flatMap wRec).take ((wHd ++ l.flatMap wRec).length - 1))).2.1 = 1 := by
  rcases List.eq_nil_or_concat l with rfl | ⟨i, x, rfl⟩
  · decide +kernel
  · rw [List.concat_eq_append] at h hl ⊢
    obtain ⟨F, hF⟩ : ∃ F, F = wHd ++ (i ++ [x]).flatMap wRec := ⟨_, rfl⟩
    have hFl : F.length = 24 + (i.flatMap wRec).length + (wRec x).length := by
      rw [hF, List.flatMap_append, List.length_append, List.length_append, wHd_len]; simp; omega
    have hx := wRec_len x
    rw [← hF]
    obtain ⟨T, hT⟩ : ∃ T, T = F.take (F.length - 1) := ⟨_, rfl⟩
    rw [← hT]
    have hTl : T.length = F.length - 1 := by rw [hT, List.length_take]; omega
    have hFT : F = T ++ F.drop (F.length - 1) := by rw [hT, List.take_append_drop]
    -- the list before its last
    have happ : ∀ (a b : List CRec) (p : Option Int), wErr p (a ++ b) = 0 → wErr p a = 0 := by
      intro a
      induction a with
      | nil => intro b p _; rfl
      | cons y r ih =>
        intro b p hh
        rw [List.cons_append, wErr] at hh
        rw [wErr]
        by_cases e : wErr1 p y = 0
        · rw [if_neg (by omega)] at hh ⊢
          exact ih b _ hh
        · rw [if_pos e] at hh
          exact absurd hh e
    have hlast : ∀ (a : List CRec) (q : CSt) (p : Nat), wErr (prevC q) (a ++ [x]) = 0 → wErr1 (prevC (endC p q a)) x = 0 := by
      intro a
      induction a with
      | nil =>
        intro q p hh
        rw [List.nil_append, wErr] at hh
        by_cases e : wErr1 (prevC q) x = 0
        · exact e
        · rw [if_pos e] at hh; exact absurd hh e
      | cons y r ih =>
        intro q p hh
        rw [List.cons_append, wErr] at hh
        by_cases e : wErr1 (prevC q) y = 0
        · rw [if_neg (by omega)] at hh
          rw [endC]
          refine ih _ _ ?_
          have e2 : prevC ⟨p + (wRec y).length, false, q.cnt + 1, y.tm.toNat⟩ = some y.tm := by
            unfold prevC
            rw [if_neg (by simp)]
            simp only
            rw [Int.toNat_of_nonneg (wErr1_ok e).2.1]
          rw [e2]
          exact hh
        · rw [if_pos e] at hh
          exact absurd hh e
    have hq0 : prevC ⟨24, false, 0, 0⟩ = none := rfl
    have hi := happ i [x] none h
    have hlx := hlast i ⟨24, false, 0, 0⟩ wHd.length (by rw [hq0]; exact h)
    have hil : i.length < 2000 := by simp at hl; omega
    have hp := endC_pos i wHd.length ⟨24, false, 0, 0⟩ (by rw [wHd_len]) rfl
    have hFx : F = (wHd ++ i.flatMap wRec) ++ (wRec x ++ []) := by rw [hF, List.flatMap_append]; simp
    obtain ⟨n1, n2, n3⟩ := wRec_now (wHd ++ i.flatMap wRec) [] x (endC wHd.length ⟨24, false, 0, 0⟩ i) hlx (by rw [hp.1, List.length_append]) hp.2.1 (by rw [hp.2.2]; simp; omega)
    rw [← hFx] at n1
    obtain ⟨m1, m2⟩ := nowC_none n1
    have hcap : capC F (endC wHd.length ⟨24, false, 0, 0⟩ i) = x.dat.length := by
      have := (wRec_fields (wHd ++ i.flatMap wRec) [] x hlx (endC wHd.length ⟨24, false, 0, 0⟩ i) (by rw [hp.1, List.length_append]) hp.2.1).2.1
      rw [← hFx] at this
      exact this
    have hnow : nowC T (endC wHd.length ⟨24, false, 0, 0⟩ i) = some 0 := by
      by_cases h16 : T.length < (endC wHd.length ⟨24, false, 0, 0⟩ i).pos + 16
      · exact nowC_short h16
      · obtain ⟨b1, b2, b3, b4⟩ := head_more (S := T) (q := endC wHd.length ⟨24, false, 0, 0⟩ i) (F.drop (F.length - 1)) (by omega)
        rw [← hFT] at b1 b2 b3 b4
        unfold nowC
        rw [if_neg h16, ← b4, m2, if_neg (by decide), ← b2, hcap, if_pos (by rw [hp.1, wHd_len]; omega)]
    have hTi : ∃ post, T = wHd ++ (i.flatMap wRec ++ post) := by
      refine ⟨(wRec x).take ((wRec x).length - 1), ?_⟩
      rw [hT, hFx, List.append_nil, List.take_append]
      have e1 : (wHd ++ i.flatMap wRec ++ wRec x).length - 1 - (wHd ++ i.flatMap wRec).length = (wRec x).length - 1 := by simp only [List.length_append]; omega
      rw [e1, List.take_of_length_le (by simp only [List.length_append]; omega), List.append_assoc]
    obtain ⟨post, hTp⟩ := hTi
    have ha := write_all post i wHd ⟨24, false, 0, 0⟩ hi (by rw [wHd_len]) rfl (by simp; omega)
    rw [← hTp, allC_stop hnow] at ha
    simp only [List.append_nil] at ha
    have hf : feedC newC T = (i, 0, ⟨T, some (endC wHd.length ⟨24, false, 0, 0⟩ i), false⟩) := by
      have hc := headC_write (i.flatMap wRec ++ post)
      rw [← hTp] at hc
      rw [feed_new, if_neg (by omega), hc]
      simp only
      rw [ha]
      rfl
    unfold readC
    rw [hf]
    simp only
    rw [if_neg (by decide)]
    have hcl : closeC ⟨T, some (endC wHd.length ⟨24, false, 0, 0⟩ i), false⟩ = 1 := by
      unfold closeC
      rw [if_neg (by simp)]
      simp only
      rw [if_pos (by rw [hp.1, wHd_len]; omega)]
    rw [hcl, if_pos (by decide)]
/-! ### Merging -/
def mergeC : List CRec → List CRec → List CRec
  | [], b => b
  | x :: a, [] => x :: a
  | x :: a, y :: b => if x.tm ≤ y.tm then x :: mergeC a (y :: b) else y :: mergeC (x :: a) b
termination_by a b => a.length + b.length
theorem merge_nil (a : List CRec) : mergeC a [] = a := by cases a <;> simp [mergeC]
theorem nil_merge (a : List CRec) : mergeC [] a = a := by simp [mergeC]
theorem merge_len : ∀ (a b : List CRec), (mergeC a b).length = a.length + b.length
  | [], b => by rw [nil_merge]; simp
  | x :: a, [] => by rw [merge_nil]; simp
  | x :: a, y :: b => by
    rw [mergeC]
    split
    · rw [List.length_cons, merge_len a (y :: b)]; simp only [List.length_cons]; omega
    · rw [List.length_cons, merge_len (x :: a) b]; simp only [List.length_cons]; omega
termination_by a b => a.length + b.length
/-- Times ascend from t on. -/
def ascC : Int → List CRec → Prop
  | _, [] => True
  | t, x :: r => t ≤ x.tm ∧ ascC x.tm r
theorem asc_weak {t u : Int} (h : t ≤ u) : ∀ {l : List CRec}, ascC u l → ascC t l
  | [], _ => trivial
  | x :: r, hh => ⟨Int.le_trans h hh.1, hh.2⟩
theorem merge_asc : ∀ (a b : List CRec) (t : Int), ascC t a → ascC t b → ascC t (mergeC a b)
  | [], b, t, _, hb => by rw [nil_merge]; exact hb
  | x :: a, [], t, ha, _ => by rw [merge_nil]; exact ha
  | x :: a, y :: b, t, ha, hb => by
    rw [mergeC]
    split
    · rename_i h
      exact ⟨ha.1, merge_asc a (y :: b) x.tm ha.2 ⟨h, hb.2⟩⟩
    · rename_i h
      exact ⟨hb.1, merge_asc (x :: a) b y.tm ⟨by omega, ha.2⟩ hb.2⟩
termination_by a b => a.length + b.length
end Go.Proofs.Ytafpmlikocchpaa
