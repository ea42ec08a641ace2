/- Contracts of the program of layer 5: follower and the closure that it makes. -/
import Derived.Test.YtlmjfbgigfmdhaaIntCnt
import Derived.Laws.OwnMore
namespace Go.Proofs.Ytlmjfbgigfmdhaa
open Go.ChangeShapes Go.WideShapes Go.ChangeAt Go.RowKit
set_option linter.unusedVariables false

/-- The box of a follower: what is left of the set. -/
def FB (w : World) (b : Nat) (A : Option Addr) (n cap : Nat) : Prop := Cells w b 22 #[.slice A n cap]
theorem FB.c {w : World} {b n cap : Nat} {A : Option Addr} (h : FB w b A n cap) : w.cell? ⟨b, 0, none⟩ = some (.slice A n cap) := (Cells.cell h 0).trans rfl
theorem FB.f {w : World} {b n cap : Nat} {A : Option Addr} (h : FB w b A n cap) : w.frozen? ⟨b, 0, none⟩ = false := Cells.frozen h 0
theorem FB.lt {w : World} {b n cap : Nat} {A : Option Addr} (h : FB w b A n cap) : b < w.heap.size := Cells.lt h
theorem FB.set {w : World} {b n cap : Nat} {A : Option Addr} (h : FB w b A n cap) (A' : Option Addr) (n' cap' : Nat) : FB (w.setCell ⟨b, 0, none⟩ (.slice A' n' cap')) b A' n' cap' := Cells.set h 0 _
theorem FB.only {w w' : World} {b n cap : Nat} {A : Option Addr} {row : Option Nat} (h : FB w b A n cap) (hg : w.grownBy w' row) (hne : some b ≠ row) : FB w' b A n cap := Cells.only h hg hne
/-- What is left of a set behind the numbers below n. -/
def dropB : List Spn → Int → List Spn
  | [], _ => []
  | s :: r, n => if s.hi < n then dropB r n else s :: r
theorem dropB_any (n : Int) : ∀ (l : List Spn) (m : Int), n ≤ m → anyS (dropB l n) m = anyS l m
  | [], m, h => rfl
  | s :: r, m, h => by
    rw [dropB]
    split
    · rw [dropB_any n r m h, anyS_cons, show inS s m = false by unfold inS; simp; omega, Bool.false_or]
    · rfl
theorem dropB_ok {M : Int} (n : Int) : ∀ (l : List Spn) (c : Int), okL M c l → okL M c (dropB l n)
  | [], _, h => h
  | s :: r, c, h => by
    rw [dropB]
    split
    · exact okL_mono (by have h1 := h.1; have h2 := h.2.1; omega) (dropB_ok n r _ h.2.2.2)
    · exact h
/-- Does what is left begin at n or below? -/
def hereB : List Spn → Int → Bool
  | [], _ => false
  | s :: _, n => decide (s.lo ≤ n)
theorem dropB_here {M : Int} (n : Int) : ∀ (l : List Spn) (c : Int), okL M c l → anyS l n = hereB (dropB l n) n
  | [], _, _ => rfl
  | s :: r, c, h => by
    by_cases hs : s.hi < n
    · rw [dropB, if_pos hs, anyS_cons, show inS s n = false by unfold inS; simp; omega, Bool.false_or]
      exact dropB_here n r _ h.2.2.2
    · rw [dropB, if_neg hs, anyS_cons]
      have hr : anyS r n = false := by
        cases ha : anyS r n with
        | false => rfl
        | true => have := okL_ge h.2.2.2 ha; omega
      rw [hr, Bool.or_false]
      unfold inS hereB
      rw [show decide (n ≤ s.hi) = true by simp; omega, Bool.and_true]
theorem SpL.only {w w' : World} {A : Option Addr} {l : List Spn} {b : Nat} (h : SpL w A l) (hg : w.grownBy w' (some b)) (hne : ∀ a, A = some a → a.block ≠ b) : SpL w' A l := fun hp => by
  obtain ⟨g, o, e, hg1, hc⟩ := h hp
  have hgb : g ≠ b := hne _ e
  have hB := hg.block g hg1 (fun e => hgb (Option.some.inj e))
  refine ⟨g, o, e, Nat.lt_of_lt_of_le hg1 hg.size, fun i s hs => ?_⟩
  rw [World.cell?_of_block (w := w) (w' := w') (a := ⟨g, o + i * 2, none⟩) hB, World.cell?_of_block (w := w) (w' := w') (a := ⟨g, o + i * 2 + 1, none⟩) hB]
  exact hc i s hs
theorem grownBy_set {w : World} {b : Nat} (u : Value) : w.grownBy (w.setCell ⟨b, 0, none⟩ u) (some b) := ⟨rfl, rfl, rfl, by simp, fun k _ hk => heap_setCell_other w ⟨b, 0, none⟩ k u (fun e => hk (by simp [e]))⟩
theorem grownBy_trans {w w1 w2 : World} {row : Option Nat} (h1 : w.grownBy w1 row) (h2 : w1.grownBy w2 row) : w.grownBy w2 row := ⟨h2.os.trans h1.os, h2.tape.trans h1.tape, h2.output.trans h1.output, Nat.le_trans h1.size h2.size, fun k hk hne => (h2.block k (Nat.lt_of_lt_of_le hk h1.size) hne).trans (h1.block k hk hne)⟩
theorem grownBy_refl (w : World) (row : Option Nat) : w.grownBy w row := ⟨rfl, rfl, rfl, Nat.le_refl _, fun _ _ _ => rfl⟩
def lenAt (w : World) (b : Nat) : Nat := match (w.cell? ⟨b, 0, none⟩).getD undef with
  | .slice _ n _ => n
  | _ => 0
theorem FB.lenAt {w : World} {b n cap : Nat} {A : Option Addr} (h : FB w b A n cap) : lenAt w b = n := by
  unfold Go.Proofs.Ytlmjfbgigfmdhaa.lenAt
  rw [h.c]; rfl
theorem SpL.tail {w : World} {g o : Nat} {s : Spn} {r : List Spn} (h : SpL w (some ⟨g, o, none⟩) (s :: r)) : SpL w (some ⟨g, o + 2, none⟩) r := fun hp => by
  obtain ⟨g', o', e, hg, hc⟩ := h (by simp)
  obtain ⟨rfl, rfl⟩ : g = g' ∧ o = o' := by simp only [Option.some.injEq, Addr.mk.injEq] at e; exact ⟨e.1, e.2.1⟩
  refine ⟨g, o + 2, rfl, hg, fun i t ht => ?_⟩
  have := hc (i + 1) t (by simpa using ht)
  rw [show o + (i + 1) * 2 = o + 2 + i * 2 by omega] at this
  exact this
theorem pfollower_any (A : Option Addr) (n cap : Nat) (w : World) :
    Calls Try.prog 47 #[.slice A n cap] w fun e w' => e = .returned (.func (.func 59) #[] #[.pointer (some ⟨w.heap.size, 0, none⟩)]) ∧ w' = w.alloc (.cells #[.slice A n cap] 22) := by
  go_enter Try.func47, Try.ntmps47
  go_wp2_with fail
  go_ret
  exact ⟨rfl, rfl⟩
/-- What the closure leaves: the box holds what is left; the answer. w0: the world in which the set lies. -/
def FolP (w0 w : World) (b : Nat) (R : List Spn) (n : Int) (e : Ending) (w' : World) : Prop :=
  ∃ A cap, FB w' b A (dropB R n).length cap ∧ SpL w0 A (dropB R n) ∧ (dropB R n).length ≤ cap ∧ cap ≤ maxLen ∧ e = .returned (.bool (anyS R n)) ∧ w.grownBy w' (some b) ∧ Below w0.heap.size w0 w'

set_option maxRecDepth 20000 in
theorem pfol_any (A : Option Addr) (cap b : Nat) (R : List Spn) (c n : Int) (w0 w : World) (hb : FB w b A R.length cap) (hS : SpL w0 A R) (hB0 : Below w0.heap.size w0 w) (hb0 : w0.heap.size ≤ b) (hok : okL 4294967296 c R) (hl : R.length ≤ 1000000) (hcap : R.length ≤ cap) (hc9 : cap ≤ maxLen) :
    Calls Try.prog 59 #[.int .i64 n, .pointer (some ⟨b, 0, none⟩)] w (FolP w0 w b R n) := by
  have HB := Lib.hid hb
  have HS := Lib.hid hS
  have H0 := Lib.hid hB0
  have HOK := Lib.hid hok
  have HG := Lib.hid (grownBy_refl w (some b))
  obtain ⟨n0, hn0⟩ : ∃ n0, n0 = R.length := ⟨_, rfl⟩
  have HN := Lib.hid hn0
  unfold maxLen at hc9
  rw [← hn0] at HB hl hcap
  clear hb hS hB0 hok hn0
  go_enter Try.func59, Try.ntmps59
  go_wp2_with fail
  go_loopw [4] (fun _ wr => ∃ R' : List Spn, ∃ q cap' : Nat, ∃ A' : Option Addr, q ≤ cap' ∧ cap' ≤ 9223372036854775807 ∧ q ≤ 1000000 ∧ Hid (q = R'.length) ∧ Hid (FB wr b A' q cap') ∧ Hid (SpL w0 A' R') ∧ Hid (Below w0.heap.size w0 wr) ∧ Hid (dropB R' n = dropB R n) ∧ Hid (w.grownBy wr (some b))) (fun _ wr => lenAt wr b)
  case atStart => exact ⟨R, n0, cap, A, hcap, by omega, hl, HN, HB, HS, H0, Lib.hid rfl, HG⟩
  case round =>
    clear HB HS H0 HN HG hl hcap hc9
    obtain ⟨R', q, cap', A', hq, hc9, hq6, HQ, HB, HS, H0, HD, HG⟩ := hrel
    have b0 := HB.out.c
    have bf := HB.out.f
    cases R' with
    | nil =>
      obtain rfl : q = 0 := HQ.out
      have HA := Lib.hid (show anyS R n = false by rw [dropB_here n R c HOK.out, ← HD.out]; rfl)
      have HR := Lib.hid (show dropB R n = [] by rw [← HD.out]; rfl)
      have HC9 := Lib.hid hc9
      clear HD HQ
      go_wp2_with fail
      go_ret
      refine ⟨A', cap', ?_, ?_, ?_, HC9.out, ?_, HG.out, H0.out⟩
      · rw [HR.out]; exact HB.out
      · rw [HR.out]; exact HS.out
      · rw [HR.out]; exact Nat.zero_le _
      · rw [HA.out]; rfl
    | cons s r =>
      obtain ⟨g, o, rfl, hg, hc⟩ := (HS.out.kept H0.out) (by simp)
      have hgb : g ≠ b := by
        obtain ⟨g', o', e, hg', _⟩ := HS.out (by simp)
        obtain ⟨rfl, rfl⟩ : g = g' ∧ o = o' := by simp only [Option.some.injEq, Addr.mk.injEq] at e; exact ⟨e.1, e.2.1⟩
        omega
      obtain ⟨c0, c1⟩ := hc 0 s rfl
      obtain ⟨slo, shi⟩ := s
      simp only [Nat.zero_mul, Nat.add_zero] at c0 c1
      obtain ⟨q1, hq1⟩ : ∃ q1, q1 = r.length := ⟨_, rfl⟩
      obtain rfl : q = q1 + 1 := by rw [HQ.out, hq1]; rfl
      have hqi : (0 : Int) < ((q1 + 1 : Nat) : Int) := by omega
      clear hc
      by_cases h1 : shi < n
      · have d1 : decide (shi < n) = true := by simpa using h1
        have HT := Lib.hid (HS.out.tail)
        have HQ1 := Lib.hid hq1
        have HDD := Lib.hid (show dropB r n = dropB R n by rw [← HD.out, dropB, if_pos h1])
        obtain ⟨A2, hA2⟩ : ∃ A2, A2 = (if cap' = 1 then some (⟨g, o, none⟩ : Addr) else some ⟨g, o + 2, none⟩) := ⟨_, rfl⟩
        have HS2 := Lib.hid (show SpL w0 A2 r from fun hp => by
          have : cap' ≠ 1 := by omega
          rw [if_neg this] at hA2
          rw [hA2]
          exact HT.out hp)
        have HB2 := Lib.hid (HB.out.set A2 q1 (cap' - 1))
        have HG2 := Lib.hid (grownBy_set (w := wr) (b := b) (.slice A2 q1 (cap' - 1)))
        have H02 := Lib.hid (H0.out.setCell (p := ⟨b, 0, none⟩) hb0 (.slice A2 q1 (cap' - 1)))
        have HG3 := Lib.hid (grownBy_trans HG.out HG2.out)
        have HL := Lib.hid (show lenAt (wr.setCell ⟨b, 0, none⟩ (.slice A2 q1 (cap' - 1))) b < lenAt wr b by rw [HB2.out.lenAt, HB.out.lenAt]; omega)
        have HCAP := Lib.hid (show q1 ≤ cap' - 1 ∧ cap' - 1 ≤ 9223372036854775807 ∧ q1 ≤ 1000000 by omega)
        go_wp2_with fail
        rw [← hA2, ← hq1]
        exact ⟨⟨r, q1, cap' - 1, A2, HCAP.out.1, HCAP.out.2.1, HCAP.out.2.2, HQ1, HB2, HS2, H02, HDD, HG3⟩, HL.out⟩
      · have d1 : decide (shi < n) = false := by simpa using h1
        have HR := Lib.hid (show dropB R n = ⟨slo, shi⟩ :: r by rw [← HD.out, dropB, if_neg h1])
        have HA := Lib.hid (show anyS R n = decide (slo ≤ n) by rw [dropB_here n R c HOK.out, HR.out]; rfl)
        have HQL := Lib.hid (show q1 + 1 = (dropB R n).length by rw [HR.out, hq1]; rfl)
        have HC9 := Lib.hid (And.intro hq hc9)
        clear HD HQ
        go_wp2_with fail
        go_ret
        refine ⟨some ⟨g, o, none⟩, cap', ?_, ?_, ?_, HC9.out.2, ?_, HG.out, H0.out⟩
        · rw [← HQL.out]; exact HB.out
        · rw [HR.out]; exact HS.out
        · rw [← HQL.out]; exact HC9.out.1
        · rw [HA.out]; rfl
end Go.Proofs.Ytlmjfbgigfmdhaa
