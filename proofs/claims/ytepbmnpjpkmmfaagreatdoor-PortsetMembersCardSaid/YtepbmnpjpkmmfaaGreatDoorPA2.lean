/- Contracts of the functions, part 2: IntLeast, IntNorm, IntCnt, IntLay, IntPVal, IntComp, IntRComb, IntEdg, IntFol, IntCombM. -/
import Derived.Shelf.SlLaysF0
import Derived.Shelf.SlLaysC2
import Derived.Shelf.SlLaysH0
import Derived.Shelf.SlLaysM
import Derived.Test.YtepbmnpjpkmmfaaGreatDoorProg
import Derived.Shelf.SlicesQ.IndexFunc
import Derived.BigQuiet
import Derived.Laws.AppendOwnNone
import Derived.Maps.AppendAt
import Derived.Deep.RegionHeld3
import Derived.Shelf.SortM.Plain
import Derived.Shelf.SortM.SortNone
import Derived.Laws.OwnMore
import Derived.Test.YtepbmnpjpkmmfaaGreatDoorPA1
/- Contract of the reference of layer 5: least. -/
namespace Go.Proofs.YtepbmnpjpkmmfaaGreatDoor
open Go.ChangeShapes Go.WideShapes Go.ChangeAt Go.RowKit
set_option linter.unusedVariables false

/-- How many spans end behind h. -/
def above (l : List Spn) (h : Int) : Nat := l.countP fun s => decide (h < s.hi)
theorem above_le (l : List Spn) {a b : Int} (h : a ≤ b) : above l b ≤ above l a := by
  unfold above
  apply List.countP_mono_left
  intro s _ hs
  simp only [decide_eq_true_eq] at hs ⊢
  omega
theorem above_lt : ∀ {l : List Spn} {s : Spn} {h : Int}, s ∈ l → h < s.hi → above l s.hi < above l h
  | x :: r, s, h, hm, hs => by
    have hle := above_le r (show h ≤ s.hi by omega)
    unfold above at hle ⊢
    rw [List.countP_cons, List.countP_cons]
    rcases List.mem_cons.1 hm with rfl | hm
    · simp only [Int.lt_irrefl, decide_false, hs, decide_true]
      simp
      omega
    · have ih := above_lt hm hs
      unfold above at ih
      by_cases h1 : s.hi < x.hi
      · have h2 : h < x.hi := by omega
        simp [h1, h2]; omega
      · simp only [h1, decide_false]
        simp
        split <;> omega
/-- The two stores of a span. -/
def sset (w : World) (g : Nat) (lo hi : Int) : World := (w.setCell ⟨g, 0, none⟩ (.int .i64 lo)).setCell ⟨g, 1, none⟩ (.int .i64 hi)
theorem SB2.set {w : World} {g : Nat} {a b : Int} (h : SB2 w g a b) (lo hi : Int) : SB2 (sset w g lo hi) g lo hi := by
  have h0 := Cells.set h 0 (.int .i64 lo)
  have h1 := Cells.set h0 1 (.int .i64 hi)
  exact h1
theorem SB2.set1 {w : World} {g : Nat} {a b : Int} (h : SB2 w g a b) (hi : Int) : SB2 (w.setCell ⟨g, 1, none⟩ (.int .i64 hi)) g a hi := Cells.set h 1 (.int .i64 hi)
theorem sset_below {B : Nat} {a w : World} {g : Nat} (h : Below B a w) (hg : B ≤ g) (lo hi : Int) : Below B a (sset w g lo hi) := (h.setCell hg _).setCell hg _
/-- The end that a box holds. -/
def hiAt (w : World) (g : Nat) : Int := intOf ((w.cell? ⟨g, 1, none⟩).getD undef)
theorem SB2.hiAt {w : World} {g : Nat} {a b : Int} (h : SB2 w g a b) : hiAt w g = b := by
  unfold Go.Proofs.YtepbmnpjpkmmfaaGreatDoor.hiAt
  rw [h.c1]; rfl
/-- The reference's 'least' under way: its result's box and the box of x. -/
structure LB (w wr : World) (lo hi : Int) : Prop where
  r : SB2 wr w.heap.size 0 0
  x : SB2 wr (w.heap.size + 1) lo hi
  b : Below w.heap.size w wr
theorem LB.drewN {w wr : World} {lo hi : Int} (h : LB w wr lo hi) (q : Nat) : LB w (wr.drewN q) lo hi := ⟨h.r, h.x, below_drewN5 h.b q⟩
theorem SpL.at_ {w w' : World} {g o : Nat} {l : List Spn} {k : Nat} {s : Spn} (h : SpL w (some ⟨g, o, none⟩) l) (hs : l[k]? = some s) (hb : Below w.heap.size w w') : w'.cell? ⟨g, o + k * 2, none⟩ = some (.int .i64 s.lo) ∧ w'.cell? ⟨g, o + k * 2 + 1, none⟩ = some (.int .i64 s.hi) := by
  obtain ⟨g', o', e, hg, hc⟩ := (h.kept hb) (Nat.lt_of_le_of_lt (Nat.zero_le _) (List.getElem?_eq_some_iff.1 hs).1)
  obtain ⟨rfl, rfl⟩ : g = g' ∧ o = o' := by simp only [Option.some.injEq, Addr.mk.injEq] at e; exact ⟨e.1, e.2.1⟩
  exact hc k s hs
theorem LB.set {w wr : World} {lo hi : Int} (h : LB w wr lo hi) (a b : Int) : LB w (sset wr (w.heap.size + 1) a b) a b := ⟨((Below.heap_setCell _ _ _ _ (by show w.heap.size ≠ w.heap.size + 1; omega)).trans (Below.heap_setCell _ _ _ _ (by show w.heap.size ≠ w.heap.size + 1; omega))).trans h.r, h.x.set a b, sset_below h.b (by omega) a b⟩
theorem LB.set1 {w wr : World} {lo hi : Int} (h : LB w wr lo hi) (b : Int) : LB w (wr.setCell ⟨w.heap.size + 1, 1, none⟩ (.int .i64 b)) lo b := ⟨(Below.heap_setCell _ _ _ _ (by show w.heap.size ≠ w.heap.size + 1; omega)).trans h.r, h.x.set1 b, h.b.setCell (by show w.heap.size ≤ w.heap.size + 1; omega) _⟩
theorem LB.start (w : World) (lo hi : Int) : LB w ((w.alloc (.cells #[.int .i64 0, .int .i64 0] 34)).alloc (.cells #[.int .i64 lo, .int .i64 hi] 34)) lo hi := by
  have h1 := sb2_new w 0 0
  have hb1 := below_alloc5 w (.cells #[.int .i64 0, .int .i64 0] 34)
  have hs : (w.alloc (.cells #[.int .i64 0, .int .i64 0] 34)).heap.size = w.heap.size + 1 := by simp
  generalize w.alloc (.cells #[.int .i64 0, .int .i64 0] 34) = w1 at *
  have h2 := sb2_new w1 lo hi
  rw [hs] at h2
  exact ⟨h1.kept (below_alloc5 w1 _) h1.lt, h2, hb1.alloc (by omega) _⟩
theorem LB.kept {w wr w' : World} {lo hi : Int} (h : LB w wr lo hi) (hb : Below (w.heap.size + 2) wr w') : LB w w' lo hi := ⟨h.r.kept hb (by omega), h.x.kept hb (by omega), h.b.trans (hb.mono (by omega))⟩
theorem own_of_blocks5 {w w' : World} {base : Nat} {e : TypeId} {size : Nat} {v : Value} {n : Nat} {xs : List Value} (h : w.ownsRow base e size v n xs) (hb : ∀ b, base ≤ b → b < w.heap.size → w'.heap[b]? = w.heap[b]?) : w'.ownsRow base e size v n xs := by
  refine ⟨h.1, ?_⟩
  rcases h.2 with hn | ⟨g, cap, cur, hv, hg, hh, rest⟩
  · exact .inl hn
  · exact .inr ⟨g, cap, cur, hv, hg, (hb g hg (Array.getElem?_eq_some_iff.1 hh).1).trans hh, rest⟩
theorem own_mono5 {w : World} {base base' : Nat} {e : TypeId} {size : Nat} {v : Value} {n : Nat} {xs : List Value} (h : w.ownsRow base e size v n xs) (hb : base' ≤ base) : w.ownsRow base' e size v n xs := by
  refine ⟨h.1, ?_⟩
  rcases h.2 with hn | ⟨g, cap, cur, hv, hg, rest⟩
  · exact .inl hn
  · exact .inr ⟨g, cap, cur, hv, Nat.le_trans hb hg, rest⟩
theorem sset_own {w : World} {base g : Nat} {e : TypeId} {size : Nat} {v : Value} {n : Nat} {xs : List Value} (h : w.ownsRow base e size v n xs) (hg : g < base) (lo hi : Int) : (sset w g lo hi).ownsRow base e size v n xs :=
  own_of_blocks5 h fun b hb _ => (Below.heap_setCell (w.setCell ⟨g, 0, none⟩ _) ⟨g, 1, none⟩ _ b (by show b ≠ g; omega)).trans (Below.heap_setCell w ⟨g, 0, none⟩ _ b (by show b ≠ g; omega))
theorem filt_go {l : List Spn} {k : Nat} {s : Spn} (hs : l[k]? = some s) (f : Spn → Bool) : (l.take (k + 1)).filter f = (l.take k).filter f ++ if f s = true then [s] else [] := by
  obtain ⟨hk, e⟩ := List.getElem?_eq_some_iff.1 hs
  rw [List.take_succ_eq_append_getElem hk, e, List.filter_append]
  congr 1
  simp [List.filter_cons]
theorem own_empty5 (w : World) {base : Nat} (h : base ≤ w.heap.size) : (w.alloc (.cells #[] 34)).ownsRow base 34 2 (.slice (some ⟨w.heap.size, 0, none⟩) 0 0) 0 (spCells []) :=
  ⟨rfl, .inr ⟨w.heap.size, 0, #[], rfl, h, heap_alloc_new w _, Nat.le_refl _, Nat.zero_le _, rfl, rfl⟩⟩
theorem take_mem {l : List Spn} {k : Nat} {s t : Spn} (hs : l[k]? = some s) (ht : t ∈ l.take (k + 1)) : t ∈ l.take k ∨ t = s := by
  obtain ⟨hk, e⟩ := List.getElem?_eq_some_iff.1 hs
  rw [List.take_succ_eq_append_getElem hk, e, List.mem_append, List.mem_singleton] at ht
  exact ht
/-- The measure of the reference's growing: how many spans end behind x, and whether the last round grew it. -/
def mz (l : List Spn) (ag : Value) (h : Int) : Nat := 2 * above l h + match ag with | .bool true => 1 | _ => 0
theorem mz_le (l : List Spn) (ag : Value) (h : Int) : mz l ag h ≤ 2 * above l h + 1 := by
  unfold mz
  split <;> omega
theorem mz_true (l : List Spn) (h : Int) : mz l (.bool true) h = 2 * above l h + 1 := rfl
theorem mz_false (l : List Spn) (h : Int) : mz l (.bool false) h = 2 * above l h := rfl
/-- Spans between 0 and M. -/
def good (M : Int) (l : List Spn) : Prop := ∀ s ∈ l, 0 ≤ s.lo ∧ s.lo ≤ s.hi ∧ s.hi ≤ M
/-- What 'least' answers and leaves. -/
def LeastP (w : World) (l : List Spn) (e : Ending) (w' : World) : Prop :=
  ∃ x : Spn, ∃ A cap, Least l x ∧ x.hi ≤ 4294967296 ∧ e = .returned (.tuple #[.agg #[.int .i64 x.lo, .int .i64 x.hi], .slice A (l.filter fun s => decide (x.hi < s.lo)).length cap]) ∧ w'.ownsRow w.heap.size 34 2 (.slice A (l.filter fun s => decide (x.hi < s.lo)).length cap) (l.filter fun s => decide (x.hi < s.lo)).length (spCells (l.filter fun s => decide (x.hi < s.lo))) ∧ Below w.heap.size w w'

set_option maxHeartbeats 400000 in
set_option maxRecDepth 20000 in
theorem rleast_any (A : Option Addr) (cap : Nat) (l : List Spn) (w : World) (h : SpL w A l) (hl : l.length ≤ 1000000) (hl0 : 0 < l.length) (hG : good 4294967296 l) :
    Calls Tryz.prog 88 #[.slice A l.length cap] w (LeastP w l) := by
  obtain ⟨n, hn⟩ : ∃ n, n = l.length := ⟨_, rfl⟩
  have hn6 : n ≤ 1000000 := by omega
  have hn0 : 0 < n := by omega
  rw [← hn]
  obtain ⟨g, o, rfl, hg, hc⟩ := h hl0
  obtain ⟨s0, hs0⟩ : ∃ s, l[0]? = some s := ⟨l[0], List.getElem?_eq_getElem hl0⟩
  obtain ⟨c0, c1⟩ := hc 0 s0 hs0
  have hm0 : s0 ∈ l := List.mem_of_getElem? hs0
  have hni : (0 : Int) < (n : Int) := by omega
  rw [Nat.zero_mul, Nat.add_zero] at c0 c1
  generalize hlo : s0.lo = lo0 at *
  generalize hhi : s0.hi = hi0 at *
  have H := Lib.hid h
  have HN := Lib.hid hn
  have HG := Lib.hid hG
  have HM0 := Lib.hid hm0
  have HL0 := Lib.hid hlo
  have HH0 := Lib.hid hhi
  clear h hn hl hl0 hG hc hm0 hlo hhi hs0
  go_enter Tryz.func88, Tryz.ntmps88
  go_wp2_with fail
  have hLB := LB.start w lo0 hi0
  generalize (w.alloc (.cells #[.int .i64 0, .int .i64 0] 34)).alloc (.cells #[.int .i64 lo0, .int .i64 hi0] 34) = w1 at *
  have HLB := Lib.hid hLB
  clear hLB c0 c1
  go_loopw [5] (fun i wr => ∃ k : Nat, ∃ lo hi : Int, k ≤ n ∧ i = .int .i64 k ∧ Hid (LB w wr lo hi) ∧ Hid ((⟨lo, hi⟩ : Spn) ∈ l) ∧ Hid (∀ s ∈ l.take k, lo ≤ s.lo)) (fun i wr => n - (intOf i).toNat)
  case atStart => exact ⟨0, lo0, hi0, by omega, rfl, HLB, (by rw [← HL0.out, ← HH0.out]; exact HM0.out), (by intro s hs; simp at hs)⟩
  case round =>
    obtain ⟨k, lo, hi, hk, rfl, HB, HIN, HLOW⟩ := hrel
    clear HLB HL0 HH0 HM0
    by_cases hlt : k < n
    · obtain ⟨s, hget⟩ : ∃ s, l[k]? = some s := ⟨l[k]'(by have := HN.out; omega), List.getElem?_eq_getElem _⟩
      have HC := Lib.hid (fun w' (hb : Below w.heap.size w w') => H.out.at_ hget hb)
      have hki : (k : Int) < (n : Int) := by omega
      have hki0 : (0 : Int) ≤ (k : Int) := by omega
      have hsm : s ∈ l := List.mem_of_getElem? hget
      have hstep : ∀ m : Int, m ≤ s.lo → (∀ t ∈ l.take k, m ≤ t.lo) → ∀ t ∈ l.take (k + 1), m ≤ t.lo := fun m h1 h2 t ht => by
        rcases take_mem hget ht with h | h
        · exact h2 t h
        · rw [h]; exact h1
      obtain ⟨slo, shi⟩ := s
      have HSM := Lib.hid hsm
      have HST := Lib.hid hstep
      clear hget hsm hstep
      obtain ⟨c0, c1⟩ := HC.out wr HB.out.b
      have x0 := HB.out.x.c0
      have x1 := HB.out.x.c1
      by_cases hless : slo < lo
      · have d1 : decide (slo < lo) = true := by simpa using hless
        go_wp2_with fail
        go_quiet (fail)
        have HB2 := Lib.hid (HB.out.drewN nq)
        clear HB x0 x1 c0 c1
        generalize wr.drewN nq = w2 at *
        obtain ⟨c0, c1⟩ := HC.out w2 HB2.out.b
        have f0 := HB2.out.x.f 0
        have f1 := HB2.out.x.f 1
        have x0 := HB2.out.x.c0
        have x1 := HB2.out.x.c1
        go_wp2_with fail
        go_round
        case rel => exact ⟨k + 1, slo, shi, by omega, by go_num, Lib.hid (HB2.out.set slo shi), HSM, HST.out slo (by omega) (fun t ht => by have := HLOW.out t ht; omega)⟩
        case measure => simp [intOf]; omega
      · have d1 : decide (slo < lo) = false := by simpa using hless
        go_wp2_with fail
        go_quiet (fail)
        have HB2 := Lib.hid (HB.out.drewN nq)
        clear HB x0 x1 c0 c1
        generalize wr.drewN nq = w2 at *
        go_wp2_with fail
        go_round
        case rel => exact ⟨k + 1, lo, hi, by omega, by go_num, HB2, HIN, HST.out lo (by omega) HLOW.out⟩
        case measure => simp [intOf]; omega
    · have hkn : k = l.length := by have := HN.out; omega
      have hlow : ∀ s ∈ l, lo ≤ s.lo := by
        have := HLOW.out
        rwa [hkn, List.take_length] at this
      have hmem := HIN.out
      obtain ⟨hg1, hg2, hg3⟩ := HG.out _ hmem
      simp only at hg1 hg2 hg3
      have hcov : ∀ m, lo ≤ m → m ≤ hi → anyS l m = true := fun m h1 h2 => (anyS_iff l m).2 ⟨_, hmem, h1, h2⟩
      have HL := Lib.hid hlow
      have HC := Lib.hid hcov
      have HR := Lib.hid (show lo ≤ hi ∧ hi ≤ 4294967296 ∧ 0 ≤ lo from ⟨hg2, hg3, hg1⟩)
      have hd : decide ((k : Int) < (n : Int)) = false := by simp; omega
      clear hkn hlow hmem hg1 hg2 hg3 hcov HLOW HIN
      go_wp2_with fail
      clear hd hlt hk
      generalize hi = hi1 at *
      go_loopw [6, 7] (fun ag c7 wr => ∃ c : Nat, ∃ hi : Int, ag = .bool (decide (0 < c)) ∧ Hid (LB w wr lo hi) ∧ Hid (∀ m, lo ≤ m → m ≤ hi → anyS l m = true) ∧ Hid (lo ≤ hi ∧ hi ≤ 4294967296 ∧ 0 ≤ lo) ∧ Hid (c = 0 → ∀ s ∈ l, s.hi ≤ hi ∨ hi + 2 ≤ s.lo)) (fun ag _ wr => mz l ag (hiAt wr (w.heap.size + 1)))
      case atStart => exact ⟨1, hi1, rfl, HB, HC, HR, Lib.hid (fun h => absurd h (by decide))⟩
      case round =>
        clear HB HC HR hi1
        obtain ⟨c, hi, rfl, HB, HC, HR, HF⟩ := hrel
        by_cases hc0 : 0 < c
        · have hd : decide (0 < c) = true := by simpa using hc0
          rw [hd]
          have HM := Lib.hid (show mz l (.bool true) (hiAt wr (w.heap.size + 1)) = 2 * above l hi + 1 by rw [HB.out.x.hiAt]; rfl)
          clear HF hc0 hd
          go_wp2_with fail
          go_loopw [6, 7] (fun ag i wr2 => ∃ k c : Nat, ∃ hj : Int, k ≤ n ∧ i = .int .i64 k ∧ ag = .bool (decide (0 < c)) ∧ Hid (LB w wr2 lo hj) ∧ Hid (∀ m, lo ≤ m → m ≤ hj → anyS l m = true) ∧ Hid (lo ≤ hj ∧ hj ≤ 4294967296 ∧ 0 ≤ lo) ∧ Hid (c = 0 → hj = hi ∧ ∀ s ∈ l.take k, s.hi ≤ hi ∨ hi + 2 ≤ s.lo) ∧ Hid (0 < c → above l hj < above l hi) ∧ Hid (hi ≤ hj)) (fun _ i _ => n - (intOf i).toNat)
          case atStart => exact ⟨0, 0, hi, by omega, rfl, rfl, HB, HC, HR, Lib.hid (fun _ => ⟨rfl, fun s hs => by simp at hs⟩), Lib.hid (fun h => absurd h (by decide)), Lib.hid (Int.le_refl _)⟩
          case round =>
            clear HB HC HR
            obtain ⟨k, c, hj, hk, rfl, rfl, HB, HC, HR, HF, HA, HIJ⟩ := hrel
            by_cases hlt : k < n
            · obtain ⟨s, hget⟩ : ∃ s, l[k]? = some s := ⟨l[k]'(by have := HN.out; omega), List.getElem?_eq_getElem _⟩
              have hki : (k : Int) < (n : Int) := by omega
              have hki0 : (0 : Int) ≤ (k : Int) := by omega
              have hsm : s ∈ l := List.mem_of_getElem? hget
              obtain ⟨hr1, hr2, hr3⟩ := HR.out
              obtain ⟨c0, c1⟩ := H.out.at_ hget HB.out.b
              have HK1 := Lib.hid (fun w' (hb : Below w.heap.size w w') => H.out.at_ hget hb)
              have x0 := HB.out.x.c0
              have x1 := HB.out.x.c1
              have hw : IntKind.i64.wrap (hj + 1) = hj + 1 := IntWalk.i64_in _ (by omega)
              have HGT := Lib.hid hget
              have HSM := Lib.hid hsm
              obtain ⟨slo, shi⟩ := s
              have hgs := HG.out _ hsm
              simp only at c0 c1 hgs HK1
              clear hget hsm
              by_cases h1 : slo ≤ hj + 1
              · have d1 : decide (slo ≤ hj + 1) = true := by simpa using h1
                by_cases h2 : hj < shi
                · have d2 : decide (hj < shi) = true := by simpa using h2
                  have HC2 := Lib.hid (least_grow (x := ⟨lo, hj⟩) HSM.out HC.out h1 h2)
                  have HA2 := Lib.hid (above_lt (h := hi) HSM.out (by have := HIJ.out; show hi < shi; omega))
                  have HR2 := Lib.hid (show lo ≤ shi ∧ shi ≤ 4294967296 ∧ 0 ≤ lo from ⟨by omega, hgs.2.2, hr3⟩)
                  have HIJ2 := Lib.hid (show hi ≤ shi by have := HIJ.out; omega)
                  clear HF HGT HC HA HR HIJ
                  go_wp2_with fail
                  go_quiet (fail)
                  have HB2 := Lib.hid (HB.out.drewN nq)
                  clear HB x0 x1 c0 c1
                  generalize wr.drewN nq = w2 at *
                  obtain ⟨c0, c1⟩ := HK1.out w2 HB2.out.b
                  have f0 := HB2.out.x.f 0
                  have f1 := HB2.out.x.f 1
                  have x0 := HB2.out.x.c0
                  have x1 := HB2.out.x.c1
                  go_wp2_with fail
                  go_roundw
                  case rel => exact ⟨k + 1, 1, shi, by omega, by go_num, rfl, Lib.hid (HB2.out.set1 shi), HC2, HR2, Lib.hid (fun h => absurd h (by decide)), Lib.hid (fun _ => HA2.out), HIJ2⟩
                  case measure => simp [intOf]; omega
                · have d2 : decide (hj < shi) = false := by simpa using h2
                  have HF2 := Lib.hid (show c = 0 → hj = hi ∧ ∀ s ∈ l.take (k + 1), s.hi ≤ hi ∨ hi + 2 ≤ s.lo from fun h => ⟨(HF.out h).1, fun t ht => by
                    rcases take_mem HGT.out ht with h3 | h3
                    · exact (HF.out h).2 t h3
                    · rw [h3]; have := (HF.out h).1; left; show shi ≤ hi; omega⟩)
                  clear HF HGT
                  go_wp2_with fail
                  go_quiet (fail)
                  have HB2 := Lib.hid (HB.out.drewN nq)
                  clear HB x0 x1 c0 c1
                  generalize wr.drewN nq = w2 at *
                  go_wp2_with fail
                  go_roundw
                  case rel => exact ⟨k + 1, c, hj, by omega, by go_num, rfl, HB2, HC, HR, HF2, HA, HIJ⟩
                  case measure => simp [intOf]; omega
              · have d1 : decide (slo ≤ hj + 1) = false := by simpa using h1
                have HF2 := Lib.hid (show c = 0 → hj = hi ∧ ∀ s ∈ l.take (k + 1), s.hi ≤ hi ∨ hi + 2 ≤ s.lo from fun h => ⟨(HF.out h).1, fun t ht => by
                  rcases take_mem HGT.out ht with h3 | h3
                  · exact (HF.out h).2 t h3
                  · rw [h3]; have := (HF.out h).1; right; show hi + 2 ≤ slo; omega⟩)
                clear HF HGT
                go_wp2_with fail
                go_quiet (fail)
                have HB2 := Lib.hid (HB.out.drewN nq)
                clear HB x0 x1 c0 c1
                generalize wr.drewN nq = w2 at *
                go_wp2_with fail
                go_roundw
                case rel => exact ⟨k + 1, c, hj, by omega, by go_num, rfl, HB2, HC, HR, HF2, HA, HIJ⟩
                case measure => simp [intOf]; omega
            · have hkn : k = l.length := by have := HN.out; omega
              have HF2 := Lib.hid (show c = 0 → hj = hi ∧ ∀ s ∈ l, s.hi ≤ hj ∨ hj + 2 ≤ s.lo from fun h => by
                obtain ⟨h1, h2⟩ := HF.out h
                rw [hkn, List.take_length] at h2
                exact ⟨h1, by rw [h1]; exact h2⟩)
              have hd : decide ((k : Int) < (n : Int)) = false := by simp; omega
              clear hkn HF
              go_wp2_with fail
              go_roundw
              case rel => exact ⟨c, hj, rfl, HB, HC, HR, Lib.hid fun h => (HF2.out h).2⟩
              case measure =>
                rw [HM.out, HB.out.x.hiAt]
                by_cases hc : 0 < c
                · have := HA.out hc
                  have := mz_le l (.bool (decide (0 < c))) hj
                  omega
                · rw [show decide (0 < c) = false by simpa using hc, mz_false, (HF2.out (by omega)).1]
                  omega
        · obtain rfl : c = 0 := by omega
          have hx : Least l ⟨lo, hi⟩ := ⟨HL.out, HF.out rfl, HC.out, HR.out.1⟩
          have HX := Lib.hid hx
          have hd : decide (0 < (0 : Nat)) = false := rfl
          rw [hd]
          have hi4 := HR.out.2.1
          clear hx HC HR HF hc0 hd HL
          go_wp2_with fail
          have hsz : w.heap.size + 2 ≤ wr.heap.size := by have := HB.out.x.lt; omega
          have HO := Lib.hid (own_empty5 wr hsz)
          have HB0 := Lib.hid (HB.out.kept ((Below.refl _ wr).alloc hsz (.cells #[] 34)))
          obtain ⟨a0, ha0⟩ : ∃ a, a = wr.heap.size := ⟨_, rfl⟩
          rw [← ha0] at HO ⊢
          generalize wr.alloc (.cells #[] 34) = w4 at *
          obtain ⟨i0, hinf, hz0, hz1, hz2⟩ := info_parts info_span
          clear HB ha0 hsz
          go_loopw [8, 9] (fun sl i w5 => ∃ k cap' : Nat, ∃ A' : Option Addr, ∃ out : List Spn, k ≤ n ∧ out.length ≤ k ∧ i = .int .i64 k ∧ sl = .slice A' out.length cap' ∧ Hid (LB w w5 lo hi) ∧ Hid (out = (l.take k).filter fun s => decide (hi < s.lo)) ∧ Hid (w5.ownsRow (w.heap.size + 2) 34 2 (.slice A' out.length cap') out.length (spCells out))) (fun _ i _ => n - (intOf i).toNat)
          case atStart => exact ⟨0, 0, some ⟨a0, 0, none⟩, [], by omega, Nat.le_refl _, rfl, rfl, HB0, Lib.hid rfl, HO⟩
          case round =>
            clear HB0 HO
            obtain ⟨k, cap', A', out, hk, hok, rfl, rfl, HB, HOUT, HO⟩ := hrel
            by_cases hlt : k < n
            · obtain ⟨s, hget⟩ : ∃ s, l[k]? = some s := ⟨l[k]'(by have := HN.out; omega), List.getElem?_eq_getElem _⟩
              have hki : (k : Int) < (n : Int) := by omega
              have hki0 : (0 : Int) ≤ (k : Int) := by omega
              have HK1 := Lib.hid (fun w' (hb : Below w.heap.size w w') => H.out.at_ hget hb)
              have hfg := filt_go hget fun s => decide (hi < s.lo)
              rw [← HOUT.out] at hfg
              have HSN := Lib.hid (spCells_snoc out s)
              obtain ⟨M, hM⟩ : ∃ M, M = out ++ [s] := ⟨_, rfl⟩
              rw [← hM] at HSN
              have hMl : out.length + 1 = M.length := by rw [hM]; simp
              obtain ⟨slo, shi⟩ := s
              unfold spC at HSN
              simp only at HK1 hfg HSN
              have HMM := Lib.hid hM
              clear hget hM
              obtain ⟨c0, c1⟩ := HK1.out wr HB.out.b
              have x1 := HB.out.x.c1
              by_cases h1 : hi < slo
              · have d1 : decide (hi < slo) = true := by simpa using h1
                rw [d1, if_pos rfl, ← HMM.out] at hfg
                have HFG := Lib.hid hfg
                clear hfg HOUT
                go_wp2_with fail
                go_quiet (fail)
                have HB2 := Lib.hid (HB.out.drewN nq)
                have hown2 : (wr.drewN nq).ownsRow (w.heap.size + 2) 34 2 (.slice A' out.length cap') out.length (spCells out) := HO.out
                clear HB x1 c0 c1 HO
                generalize wr.drewN nq = w2 at *
                obtain ⟨c0, c1⟩ := HK1.out w2 HB2.out.b
                have hsz : w.heap.size + 2 ≤ w2.heap.size := by have := HB2.out.x.lt; omega
                go_wp2_with (at_builtin; refine wpList_append_lies _ rfl _ _ 23 rfl (w.heap.size + 2) 34 i0 (.agg #[.int .i64 0, .int .i64 0]) 2 16 Tryz.underlying23 hinf hz0 hz1 hz2 rfl (by omega) _ out.length (spCells out) rfl (hown2.alloc _) ⟨w2.heap.size, 0, none⟩ 1 1 [.int .i64 slo, .int .i64 shi] rfl rfl ?c1 ?c2 (by omega) ?c3 ?c4 ?c5 _ rfl ?_)
                case c1 => exact World.news_of_block (cs := #[.int .i64 slo, .int .i64 shi]) (t := 34) (fr := (0, 0)) (heap_alloc_new w2 _)
                case c2 => simp [Value.oneCell']
                case c3 => unfold maxLen; omega
                case c4 => omega
                case c5 => simp; omega
                intro g2 cap2 w3 hown3 hgrow hat hlt2
                have hB3 := ((Below.refl (w.heap.size + 2) w2).alloc hsz (.cells #[.int .i64 slo, .int .i64 shi] 34)).grown hgrow (by simp; omega) (fun j hj => (hown2.lt j hj).1)
                rw [← HSN.out] at hown3
                try rw [hMl] at hown3
                try rw [hMl]
                have HB3 := Lib.hid (HB2.out.kept hB3)
                have HO3 := Lib.hid hown3
                clear hB3 hown2 hown3 hgrow hat hlt2 c0 c1 HB2
                go_wp2_with fail
                go_roundw
                case rel => exact ⟨k + 1, cap2, some ⟨g2, 0, none⟩, M, by omega, by omega, by go_num, rfl, HB3, Lib.hid HFG.out.symm, HO3⟩
                case measure => simp [intOf]; omega
              · have d1 : decide (hi < slo) = false := by simpa using h1
                rw [d1, if_neg (by decide), List.append_nil] at hfg
                have HFG := Lib.hid hfg
                clear hfg HOUT
                go_wp2_with fail
                go_quiet (fail)
                have HB2 := Lib.hid (HB.out.drewN nq)
                have hown2 : (wr.drewN nq).ownsRow (w.heap.size + 2) 34 2 (.slice A' out.length cap') out.length (spCells out) := HO.out
                have HO2 := Lib.hid hown2
                clear HB x1 c0 c1 HO hown2
                generalize wr.drewN nq = w2 at *
                go_wp2_with fail
                go_roundw
                case rel => exact ⟨k + 1, cap', A', out, by omega, by omega, by go_num, rfl, HB2, Lib.hid HFG.out.symm, HO2⟩
                case measure => simp [intOf]; omega
            · have hkn : k = l.length := by have := HN.out; omega
              have hout : out = l.filter fun s => decide (hi < s.lo) := by
                have := HOUT.out
                rwa [hkn, List.take_length] at this
              have HOUT2 := Lib.hid hout
              have hd : decide ((k : Int) < (n : Int)) = false := by simp; omega
              clear hkn hout HOUT
              have f0 := HB.out.r.f 0
              have f1 := HB.out.r.f 1
              have r0 := HB.out.r.c0
              have r1 := HB.out.r.c1
              have x0 := HB.out.x.c0
              have x1 := HB.out.x.c1
              go_wp2_with fail
              change bodyPost _ _ _ _ _ (sset wr w.heap.size lo hi)
              refine bodyPost_ret (res_span2 rfl _ _ rfl (HB.out.r.set lo hi)) rfl ⟨⟨lo, hi⟩, A', cap', HX.out, hi4, ?_, ?_, sset_below HB.out.b (Nat.le_refl _) lo hi⟩
              · rw [← HOUT2.out]; rfl
              · rw [← HOUT2.out]
                exact own_mono5 (sset_own HO.out (by omega) lo hi) (by omega)
end Go.Proofs.YtepbmnpjpkmmfaaGreatDoor

/- Contract of the reference of layer 5: Normal. -/
namespace Go.Proofs.YtepbmnpjpkmmfaaGreatDoor
open Go.ChangeShapes Go.WideShapes Go.ChangeAt Go.RowKit
set_option linter.unusedVariables false

theorem cutAll_go {l : List Spn} {k : Nat} {s : Spn} (hs : l[k]? = some s) (M : Int) : cutAll M (l.take (k + 1)) = cutAll M (l.take k) ++ if max s.lo 0 ≤ min s.hi M then [⟨max s.lo 0, min s.hi M⟩] else [] := by
  obtain ⟨hk, e⟩ := List.getElem?_eq_some_iff.1 hs
  rw [List.take_succ_eq_append_getElem hk, e]
  unfold cutAll
  rw [List.flatMap_append]
  congr 1
  rw [List.flatMap_cons, List.flatMap_nil, List.append_nil]
  rfl
theorem cutAll_good {M : Int} (l : List Spn) : good M (cutAll M l) := by
  intro s hs
  unfold cutAll at hs
  obtain ⟨t, _, ht⟩ := List.mem_flatMap.1 hs
  split at ht
  · rename_i h
    rw [List.mem_singleton] at ht
    subst ht
    simp only [cutS] at h ⊢
    omega
  · simp at ht
theorem heap_alloc5_2 (w : World) (a b : Obj) : ((w.alloc a).alloc b).heap[w.heap.size + 1]? = some b := by
  have := heap_alloc_new (w.alloc a) b
  rwa [show (w.alloc a).heap.size = w.heap.size + 1 by simp] at this
theorem least_mem {work : List Spn} {x : Spn} (h : Least work x) : ∃ s ∈ work, s.lo ≤ x.lo ∧ x.lo ≤ s.hi := by
  have := h.cov x.lo (Int.le_refl _) h.ne
  rwa [anyS_iff] at this
theorem least_short {work : List Spn} {x : Spn} (h : Least work x) : (work.filter fun s => decide (x.hi < s.lo)).length < work.length := by
  obtain ⟨s, hs, h1, _⟩ := least_mem h
  have h2 := h.ne
  rw [List.length_filter_lt_length_iff_exists]
  exact ⟨s, hs, by simp; omega⟩
theorem good_filter {M : Int} {l : List Spn} (h : good M l) (f : Spn → Bool) : good M (l.filter f) := fun s hs => h s (List.mem_filter.1 hs).1
/-- A set goes on with the least span. -/
theorem least_ok {M : Int} {work out : List Spn} {x : Spn} (h : Least work x) (hM : x.hi ≤ M) (ho : okL M 0 out) (hn : ∀ s ∈ work, nxt 0 out ≤ s.lo) : okL M 0 (out ++ [x]) := by
  obtain ⟨s, hs, h1, _⟩ := least_mem h
  have := hn s hs
  exact (okL_snoc x out 0).2 ⟨ho, by omega, h.ne, hM⟩
theorem least_next {M : Int} {work out : List Spn} {x : Spn} (h : Least work x) (hg : good M work) : ∀ s ∈ work.filter (fun s => decide (x.hi < s.lo)), nxt 0 (out ++ [x]) ≤ s.lo := by
  intro s hs
  rw [nxt_snoc]
  have h2 := least_rest h s hs
  have h3 := (List.mem_filter.1 hs)
  have h4 := hg s h3.1
  have h5 := h3.2
  simp only [decide_eq_true_eq] at h5
  omega
/-- A result that is the set of the numbers with f. -/
def SetP (w : World) (f : Int → Bool) (b : Nat) (e : Ending) (w' : World) : Prop :=
  ∃ L : List Spn, ∃ A cap, okL 4294967296 0 L ∧ (∀ m, anyS L m = f m) ∧ L.length ≤ b ∧ e = .returned (.slice A L.length cap) ∧ w'.ownsRow w.heap.size 34 2 (.slice A L.length cap) L.length (spCells L) ∧ Below w.heap.size w w'
def slLen : Value → Nat
  | .slice _ n _ => n
  | _ => 0
theorem slLen_slice (A : Option Addr) (n c : Nat) : slLen (.slice A n c) = n := rfl

set_option maxHeartbeats 400000 in
set_option maxRecDepth 20000 in
theorem rnormal_any (A : Option Addr) (cap : Nat) (l : List Spn) (w : World) (h : SpL w A l) (hl : l.length ≤ 1000000) :
    Calls Tryz.prog 73 #[.slice A l.length cap] w (SetP w (memS 4294967296 l) l.length) := by
  obtain ⟨n, hn⟩ : ∃ n, n = l.length := ⟨_, rfl⟩
  have hn6 : n ≤ 1000000 := by omega
  rw [← hn]
  obtain ⟨i0, hinf, hz0, hz1, hz2⟩ := info_parts info_span
  have H := Lib.hid h
  have HN := Lib.hid hn
  clear h hn hl
  go_enter Tryz.func73, Tryz.ntmps73
  go_wp2_with fail
  have HO := Lib.hid (own_empty5 w (Nat.le_refl _))
  have HB := Lib.hid (below_alloc5 w (.cells #[] 34))
  obtain ⟨a0, ha0⟩ : ∃ a, a = w.heap.size := ⟨_, rfl⟩
  rw [show (Value.slice (some ⟨w.heap.size, 0, none⟩) 0 0) = .slice (some ⟨a0, 0, none⟩) 0 0 by rw [ha0]] at HO ⊢
  generalize w.alloc (.cells #[] 34) = w1 at *
  clear ha0
  go_loopw [3, 4] (fun sl i wr => ∃ k cap' : Nat, ∃ A' : Option Addr, ∃ out : List Spn, k ≤ n ∧ out.length ≤ k ∧ i = .int .i64 k ∧ sl = .slice A' out.length cap' ∧ Hid (Below w.heap.size w wr) ∧ Hid (out = cutAll 4294967296 (l.take k)) ∧ Hid (wr.ownsRow w.heap.size 34 2 (.slice A' out.length cap') out.length (spCells out))) (fun _ i _ => n - (intOf i).toNat)
  case atStart => exact ⟨0, 0, some ⟨a0, 0, none⟩, [], by omega, Nat.le_refl _, rfl, rfl, HB, Lib.hid rfl, HO⟩
  case round =>
    clear HB HO
    obtain ⟨k, cap', A', out, hk, hok, rfl, rfl, HB, HOUT, HO⟩ := hrel
    by_cases hlt : k < n
    · obtain ⟨s, hget⟩ : ∃ s, l[k]? = some s := ⟨l[k]'(by have := HN.out; omega), List.getElem?_eq_getElem _⟩
      obtain ⟨g, o, rfl, hg, hc⟩ := H.out (by have := HN.out; omega)
      have hki : (k : Int) < (n : Int) := by omega
      have hki0 : (0 : Int) ≤ (k : Int) := by omega
      have hcg := cutAll_go hget 4294967296
      rw [← HOUT.out] at hcg
      obtain ⟨c0, c1⟩ := H.out.at_ hget HB.out
      have hct := fun W => rcut_any s.lo s.hi 0 4294967296 W
      obtain ⟨slo, shi⟩ := s
      simp only at hcg c0 c1 hct
      generalize max slo 0 = p at *
      generalize min shi 4294967296 = q at *
      have HSN := Lib.hid (spCells_snoc out ⟨p, q⟩)
      obtain ⟨M, hM⟩ : ∃ M, M = out ++ [(⟨p, q⟩ : Spn)] := ⟨_, rfl⟩
      rw [← hM] at HSN
      have hMl : out.length + 1 = M.length := by rw [hM]; simp
      unfold spC at HSN
      simp only at HSN
      have HMM := Lib.hid hM
      clear hget hM hc HOUT
      by_cases hpq : p ≤ q
      · rw [if_pos hpq, ← HMM.out] at hcg
        rw [show decide (p ≤ q) = true by simpa using hpq] at hct
        have HCG := Lib.hid hcg
        have HCT := Lib.hid hct
        clear hcg hct
        go_wp2_with fail
        refine (HCT.out _).mono ?_
        rintro e w2 ⟨rfl, hb⟩
        have hB2 := HB.out.trans (hb.mono HB.out.size)
        have hown2 := own_of_blocks5 HO.out (fun b _ hl => hb.block b hl)
        have hsz := hB2.size
        clear hb HB HO c0 c1
        go_wp2_with (at_builtin; refine wpList_append_lies _ rfl _ _ 23 rfl w.heap.size 34 i0 (.agg #[.int .i64 0, .int .i64 0]) 2 16 Tryz.underlying23 hinf hz0 hz1 hz2 rfl (by omega) _ out.length (spCells out) rfl ((hown2.alloc _).alloc _) ⟨w2.heap.size + 1, 0, none⟩ 1 1 [.int .i64 p, .int .i64 q] rfl rfl ?c1 ?c2 (by omega) ?c3 ?c4 ?c5 _ rfl ?_)
        case c1 => exact World.news_of_block (cs := #[.int .i64 p, .int .i64 q]) (t := 34) (fr := (0, 0)) (heap_alloc5_2 w2 _ _)
        case c2 => simp [Value.oneCell']
        case c3 => unfold maxLen; omega
        case c4 => omega
        case c5 => simp; omega
        intro g2 cap2 w3 hown3 hgrow hat hlt2
        have hB3 := ((hB2.alloc hsz (.cells #[.int .i64 p, .int .i64 q] 34)).alloc (by simp; omega) (.cells #[.int .i64 p, .int .i64 q] 34)).grown hgrow (by simp; omega) (fun j hj => (hown2.lt j hj).1)
        rw [← HSN.out] at hown3
        try rw [hMl] at hown3
        try rw [hMl]
        have HB3 := Lib.hid hB3
        have HO3 := Lib.hid hown3
        clear hB3 hB2 hown2 hown3 hgrow hat hlt2
        go_wp2_with fail
        go_roundw
        case rel => exact ⟨k + 1, cap2, some ⟨g2, 0, none⟩, M, by omega, by omega, by go_num, rfl, HB3, Lib.hid HCG.out.symm, HO3⟩
        case measure => simp [intOf]; omega
      · rw [if_neg hpq, List.append_nil] at hcg
        rw [show decide (p ≤ q) = false by simpa using hpq] at hct
        have HCG := Lib.hid hcg
        have HCT := Lib.hid hct
        clear hcg hct
        go_wp2_with fail
        refine (HCT.out _).mono ?_
        rintro e w2 ⟨rfl, hb⟩
        have HB2 := Lib.hid ((HB.out.trans (hb.mono HB.out.size)).alloc ((HB.out.trans (hb.mono HB.out.size)).size) (.cells #[.int .i64 p, .int .i64 q] 34))
        have HO2 := Lib.hid ((own_of_blocks5 HO.out (fun b _ hl => hb.block b hl)).alloc (.cells #[.int .i64 p, .int .i64 q] 34))
        clear hb HB HO c0 c1
        go_wp2_with fail
        go_roundw
        case rel => exact ⟨k + 1, cap', A', out, by omega, by omega, by go_num, rfl, HB2, Lib.hid HCG.out.symm, HO2⟩
        case measure => simp [intOf]; omega
    · have hkn : k = l.length := by have := HN.out; omega
      have hout : out = cutAll 4294967296 l := by
        have := HOUT.out
        rwa [hkn, List.take_length] at this
      have hG : good 4294967296 out := by rw [hout]; exact cutAll_good l
      have hA : ∀ m, (anyS [] m || anyS out m) = memS 4294967296 l m := fun m => by rw [hout, cutAll_any]; rfl
      have hN : ∀ s ∈ out, nxt 0 [] ≤ s.lo := fun s hs => (hG s hs).1
      have HG := Lib.hid hG
      have HA := Lib.hid hA
      have HX := Lib.hid hN
      have hd : decide ((k : Int) < (n : Int)) = false := by simp; omega
      clear hkn hout hG hA hN HOUT
      go_wp2_with fail
      have hsz := HB.out.size
      have HO7 := Lib.hid (own_empty5 wr hsz)
      have HB7 := Lib.hid (HB.out.alloc hsz (.cells #[] 34))
      have HO3 := Lib.hid (HO.out.alloc (.cells #[] 34))
      obtain ⟨a1, ha1⟩ : ∃ a, a = wr.heap.size := ⟨_, rfl⟩
      rw [← ha1] at HO7 ⊢
      generalize wr.alloc (.cells #[] 34) = w4 at *
      clear HB HO ha1 hsz hd hlt
      go_loopw [3, 7] (fun v3 v7 w5 => ∃ work res : List Spn, ∃ A1 A2 : Option Addr, ∃ c1 c2 : Nat, work.length + res.length ≤ n ∧ v3 = .slice A1 work.length c1 ∧ v7 = .slice A2 res.length c2 ∧ Hid (Below w.heap.size w w5) ∧ Hid (w5.ownsRow w.heap.size 34 2 (.slice A1 work.length c1) work.length (spCells work)) ∧ Hid (w5.ownsRow w.heap.size 34 2 (.slice A2 res.length c2) res.length (spCells res)) ∧ Hid (good 4294967296 work) ∧ Hid (okL 4294967296 0 res) ∧ Hid (∀ s ∈ work, nxt 0 res ≤ s.lo) ∧ Hid (∀ m, (anyS res m || anyS work m) = memS 4294967296 l m)) (fun v3 _ _ => slLen v3)
      case atStart => exact ⟨out, [], A', some ⟨a1, 0, none⟩, cap', 0, by simp; omega, rfl, rfl, HB7, HO3, HO7, HG, Lib.hid trivial, HX, HA⟩
      case round =>
        clear HB7 HO3 HO7 HG HA HX hk hok
        obtain ⟨work, res, A1, A2, cp1, cp2, hlen, rfl, rfl, HB, HW, HO, HG, HK, HX, HA⟩ := hrel
        by_cases hw : 0 < work.length
        · have hd : decide ((0 : Int) < (work.length : Int)) = true := by simp; omega
          have HL := Lib.hid (rleast_any A1 cp1 work wr (spl_of_own HW.out) (by omega) hw HG.out)
          clear HW
          go_wp2_with fail
          refine HL.out.mono ?_
          rintro e w2 ⟨x, A3, cp3, hx, hxM, rfl, hown3, hb⟩
          have HK2 := Lib.hid (least_ok hx hxM HK.out HX.out)
          have HX2 := Lib.hid (least_next (out := res) hx HG.out)
          have HG2 := Lib.hid (good_filter HG.out fun s => decide (x.hi < s.lo))
          have hsh := least_short hx
          have HA2 := Lib.hid (show ∀ m, (anyS (res ++ [x]) m || anyS (work.filter fun s => decide (x.hi < s.lo)) m) = memS 4294967296 l m from fun m => by
            rw [← HA.out m, least_any hx m, anyS_append, show anyS [x] m = inS x m by simp [anyS], Bool.or_assoc])
          have HSN := Lib.hid (spCells_snoc res x)
          obtain ⟨M, hM⟩ : ∃ M, M = res ++ [x] := ⟨_, rfl⟩
          rw [← hM] at HSN HK2 HX2 HA2
          have hMl : res.length + 1 = M.length := by rw [hM]; simp
          unfold spC at HSN
          generalize (work.filter fun s => decide (x.hi < s.lo)) = rest at *
          generalize x.lo = p at *
          generalize x.hi = q at *
          have hB2 := HB.out.trans (hb.mono HB.out.size)
          have hown2 := own_of_blocks5 HO.out (fun b _ hl => hb.block b hl)
          have hsz := hB2.size
          have HLT := Lib.hid HO.out.lt
          have HSZ := Lib.hid HB.out.size
          clear hM hb HB HO HL HG HK HX HA
          go_wp2_with (at_builtin; refine wpList_append_lies _ rfl _ _ 23 rfl w.heap.size 34 i0 (.agg #[.int .i64 0, .int .i64 0]) 2 16 Tryz.underlying23 hinf hz0 hz1 hz2 rfl (by omega) _ res.length (spCells res) rfl ((hown2.alloc _).alloc _) ⟨w2.heap.size + 1, 0, none⟩ 1 1 [.int .i64 p, .int .i64 q] rfl rfl ?c1 ?c2 (by omega) ?c3 ?c4 ?c5 _ rfl ?_)
          case c1 => exact World.news_of_block (cs := #[.int .i64 p, .int .i64 q]) (t := 34) (fr := (0, 0)) (heap_alloc5_2 w2 _ _)
          case c2 => simp [Value.oneCell']
          case c3 => unfold maxLen; omega
          case c4 => omega
          case c5 => simp; omega
          intro g2 cap2 w3 hown4 hgrow hat hlt2
          have hB3 := ((hB2.alloc hsz (.cells #[.int .i64 p, .int .i64 q] 34)).alloc (by simp; omega) (.cells #[.int .i64 p, .int .i64 q] 34)).grown hgrow (by simp; omega) (fun j hj => (hown2.lt j hj).1)
          have hrest := own_of_blocks5 ((hown3.alloc (.cells #[.int .i64 p, .int .i64 q] 34)).alloc (.cells #[.int .i64 p, .int .i64 q] 34)) (fun b hb1 hb2 => hgrow.block b hb2 (fun e => by
            have := (HLT.out b e.symm).2
            omega))
          rw [← HSN.out] at hown4
          try rw [hMl] at hown4
          try rw [hMl]
          have HB3 := Lib.hid hB3
          have HO4 := Lib.hid hown4
          have HW4 := Lib.hid (own_mono5 hrest HSZ.out)
          clear hB3 hB2 hown2 hown3 hrest hown4 hgrow hat hlt2 HLT
          go_wp2_with fail
          go_roundw
          case rel => exact ⟨rest, M, A3, some ⟨g2, 0, none⟩, cp3, cap2, by omega, rfl, rfl, HB3, HW4, HO4, HG2, HK2, HX2, HA2⟩
          case measure => exact hsh
        · have hw0 : work = [] := List.length_eq_zero_iff.1 (by omega)
          subst hw0
          have HLN := Lib.hid (show res.length ≤ n by simpa using hlen)
          clear HW HG HX hw hlen
          rw [List.length_nil]
          go_wp2_with fail
          go_ret
          exact ⟨res, A2, cp2, HK.out, fun m => by rw [← HA.out m]; simp [anyS], HLN.out, rfl, HO.out, HB.out⟩
end Go.Proofs.YtepbmnpjpkmmfaaGreatDoor

/- Contract of the reference of layer 5: Count. -/
namespace Go.Proofs.YtepbmnpjpkmmfaaGreatDoor
open Go.ChangeShapes Go.WideShapes Go.ChangeAt Go.RowKit
set_option linter.unusedVariables false

theorem cntL_snoc (s : Spn) : ∀ l : List Spn, cntL (l ++ [s]) = cntL l + (s.hi - s.lo + 1)
  | [] => by simp [cntL]
  | x :: r => by
    have ih := cntL_snoc s r
    simp only [List.cons_append, cntL, ih]
    omega
theorem okL_get {M : Int} {l : List Spn} {k : Nat} {s : Spn} (hs : l[k]? = some s) (h : okL M 0 l) : 0 ≤ s.lo ∧ s.lo ≤ s.hi ∧ s.hi ≤ M := by
  obtain ⟨hk, e⟩ := List.getElem?_eq_some_iff.1 hs
  have h1 : okL M 0 (l.take (k + 1)) := okL_front _ (l.drop (k + 1)) 0 (by rwa [List.take_append_drop])
  rw [List.take_succ_eq_append_getElem hk, e, okL_snoc] at h1
  have := nxt_pos (Int.le_refl 0) h1.1
  omega
theorem cnt_take {M : Int} {l : List Spn} (hM : 0 ≤ M) (k : Nat) (h : okL M 0 l) : 0 ≤ cntL (l.take k) ∧ cntL (l.take k) ≤ M + 1 :=
  cnt_bounds hM (okL_front _ (l.drop k) 0 (by rwa [List.take_append_drop]))
/-- What Count answers: how many numbers the set has. -/
def CntP (w : World) (f : Int → Bool) (b : Nat) (e : Ending) (w' : World) : Prop :=
  ∃ L : List Spn, okL 4294967296 0 L ∧ (∀ m, anyS L m = f m) ∧ L.length ≤ b ∧ e = .returned (.int .i64 (cntL L)) ∧ Below w.heap.size w w'

end Go.Proofs.YtepbmnpjpkmmfaaGreatDoor

/- The library's contracts laid at this seat (SortFunc, Compare, ContainsFunc, Sort), in plain words. -/
namespace Go.Proofs.YtepbmnpjpkmmfaaGreatDoor
open Go.Shelf
def laySf_ren : Go.Shelf.Ren := ⟨fun | 6 => 67 | 15 => 83 | 14 => 82 | 28 => 101 | 29 => 102 | 20 => 93 | 21 => 94 | 22 => 95 | 23 => 96 | 24 => 97 | 25 => 98 | 26 => 99 | 27 => 100 | 46 => 116 | 47 => 117 | 48 => 118 | 49 => 119 | 50 => 120 | 57 => 128 | n => n, fun | 22 => 23 | 24 => 34 | 25 => 83 | 3 => 3 | 39 => 90 | 0 => 0 | 53 => 102 | 55 => 114 | 4 => 4 | 46 => 107 | 45 => 106 | 50 => 59 | 5 => 5 | 9 => 9 | 66 => 129 | 70 => 133 | 76 => 140 | 77 => 141 | n => n, fun | n => n⟩
theorem laySf : Go.Proofs.SlLaysF0.n6 Tryz.prog laySf_ren := {
  mixed := by kernel_rfl
  f6 := ⟨Tryz.f67.name, by decide, Tryz.func67.trans (congrArg some (by kernel_rfl))⟩
  f14 := ⟨Tryz.f82.name, by decide, Tryz.func82.trans (congrArg some (by kernel_rfl))⟩
  f15 := Tryz.func83.trans (congrArg some (by kernel_rfl))
  f20 := ⟨Tryz.f93.name, by decide, Tryz.func93.trans (congrArg some (by kernel_rfl))⟩
  f21 := ⟨Tryz.f94.name, by decide, Tryz.func94.trans (congrArg some (by kernel_rfl))⟩
  f22 := ⟨Tryz.f95.name, by decide, Tryz.func95.trans (congrArg some (by kernel_rfl))⟩
  f23 := ⟨Tryz.f96.name, by decide, Tryz.func96.trans (congrArg some (by kernel_rfl))⟩
  f24 := ⟨Tryz.f97.name, by decide, Tryz.func97.trans (congrArg some (by kernel_rfl))⟩
  f25 := ⟨Tryz.f98.name, by decide, Tryz.func98.trans (congrArg some (by kernel_rfl))⟩
  f26 := ⟨Tryz.f99.name, by decide, Tryz.func99.trans (congrArg some (by kernel_rfl))⟩
  f27 := ⟨Tryz.f100.name, by decide, Tryz.func100.trans (congrArg some (by kernel_rfl))⟩
  f28 := Tryz.func101.trans (congrArg some (by kernel_rfl))
  f29 := Tryz.func102.trans (congrArg some (by kernel_rfl))
  f46 := ⟨Tryz.f116.name, by decide, Tryz.func116.trans (congrArg some (by kernel_rfl))⟩
  f47 := Tryz.func117.trans (congrArg some (by kernel_rfl))
  f48 := Tryz.func118.trans (congrArg some (by kernel_rfl))
  f49 := ⟨Tryz.f119.name, by decide, Tryz.func119.trans (congrArg some (by kernel_rfl))⟩
  f50 := ⟨Tryz.f120.name, by decide, Tryz.func120.trans (congrArg some (by kernel_rfl))⟩
  f57 := ⟨Tryz.f128.name, by decide, Tryz.func128.trans (congrArg some (by kernel_rfl))⟩
  t0 := Tryz.underlying0
  a0 := Tryz.isAgg0
  z0 := Tryz.sizeOf0
  v0 := Tryz.zeroValue0
  t3 := Tryz.underlying3
  a3 := Tryz.isAgg3
  z3 := Tryz.sizeOf3
  v3 := Tryz.zeroValue3
  t4 := Tryz.underlying4
  a4 := Tryz.isAgg4
  z4 := Tryz.sizeOf4
  v4 := Tryz.zeroValue4
  t5 := Tryz.underlying5
  a5 := Tryz.isAgg5
  z5 := Tryz.sizeOf5
  v5 := Tryz.zeroValue5
  t9 := Tryz.underlying9
  a9 := Tryz.isAgg9
  z9 := Tryz.sizeOf9
  v9 := Tryz.zeroValue9
  t22 := Tryz.underlying23
  a22 := Tryz.isAgg23
  z22 := Tryz.sizeOf23
  v22 := Tryz.zeroValue23
  t25 := Tryz.underlying83
  a25 := Tryz.isAgg83
  z25 := Tryz.sizeOf83
  v25 := Tryz.zeroValue83
  t39 := Tryz.underlying90
  a39 := Tryz.isAgg90
  z39 := Tryz.sizeOf90
  v39 := Tryz.zeroValue90
  t45 := Tryz.underlying106
  a45 := Tryz.isAgg106
  z45 := Tryz.sizeOf106
  v45 := Tryz.zeroValue106
  t46 := Tryz.underlying107
  a46 := Tryz.isAgg107
  z46 := Tryz.sizeOf107
  v46 := Tryz.zeroValue107
  t50 := Tryz.underlying59
  a50 := Tryz.isAgg59
  z50 := Tryz.sizeOf59
  v50 := Tryz.zeroValue59
  t53 := Tryz.underlying102
  a53 := Tryz.isAgg102
  z53 := Tryz.sizeOf102
  v53 := Tryz.zeroValue102
  t55 := Tryz.underlying114
  a55 := Tryz.isAgg114
  z55 := Tryz.sizeOf114
  v55 := Tryz.zeroValue114
  t66 := Tryz.underlying129
  a66 := Tryz.isAgg129
  z66 := Tryz.sizeOf129
  v66 := Tryz.zeroValue129
  t70 := Tryz.underlying133
  a70 := Tryz.isAgg133
  z70 := Tryz.sizeOf133
  v70 := Tryz.zeroValue133
  t76 := Tryz.underlying140
  a76 := Tryz.isAgg140
  z76 := Tryz.sizeOf140
  v76 := Tryz.zeroValue140
  t77 := Tryz.underlying141
  a77 := Tryz.isAgg141
  z77 := Tryz.sizeOf141
  v77 := Tryz.zeroValue141 }
def layCc_ren : Go.Shelf.Ren := ⟨fun | 5 => 69 | 7 => 84 | n => n, fun | 22 => 3 | 3 => 3 | 4 => 4 | n => n, fun | n => n⟩
theorem layCc : Go.Proofs.SlLaysC2.n5 Tryz.prog layCc_ren := {
  mixed := by kernel_rfl
  f5 := ⟨Tryz.f69.name, by decide, Tryz.func69.trans (congrArg some (by kernel_rfl))⟩
  f7 := ⟨Tryz.f84.name, by decide, Tryz.func84.trans (congrArg some (by kernel_rfl))⟩
  t3 := Tryz.underlying3
  a3 := Tryz.isAgg3
  z3 := Tryz.sizeOf3
  v3 := Tryz.zeroValue3
  t4 := Tryz.underlying4
  a4 := Tryz.isAgg4
  z4 := Tryz.sizeOf4
  v4 := Tryz.zeroValue4
  t22 := Tryz.underlying3
  a22 := Tryz.isAgg3
  z22 := Tryz.sizeOf3
  v22 := Tryz.zeroValue3 }
def layCf_ren : Go.Shelf.Ren := ⟨fun | 8 => 41 | 6 => 60 | n => n, fun | 22 => 23 | 23 => 34 | 25 => 53 | 4 => 4 | 3 => 3 | 0 => 0 | n => n, fun | n => n⟩
theorem layCf : Go.Proofs.SlLaysH0.n8 Tryz.prog layCf_ren := {
  mixed := by kernel_rfl
  f6 := ⟨Tryz.f60.name, by decide, Tryz.func60.trans (congrArg some (by kernel_rfl))⟩
  f8 := ⟨Tryz.f41.name, by decide, Tryz.func41.trans (congrArg some (by kernel_rfl))⟩
  t0 := Tryz.underlying0
  a0 := Tryz.isAgg0
  z0 := Tryz.sizeOf0
  v0 := Tryz.zeroValue0
  t3 := Tryz.underlying3
  a3 := Tryz.isAgg3
  z3 := Tryz.sizeOf3
  v3 := Tryz.zeroValue3
  t4 := Tryz.underlying4
  a4 := Tryz.isAgg4
  z4 := Tryz.sizeOf4
  v4 := Tryz.zeroValue4
  t22 := Tryz.underlying23
  a22 := Tryz.isAgg23
  z22 := Tryz.sizeOf23
  v22 := Tryz.zeroValue23
  t25 := Tryz.underlying53
  a25 := Tryz.isAgg53
  z25 := Tryz.sizeOf53
  v25 := Tryz.zeroValue53 }
def laySi_ren : Go.Shelf.Ren := ⟨fun | 5 => 76 | 8 => 83 | 7 => 89 | 19 => 101 | 20 => 102 | 10 => 107 | 11 => 108 | 12 => 109 | 13 => 110 | 14 => 111 | 15 => 112 | 16 => 113 | 17 => 114 | 18 => 115 | 30 => 125 | 31 => 117 | 32 => 118 | 33 => 126 | 34 => 127 | 35 => 84 | 40 => 131 | n => n, fun | 23 => 75 | 25 => 3 | 3 => 3 | 32 => 90 | 22 => 75 | 0 => 0 | 44 => 102 | 46 => 114 | 4 => 4 | 36 => 107 | 35 => 106 | 41 => 59 | 5 => 5 | 9 => 9 | 53 => 129 | 57 => 133 | 63 => 140 | 64 => 141 | n => n, fun | n => n⟩
theorem laySi : Go.Proofs.SlLaysM.n5 Tryz.prog laySi_ren := {
  mixed := by kernel_rfl
  f5 := ⟨Tryz.f76.name, by decide, Tryz.func76.trans (congrArg some (by kernel_rfl))⟩
  f7 := ⟨Tryz.f89.name, by decide, Tryz.func89.trans (congrArg some (by kernel_rfl))⟩
  f8 := Tryz.func83.trans (congrArg some (by kernel_rfl))
  f10 := ⟨Tryz.f107.name, by decide, Tryz.func107.trans (congrArg some (by kernel_rfl))⟩
  f11 := ⟨Tryz.f108.name, by decide, Tryz.func108.trans (congrArg some (by kernel_rfl))⟩
  f12 := ⟨Tryz.f109.name, by decide, Tryz.func109.trans (congrArg some (by kernel_rfl))⟩
  f13 := ⟨Tryz.f110.name, by decide, Tryz.func110.trans (congrArg some (by kernel_rfl))⟩
  f14 := ⟨Tryz.f111.name, by decide, Tryz.func111.trans (congrArg some (by kernel_rfl))⟩
  f15 := ⟨Tryz.f112.name, by decide, Tryz.func112.trans (congrArg some (by kernel_rfl))⟩
  f16 := ⟨Tryz.f113.name, by decide, Tryz.func113.trans (congrArg some (by kernel_rfl))⟩
  f17 := ⟨Tryz.f114.name, by decide, Tryz.func114.trans (congrArg some (by kernel_rfl))⟩
  f18 := ⟨Tryz.f115.name, by decide, Tryz.func115.trans (congrArg some (by kernel_rfl))⟩
  f19 := Tryz.func101.trans (congrArg some (by kernel_rfl))
  f20 := Tryz.func102.trans (congrArg some (by kernel_rfl))
  f30 := ⟨Tryz.f125.name, by decide, Tryz.func125.trans (congrArg some (by kernel_rfl))⟩
  f31 := Tryz.func117.trans (congrArg some (by kernel_rfl))
  f32 := Tryz.func118.trans (congrArg some (by kernel_rfl))
  f33 := ⟨Tryz.f126.name, by decide, Tryz.func126.trans (congrArg some (by kernel_rfl))⟩
  f34 := ⟨Tryz.f127.name, by decide, Tryz.func127.trans (congrArg some (by kernel_rfl))⟩
  f35 := ⟨Tryz.f84.name, by decide, Tryz.func84.trans (congrArg some (by kernel_rfl))⟩
  f40 := ⟨Tryz.f131.name, by decide, Tryz.func131.trans (congrArg some (by kernel_rfl))⟩
  t0 := Tryz.underlying0
  a0 := Tryz.isAgg0
  z0 := Tryz.sizeOf0
  v0 := Tryz.zeroValue0
  t3 := Tryz.underlying3
  a3 := Tryz.isAgg3
  z3 := Tryz.sizeOf3
  v3 := Tryz.zeroValue3
  t4 := Tryz.underlying4
  a4 := Tryz.isAgg4
  z4 := Tryz.sizeOf4
  v4 := Tryz.zeroValue4
  t5 := Tryz.underlying5
  a5 := Tryz.isAgg5
  z5 := Tryz.sizeOf5
  v5 := Tryz.zeroValue5
  t9 := Tryz.underlying9
  a9 := Tryz.isAgg9
  z9 := Tryz.sizeOf9
  v9 := Tryz.zeroValue9
  t22 := Tryz.underlying75
  a22 := Tryz.isAgg75
  z22 := Tryz.sizeOf75
  v22 := Tryz.zeroValue75
  t23 := Tryz.underlying75
  a23 := Tryz.isAgg75
  z23 := Tryz.sizeOf75
  v23 := Tryz.zeroValue75
  t25 := Tryz.underlying3
  a25 := Tryz.isAgg3
  z25 := Tryz.sizeOf3
  v25 := Tryz.zeroValue3
  t32 := Tryz.underlying90
  a32 := Tryz.isAgg90
  z32 := Tryz.sizeOf90
  v32 := Tryz.zeroValue90
  t35 := Tryz.underlying106
  a35 := Tryz.isAgg106
  z35 := Tryz.sizeOf106
  v35 := Tryz.zeroValue106
  t36 := Tryz.underlying107
  a36 := Tryz.isAgg107
  z36 := Tryz.sizeOf107
  v36 := Tryz.zeroValue107
  t41 := Tryz.underlying59
  a41 := Tryz.isAgg59
  z41 := Tryz.sizeOf59
  v41 := Tryz.zeroValue59
  t44 := Tryz.underlying102
  a44 := Tryz.isAgg102
  z44 := Tryz.sizeOf102
  v44 := Tryz.zeroValue102
  t46 := Tryz.underlying114
  a46 := Tryz.isAgg114
  z46 := Tryz.sizeOf114
  v46 := Tryz.zeroValue114
  t53 := Tryz.underlying129
  a53 := Tryz.isAgg129
  z53 := Tryz.sizeOf129
  v53 := Tryz.zeroValue129
  t57 := Tryz.underlying133
  a57 := Tryz.isAgg133
  z57 := Tryz.sizeOf133
  v57 := Tryz.zeroValue133
  t63 := Tryz.underlying140
  a63 := Tryz.isAgg140
  z63 := Tryz.sizeOf140
  v63 := Tryz.zeroValue140
  t64 := Tryz.underlying141
  a64 := Tryz.isAgg141
  z64 := Tryz.sizeOf141
  v64 := Tryz.zeroValue141 }
end Go.Proofs.YtepbmnpjpkmmfaaGreatDoor

/- Contracts of the program of layer 5: Valid, hasNumbers, Contains. -/
namespace Go.Proofs.YtepbmnpjpkmmfaaGreatDoor
open Go.ChangeShapes Go.WideShapes Go.ChangeAt Go.RowKit
set_option linter.unusedVariables false

/-- Does an integer from 0 to M lie in a span? -/
def hasN (M : Int) (s : Spn) : Bool := decide (s.lo ≤ s.hi) && (decide (0 ≤ s.hi) && decide (s.lo ≤ M))

set_option maxRecDepth 20000 in
theorem phas_any (lo hi : Int) (w : World) :
    Calls Tryz.prog 66 #[.agg #[.int .i64 lo, .int .i64 hi]] w fun e w' => e = .returned (.bool (hasN 4294967296 ⟨lo, hi⟩)) ∧ Below w.heap.size w w' := by
  obtain ⟨B, hB⟩ : ∃ B, B = hasN 4294967296 ⟨lo, hi⟩ := ⟨_, rfl⟩
  rw [← hB]
  unfold hasN at hB
  simp only at hB
  have hb0 := Lib.hid (below_alloc5 w (.cells #[.int .i64 lo, .int .i64 hi] 34))
  by_cases h1 : lo ≤ hi
  · by_cases h2 : 0 ≤ hi
    · by_cases h3 : lo ≤ 4294967296
      · obtain rfl : B = true := by rw [hB]; simp [h1, h2, h3]
        clear hB
        go_enter Tryz.func66, Tryz.ntmps66
        go_wp2_with fail
        go_ret
        exact ⟨rfl, hb0.out⟩
      · obtain rfl : B = false := by rw [hB]; simp [h1, h2, h3]
        have d3 : decide (lo ≤ 4294967296) = false := by simpa using h3
        clear hB
        go_enter Tryz.func66, Tryz.ntmps66
        go_wp2_with fail
        go_ret
        exact ⟨rfl, hb0.out⟩
    · obtain rfl : B = false := by rw [hB]; simp [h1, h2]
      have d2 : decide (0 ≤ hi) = false := by simpa using h2
      clear hB
      go_enter Tryz.func66, Tryz.ntmps66
      go_wp2_with fail
      go_ret
      exact ⟨rfl, hb0.out⟩
  · obtain rfl : B = false := by rw [hB]; simp [h1]
    have d1 : decide (lo ≤ hi) = false := by simpa using h1
    clear hB
    go_enter Tryz.func66, Tryz.ntmps66
    go_wp2_with fail
    go_ret
    exact ⟨rfl, hb0.out⟩

set_option maxRecDepth 20000 in
theorem pvalid_any (A : Option Addr) (cap : Nat) (l : List Spn) (w : World) (h : SpL w A l) (hl : l.length ≤ 1000000) :
    Calls Tryz.prog 20 #[.slice A l.length cap] w fun e w' => e = .returned (.bool (okB 4294967296 0 l)) ∧ Below w.heap.size w w' := by
  obtain ⟨n, hn⟩ : ∃ n, n = l.length := ⟨_, rfl⟩
  have hn6 : n ≤ 1000000 := by omega
  obtain ⟨B, hB⟩ : ∃ B, B = okB 4294967296 0 l := ⟨_, rfl⟩
  rw [← hn, ← hB]
  have H := Lib.hid h
  have HB := Lib.hid hB
  have HN := Lib.hid hn
  have HW := Lib.hid (Below.refl w.heap.size w)
  clear h hB hn hl
  go_enter Tryz.func20, Tryz.ntmps20
  go_wp2_with fail
  go_loopw [3, 8] (fun v3 i wr => ∃ k : Nat, ∃ c : Int, k ≤ n ∧ i = .int .i64 k ∧ v3 = .int .i64 c ∧ -2 ≤ c ∧ c ≤ 4294967296 ∧ Hid (c + 2 = nxt 0 (l.take k)) ∧ Hid (okL 4294967296 0 (l.take k)) ∧ Hid (SpL wr A l) ∧ Hid (Below w.heap.size w wr)) (fun _ i wr => n - (intOf i).toNat)
  case atStart => exact ⟨0, -2, by omega, rfl, rfl, by omega, by omega, Lib.hid rfl, Lib.hid trivial, H, HW⟩
  case round =>
    obtain ⟨k, c, hk, rfl, rfl, hc1, hc2, HX, HK, HS, HR⟩ := hrel
    clear H HW
    by_cases hlt : k < n
    · have hkl : k < l.length := by rw [← HN.out]; exact hlt
      obtain ⟨g, o, rfl, hg, hc⟩ := HS.out (by omega)
      obtain ⟨s, hget⟩ : ∃ s, l[k]? = some s := ⟨l[k], List.getElem?_eq_getElem hkl⟩
      obtain ⟨c0, c1⟩ := hc k _ hget
      have hki : (k : Int) < (n : Int) := by omega
      have hki0 : (0 : Int) ≤ (k : Int) := by omega
      have hfall : ¬ (nxt 0 (l.take k) ≤ s.lo ∧ s.lo ≤ s.hi ∧ s.hi ≤ 4294967296) → okB 4294967296 0 l = false := okB_fall hget
      have hgo : (nxt 0 (l.take k) ≤ s.lo ∧ s.lo ≤ s.hi ∧ s.hi ≤ 4294967296) → okL 4294967296 0 (l.take (k + 1)) := okL_go hget HK.out
      have hpos : 0 ≤ nxt 0 (l.take k) := nxt_pos (Int.le_refl 0) HK.out
      have hnx : nxt 0 (l.take (k + 1)) = s.hi + 2 := nxt_take hget 0
      rw [← HX.out] at hfall hgo
      obtain ⟨lo, hi⟩ := s
      simp only at c0 c1 hfall hgo hnx
      have HB0 := Lib.hid (HR.out.alloc HR.out.size (.cells #[.int .i64 lo, .int .i64 hi] 34))
      have HS0 := Lib.hid (HS.out.kept (below_alloc5 wr (.cells #[.int .i64 lo, .int .i64 hi] 34)))
      have HNX := Lib.hid hnx
      have hpos2 : 0 ≤ c + 2 := by have := HX.out; omega
      by_cases h5 : lo < c + 2
      · obtain rfl : B = false := HB.out.trans (hfall (by omega))
        have d5 : decide (lo < c + 2) = true := by simpa using h5
        clear hfall hgo hpos hc HS hget hnx
        go_wp2_with fail
        go_ret
        exact ⟨rfl, HB0.out⟩
      have d5 : decide (lo < c + 2) = false := by simpa using h5
      by_cases h2 : hi < lo
      · obtain rfl : B = false := HB.out.trans (hfall (by omega))
        have d2 : decide (hi < lo) = true := by simpa using h2
        clear hfall hgo hpos hc HS hget hnx
        go_wp2_with fail
        go_ret
        exact ⟨rfl, HB0.out⟩
      have d2 : decide (hi < lo) = false := by simpa using h2
      by_cases h3 : 4294967296 < hi
      · obtain rfl : B = false := HB.out.trans (hfall (by omega))
        have d3 : decide (4294967296 < hi) = true := by simpa using h3
        clear hfall hgo hpos hc HS hget hnx
        go_wp2_with fail
        go_ret
        exact ⟨rfl, HB0.out⟩
      have d3 : decide (4294967296 < hi) = false := by simpa using h3
      have HK2 := Lib.hid (hgo ⟨by omega, by omega, by omega⟩)
      clear hfall hgo hpos hc HS hget hnx HX HK HR
      go_wp2_with fail
      go_roundw
      case rel => exact ⟨k + 1, hi, by omega, by go_num, rfl, by omega, by omega, Lib.hid HNX.out.symm, HK2, HS0, HB0⟩
      case measure => simp [intOf]; omega
    · have hkn : k = l.length := by have := HN.out; omega
      obtain rfl : B = true := by
        have := HK.out
        rw [hkn, List.take_length] at this
        exact HB.out.trans ((okB_iff _ _).2 this)
      obtain rfl : k = n := by omega
      clear hkn
      have hd : decide ((k : Int) < (k : Int)) = false := by simp
      go_wp2_with fail
      go_ret
      exact ⟨rfl, HR.out⟩

/-- The closure of Contains: does the span hold the number in the captured box? -/
theorem pcont1_any (lo hi m : Int) (b : Nat) (W : World) (hb : b < W.heap.size) (hc : W.cell? ⟨b, 0, none⟩ = some (.int .i64 m)) :
    Calls Tryz.prog 42 #[.agg #[.int .i64 lo, .int .i64 hi], .pointer (some ⟨b, 0, none⟩)] W fun e w' => e = .returned (.bool (inS ⟨lo, hi⟩ m)) ∧ w' = W.alloc (.cells #[.int .i64 lo, .int .i64 hi] 34) := by
  obtain ⟨B, hB⟩ : ∃ B, B = inS ⟨lo, hi⟩ m := ⟨_, rfl⟩
  rw [← hB]
  unfold inS at hB
  simp only at hB
  have hne : b ≠ W.heap.size := by omega
  by_cases h1 : lo ≤ m
  · by_cases h2 : m ≤ hi
    · obtain rfl : B = true := by rw [hB]; simp [h1, h2]
      clear hB
      go_enter Tryz.func42, Tryz.ntmps42
      go_wp2_with fail
      go_ret
      exact ⟨rfl, rfl⟩
    · obtain rfl : B = false := by rw [hB]; simp [h1, h2]
      have d2 : decide (m ≤ hi) = false := by simpa using h2
      clear hB
      go_enter Tryz.func42, Tryz.ntmps42
      go_wp2_with fail
      go_ret
      exact ⟨rfl, rfl⟩
  · obtain rfl : B = false := by rw [hB]; simp [h1]
    have d1 : decide (lo ≤ m) = false := by simpa using h1
    clear hB
    go_enter Tryz.func42, Tryz.ntmps42
    go_wp2_with fail
    go_ret
    exact ⟨rfl, rfl⟩
theorem pindex_nil (A : Option Addr) (cap : Nat) (fv : Value) (w : World) :
    Calls Tryz.prog 60 #[.slice A 0 cap, fv] w fun e w' => e = .returned (.int .i64 (-1)) ∧ w' = w := by
  go_enter Tryz.func60, Tryz.ntmps60
  go_wp2_with fail
  refine wp_loop_rounds 1 ?_
  rw [rounds_succ]
  go_wp2_with fail
  go_ret
  exact ⟨rfl, rfl⟩
theorem pcontf_nil (A : Option Addr) (cap : Nat) (fv : Value) (w : World) :
    Calls Tryz.prog 41 #[.slice A 0 cap, fv] w fun e w' => e = .returned (.bool false) ∧ w' = w := by
  have H := Lib.hid (pindex_nil A cap fv)
  go_enter Tryz.func41, Tryz.ntmps41
  go_wp2_with fail
  refine (H.out _).mono ?_
  rintro e w' ⟨rfl, rfl⟩
  go_wp2_with fail
  go_ret
  exact ⟨rfl, rfl⟩
instance : Inhabited Spn := ⟨⟨0, 0⟩⟩
theorem getb {l : List Spn} {j : Nat} (h : j < l.length) : l[j]? = some l[j]! := by
  rw [List.getElem?_eq_getElem h, getElem!_pos l j h]
theorem pcontf_any (A : Option Addr) (cap : Nat) (l : List Spn) (m : Int) (b : Nat) (w : World) (h : SpL w A l) (hl : l.length ≤ 1000000) (hb : b < w.heap.size) (hc : w.cell? ⟨b, 0, none⟩ = some (.int .i64 m)) :
    Calls Tryz.prog 41 #[.slice A l.length cap, .func (.func 42) #[] #[.pointer (some ⟨b, 0, none⟩)]] w fun e w' => e = .returned (.bool (anyS l m)) ∧ Below w.heap.size w w' := by
  cases l with
  | nil => exact (pcontf_nil A cap _ w).mono fun e w' ⟨he, hw⟩ => ⟨he, hw ▸ Below.refl _ _⟩
  | cons x r =>
    obtain ⟨g, o, rfl, hg, hcell⟩ := h (by simp)
    generalize hL : x :: r = L at *
    have eg : ∀ args w, (callFunc 42 args).run Tryz.prog w = .ok (.enter 42 args) w := enters_of Tryz.func42 (by kernel_rfl) rfl
    have hp : PredBelow Tryz.prog 42 #[.pointer (some ⟨b, 0, none⟩)] (fun s : Spn => .agg (spC s).toArray) (fun s => inS s m) w := fun W s hB =>
      (pcont1_any s.lo s.hi m b W (Nat.lt_of_lt_of_le hb hB.size) ((hB.cell (p := ⟨b, 0, none⟩) hb).trans hc)).mono fun e w' ⟨he, hw⟩ => ⟨he, by rw [hw]; exact hB.alloc hB.size _⟩
    have hcon := AnyQ.slices_ContainsFunc layCf 2 Tryz.isAgg34 Tryz.sizeOf34 spC (fun _ => rfl) (fun s => inS s m) 42 #[.pointer (some ⟨b, 0, none⟩)] eg g o L.length cap L w hp (Nat.le_refl _) (by omega) hg (fun j hj i v hi => by
      have hcj := hcell j _ (getb hj)
      generalize L[j]! = y at hi hcj
      match i, hi with
      | 0, hi => simp [spC] at hi; rw [← hi]; exact hcj.1
      | 1, hi => simp [spC] at hi; rw [← hi]; exact hcj.2
      | i + 2, hi => simp [spC] at hi)
    rw [List.take_length] at hcon
    exact hcon

set_option maxRecDepth 20000 in
theorem pcontains_any (A : Option Addr) (cap : Nat) (l : List Spn) (m : Int) (w : World) (h : SpL w A l) (hl : l.length ≤ 1000000) :
    Calls Tryz.prog 23 #[.slice A l.length cap, .int .i64 m] w fun e w' => e = .returned (.bool (memS 4294967296 l m)) ∧ Below w.heap.size w w' := by
  have hb0 := below_alloc5 w (.cells #[.int .i64 m] 3)
  have HC := Lib.hid (pcontf_any A cap l m w.heap.size (w.alloc (.cells #[.int .i64 m] 3)) (h.kept hb0) hl (alloc_lt5 w _) ((Cells.cell (show Cells (w.alloc (.cells #[.int .i64 m] 3)) w.heap.size 3 #[.int .i64 m] from heap_alloc_new w _) 0).trans rfl))
  have HB := Lib.hid hb0
  obtain ⟨n, hn⟩ : ∃ n, n = l.length := ⟨_, rfl⟩
  rw [← hn] at HC ⊢
  obtain ⟨C, hC⟩ : ∃ C, C = memS 4294967296 l m := ⟨_, rfl⟩
  rw [← hC]
  unfold memS at hC
  clear h hl hn hb0
  by_cases h0 : m < 0
  · obtain rfl : C = false := by rw [hC, show decide (0 ≤ m) = false by simp; omega]; rfl
    have d0 : decide (m < 0) = true := by simpa using h0
    clear hC HC
    go_enter Tryz.func23, Tryz.ntmps23
    go_wp2_with fail
    go_ret
    exact ⟨rfl, HB.out⟩
  have d0 : decide (m < 0) = false := by simpa using h0
  by_cases h1 : 4294967296 < m
  · obtain rfl : C = false := by rw [hC, show decide (m ≤ 4294967296) = false by simp; omega]; simp
    have d1 : decide (4294967296 < m) = true := by simpa using h1
    clear hC HC
    go_enter Tryz.func23, Tryz.ntmps23
    go_wp2_with fail
    go_ret
    exact ⟨rfl, HB.out⟩
  have d1 : decide (4294967296 < m) = false := by simpa using h1
  rw [show decide (0 ≤ m) = true by simp; omega, show decide (m ≤ 4294967296) = true by simp; omega, Bool.true_and, Bool.true_and] at hC
  rw [← hC] at HC
  clear hC
  go_enter Tryz.func23, Tryz.ntmps23
  go_wp2_with fail
  refine HC.out.mono ?_
  rintro e w' ⟨rfl, hb⟩
  have HB2 := Lib.hid (HB.out.trans (hb.mono HB.out.size))
  clear hb
  go_wp2_with fail
  go_ret
  exact ⟨rfl, HB2.out⟩
end Go.Proofs.YtepbmnpjpkmmfaaGreatDoor

/- Contract of the reference of layer 5: Complement. -/
namespace Go.Proofs.YtepbmnpjpkmmfaaGreatDoor
open Go.ChangeShapes Go.WideShapes Go.ChangeAt Go.RowKit
set_option linter.unusedVariables false

theorem comp_len : ∀ (l : List Spn) (lo hi : Int), (comp l lo hi).length ≤ l.length + 1
  | [], lo, hi => by
    rw [comp]
    split <;> simp
  | s :: r, lo, hi => by
    rw [comp]
    split
    · have ih := comp_len r (max lo (s.hi + 1)) hi
      rw [List.length_append, List.length_cons]
      split
      · simp; omega
      · simp; omega
    · simp
theorem comp_go {l : List Spn} {k : Nat} {s : Spn} (hs : l[k]? = some s) {c H : Int} (h : c ≤ H) : comp (l.drop k) c H = (if c ≤ min H (s.lo - 1) then [⟨c, min H (s.lo - 1)⟩] else []) ++ comp (l.drop (k + 1)) (max c (s.hi + 1)) H := by
  obtain ⟨hk, e⟩ := List.getElem?_eq_some_iff.1 hs
  rw [List.drop_eq_getElem_cons hk, e, comp, if_pos h]

set_option maxHeartbeats 400000 in
set_option maxRecDepth 20000 in
theorem rcomp_any (A : Option Addr) (cap : Nat) (l : List Spn) (lo hi : Int) (w : World) (h : SpL w A l) (hl : l.length ≤ 900000) :
    Calls Tryz.prog 57 #[.slice A l.length cap, .int .i64 lo, .int .i64 hi] w (SetP w (fun m => decide (max lo 0 ≤ m) && decide (m ≤ min hi 4294967296) && !memS 4294967296 l m) (l.length + 1)) := by
  have HNM := Lib.hid (rnormal_any A cap l w h (by omega))
  obtain ⟨n, hn⟩ : ∃ n, n = l.length := ⟨_, rfl⟩
  have hn6 : n ≤ 900000 := by omega
  rw [← hn] at HNM ⊢
  obtain ⟨i0, hinf, hz0, hz1, hz2⟩ := info_parts info_span
  obtain ⟨C, hC⟩ : ∃ C, C = max lo 0 := ⟨_, rfl⟩
  obtain ⟨H, hH⟩ : ∃ H, H = min hi 4294967296 := ⟨_, rfl⟩
  have hC0 : 0 ≤ C := by omega
  have hHM : H ≤ 4294967296 := by omega
  rw [← hC, ← hH]
  clear h hn hl
  go_enter Tryz.func57, Tryz.ntmps57
  go_wp2_with fail
  rw [← hC, ← hH]
  clear hC hH
  refine HNM.out.mono ?_
  rintro e w1 ⟨L, A1, cp1, hok, hany, hle, rfl, hown, hb⟩
  obtain ⟨n1, hn1⟩ : ∃ n, n = L.length := ⟨_, rfl⟩
  have hn16 : n1 ≤ 900000 := by omega
  have HS := Lib.hid (spl_of_own hown)
  have HOK := Lib.hid hok
  have HANY := Lib.hid hany
  have HLE := Lib.hid hle
  have HB1 := Lib.hid hb
  rw [← hn1]
  have HN := Lib.hid hn1
  clear hok hany hle hown hb hn1 HNM
  go_wp2_with fail
  have HO := Lib.hid (own_empty5 w1 (Nat.le_refl _))
  have HB := Lib.hid (below_alloc5 w1 (.cells #[] 34))
  obtain ⟨a0, ha0⟩ : ∃ a, a = w1.heap.size := ⟨_, rfl⟩
  rw [show (Value.slice (some ⟨w1.heap.size, 0, none⟩) 0 0) = .slice (some ⟨a0, 0, none⟩) 0 0 by rw [ha0]] at HO ⊢
  generalize w1.alloc (.cells #[] 34) = w4 at *
  clear ha0
  have HR := Lib.hid (show comp L C H = [] ++ comp (L.drop 0) C H by rw [List.drop_zero, List.nil_append])
  obtain ⟨R, hR⟩ : ∃ R, R = comp L C H := ⟨_, rfl⟩
  rw [← hR] at HR
  have HRR := Lib.hid hR
  clear hR
  go_loopw [1, 8, 9] (fun v1 v8 v9 wr => ∃ k cap' : Nat, ∃ c : Int, ∃ A' : Option Addr, ∃ out : List Spn, k ≤ n1 ∧ out.length ≤ k ∧ v1 = .int .i64 c ∧ v8 = .slice A' out.length cap' ∧ v9 = .int .i64 k ∧ Hid (Below w1.heap.size w1 wr) ∧ Hid (R = out ++ comp (L.drop k) c H) ∧ Hid (wr.ownsRow w1.heap.size 34 2 (.slice A' out.length cap') out.length (spCells out))) (fun _ _ i _ => n1 - (intOf i).toNat)
  case atStart => exact ⟨0, 0, C, some ⟨a0, 0, none⟩, [], by omega, Nat.le_refl _, rfl, rfl, rfl, HB, HR, HO⟩
  case round =>
    clear HB HR HO
    obtain ⟨k, cap', c, A', out, hk, hok, rfl, rfl, rfl, HB, HR, HO⟩ := hrel
    by_cases hlt : k < n1
    · have hki : (k : Int) < (n1 : Int) := by omega
      have hki0 : (0 : Int) ≤ (k : Int) := by omega
      by_cases hcH : c ≤ H
      · have dcH : decide (c ≤ H) = true := by simpa using hcH
        obtain ⟨s, hget⟩ : ∃ s, L[k]? = some s := ⟨L[k]'(by have := HN.out; omega), List.getElem?_eq_getElem _⟩
        obtain ⟨g, o, rfl, hg, hc⟩ := HS.out (by have := HN.out; omega)
        have HC := Lib.hid (fun w' (hb : Below w1.heap.size w1 w') => HS.out.at_ hget hb)
        have hg1 := okL_get hget HOK.out
        have hgo := comp_go hget hcH
        have hr := HR.out
        rw [hgo] at hr
        have HSN := Lib.hid (spCells_snoc out ⟨c, min H (s.lo - 1)⟩)
        obtain ⟨slo, shi⟩ := s
        simp only at HC hg1 hr HSN
        obtain ⟨p, hp⟩ : ∃ p, p = slo - 1 := ⟨_, rfl⟩
        obtain ⟨q, hq⟩ : ∃ q, q = shi + 1 := ⟨_, rfl⟩
        rw [← hp] at hr HSN
        rw [← hq] at hr
        have hw1 : IntKind.i64.wrap (slo - 1) = p := by rw [← hp]; exact IntWalk.i64_in _ (by omega)
        have hw2 : IntKind.i64.wrap (shi + 1) = q := by rw [← hq]; exact IntWalk.i64_in _ (by omega)
        obtain ⟨c0, c1⟩ := HC.out wr HB.out
        have hgw : g < wr.heap.size := Nat.lt_of_lt_of_le hg HB.out.size
        by_cases hpq : c ≤ min H p
        · have dpq : decide (c ≤ min H p) = true := by simpa using hpq
          rw [if_pos hpq, ← List.append_assoc] at hr
          obtain ⟨M, hM⟩ : ∃ M, M = out ++ [(⟨c, min H p⟩ : Spn)] := ⟨_, rfl⟩
          rw [← hM] at HSN hr
          have hMl : out.length + 1 = M.length := by rw [hM]; simp
          unfold spC at HSN
          simp only at HSN
          have HR2 := Lib.hid hr
          have hsz := HB.out.size
          clear hr hgo hget hc hM HR hp hq
          go_wp2_with (at_builtin; refine wpList_append_lies _ rfl _ _ 23 rfl w1.heap.size 34 i0 (.agg #[.int .i64 0, .int .i64 0]) 2 16 Tryz.underlying23 hinf hz0 hz1 hz2 rfl (by omega) _ out.length (spCells out) rfl ((HO.out.alloc _).alloc _) ⟨wr.heap.size + 1, 0, none⟩ 1 1 [.int .i64 c, .int .i64 (min H p)] rfl rfl ?c1 ?c2 (by omega) ?c3 ?c4 ?c5 _ rfl ?_)
          case c1 => exact World.news_of_block (cs := #[.int .i64 c, .int .i64 (min H p)]) (t := 34) (fr := (0, 0)) (heap_alloc5_2 wr _ _)
          case c2 => simp [Value.oneCell']
          case c3 => unfold maxLen; omega
          case c4 => omega
          case c5 => simp; omega
          intro g2 cap2 w3 hown3 hgrow hat hlt2
          have hB3 := ((HB.out.alloc hsz (.cells #[.int .i64 c, .int .i64 (min H p)] 34)).alloc (by simp; omega) (.cells #[.int .i64 c, .int .i64 (min H p)] 34)).grown hgrow (by simp; omega) (fun j hj => (HO.out.lt j hj).1)
          rw [← HSN.out] at hown3
          try rw [hMl] at hown3
          try rw [hMl]
          have HB3 := Lib.hid hB3
          have HO3 := Lib.hid hown3
          clear hB3 hown3 hgrow hat hlt2 c0 c1 HB HO
          obtain ⟨c0, c1⟩ := HC.out w3 HB3.out
          go_wp2_with fail
          go_roundw
          case rel => exact ⟨k + 1, cap2, max c q, some ⟨g2, 0, none⟩, M, by omega, by omega, rfl, rfl, by go_num, HB3, HR2, HO3⟩
          case measure => simp [intOf]; omega
        · have dpq : decide (c ≤ min H p) = false := by simpa using hpq
          rw [if_neg hpq, List.nil_append] at hr
          have HR2 := Lib.hid hr
          have hsz := HB.out.size
          have HB3 := Lib.hid (HB.out.alloc hsz (.cells #[.int .i64 c, .int .i64 (min H p)] 34))
          have HO3 := Lib.hid (HO.out.alloc (.cells #[.int .i64 c, .int .i64 (min H p)] 34))
          clear hr hgo hget hc HR hp hq HSN hsz
          go_wp2_with fail
          go_roundw
          case rel => exact ⟨k + 1, cap', max c q, A', out, by omega, by omega, rfl, rfl, by go_num, HB3, HR2, HO3⟩
          case measure => simp [intOf]; omega
      · have dcH : decide (c ≤ H) = false := by simpa using hcH
        have hr := HR.out
        rw [comp_none _ (by omega), List.append_nil] at hr
        subst hr
        have hok2 : okL 4294967296 0 R := by rw [HRR.out]; exact okL_mono hC0 (comp_ok L 0 C H HOK.out hHM)
        have hany2 : ∀ m, anyS R m = (decide (C ≤ m) && decide (m ≤ H) && !memS 4294967296 l m) := fun m => by rw [HRR.out, comp_any L 0 C H m HOK.out, HANY.out]
        have hlen2 : R.length ≤ n + 1 := by
          have h1 := comp_len L C H
          have h2 := HLE.out
          rw [HRR.out]; omega
        have HF := Lib.hid (And.intro hok2 (And.intro hany2 hlen2))
        clear hok2 hany2 hlen2 HR HRR
        go_wp2_with fail
        go_ret
        exact ⟨R, A', cap', HF.out.1, HF.out.2.1, HF.out.2.2, rfl, own_mono5 HO.out HB1.out.size, HB1.out.trans (HB.out.mono HB1.out.size)⟩
    · have hkn : k = L.length := by have := HN.out; omega
      have hd : decide ((k : Int) < (n1 : Int)) = false := by simp; omega
      have hok2 : okL 4294967296 0 R := by rw [HRR.out]; exact okL_mono hC0 (comp_ok L 0 C H HOK.out hHM)
      have hany2 : ∀ m, anyS R m = (decide (C ≤ m) && decide (m ≤ H) && !memS 4294967296 l m) := fun m => by rw [HRR.out, comp_any L 0 C H m HOK.out, HANY.out]
      have hlen2 : R.length ≤ n + 1 := by
        have h1 := comp_len L C H
        have h2 := HLE.out
        rw [HRR.out]; omega
      have HF := Lib.hid (And.intro hok2 (And.intro hany2 hlen2))
      have hr := HR.out
      rw [hkn, List.drop_length, comp] at hr
      clear hok2 hany2 hlen2 HR HRR hkn
      by_cases hcH : c ≤ H
      · have dcH : decide (c ≤ H) = true := by simpa using hcH
        rw [if_pos hcH] at hr
        have HSN := Lib.hid (spCells_snoc out ⟨c, H⟩)
        rw [← hr] at HSN
        have hMl : out.length + 1 = R.length := by rw [hr]; simp
        unfold spC at HSN
        simp only at HSN
        have hsz := HB.out.size
        clear hr
        go_wp2_with (at_builtin; refine wpList_append_lies _ rfl _ _ 23 rfl w1.heap.size 34 i0 (.agg #[.int .i64 0, .int .i64 0]) 2 16 Tryz.underlying23 hinf hz0 hz1 hz2 rfl (by omega) _ out.length (spCells out) rfl (HO.out.alloc _) ⟨wr.heap.size, 0, none⟩ 1 1 [.int .i64 c, .int .i64 (H)] rfl rfl ?c1 ?c2 (by omega) ?c3 ?c4 ?c5 _ rfl ?_)
        case c1 => exact World.news_of_block (cs := #[.int .i64 c, .int .i64 H]) (t := 34) (fr := (0, 0)) (heap_alloc_new wr _)
        case c2 => simp [Value.oneCell']
        case c3 => unfold maxLen; omega
        case c4 => omega
        case c5 => simp; omega
        intro g2 cap2 w3 hown3 hgrow hat hlt2
        have hB3 := (HB.out.alloc hsz (.cells #[.int .i64 c, .int .i64 H] 34)).grown hgrow (by simp; omega) (fun j hj => (HO.out.lt j hj).1)
        rw [← HSN.out] at hown3
        try rw [hMl] at hown3
        try rw [hMl]
        have HB3 := Lib.hid hB3
        have HO3 := Lib.hid hown3
        clear hB3 hown3 hgrow hat hlt2 HB HO
        go_wp2_with fail
        go_ret
        exact ⟨R, some ⟨g2, 0, none⟩, cap2, HF.out.1, HF.out.2.1, HF.out.2.2, rfl, own_mono5 HO3.out HB1.out.size, HB1.out.trans (HB3.out.mono HB1.out.size)⟩
      · have dcH : decide (c ≤ H) = false := by simpa using hcH
        rw [if_neg hcH, List.append_nil] at hr
        subst hr
        go_wp2_with fail
        go_ret
        exact ⟨R, A', cap', HF.out.1, HF.out.2.1, HF.out.2.2, rfl, own_mono5 HO.out HB1.out.size, HB1.out.trans (HB.out.mono HB1.out.size)⟩
end Go.Proofs.YtepbmnpjpkmmfaaGreatDoor

/- Contracts of the reference of layer 5: Union, Intersect, Minus, Subset. -/
namespace Go.Proofs.YtepbmnpjpkmmfaaGreatDoor
open Go.ChangeShapes Go.WideShapes Go.ChangeAt Go.RowKit
set_option linter.unusedVariables false

theorem spCells_at : ∀ (l : List Spn) (j : Nat) (u : Value), (spCells l)[j]? = some u → ∃ i s, l[i]? = some s ∧ ((j = i * 2 ∧ u = .int .i64 s.lo) ∨ (j = i * 2 + 1 ∧ u = .int .i64 s.hi))
  | [], j, u, h => by simp [spCells] at h
  | x :: r, 0, u, h => by
    refine ⟨0, x, rfl, .inl ⟨rfl, ?_⟩⟩
    have : (some (Value.int .i64 x.lo)) = some u := h
    exact (Option.some.inj this).symm
  | x :: r, 1, u, h => by
    refine ⟨0, x, rfl, .inr ⟨rfl, ?_⟩⟩
    have : (some (Value.int .i64 x.hi)) = some u := h
    exact (Option.some.inj this).symm
  | x :: r, j + 2, u, h => by
    have h' : (spCells r)[j]? = some u := h
    obtain ⟨i, s, hs, hj⟩ := spCells_at r j u h'
    refine ⟨i + 1, s, by simpa using hs, ?_⟩
    rcases hj with ⟨rfl, e⟩ | ⟨rfl, e⟩
    · exact .inl ⟨by omega, e⟩
    · exact .inr ⟨by omega, e⟩
theorem addr_add (g o j : Nat) : (⟨g, o, none⟩ : Addr).add j = ⟨g, o + j, none⟩ := by
  unfold Addr.add
  split
  · simp_all
  · rfl
theorem SpL.news {w : World} {ad : Addr} {l : List Spn} (h : SpL w (some ad) l) : ∀ j u, (spCells l)[j]? = some u → w.cell? (ad.add j) = some u := fun j u hu => by
  obtain ⟨i, s, hs, hj⟩ := spCells_at l j u hu
  have hp : 0 < l.length := Nat.lt_of_le_of_lt (Nat.zero_le _) (List.getElem?_eq_some_iff.1 hs).1
  obtain ⟨g, o, e, hg, hc⟩ := h hp
  obtain rfl := Option.some.inj e
  have hc := hc i s hs
  rw [addr_add]
  rcases hj with ⟨rfl, rfl⟩ | ⟨rfl, rfl⟩
  · exact hc.1
  · exact hc.2
theorem own_shape5 {w : World} {base : Nat} {e : TypeId} {size : Nat} {v : Value} {n : Nat} {xs : List Value} (h : w.ownsRow base e size v n xs) : ∃ A c, v = .slice A n c := by
  rcases h.2 with ⟨h1, h2⟩ | ⟨g, c, cur, h1, _⟩
  · subst h2; exact ⟨_, _, h1⟩
  · exact ⟨_, _, h1⟩
theorem spC_one (l : List Spn) : ∀ u ∈ spCells l, u.oneCell' = true := by
  intro u hu
  unfold spCells at hu
  obtain ⟨s, _, hs⟩ := List.mem_flatMap.1 hu
  simp only [spC, List.mem_cons, List.not_mem_nil, or_false] at hs
  rcases hs with rfl | rfl <;> rfl
/-- append(out, l...) of a list of spans onto a slice that the call owns. -/
theorem wpList_append_spl {w : World} {ops : Array Oper} {rest : List Oper} {o : Oper} {a : Act} {Q : Exit → Act → World → Prop} (hgd : o.guard = none) (s x : Operand)
    (ho : o.op = .call { callee := .builtin .append, args := #[s, x], argTypes := #[23, 23] })
    (base : Nat) (v : Value) (n : Nat) (xs : List Value) (hs : a.eval s = v) (hown : w.ownsRow base 34 2 v n xs)
    (A : Option Addr) (m c : Nat) (l : List Spn) (hx : a.eval x = .slice A m c) (hm : m = l.length) (hA : A = none → c = 0) (hl : SpL w A l) (hn : n + m ≤ 1000000) (hbase : base ≤ w.heap.size)
    (h : ∀ A' c' w', w'.ownsRow base 34 2 (.slice A' (n + m) c') (n + m) (xs ++ spCells l) → w.grownBy w' v.ownBlock → wpList Tryz.prog ops Q rest (a.put o.dst (.slice A' (n + m) c')) w') : wpList Tryz.prog ops Q (o :: rest) a w := by
  obtain ⟨i0, hinf, hz0, hz1, hz2⟩ := info_parts info_span
  cases A with
  | none =>
    have hl0 : l = [] := by
      cases l with
      | nil => rfl
      | cons y r =>
        obtain ⟨g, o, e, _⟩ := hl (by simp)
        cases e
    subst hl0
    obtain rfl := hA rfl
    have hm0 : m = 0 := by simpa using hm
    subst hm0
    obtain ⟨A', c', rfl⟩ := own_shape5 hown
    refine wpList_append_own_none hgd s x 23 ho base 34 i0 2 Tryz.underlying23 hinf _ n xs hs hown hx ?_
    refine h A' c' w ?_ ⟨rfl, rfl, rfl, Nat.le_refl _, fun _ _ _ => rfl⟩
    simpa [spCells] using hown
  | some ad =>
    refine wpList_append_own_at w hgd s x 23 ho base 34 i0 (.agg #[.int .i64 0, .int .i64 0]) 2 16 Tryz.underlying23 hinf hz0 hz1 hz2 rfl (by omega) v n xs hs hown ad m c (spCells l) hx (by rw [spCells_length, hm]) hl.news (spC_one l) (by unfold maxLen; omega) (by omega) hbase ?_
    intro v' w' hown' hgr _ _
    obtain ⟨A', c', rfl⟩ := own_shape5 hown'
    exact h A' c' w' hown' hgr
theorem SetP.back {w w1 : World} {f f' : Int → Bool} {b b' : Nat} {e : Ending} {w' : World} (hb : Below w.heap.size w w1) (h : SetP w1 f b e w') (hf : ∀ m, f m = f' m) (hbb : b ≤ b') : SetP w f' b' e w' := by
  obtain ⟨L, A, cap, h1, h2, h3, h4, h5, h6⟩ := h
  exact ⟨L, A, cap, h1, fun m => (h2 m).trans (hf m), Nat.le_trans h3 hbb, h4, own_mono5 h5 hb.size, hb.trans (h6.mono hb.size)⟩
theorem memS_append (M : Int) (a b : List Spn) (m : Int) : memS M (a ++ b) m = (memS M a m || memS M b m) := by
  unfold memS
  rw [anyS_append]
  cases decide (0 ≤ m) <;> cases decide (m ≤ M) <;> simp
theorem memS_in {M : Int} {l : List Spn} {m : Int} (h : memS M l m = true) : 0 ≤ m ∧ m ≤ M := by
  unfold memS at h
  simp only [Bool.and_eq_true, decide_eq_true_eq] at h
  exact h.1

theorem sset_other {w : World} {g b : Nat} (lo hi : Int) (h : b ≠ g) : (sset w g lo hi).heap[b]? = w.heap[b]? :=
  (Below.heap_setCell _ _ _ _ h).trans (Below.heap_setCell _ _ _ _ h)
theorem pairs_snoc (a b : List Spn) (s : Spn) : pairsS (a ++ [s]) b = pairsS a b ++ pairsS [s] b := by
  unfold pairsS
  rw [List.flatMap_append]
theorem pairs_take {l : List Spn} {k : Nat} {s : Spn} (hs : l[k]? = some s) (b : List Spn) : pairsS (l.take (k + 1)) b = pairsS (l.take k) b ++ pairsS [s] b := by
  obtain ⟨hk, e⟩ := List.getElem?_eq_some_iff.1 hs
  rw [List.take_succ_eq_append_getElem hk, e, pairs_snoc]
theorem pairs_one {l : List Spn} {k : Nat} {t : Spn} (ht : l[k]? = some t) (s : Spn) : pairsS [s] (l.take (k + 1)) = pairsS [s] (l.take k) ++ if max s.lo t.lo ≤ min s.hi t.hi then [⟨max s.lo t.lo, min s.hi t.hi⟩] else [] := by
  obtain ⟨hk, e⟩ := List.getElem?_eq_some_iff.1 ht
  rw [List.take_succ_eq_append_getElem hk, e]
  unfold pairsS
  simp only [List.flatMap_cons, List.flatMap_nil, List.append_nil, List.flatMap_append]
  rfl

set_option maxHeartbeats 400000 in
set_option maxRecDepth 20000 in
theorem rinter_any (A1 A2 : Option Addr) (c1 c2 : Nat) (a b : List Spn) (w : World) (h1 : SpL w A1 a) (h2 : SpL w A2 b) (hl1 : a.length ≤ 900) (hl2 : b.length ≤ 900) :
    Calls Tryz.prog 56 #[.slice A1 a.length c1, .slice A2 b.length c2] w (SetP w (fun m => memS 4294967296 a m && memS 4294967296 b m) 810000) := by
  have HN1 := Lib.hid (rnormal_any A1 c1 a w h1 (by omega))
  have HN2 := Lib.hid (fun w1 (hb : Below w.heap.size w w1) => rnormal_any A2 c2 b w1 (h2.kept hb) (by omega))
  obtain ⟨la, hla⟩ : ∃ n, n = a.length := ⟨_, rfl⟩
  obtain ⟨lb, hlb⟩ : ∃ n, n = b.length := ⟨_, rfl⟩
  rw [← hla] at HN1 ⊢
  rw [← hlb] at HN2 ⊢
  have hs1 : la ≤ 900 := by omega
  have hs2 : lb ≤ 900 := by omega
  obtain ⟨i0, hinf, hz0, hz1, hz2⟩ := info_parts info_span
  clear h1 h2 hl1 hl2 hla hlb
  go_enter Tryz.func56, Tryz.ntmps56
  go_wp2_with fail
  refine HN1.out.mono ?_
  rintro e w1 ⟨X, Ax, cx, okx, anyx, lex, rfl, ownx, hb1⟩
  have HX := Lib.hid (spl_of_own ownx)
  have HMX := Lib.hid anyx
  have HB1 := Lib.hid hb1
  obtain ⟨nx, hnx⟩ : ∃ n, n = X.length := ⟨_, rfl⟩
  have hnx9 : nx ≤ 900 := by omega
  rw [← hnx]
  have HNX := Lib.hid hnx
  have HC2 := Lib.hid (HN2.out w1 hb1)
  clear hnx lex okx anyx ownx hb1 HN1 HN2
  go_wp2_with fail
  refine HC2.out.mono ?_
  rintro e w2 ⟨Y, Ay, cy, oky, anyy, ley, rfl, owny, hb2⟩
  have HY := Lib.hid (spl_of_own owny)
  have HX2 := Lib.hid (HX.out.kept hb2)
  have HMY := Lib.hid anyy
  have HB2 := Lib.hid (HB1.out.trans (hb2.mono HB1.out.size))
  obtain ⟨ny, hny⟩ : ∃ n, n = Y.length := ⟨_, rfl⟩
  have hny9 : ny ≤ 900 := by omega
  rw [← hny]
  have HNY := Lib.hid hny
  clear hny ley oky anyy owny hb2 HB1 HC2 HX
  go_wp2_with fail
  have HO := Lib.hid (own_empty5 w2 (Nat.le_refl _))
  have HB := Lib.hid (below_alloc5 w2 (.cells #[] 34))
  obtain ⟨a0, ha0⟩ : ∃ a, a = w2.heap.size := ⟨_, rfl⟩
  rw [show (Value.slice (some ⟨w2.heap.size, 0, none⟩) 0 0) = .slice (some ⟨a0, 0, none⟩) 0 0 by rw [ha0]] at HO ⊢
  generalize w2.alloc (.cells #[] 34) = w4 at *
  clear ha0
  go_loopw [7, 8, 9] (fun v7 v8 _ wr => ∃ k cap' : Nat, ∃ A' : Option Addr, ∃ out : List Spn, k ≤ nx ∧ out.length ≤ k * 900 ∧ v8 = .int .i64 k ∧ v7 = .slice A' out.length cap' ∧ Hid (Below w2.heap.size w2 wr) ∧ Hid (out = pairsS (X.take k) Y) ∧ Hid (wr.ownsRow w2.heap.size 34 2 (.slice A' out.length cap') out.length (spCells out))) (fun _ i _ _ => nx - (intOf i).toNat)
  case atStart => exact ⟨0, 0, some ⟨a0, 0, none⟩, [], by omega, by simp, rfl, rfl, HB, Lib.hid rfl, HO⟩
  case round =>
    clear HB HO
    obtain ⟨k, cap', A', out, hk, hok, rfl, rfl, HB, HOUT, HO⟩ := hrel
    by_cases hlt : k < nx
    · obtain ⟨s, hget⟩ : ∃ s, X[k]? = some s := ⟨X[k]'(by have := HNX.out; omega), List.getElem?_eq_getElem _⟩
      have hki : (k : Int) < (nx : Int) := by omega
      have hki0 : (0 : Int) ≤ (k : Int) := by omega
      have HPT := Lib.hid (pairs_take hget Y)
      obtain ⟨gx, ox, rfl, hgx, hcx⟩ := HX2.out (by have := HNX.out; omega)
      have HSX := Lib.hid (fun w' (hb : Below w2.heap.size w2 w') => HX2.out.at_ hget hb)
      have HOUT0 := Lib.hid (show out = pairsS (X.take k) Y ++ pairsS [s] (Y.take 0) by rw [HOUT.out]; simp [pairsS])
      clear hcx hget HOUT
      go_wp2_with fail
      go_loopw [7, 9] (fun v7 v9 wr => ∃ q cap' : Nat, ∃ A' : Option Addr, ∃ out : List Spn, q ≤ ny ∧ out.length ≤ k * 900 + q ∧ v9 = .int .i64 q ∧ v7 = .slice A' out.length cap' ∧ Hid (Below w2.heap.size w2 wr) ∧ Hid (out = pairsS (X.take k) Y ++ pairsS [s] (Y.take q)) ∧ Hid (wr.ownsRow w2.heap.size 34 2 (.slice A' out.length cap') out.length (spCells out))) (fun _ i _ => ny - (intOf i).toNat)
      case atStart => exact ⟨0, cap', A', out, by omega, by omega, rfl, rfl, HB, HOUT0, HO⟩
      case round =>
        clear HB HO HOUT0 hok
        obtain ⟨q, cap', A', out, hq, hok, rfl, rfl, HB, HOUT, HO⟩ := hrel
        by_cases hqt : q < ny
        · obtain ⟨t, hgt⟩ : ∃ t, Y[q]? = some t := ⟨Y[q]'(by have := HNY.out; omega), List.getElem?_eq_getElem _⟩
          have hqi : (q : Int) < (ny : Int) := by omega
          have hqi0 : (0 : Int) ≤ (q : Int) := by omega
          have hp1 := pairs_one hgt s
          obtain ⟨gy, oy, rfl, hgy, hcy⟩ := HY.out (by have := HNY.out; omega)
          have HSY := Lib.hid (fun w' (hb : Below w2.heap.size w2 w') => HY.out.at_ hgt hb)
          obtain ⟨x0, x1⟩ := HSX.out wr HB.out
          obtain ⟨y0, y1⟩ := HSY.out wr HB.out
          obtain ⟨slo, shi⟩ := s
          obtain ⟨tlo, thi⟩ := t
          have hct := fun W => rcut_any slo shi tlo thi W
          simp only at hp1 x0 x1 y0 y1 hct HSX HSY
          have hout := HOUT.out
          generalize max slo tlo = p at *
          generalize min shi thi = r at *
          have HSN := Lib.hid (spCells_snoc out ⟨p, r⟩)
          obtain ⟨M, hM⟩ : ∃ M, M = out ++ [(⟨p, r⟩ : Spn)] := ⟨_, rfl⟩
          rw [← hM] at HSN
          have hMl : out.length + 1 = M.length := by rw [hM]; simp
          unfold spC at HSN
          simp only at HSN
          by_cases hpq : p ≤ r
          · have HCG := Lib.hid (show M = pairsS (X.take k) Y ++ pairsS [⟨slo, shi⟩] (Y.take (q + 1)) by rw [hp1, if_pos hpq, ← List.append_assoc, ← hout, hM])
            rw [show decide (p ≤ r) = true by simpa using hpq] at hct
            have HCT := Lib.hid hct
            have dpq : decide (p ≤ r) = true := by simpa using hpq
            clear hcy hgt hct hp1 hout hM HOUT
            go_wp2_with fail
            have ngx : gx ≠ wr.heap.size := by have := HB.out.size; omega
            have ngy : gy ≠ wr.heap.size := by have := HB.out.size; omega
            have mgx : wr.heap.size ≠ gx := by have := HB.out.size; omega
            have mgy : wr.heap.size ≠ gy := by have := HB.out.size; omega
            go_region_held3 (fun w' => w'.cell? ⟨gx, ox + k * 2, none⟩ = some (.int .i64 slo) ∧ w'.cell? ⟨gx, ox + k * 2 + 1, none⟩ = some (.int .i64 shi) ∧ w'.cell? ⟨gy, oy + q * 2, none⟩ = some (.int .i64 tlo) ∧ w'.cell? ⟨gy, oy + q * 2 + 1, none⟩ = some (.int .i64 thi)) (go_keep) (first
              | (go_at_call 74; refine (HCT.out _).mono ?_; rintro e w5 ⟨rfl, hb3d⟩; have hbz : Below (wr.alloc (.cells #[.int .i64 0, .int .i64 0] 34)).heap.size (wr.alloc (.cells #[.int .i64 0, .int .i64 0] 34)) w5 := ⟨hb3d.os, hb3d.tape, hb3d.output, hb3d.size, hb3d.block⟩; have hx5 := (sb2_new wr 0 0).kept hbz (alloc_lt5 wr _); have hb5 : Below w2.heap.size w2 w5 := (HB.out.alloc HB.out.size _).trans (hbz.mono (by simp; have := HB.out.size; omega)); have hbb : Below wr.heap.size wr w5 := (below_alloc5 wr _).trans (hbz.mono (by simp)); obtain ⟨j0, j1⟩ := HSX.out w5 hb5; obtain ⟨j2, j3⟩ := HSY.out w5 hb5; have e0 := hx5.c0; have e1 := hx5.c1; have f0 := hx5.f 0; have f1 := hx5.f 1)
              | (go_at_call 74; refine (HCT.out _).mono ?_; rintro e w5 ⟨rfl, hb3d⟩; have hbb : Below wr.heap.size wr w5 := ⟨hb3d.os, hb3d.tape, hb3d.output, hb3d.size, hb3d.block⟩; have hb5 : Below w2.heap.size w2 w5 := HB.out.trans (hbb.mono HB.out.size); obtain ⟨j0, j1⟩ := HSX.out w5 hb5; obtain ⟨j2, j3⟩ := HSY.out w5 hb5))
            · have HX6 := Lib.hid (sb2_new w5 p r)
              have HB6 := Lib.hid (hb5.alloc hb5.size (.cells #[.int .i64 p, .int .i64 r] 34))
              have HO6 := Lib.hid ((own_of_blocks5 HO.out (fun b _ hl => hbb.block b hl)).alloc (.cells #[.int .i64 p, .int .i64 r] 34))
              obtain ⟨bn, hbn⟩ : ∃ bn, bn = w5.heap.size := ⟨_, rfl⟩
              rw [← hbn] at HX6 ⊢
              generalize w5.alloc (.cells #[.int .i64 p, .int .i64 r] 34) = w6 at *
              clear hbn hb3d hbb hb5 j0 j1 j2 j3 x0 x1 y0 y1 HB HO ngx ngy mgx mgy
              have e0 := HX6.out.c0
              have e1 := HX6.out.c1
              have hsz := HB6.out.size
              go_wp2_with (at_builtin; refine wpList_append_lies _ rfl _ _ 23 rfl w2.heap.size 34 i0 (.agg #[.int .i64 0, .int .i64 0]) 2 16 Tryz.underlying23 hinf hz0 hz1 hz2 rfl (by omega) _ out.length (spCells out) rfl (HO6.out.alloc _) ⟨w6.heap.size, 0, none⟩ 1 1 [.int .i64 p, .int .i64 r] rfl rfl ?c1 ?c2 (by omega) ?c3 ?c4 ?c5 _ rfl ?_)
              case c1 => exact World.news_of_block (cs := #[.int .i64 p, .int .i64 r]) (t := 34) (fr := (0, 0)) (heap_alloc_new w6 _)
              case c2 => simp [Value.oneCell']
              case c3 => unfold maxLen; omega
              case c4 => omega
              case c5 => simp; omega
              intro g2 cap2 w7 hown7 hgrow hat hlt2
              have hB7 := (HB6.out.alloc hsz (.cells #[.int .i64 p, .int .i64 r] 34)).grown hgrow (by simp; omega) (fun j hj => (HO6.out.lt j hj).1)
              rw [← HSN.out] at hown7
              try rw [hMl] at hown7
              try rw [hMl]
              have HB7 := Lib.hid hB7
              have HO7 := Lib.hid hown7
              clear hB7 hown7 hgrow hat hlt2 HX6 HB6 HO6 e0 e1 hsz
              go_wp2_with fail
              go_roundw
              case rel => exact ⟨q + 1, cap2, some ⟨g2, 0, none⟩, M, by omega, by omega, by go_num, rfl, HB7, HCG, HO7⟩
              case measure => simp [intOf]; omega
            · have HX6 := Lib.hid (hx5.set p r)
              have HB6 := Lib.hid (sset_below hb5 HB.out.size p r)
              have HO6 := Lib.hid ((own_of_blocks5 HO.out (fun b _ hl => (sset_other p r (Nat.ne_of_lt hl)).trans (hbb.block b hl))))
              unfold sset at HX6 HB6 HO6
              generalize (w5.setCell ⟨wr.heap.size, 0, none⟩ (.int .i64 p)).setCell ⟨wr.heap.size, 1, none⟩ (.int .i64 r) = w6 at *
              obtain ⟨bn, hbn⟩ : ∃ bn, bn = wr.heap.size := ⟨_, rfl⟩
              rw [← hbn] at HX6 ⊢
              clear hbn hb3d hbz hx5 hbb hb5 j0 j1 j2 j3 x0 x1 y0 y1 HB HO e0 e1 f0 f1 ngx ngy mgx mgy
              have e0 := HX6.out.c0
              have e1 := HX6.out.c1
              have hsz := HB6.out.size
              go_wp2_with (at_builtin; refine wpList_append_lies _ rfl _ _ 23 rfl w2.heap.size 34 i0 (.agg #[.int .i64 0, .int .i64 0]) 2 16 Tryz.underlying23 hinf hz0 hz1 hz2 rfl (by omega) _ out.length (spCells out) rfl (HO6.out.alloc _) ⟨w6.heap.size, 0, none⟩ 1 1 [.int .i64 p, .int .i64 r] rfl rfl ?c1 ?c2 (by omega) ?c3 ?c4 ?c5 _ rfl ?_)
              case c1 => exact World.news_of_block (cs := #[.int .i64 p, .int .i64 r]) (t := 34) (fr := (0, 0)) (heap_alloc_new w6 _)
              case c2 => simp [Value.oneCell']
              case c3 => unfold maxLen; omega
              case c4 => omega
              case c5 => simp; omega
              intro g2 cap2 w7 hown7 hgrow hat hlt2
              have hB7 := (HB6.out.alloc hsz (.cells #[.int .i64 p, .int .i64 r] 34)).grown hgrow (by simp; omega) (fun j hj => (HO6.out.lt j hj).1)
              rw [← HSN.out] at hown7
              try rw [hMl] at hown7
              try rw [hMl]
              have HB7 := Lib.hid hB7
              have HO7 := Lib.hid hown7
              clear hB7 hown7 hgrow hat hlt2 HX6 HB6 HO6 e0 e1 hsz
              go_wp2_with fail
              go_roundw
              case rel => exact ⟨q + 1, cap2, some ⟨g2, 0, none⟩, M, by omega, by omega, by go_num, rfl, HB7, HCG, HO7⟩
              case measure => simp [intOf]; omega
          · have HCG := Lib.hid (show out = pairsS (X.take k) Y ++ pairsS [⟨slo, shi⟩] (Y.take (q + 1)) by rw [hp1, if_neg hpq, List.append_nil, ← hout])
            rw [show decide (p ≤ r) = false by simpa using hpq] at hct
            have HCT := Lib.hid hct
            clear hcy hgt hct hp1 hout hM HOUT hMl HSN
            go_wp2_with fail
            have ngx : gx ≠ wr.heap.size := by have := HB.out.size; omega
            have ngy : gy ≠ wr.heap.size := by have := HB.out.size; omega
            have mgx : wr.heap.size ≠ gx := by have := HB.out.size; omega
            have mgy : wr.heap.size ≠ gy := by have := HB.out.size; omega
            go_region_held3 (fun w' => w'.cell? ⟨gx, ox + k * 2, none⟩ = some (.int .i64 slo) ∧ w'.cell? ⟨gx, ox + k * 2 + 1, none⟩ = some (.int .i64 shi) ∧ w'.cell? ⟨gy, oy + q * 2, none⟩ = some (.int .i64 tlo) ∧ w'.cell? ⟨gy, oy + q * 2 + 1, none⟩ = some (.int .i64 thi)) (go_keep) (first
              | (go_at_call 74; refine (HCT.out _).mono ?_; rintro e w5 ⟨rfl, hb3d⟩; have hbz : Below (wr.alloc (.cells #[.int .i64 0, .int .i64 0] 34)).heap.size (wr.alloc (.cells #[.int .i64 0, .int .i64 0] 34)) w5 := ⟨hb3d.os, hb3d.tape, hb3d.output, hb3d.size, hb3d.block⟩; have hx5 := (sb2_new wr 0 0).kept hbz (alloc_lt5 wr _); have hb5 : Below w2.heap.size w2 w5 := (HB.out.alloc HB.out.size _).trans (hbz.mono (by simp; have := HB.out.size; omega)); have hbb : Below wr.heap.size wr w5 := (below_alloc5 wr _).trans (hbz.mono (by simp)); obtain ⟨j0, j1⟩ := HSX.out w5 hb5; obtain ⟨j2, j3⟩ := HSY.out w5 hb5; have e0 := hx5.c0; have e1 := hx5.c1; have f0 := hx5.f 0; have f1 := hx5.f 1)
              | (go_at_call 74; refine (HCT.out _).mono ?_; rintro e w5 ⟨rfl, hb3d⟩; have hbb : Below wr.heap.size wr w5 := ⟨hb3d.os, hb3d.tape, hb3d.output, hb3d.size, hb3d.block⟩; have hb5 : Below w2.heap.size w2 w5 := HB.out.trans (hbb.mono HB.out.size); obtain ⟨j0, j1⟩ := HSX.out w5 hb5; obtain ⟨j2, j3⟩ := HSY.out w5 hb5))
            · have HX6 := Lib.hid (sb2_new w5 p r)
              have HB6 := Lib.hid (hb5.alloc hb5.size (.cells #[.int .i64 p, .int .i64 r] 34))
              have HO6 := Lib.hid ((own_of_blocks5 HO.out (fun b _ hl => hbb.block b hl)).alloc (.cells #[.int .i64 p, .int .i64 r] 34))
              obtain ⟨bn, hbn⟩ : ∃ bn, bn = w5.heap.size := ⟨_, rfl⟩
              rw [← hbn] at HX6 ⊢
              generalize w5.alloc (.cells #[.int .i64 p, .int .i64 r] 34) = w6 at *
              clear hbn hb3d hbb hb5 j0 j1 j2 j3 x0 x1 y0 y1 HB HO ngx ngy mgx mgy
              go_wp2_with fail
              go_roundw
              case rel => exact ⟨q + 1, cap', A', out, by omega, by omega, by go_num, rfl, HB6, HCG, HO6⟩
              case measure => simp [intOf]; omega
            · have HX6 := Lib.hid (hx5.set p r)
              have HB6 := Lib.hid (sset_below hb5 HB.out.size p r)
              have HO6 := Lib.hid ((own_of_blocks5 HO.out (fun b _ hl => (sset_other p r (Nat.ne_of_lt hl)).trans (hbb.block b hl))))
              unfold sset at HX6 HB6 HO6
              generalize (w5.setCell ⟨wr.heap.size, 0, none⟩ (.int .i64 p)).setCell ⟨wr.heap.size, 1, none⟩ (.int .i64 r) = w6 at *
              obtain ⟨bn, hbn⟩ : ∃ bn, bn = wr.heap.size := ⟨_, rfl⟩
              rw [← hbn] at HX6 ⊢
              clear hbn hb3d hbz hx5 hbb hb5 j0 j1 j2 j3 x0 x1 y0 y1 HB HO e0 e1 f0 f1 ngx ngy mgx mgy
              go_wp2_with fail
              go_roundw
              case rel => exact ⟨q + 1, cap', A', out, by omega, by omega, by go_num, rfl, HB6, HCG, HO6⟩
              case measure => simp [intOf]; omega
        · have hqn : q = Y.length := by have := HNY.out; omega
          have HE := Lib.hid (show out = pairsS (X.take (k + 1)) Y by rw [HPT.out, HOUT.out, hqn, List.take_length])
          have hd : decide ((q : Int) < (ny : Int)) = false := by simp; omega
          clear hqn HOUT
          go_wp2_with fail
          go_roundw
          case rel => exact ⟨k + 1, cap', A', out, by omega, by omega, by go_num, rfl, HB, HE, HO⟩
          case measure => simp [intOf]; omega
    · have hkn : k = X.length := by have := HNX.out; omega
      obtain ⟨P, hP⟩ : ∃ P, P = out := ⟨_, rfl⟩
      have HE := Lib.hid (show ∀ m, memS 4294967296 out m = (memS 4294967296 a m && memS 4294967296 b m) from fun m => by
        have h1 : anyS out m = (memS 4294967296 a m && memS 4294967296 b m) := by rw [HOUT.out, hkn, List.take_length, pairs_any, HMX.out, HMY.out]
        unfold memS at h1 ⊢
        rw [h1]
        cases decide (0 ≤ m) <;> cases decide (m ≤ 4294967296) <;> simp)
      have hk9 : k * 900 ≤ 810000 := by omega
      have HLO := Lib.hid (show out.length ≤ 810000 by omega)
      have HC := Lib.hid (rnormal_any A' cap' out wr (spl_of_own HO.out) (by omega))
      have HB9 := Lib.hid (HB2.out.trans (HB.out.mono HB2.out.size))
      have hd : decide ((k : Int) < (nx : Int)) = false := by simp; omega
      clear hkn HOUT hP
      go_wp2_with fail
      refine HC.out.mono ?_
      intro e w5 hset
      obtain ⟨L, A5, c5, g1, g2, g3, rfl, g5, g6⟩ := SetP.back HB9.out hset HE.out HLO.out
      go_wp2_with fail
      go_ret
      exact ⟨L, A5, c5, g1, g2, g3, rfl, g5, g6⟩

set_option maxRecDepth 20000 in
theorem rminus_any (A1 A2 : Option Addr) (c1 c2 : Nat) (a b : List Spn) (w : World) (h1 : SpL w A1 a) (h2 : SpL w A2 b) (hl1 : a.length ≤ 900) (hl2 : b.length ≤ 899) :
    Calls Tryz.prog 37 #[.slice A1 a.length c1, .slice A2 b.length c2] w (SetP w (fun m => memS 4294967296 a m && !memS 4294967296 b m) 810000) := by
  have HC := Lib.hid (rcomp_any A2 c2 b 0 4294967296 w h2 (by omega))
  have HI := Lib.hid (fun (w1 : World) (A : Option Addr) (c : Nat) (L : List Spn) (hb : Below w.heap.size w w1) (hL : SpL w1 A L) (hl : L.length ≤ 900) => rinter_any A1 A c1 c a L w1 (h1.kept hb) hL hl1 hl)
  obtain ⟨la, hla⟩ : ∃ n, n = a.length := ⟨_, rfl⟩
  obtain ⟨lb, hlb⟩ : ∃ n, n = b.length := ⟨_, rfl⟩
  rw [← hla] at HI ⊢
  rw [← hlb] at HC ⊢
  have hs2 : lb ≤ 899 := by omega
  clear h1 h2 hl1 hl2 hla hlb
  go_enter Tryz.func37, Tryz.ntmps37
  go_wp2_with fail
  refine HC.out.mono ?_
  rintro e w1 ⟨L, A, c, ok, any, le, rfl, own, hb⟩
  have HB := Lib.hid hb
  have HF := Lib.hid (show ∀ m, (memS 4294967296 a m && memS 4294967296 L m) = (memS 4294967296 a m && !memS 4294967296 b m) from fun m => by
    have hany : anyS L m = (decide (max 0 0 ≤ m) && decide (m ≤ min 4294967296 4294967296) && !memS 4294967296 b m) := any m
    rw [okL_mem ok, hany]
    cases ha : memS 4294967296 a m with
    | false => rfl
    | true =>
      have := memS_in ha
      rw [show decide (max 0 0 ≤ m) = true by simp; omega, show decide (m ≤ min 4294967296 4294967296) = true by simp; omega]
      rfl)
  have HI2 := Lib.hid (HI.out w1 A c L hb (spl_of_own own) (by omega))
  obtain ⟨nl, hnl⟩ : ∃ n, n = L.length := ⟨_, rfl⟩
  rw [← hnl] at HI2 ⊢
  clear HI HC ok any le own hb hnl
  go_wp2_with fail
  refine HI2.out.mono ?_
  intro e w5 hset
  obtain ⟨L2, A5, c5, g1, g2, g3, rfl, g5, g6⟩ := SetP.back HB.out hset HF.out (Nat.le_refl _)
  go_wp2_with fail
  go_ret
  exact ⟨L2, A5, c5, g1, g2, g3, rfl, g5, g6⟩

/-- What Subset answers: has the difference no number? -/
def SubP (w : World) (f : Int → Bool) (e : Ending) (w' : World) : Prop :=
  ∃ L : List Spn, okL 4294967296 0 L ∧ (∀ m, anyS L m = f m) ∧ e = .returned (.bool (decide (L.length = 0))) ∧ Below w.heap.size w w'
end Go.Proofs.YtepbmnpjpkmmfaaGreatDoor

/- Contract of the program of layer 5: edges (the sort of integers by the library's contract). -/
namespace Go.Proofs.YtepbmnpjpkmmfaaGreatDoor
open Go.ChangeShapes Go.WideShapes Go.ChangeAt Go.RowKit Go.Sort
set_option linter.unusedVariables false

/-- The edges of a set: where its spans begin, and what follows their ends. -/
def edgL (l : List Spn) : List Int := l.flatMap fun s => [s.lo, s.hi + 1]
theorem edgL_length (l : List Spn) : (edgL l).length = l.length * 2 := by
  unfold edgL
  induction l with
  | nil => rfl
  | cons t r ih => rw [List.flatMap_cons, List.length_append, ih]; simp; omega
theorem edgL_take {l : List Spn} {k : Nat} {s : Spn} (hs : l[k]? = some s) : edgL (l.take (k + 1)) = edgL (l.take k) ++ [s.lo, s.hi + 1] := by
  obtain ⟨hk, e⟩ := List.getElem?_eq_some_iff.1 hs
  rw [List.take_succ_eq_append_getElem hk, e]
  simp [edgL]
def intC (l : List Int) : List Value := l.map (Value.int .i64)
theorem intC_append (a b : List Int) : intC (a ++ b) = intC a ++ intC b := by simp [intC]
theorem info_int5 : (Tryz.prog.info? 3).map (fun i => (i.zero, i.size, i.bytes)) = some (some (.int .i64 0), 1, 8) := by kernel_rfl
/-- A slice of integers in memory. -/
def InL (base : Nat) (w : World) (A : Option Addr) (l : List Int) : Prop :=
  0 < l.length → ∃ g, A = some ⟨g, 0, none⟩ ∧ base ≤ g ∧ g < w.heap.size ∧ ∀ (i : Nat) (x : Int), l[i]? = some x → w.cell? ⟨g, i, none⟩ = some (.int .i64 x)
/-- The edges of two sets in order. -/
def edgesS (a b : List Spn) : List Int := (edgL a ++ edgL b).mergeSort fun x y => decide (x ≤ y)

theorem pints_any (g cap base : Nat) (zs : List Int) (w : World) (hown : w.ownsRow base 3 1 (.slice (some ⟨g, 0, none⟩) zs.length cap) zs.length (intC zs)) (hl : zs.length ≤ 1000000) :
    Calls Tryz.prog 76 #[.slice (some ⟨g, 0, none⟩) zs.length cap] w fun e w' => e = .returned (.tuple #[]) ∧ InL base w' (some ⟨g, 0, none⟩) (zs.mergeSort fun x y => decide (x ≤ y)) ∧ RowKit.Below base w w' := by
  have hlt := hown.lt g rfl
  have hH : Holds (Value.int .i64) w g 0 zs.toArray := fun j hj => by
    rw [List.size_toArray] at hj
    rw [Nat.zero_add]
    refine ⟨?_, hown.frozenAt j⟩
    rw [hown.cellAt j (by omega)]
    unfold intC
    rw [List.getElem?_map, List.getElem?_eq_getElem hj]
    simp [getElem!_pos, hj]
  have hcon := AnyM.slices_Sort_int laySi g 0 cap zs w hH hlt.2 (by omega)
  refine hcon.mono ?_
  rintro e w' ⟨rfl, n, os, rfl⟩
  obtain ⟨S, hS⟩ : ∃ S, S = zs.mergeSort fun x y => decide (x ≤ y) := ⟨_, rfl⟩
  have hSl : S.length = zs.length := by rw [hS]; exact List.length_mergeSort _
  rw [← hS]
  have hsz : (putRow (Value.int .i64) (Sort.ahead w n) g 0 S.toArray).heap.size = w.heap.size := by simp [putRow, mapBlock, Sort.ahead]
  have hK : Holds (Value.int .i64) (grow (putRow (Value.int .i64) (Sort.ahead w n) g 0 S.toArray) os) g 0 S.toArray :=
    holds_grow _ _ _ _ _ _ (by rw [hsz]; exact hlt.2) (holds_putRow _ _ _ _ zs.toArray _ hH (by simp [hSl]))
  refine ⟨rfl, fun _ => ⟨g, rfl, hlt.1, ?_, fun i x hi => ?_⟩, ?_⟩
  · rw [size_grow, hsz]; omega
  · obtain ⟨hil, hie⟩ := List.getElem?_eq_some_iff.1 hi
    have := (hK i (by simpa using hil)).1
    rw [Nat.zero_add] at this
    rw [this]
    simp [getElem!_pos, hil, hie]
  · refine ⟨rfl, rfl, rfl, ?_, fun k hk => ?_⟩
    · rw [size_grow, hsz]; omega
    · rw [heap_grow_old _ _ (by rw [hsz]; omega)]
      simp [putRow, mapBlock, Sort.ahead, Array.getElem?_modify, show g ≠ k by omega]
theorem pints_nil (A : Option Addr) (cap : Nat) (w : World) :
    Calls Tryz.prog 76 #[.slice A 0 cap] w fun e w' => e = .returned (.tuple #[]) ∧ w' = w := AnyM.slices_Sort_int_none laySi A cap w

theorem heap_alloc_lt (w : World) (o : Obj) {b : Nat} (h : b < w.heap.size) : (w.alloc o).heap[b]? = w.heap[b]? := (below_alloc5 w o).block b h
def good5 (M : Int) (l : List Spn) : Prop := ∀ s ∈ l, 0 ≤ s.lo ∧ s.lo ≤ s.hi ∧ s.hi ≤ M
theorem okL_good {M : Int} {l : List Spn} (h : okL M 0 l) : good5 M l := fun s hs => by
  obtain ⟨k, hk, e⟩ := List.getElem_of_mem hs
  exact okL_get (k := k) (by rw [List.getElem?_eq_getElem hk, e]) h
/-- The edges of the first i of two sets. -/
def preE (a b : List Spn) : Nat → List Int
  | 0 => []
  | 1 => edgL a
  | _ => edgL a ++ edgL b
set_option maxHeartbeats 400000 in
set_option maxRecDepth 20000 in
theorem pedges_any (A1 A2 : Option Addr) (c1 c2 : Nat) (a b : List Spn) (w : World) (h1 : SpL w A1 a) (h2 : SpL w A2 b) (g1 : good5 4294967296 a) (g2 : good5 4294967296 b) (hl1 : a.length ≤ 100000) (hl2 : b.length ≤ 100000) :
    Calls Tryz.prog 59 #[.slice A1 a.length c1, .slice A2 b.length c2] w fun e w' => ∃ A' c', e = .returned (.slice A' (edgesS a b).length c') ∧ InL w.heap.size w' A' (edgesS a b) ∧ RowKit.Below w.heap.size w w' := by
  obtain ⟨la, hla⟩ : ∃ n, n = a.length := ⟨_, rfl⟩
  obtain ⟨lb, hlb⟩ : ∃ n, n = b.length := ⟨_, rfl⟩
  rw [← hla, ← hlb]
  obtain ⟨i0, hinf, hz0, hz1, hz2⟩ := info_parts info_int5
  have HT := Lib.hid (show ∀ i, i < 2 → ∃ A0 n0 cc0, ∃ l0 : List Spn, (#[.slice A1 la c1, .slice A2 lb c2] : Array Value)[i]? = some (.slice A0 n0 cc0) ∧ SpL w A0 l0 ∧ n0 = l0.length ∧ n0 ≤ 100000 ∧ good5 4294967296 l0 ∧ preE a b (i + 1) = preE a b i ++ edgL l0 from fun i hi => by
    match i, hi with
    | 0, _ => exact ⟨A1, la, c1, a, rfl, h1, hla, by omega, g1, rfl⟩
    | 1, _ => exact ⟨A2, lb, c2, b, rfl, h2, hlb, by omega, g2, rfl⟩)
  have HP := Lib.hid (show (preE a b 2).length = 2 * la + 2 * lb from by
    show (edgL a ++ edgL b).length = _
    rw [List.length_append, edgL_length, edgL_length]; omega)
  have HPL := Lib.hid (show ∀ i, (preE a b i).length ≤ 2 * la + 2 * lb from fun i => by
    match i with
    | 0 => simp [preE]
    | 1 => show (edgL a).length ≤ _; rw [edgL_length]; omega
    | i + 2 => show (edgL a ++ edgL b).length ≤ _; rw [List.length_append, edgL_length, edgL_length]; omega)
  have HE := Lib.hid (show edgesS a b = (preE a b 2).mergeSort fun x y => decide (x ≤ y) from rfl)
  have HP0 := Lib.hid (show preE a b 0 = [] from rfl)
  generalize preE a b = pre at *
  obtain ⟨ES, hES⟩ : ∃ ES, ES = edgesS a b := ⟨_, rfl⟩
  rw [← hES] at HE ⊢
  have hs1 : la ≤ 100000 := by omega
  have hs2 : lb ≤ 100000 := by omega
  clear h1 h2 g1 g2 hla hlb hl1 hl2 hES
  obtain ⟨tb, htb⟩ : ∃ tb, tb = w.heap.size := ⟨_, rfl⟩
  go_enter Tryz.func59, Tryz.ntmps59
  go_wp2_with fail
  have hcell0 := cells_new w 23 #[.slice A1 la c1, .slice A2 lb c2]
  have HC := Lib.hid (show Cells (w.alloc (.cells #[.slice A1 la c1, .slice A2 lb c2] 23)) tb 23 #[.slice A1 la c1, .slice A2 lb c2] by rw [htb]; exact hcell0)
  have HB := Lib.hid (below_alloc5 w (.cells #[.slice A1 la c1, .slice A2 lb c2] 23))
  have HO := Lib.hid (World.ownsRow_nil (w.alloc (.cells #[.slice A1 la c1, .slice A2 lb c2] 23)) (w.heap.size + 1) 3 1)
  rw [← htb]
  generalize w.alloc (.cells #[.slice A1 la c1, .slice A2 lb c2] 23) = w1 at *
  have HTB := Lib.hid htb
  clear hcell0 htb
  go_loopw [5, 14] (fun v5 v14 wr => ∃ i cap' : Nat, ∃ A' : Option Addr, ∃ out : List Int, i ≤ 2 ∧ v14 = .int .i64 i ∧ v5 = .slice A' out.length cap' ∧ Hid (out = pre i) ∧ Hid (RowKit.Below w.heap.size w wr) ∧ Hid (Cells wr tb 23 #[.slice A1 la c1, .slice A2 lb c2]) ∧ Hid (wr.ownsRow (w.heap.size + 1) 3 1 (.slice A' out.length cap') out.length (intC out))) (fun _ v14 _ => 2 - (intOf v14).toNat)
  case atStart => exact ⟨0, 0, none, [], by omega, rfl, rfl, Lib.hid HP0.out.symm, HB, HC, HO⟩
  case round =>
    clear HC HB HO HP0
    obtain ⟨i, cap', A', out, hi2, rfl, rfl, HOUT, HB, HC, HO⟩ := hrel
    by_cases hlt : i < 2
    · have hii : (i : Int) < 2 := by omega
      have hii0 : (0 : Int) ≤ (i : Int) := by omega
      obtain ⟨A0, n0, cc0, l0, hc0, hs0, hn0, hn6, hg0, hpre⟩ := HT.out i hlt
      have x0 : wr.cell? ⟨tb, i, none⟩ = some (.slice A0 n0 cc0) := (Cells.cell HC.out i).trans hc0
      have HS0 := Lib.hid hs0
      have HN0 := Lib.hid hn0
      have HG0 := Lib.hid hg0
      have HPRE := Lib.hid hpre
      have HOUT0 := Lib.hid (show out = pre i ++ edgL (l0.take 0) by rw [HOUT.out]; simp [edgL])
      have hnew : (1 : Int) = 1 := rfl
      clear hc0 hs0 hn0 hg0 hpre HOUT hnew
      go_wp2_with fail
      go_loopw [5, 20] (fun v5 v20 wr => ∃ k cap' : Nat, ∃ A' : Option Addr, ∃ out : List Int, k ≤ n0 ∧ v20 = .int .i64 k ∧ v5 = .slice A' out.length cap' ∧ Hid (out = pre i ++ edgL (l0.take k)) ∧ Hid (RowKit.Below w.heap.size w wr) ∧ Hid (Cells wr tb 23 #[.slice A1 la c1, .slice A2 lb c2]) ∧ Hid (wr.ownsRow (w.heap.size + 1) 3 1 (.slice A' out.length cap') out.length (intC out))) (fun _ v20 _ => n0 - (intOf v20).toNat)
      case atStart => exact ⟨0, cap', A', out, by omega, rfl, rfl, HOUT0, HB, HC, HO⟩
      case round =>
        clear HB HC HO HOUT0 x0
        obtain ⟨k, cap', A', out, hk, rfl, rfl, HOUT, HB, HC, HO⟩ := hrel
        by_cases hkt : k < n0
        · obtain ⟨s, hget⟩ : ∃ s, l0[k]? = some s := ⟨l0[k]'(by have := HN0.out; omega), List.getElem?_eq_getElem _⟩
          obtain ⟨g, o, rfl, hg, hc⟩ := HS0.out (by have := HN0.out; omega)
          have hki : (k : Int) < (n0 : Int) := by omega
          have hki0 : (0 : Int) ≤ (k : Int) := by omega
          have het := edgL_take hget
          obtain ⟨s0, s1⟩ := HS0.out.at_ hget HB.out
          obtain ⟨hg1, hg2, hg3⟩ := HG0.out _ (List.mem_of_getElem? hget)
          obtain ⟨p, r⟩ := s
          simp only at het s0 s1 hg1 hg2 hg3
          obtain ⟨M, hM⟩ : ∃ M, M = out ++ [p, r + 1] := ⟨_, rfl⟩
          have HCG := Lib.hid (show M = pre i ++ edgL (l0.take (k + 1)) by rw [hM, HOUT.out, het, List.append_assoc])
          have HSN := Lib.hid (show intC M = intC out ++ [.int .i64 p, .int .i64 (r + 1)] by rw [hM, intC_append]; rfl)
          have hMl : out.length + 2 = M.length := by rw [hM]; simp
          have hol : out.length ≤ 600000 := by
            have h3 := HPL.out i
            have h4 := HOUT.out
            have h5 : out.length = (pre i).length + (l0.take k).length * 2 := by rw [h4, List.length_append, edgL_length]
            have h6 : (l0.take k).length ≤ k := by rw [List.length_take]; omega
            omega
          have hB6 := HB.out.alloc (by have := HB.out.size; omega) (.cells #[.int .i64 p, .int .i64 r] 34)
          have hC6 := HC.out.only (w' := wr.alloc (.cells #[.int .i64 p, .int .i64 r] 34)) (row := none) ⟨rfl, rfl, rfl, by simp, fun b hb _ => heap_alloc_lt wr _ hb⟩ (by simp)
          have HO6 := Lib.hid (HO.out.alloc (.cells #[.int .i64 p, .int .i64 r] 34))
          have HX6 := Lib.hid (sb2_new wr p r)
          have HC6 := Lib.hid hC6
          have HB6 := Lib.hid hB6
          have hw1 : r + 1 ≤ 4294967297 := by omega
          clear hB6 hC6 het hget hM hc HOUT HB HC HO
          go_wp2_with (at_builtin; refine wpList_append_lies _ rfl _ _ 75 rfl (w.heap.size + 1) 3 i0 (.int .i64 0) 1 8 Tryz.underlying75 hinf hz0 hz1 hz2 rfl (by omega) _ out.length (intC out) rfl (HO6.out.alloc _) ⟨wr.heap.size + 1, 0, none⟩ 2 2 [.int .i64 p, .int .i64 (r + 1)] rfl rfl ?c1 ?c2 (by omega) ?c3 ?c4 ?c5 _ rfl ?_)
          case c1 => exact World.news_of_block (cs := #[.int .i64 p, .int .i64 (r + 1)]) (t := 3) (fr := (0, 0)) (heap_alloc5_2 wr _ _)
          case c2 => simp [Value.oneCell']
          case c3 => unfold maxLen; omega
          case c4 => omega
          case c5 => have := HB6.out.size; simp at this; simp; omega
          intro g2 cap2 w7 hown7 hgrow hat hlt2
          have hB7 := (HB6.out.alloc HB6.out.size (.cells #[.int .i64 p, .int .i64 (r + 1)] 3)).grown hgrow (by have := HB6.out.size; simp at this ⊢; omega) (fun j hj => by have := (HO6.out.lt j hj).1; omega)
          have hrow : (Value.slice A' out.length cap').ownBlock ≠ some tb := fun e => by
            have := (HO6.out.lt tb e).1
            have := HTB.out
            omega
          have hC7 := (HC6.out.only (w' := (wr.alloc (.cells #[.int .i64 p, .int .i64 r] 34)).alloc (.cells #[.int .i64 p, .int .i64 (r + 1)] 3)) (row := none) ⟨rfl, rfl, rfl, by simp, fun b hb _ => heap_alloc_lt _ _ hb⟩ (by simp)).only hgrow (fun e => hrow e.symm)
          rw [← HSN.out] at hown7
          try rw [hMl] at hown7
          try rw [hMl]
          have HB7 := Lib.hid hB7
          have HO7 := Lib.hid hown7
          have HC7 := Lib.hid hC7
          clear hB7 hown7 hgrow hat hlt2 HX6 HB6 HO6 HC6 hC7 hrow
          go_wp2_with fail
          go_roundw
          case rel => exact ⟨k + 1, cap2, some ⟨g2, 0, none⟩, M, by omega, by go_num, rfl, HCG, HB7, HC7, HO7⟩
          case measure => simp [intOf]; omega
        · have hkn : k = l0.length := by have := HN0.out; omega
          have HE2 := Lib.hid (show out = pre (i + 1) by rw [HPRE.out, HOUT.out, hkn, List.take_length])
          have hd : decide ((k : Int) < (n0 : Int)) = false := by simp; omega
          clear hkn HOUT
          go_wp2_with fail
          go_roundw
          case rel => exact ⟨i + 1, cap', A', out, by omega, by go_num, rfl, HE2, HB, HC, HO⟩
          case measure => simp [intOf]; omega
    · obtain rfl : i = 2 := by omega
      have hol : out.length ≤ 600000 := by have h3 := HPL.out 2; rw [← HOUT.out] at h3; omega
      have hE2 : ES = out.mergeSort fun x y => decide (x ≤ y) := by rw [HE.out, HOUT.out]
      have hel : ES.length = out.length := by rw [hE2]; exact List.length_mergeSort _
      have HEL := Lib.hid hel
      have HE2 := Lib.hid hE2
      have HO2 := Lib.hid (own_mono5 HO.out (Nat.le_succ _))
      clear HOUT HC HT HP HPL HO hE2
      by_cases h0 : out.length = 0
      · have HES := Lib.hid (show ES = [] from List.eq_nil_of_length_eq_zero (hel.trans h0))
        rw [h0] at HEL ⊢
        have HSN := Lib.hid (pints_nil A' cap')
        clear hel hol h0
        go_wp2_with fail
        refine (HSN.out _).mono ?_
        rintro e w' ⟨rfl, rfl⟩
        go_wp2_with fail
        go_ret
        exact ⟨A', cap', congrArg (fun n => Ending.returned (.slice A' n cap')) (by rw [HES.out]; rfl), by rw [HES.out]; intro h; simp at h, HB.out⟩
      · obtain ⟨gA, cA, hform, _, _⟩ := World.ownsRow.form HO2.out (by omega)
        obtain ⟨rfl, _, rfl⟩ : A' = some ⟨gA, 0, none⟩ ∧ out.length = out.length ∧ cap' = cA := by simpa using hform
        have HSN := Lib.hid (pints_any gA cap' w.heap.size out wr HO2.out (by omega))
        rw [← HE2.out] at HSN
        generalize out.length = ol at *
        clear hel hol h0 hform HE2 HO2
        go_wp2_with fail
        refine HSN.out.mono ?_
        rintro e w' ⟨rfl, hin, hb⟩
        have HIN := Lib.hid hin
        have HB2 := Lib.hid (HB.out.trans hb)
        clear hin hb
        go_wp2_with fail
        go_ret
        exact ⟨some ⟨gA, 0, none⟩, cap', congrArg (fun n => Ending.returned (.slice (some ⟨gA, 0, none⟩) n cap')) HEL.out.symm, HIN.out, HB2.out⟩
end Go.Proofs.YtepbmnpjpkmmfaaGreatDoor

/- Contracts of the program of layer 5: follower and the closure that it makes. -/
namespace Go.Proofs.YtepbmnpjpkmmfaaGreatDoor
open Go.ChangeShapes Go.WideShapes Go.ChangeAt Go.RowKit
set_option linter.unusedVariables false

/-- The box of a follower: what is left of the set. -/
def FB (w : World) (b : Nat) (A : Option Addr) (n cap : Nat) : Prop := Cells w b 23 #[.slice A n cap]
theorem FB.c {w : World} {b n cap : Nat} {A : Option Addr} (h : FB w b A n cap) : w.cell? ⟨b, 0, none⟩ = some (.slice A n cap) := (Cells.cell h 0).trans rfl
theorem FB.f {w : World} {b n cap : Nat} {A : Option Addr} (h : FB w b A n cap) : w.frozen? ⟨b, 0, none⟩ = false := Cells.frozen h 0
theorem FB.lt {w : World} {b n cap : Nat} {A : Option Addr} (h : FB w b A n cap) : b < w.heap.size := Cells.lt h
theorem FB.set {w : World} {b n cap : Nat} {A : Option Addr} (h : FB w b A n cap) (A' : Option Addr) (n' cap' : Nat) : FB (w.setCell ⟨b, 0, none⟩ (.slice A' n' cap')) b A' n' cap' := Cells.set h 0 _
theorem FB.only {w w' : World} {b n cap : Nat} {A : Option Addr} {row : Option Nat} (h : FB w b A n cap) (hg : w.grownBy w' row) (hne : some b ≠ row) : FB w' b A n cap := Cells.only h hg hne
/-- What is left of a set behind the numbers below n. -/
def dropB : List Spn → Int → List Spn
  | [], _ => []
  | s :: r, n => if s.hi < n then dropB r n else s :: r
theorem dropB_any (n : Int) : ∀ (l : List Spn) (m : Int), n ≤ m → anyS (dropB l n) m = anyS l m
  | [], m, h => rfl
  | s :: r, m, h => by
    rw [dropB]
    split
    · rw [dropB_any n r m h, anyS_cons, show inS s m = false by unfold inS; simp; omega, Bool.false_or]
    · rfl
theorem dropB_ok {M : Int} (n : Int) : ∀ (l : List Spn) (c : Int), okL M c l → okL M c (dropB l n)
  | [], _, h => h
  | s :: r, c, h => by
    rw [dropB]
    split
    · exact okL_mono (by have h1 := h.1; have h2 := h.2.1; omega) (dropB_ok n r _ h.2.2.2)
    · exact h
/-- Does what is left begin at n or below? -/
def hereB : List Spn → Int → Bool
  | [], _ => false
  | s :: _, n => decide (s.lo ≤ n)
theorem dropB_here {M : Int} (n : Int) : ∀ (l : List Spn) (c : Int), okL M c l → anyS l n = hereB (dropB l n) n
  | [], _, _ => rfl
  | s :: r, c, h => by
    by_cases hs : s.hi < n
    · rw [dropB, if_pos hs, anyS_cons, show inS s n = false by unfold inS; simp; omega, Bool.false_or]
      exact dropB_here n r _ h.2.2.2
    · rw [dropB, if_neg hs, anyS_cons]
      have hr : anyS r n = false := by
        cases ha : anyS r n with
        | false => rfl
        | true => have := okL_ge h.2.2.2 ha; omega
      rw [hr, Bool.or_false]
      unfold inS hereB
      rw [show decide (n ≤ s.hi) = true by simp; omega, Bool.and_true]
theorem SpL.only {w w' : World} {A : Option Addr} {l : List Spn} {b : Nat} (h : SpL w A l) (hg : w.grownBy w' (some b)) (hne : ∀ a, A = some a → a.block ≠ b) : SpL w' A l := fun hp => by
  obtain ⟨g, o, e, hg1, hc⟩ := h hp
  have hgb : g ≠ b := hne _ e
  have hB := hg.block g hg1 (fun e => hgb (Option.some.inj e))
  refine ⟨g, o, e, Nat.lt_of_lt_of_le hg1 hg.size, fun i s hs => ?_⟩
  rw [World.cell?_of_block (w := w) (w' := w') (a := ⟨g, o + i * 2, none⟩) hB, World.cell?_of_block (w := w) (w' := w') (a := ⟨g, o + i * 2 + 1, none⟩) hB]
  exact hc i s hs
theorem grownBy_set {w : World} {b : Nat} (u : Value) : w.grownBy (w.setCell ⟨b, 0, none⟩ u) (some b) := ⟨rfl, rfl, rfl, by simp, fun k _ hk => heap_setCell_other w ⟨b, 0, none⟩ k u (fun e => hk (by simp [e]))⟩
theorem grownBy_trans {w w1 w2 : World} {row : Option Nat} (h1 : w.grownBy w1 row) (h2 : w1.grownBy w2 row) : w.grownBy w2 row := ⟨h2.os.trans h1.os, h2.tape.trans h1.tape, h2.output.trans h1.output, Nat.le_trans h1.size h2.size, fun k hk hne => (h2.block k (Nat.lt_of_lt_of_le hk h1.size) hne).trans (h1.block k hk hne)⟩
theorem grownBy_refl (w : World) (row : Option Nat) : w.grownBy w row := ⟨rfl, rfl, rfl, Nat.le_refl _, fun _ _ _ => rfl⟩
def lenAt (w : World) (b : Nat) : Nat := match (w.cell? ⟨b, 0, none⟩).getD undef with
  | .slice _ n _ => n
  | _ => 0
theorem FB.lenAt {w : World} {b n cap : Nat} {A : Option Addr} (h : FB w b A n cap) : lenAt w b = n := by
  unfold Go.Proofs.YtepbmnpjpkmmfaaGreatDoor.lenAt
  rw [h.c]; rfl
theorem SpL.tail {w : World} {g o : Nat} {s : Spn} {r : List Spn} (h : SpL w (some ⟨g, o, none⟩) (s :: r)) : SpL w (some ⟨g, o + 2, none⟩) r := fun hp => by
  obtain ⟨g', o', e, hg, hc⟩ := h (by simp)
  obtain ⟨rfl, rfl⟩ : g = g' ∧ o = o' := by simp only [Option.some.injEq, Addr.mk.injEq] at e; exact ⟨e.1, e.2.1⟩
  refine ⟨g, o + 2, rfl, hg, fun i t ht => ?_⟩
  have := hc (i + 1) t (by simpa using ht)
  rw [show o + (i + 1) * 2 = o + 2 + i * 2 by omega] at this
  exact this
theorem pfollower_any (A : Option Addr) (n cap : Nat) (w : World) :
    Calls Tryz.prog 58 #[.slice A n cap] w fun e w' => e = .returned (.func (.func 75) #[] #[.pointer (some ⟨w.heap.size, 0, none⟩)]) ∧ w' = w.alloc (.cells #[.slice A n cap] 23) := by
  go_enter Tryz.func58, Tryz.ntmps58
  go_wp2_with fail
  go_ret
  exact ⟨rfl, rfl⟩
/-- What the closure leaves: the box holds what is left; the answer. w0: the world in which the set lies. -/
def FolP (w0 w : World) (b : Nat) (R : List Spn) (n : Int) (e : Ending) (w' : World) : Prop :=
  ∃ A cap, FB w' b A (dropB R n).length cap ∧ SpL w0 A (dropB R n) ∧ (dropB R n).length ≤ cap ∧ cap ≤ maxLen ∧ e = .returned (.bool (anyS R n)) ∧ w.grownBy w' (some b) ∧ Below w0.heap.size w0 w'

set_option maxRecDepth 20000 in
theorem pfol_any (A : Option Addr) (cap b : Nat) (R : List Spn) (c n : Int) (w0 w : World) (hb : FB w b A R.length cap) (hS : SpL w0 A R) (hB0 : Below w0.heap.size w0 w) (hb0 : w0.heap.size ≤ b) (hok : okL 4294967296 c R) (hl : R.length ≤ 1000000) (hcap : R.length ≤ cap) (hc9 : cap ≤ maxLen) :
    Calls Tryz.prog 75 #[.int .i64 n, .pointer (some ⟨b, 0, none⟩)] w (FolP w0 w b R n) := by
  have HB := Lib.hid hb
  have HS := Lib.hid hS
  have H0 := Lib.hid hB0
  have HOK := Lib.hid hok
  have HG := Lib.hid (grownBy_refl w (some b))
  obtain ⟨n0, hn0⟩ : ∃ n0, n0 = R.length := ⟨_, rfl⟩
  have HN := Lib.hid hn0
  unfold maxLen at hc9
  rw [← hn0] at HB hl hcap
  clear hb hS hB0 hok hn0
  go_enter Tryz.func75, Tryz.ntmps75
  go_wp2_with fail
  go_loopw [4] (fun _ wr => ∃ R' : List Spn, ∃ q cap' : Nat, ∃ A' : Option Addr, q ≤ cap' ∧ cap' ≤ 9223372036854775807 ∧ q ≤ 1000000 ∧ Hid (q = R'.length) ∧ Hid (FB wr b A' q cap') ∧ Hid (SpL w0 A' R') ∧ Hid (Below w0.heap.size w0 wr) ∧ Hid (dropB R' n = dropB R n) ∧ Hid (w.grownBy wr (some b))) (fun _ wr => lenAt wr b)
  case atStart => exact ⟨R, n0, cap, A, hcap, by omega, hl, HN, HB, HS, H0, Lib.hid rfl, HG⟩
  case round =>
    clear HB HS H0 HN HG hl hcap hc9
    obtain ⟨R', q, cap', A', hq, hc9, hq6, HQ, HB, HS, H0, HD, HG⟩ := hrel
    have b0 := HB.out.c
    have bf := HB.out.f
    cases R' with
    | nil =>
      obtain rfl : q = 0 := HQ.out
      have HA := Lib.hid (show anyS R n = false by rw [dropB_here n R c HOK.out, ← HD.out]; rfl)
      have HR := Lib.hid (show dropB R n = [] by rw [← HD.out]; rfl)
      have HC9 := Lib.hid hc9
      clear HD HQ
      go_wp2_with fail
      go_ret
      refine ⟨A', cap', ?_, ?_, ?_, HC9.out, ?_, HG.out, H0.out⟩
      · rw [HR.out]; exact HB.out
      · rw [HR.out]; exact HS.out
      · rw [HR.out]; exact Nat.zero_le _
      · rw [HA.out]; rfl
    | cons s r =>
      obtain ⟨g, o, rfl, hg, hc⟩ := (HS.out.kept H0.out) (by simp)
      have hgb : g ≠ b := by
        obtain ⟨g', o', e, hg', _⟩ := HS.out (by simp)
        obtain ⟨rfl, rfl⟩ : g = g' ∧ o = o' := by simp only [Option.some.injEq, Addr.mk.injEq] at e; exact ⟨e.1, e.2.1⟩
        omega
      obtain ⟨c0, c1⟩ := hc 0 s rfl
      obtain ⟨slo, shi⟩ := s
      simp only [Nat.zero_mul, Nat.add_zero] at c0 c1
      obtain ⟨q1, hq1⟩ : ∃ q1, q1 = r.length := ⟨_, rfl⟩
      obtain rfl : q = q1 + 1 := by rw [HQ.out, hq1]; rfl
      have hqi : (0 : Int) < ((q1 + 1 : Nat) : Int) := by omega
      clear hc
      by_cases h1 : shi < n
      · have d1 : decide (shi < n) = true := by simpa using h1
        have HT := Lib.hid (HS.out.tail)
        have HQ1 := Lib.hid hq1
        have HDD := Lib.hid (show dropB r n = dropB R n by rw [← HD.out, dropB, if_pos h1])
        obtain ⟨A2, hA2⟩ : ∃ A2, A2 = (if cap' = 1 then some (⟨g, o, none⟩ : Addr) else some ⟨g, o + 2, none⟩) := ⟨_, rfl⟩
        have HS2 := Lib.hid (show SpL w0 A2 r from fun hp => by
          have : cap' ≠ 1 := by omega
          rw [if_neg this] at hA2
          rw [hA2]
          exact HT.out hp)
        have HB2 := Lib.hid (HB.out.set A2 q1 (cap' - 1))
        have HG2 := Lib.hid (grownBy_set (w := wr) (b := b) (.slice A2 q1 (cap' - 1)))
        have H02 := Lib.hid (H0.out.setCell (p := ⟨b, 0, none⟩) hb0 (.slice A2 q1 (cap' - 1)))
        have HG3 := Lib.hid (grownBy_trans HG.out HG2.out)
        have HL := Lib.hid (show lenAt (wr.setCell ⟨b, 0, none⟩ (.slice A2 q1 (cap' - 1))) b < lenAt wr b by rw [HB2.out.lenAt, HB.out.lenAt]; omega)
        have HCAP := Lib.hid (show q1 ≤ cap' - 1 ∧ cap' - 1 ≤ 9223372036854775807 ∧ q1 ≤ 1000000 by omega)
        go_wp2_with fail
        rw [← hA2, ← hq1]
        exact ⟨⟨r, q1, cap' - 1, A2, HCAP.out.1, HCAP.out.2.1, HCAP.out.2.2, HQ1, HB2, HS2, H02, HDD, HG3⟩, HL.out⟩
      · have d1 : decide (shi < n) = false := by simpa using h1
        have HR := Lib.hid (show dropB R n = ⟨slo, shi⟩ :: r by rw [← HD.out, dropB, if_neg h1])
        have HA := Lib.hid (show anyS R n = decide (slo ≤ n) by rw [dropB_here n R c HOK.out, HR.out]; rfl)
        have HQL := Lib.hid (show q1 + 1 = (dropB R n).length by rw [HR.out, hq1]; rfl)
        have HC9 := Lib.hid (And.intro hq hc9)
        clear HD HQ
        go_wp2_with fail
        go_ret
        refine ⟨some ⟨g, o, none⟩, cap', ?_, ?_, ?_, HC9.out.2, ?_, HG.out, H0.out⟩
        · rw [← HQL.out]; exact HB.out
        · rw [HR.out]; exact HS.out
        · rw [← HQL.out]; exact HC9.out.1
        · rw [HA.out]; rfl
end Go.Proofs.YtepbmnpjpkmmfaaGreatDoor

/- Plain mathematics of combine: sets put together along their edges. -/
namespace Go.Proofs.YtepbmnpjpkmmfaaGreatDoor
set_option linter.unusedVariables false

theorem any_nxt {M : Int} : ∀ {l : List Spn} {c m : Int}, okL M c l → anyS l m = true → m + 2 ≤ nxt c l
  | [], _, _, _, h => by simp [anyS] at h
  | s :: r, c, m, ⟨h1, h2, h3, h4⟩, h => by
    rw [anyS_cons, Bool.or_eq_true, inS_iff] at h
    have hn : s.hi + 2 ≤ nxt (s.hi + 2) r := by
      have : ∀ (l : List Spn) (c : Int), okL M c l → c ≤ nxt c l := by
        intro l
        induction l with
        | nil => intro c _; exact Int.le_refl _
        | cons x q ih =>
          intro c hx
          have := ih (x.hi + 2) hx.2.2.2
          have h5 := hx.1
          have h6 := hx.2.1
          show c ≤ nxt (x.hi + 2) q
          omega
      exact this r _ h4
    show m + 2 ≤ nxt (s.hi + 2) r
    rcases h with h | h
    · omega
    · exact any_nxt h4 h
theorem any_above {M : Int} {C : List Spn} {q m : Int} (h : okL M 0 C) (hn : nxt 0 C ≤ q + 1) (hm : q ≤ m) : anyS C m = false := by
  cases ha : anyS C m with
  | false => rfl
  | true => have := any_nxt h ha; omega
/-- Is a span open, that begins at m or below? -/
def openB : Option Int → Int → Bool
  | some p, m => decide (p ≤ m)
  | none, _ => false
/-- What lies in memory: the spans that are closed, and the open one. -/
def memL (C : List Spn) : Option Int → List Spn
  | none => C
  | some p => C ++ [⟨p, 0⟩]
structure Cmb (M : Int) (f : Int → Bool) (C : List Spn) (o : Option Int) (q : Int) : Prop where
  ok : okL M 0 C
  fo : f q = o.isSome
  nx : nxt 0 C ≤ q + 1
  op : ∀ p, o = some p → nxt 0 C ≤ p ∧ p ≤ q
  any : ∀ m, m ≤ q → f m = (anyS C m || openB o m)
theorem cmb_start (M : Int) {f : Int → Bool} (h : ∀ m, m < 0 → f m = false) : Cmb M f [] none (-1) :=
  ⟨trivial, h _ (by omega), by simp [nxt], fun p hp => by simp at hp, fun m hm => by rw [h m (by omega)]; rfl⟩
theorem cmb_open {M : Int} {f : Int → Bool} {C : List Spn} {q n : Int} (h : Cmb M f C none q) (hq : q ≤ n) (hc : ∀ m, q ≤ m → m < n → f m = f q) (hn : f n = true) : Cmb M f C (some n) n := by
  have hfq : f q = false := h.fo
  have hne : q ≠ n := fun e => by rw [e, hn] at hfq; simp at hfq
  have hnx := h.nx
  refine ⟨h.ok, hn, by omega, fun p hp => ?_, fun m hm => ?_⟩
  · simp at hp; subst hp; exact ⟨by omega, Int.le_refl _⟩
  · by_cases e : m = n
    · subst e
      rw [hn]; simp [openB]
    · rw [show openB (some n) m = false by simp [openB]; omega, Bool.or_false]
      by_cases h2 : m ≤ q
      · rw [h.any m h2]; simp [openB]
      · rw [hc m (by omega) (by omega), hfq, any_above h.ok h.nx (by omega)]
theorem cmb_close {M : Int} {f : Int → Bool} {C : List Spn} {q n p : Int} (h : Cmb M f C (some p) q) (hq : q ≤ n) (hM : n ≤ M + 1) (hc : ∀ m, q ≤ m → m < n → f m = f q) (hn : f n = false) : Cmb M f (C ++ [⟨p, n - 1⟩]) none n := by
  have hfq : f q = true := h.fo
  have hne : q ≠ n := fun e => by rw [e, hn] at hfq; simp at hfq
  obtain ⟨h1, h2⟩ := h.op p rfl
  refine ⟨?_, hn, ?_, fun p hp => by simp at hp, fun m hm => ?_⟩
  · rw [okL_snoc]
    exact ⟨h.ok, h1, by simp only; omega, by simp only; omega⟩
  · rw [nxt_snoc]; simp only; omega
  · rw [anyS_append, show openB none m = false from rfl, Bool.or_false, show anyS [⟨p, n - 1⟩] m = (decide (p ≤ m) && decide (m ≤ n - 1)) by simp [anyS, inS]]
    by_cases h3 : m ≤ q
    · rw [h.any m h3, show decide (m ≤ n - 1) = true by simp; omega, Bool.and_true]; rfl
    · have ha : anyS C m = false := any_above h.ok h.nx (by omega)
      rw [ha, Bool.false_or]
      by_cases e : m = n
      · subst e
        rw [hn, show decide (m ≤ m - 1) = false by simp; omega, Bool.and_false]
      · rw [hc m (by omega) (by omega), hfq, show decide (p ≤ m) = true by simp; omega, show decide (m ≤ n - 1) = true by simp; omega]; rfl
theorem cmb_stay {M : Int} {f : Int → Bool} {C : List Spn} {o : Option Int} {q n : Int} (h : Cmb M f C o q) (hq : q ≤ n) (hc : ∀ m, q ≤ m → m < n → f m = f q) (hn : f n = f q) : Cmb M f C o n := by
  have hnx := h.nx
  refine ⟨h.ok, hn.trans h.fo, by omega, fun p hp => ⟨(h.op p hp).1, by have := (h.op p hp).2; omega⟩, fun m hm => ?_⟩
  by_cases h2 : m ≤ q
  · exact h.any m h2
  · have hfm : f m = f q := by
      by_cases e : m = n
      · rw [e, hn]
      · exact hc m (by omega) (by omega)
    rw [hfm, h.fo, any_above h.ok h.nx (by omega), Bool.false_or]
    cases o with
    | none => rfl
    | some p =>
      have := (h.op p rfl).2
      simp [openB]; omega
theorem cmb_end {M : Int} {f : Int → Bool} {C : List Spn} {o : Option Int} {q : Int} (h : Cmb M f C o q) (hf : ∀ m, q ≤ m → f m = false) : o = none ∧ ∀ m, anyS C m = f m := by
  have ho : o = none := by
    have h1 := h.fo
    rw [hf q (Int.le_refl _)] at h1
    cases o with
    | none => rfl
    | some p => simp at h1
  subst ho
  refine ⟨rfl, fun m => ?_⟩
  by_cases h2 : m ≤ q
  · rw [h.any m h2]; simp [openB]
  · rw [hf m (by omega), any_above h.ok h.nx (by omega)]
/-- Between two edges nothing changes. -/
theorem edg_const {l : List Spn} {q m : Int} (hq : q ≤ m) (h : ∀ e ∈ edgL l, e ≤ q ∨ m < e) : anyS l m = anyS l q := by
  rw [Bool.eq_iff_iff, anyS_iff, anyS_iff]
  have key : ∀ s ∈ l, (s.lo ≤ q ∨ m < s.lo) ∧ (s.hi + 1 ≤ q ∨ m < s.hi + 1) := fun s hs =>
    ⟨h _ (List.mem_flatMap.2 ⟨s, hs, by simp⟩), h _ (List.mem_flatMap.2 ⟨s, hs, by simp⟩)⟩
  constructor
  · rintro ⟨s, hs, h1, h2⟩
    have := key s hs
    exact ⟨s, hs, by omega, by omega⟩
  · rintro ⟨s, hs, h1, h2⟩
    have := key s hs
    exact ⟨s, hs, by omega, by omega⟩
theorem edg_last {l : List Spn} {q m : Int} (hq : q ≤ m) (h : ∀ e ∈ edgL l, e ≤ q) : anyS l m = false := by
  cases ha : anyS l m with
  | false => rfl
  | true =>
    rw [anyS_iff] at ha
    obtain ⟨s, hs, h1, h2⟩ := ha
    have := h (s.hi + 1) (List.mem_flatMap.2 ⟨s, hs, by simp⟩)
    omega
theorem edg_range {M : Int} {l : List Spn} (h : good5 M l) : ∀ e ∈ edgL l, 0 ≤ e ∧ e ≤ M + 1 := by
  intro e he
  obtain ⟨s, hs, h1⟩ := List.mem_flatMap.1 he
  have := h s hs
  simp at h1
  rcases h1 with rfl | rfl <;> omega
theorem edges_mem {a b : List Spn} {e : Int} : e ∈ edgesS a b ↔ e ∈ edgL a ∨ e ∈ edgL b := by
  unfold edgesS
  rw [(List.mergeSort_perm _ _).mem_iff, List.mem_append]
theorem edges_sorted (a b : List Spn) : (edgesS a b).Pairwise (fun x y => x ≤ y) := by
  unfold edgesS
  have := List.pairwise_mergeSort (le := fun x y : Int => decide (x ≤ y)) (fun x y z h1 h2 => by simp at *; omega) (fun x y => by simp; omega) (edgL a ++ edgL b)
  exact this.imp (fun h => by simpa using h)
/-- q lies behind the first k edges and ahead of the others. -/
structure Pre (ES : List Int) (k : Nat) (q : Int) : Prop where
  le : ∀ e ∈ ES.take k, e ≤ q
  ge : ∀ e ∈ ES.drop k, q ≤ e
theorem pre_go {ES : List Int} {k : Nat} {q n : Int} (h : Pre ES k q) (hS : ES.Pairwise (fun x y => x ≤ y)) (hn : ES[k]? = some n) : q ≤ n ∧ Pre ES (k + 1) n ∧ ∀ m, q ≤ m → m < n → ∀ e ∈ ES, e ≤ q ∨ m < e := by
  obtain ⟨hk, e0⟩ := List.getElem?_eq_some_iff.1 hn
  have hd : ES.drop k = n :: ES.drop (k + 1) := by rw [List.drop_eq_getElem_cons hk, e0]
  have hge := h.ge
  rw [hd] at hge
  have hqn := hge n (by simp)
  have hrest : ∀ e ∈ ES.drop (k + 1), n ≤ e := by
    have h2 : (ES.drop k).Pairwise (fun x y => x ≤ y) := hS.drop
    rw [hd, List.pairwise_cons] at h2
    exact h2.1
  refine ⟨hqn, ⟨fun e he => ?_, hrest⟩, fun m h1 h2 e he => ?_⟩
  · rw [List.take_succ_eq_append_getElem hk, List.mem_append, e0] at he
    rcases he with he | he
    · have := h.le e he; omega
    · simp at he; omega
  · rw [← List.take_append_drop k ES, List.mem_append, hd] at he
    rcases he with he | he
    · exact .inl (h.le e he)
    · rw [List.mem_cons] at he
      rcases he with rfl | he
      · exact .inr h2
      · have := hrest e he
        exact .inr (by omega)
end Go.Proofs.YtepbmnpjpkmmfaaGreatDoor
