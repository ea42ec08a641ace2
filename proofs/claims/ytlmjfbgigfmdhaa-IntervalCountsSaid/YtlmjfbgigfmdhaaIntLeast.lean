/- Contract of the reference of layer 5: least. -/
import Derived.Test.YtlmjfbgigfmdhaaIntRVal
namespace Go.Proofs.Ytlmjfbgigfmdhaa
open Go.ChangeShapes Go.WideShapes Go.ChangeAt Go.RowKit
set_option linter.unusedVariables false

/-- How many spans end behind h. -/
def above (l : List Spn) (h : Int) : Nat := l.countP fun s => decide (h < s.hi)
theorem above_le (l : List Spn) {a b : Int} (h : a ≤ b) : above l b ≤ above l a := by
  unfold above
  apply List.countP_mono_left
  intro s _ hs
  simp only [decide_eq_true_eq] at hs ⊢
  omega
theorem above_lt : ∀ {l : List Spn} {s : Spn} {h : Int}, s ∈ l → h < s.hi → above l s.hi < above l h
  | x :: r, s, h, hm, hs => by
    have hle := above_le r (show h ≤ s.hi by omega)
    unfold above at hle ⊢
    rw [List.countP_cons, List.countP_cons]
    rcases List.mem_cons.1 hm with rfl | hm
    · simp only [Int.lt_irrefl, decide_false, hs, decide_true]
      simp
      omega
    · have ih := above_lt hm hs
      unfold above at ih
      by_cases h1 : s.hi < x.hi
      · have h2 : h < x.hi := by omega
        simp [h1, h2]; omega
      · simp only [h1, decide_false]
        simp
        split <;> omega
/-- The two stores of a span. -/
def sset (w : World) (g : Nat) (lo hi : Int) : World := (w.setCell ⟨g, 0, none⟩ (.int .i64 lo)).setCell ⟨g, 1, none⟩ (.int .i64 hi)
theorem SB2.set {w : World} {g : Nat} {a b : Int} (h : SB2 w g a b) (lo hi : Int) : SB2 (sset w g lo hi) g lo hi := by
  have h0 := Cells.set h 0 (.int .i64 lo)
  have h1 := Cells.set h0 1 (.int .i64 hi)
  exact h1
theorem SB2.set1 {w : World} {g : Nat} {a b : Int} (h : SB2 w g a b) (hi : Int) : SB2 (w.setCell ⟨g, 1, none⟩ (.int .i64 hi)) g a hi := Cells.set h 1 (.int .i64 hi)
theorem sset_below {B : Nat} {a w : World} {g : Nat} (h : Below B a w) (hg : B ≤ g) (lo hi : Int) : Below B a (sset w g lo hi) := (h.setCell hg _).setCell hg _
/-- The end that a box holds. -/
def hiAt (w : World) (g : Nat) : Int := intOf ((w.cell? ⟨g, 1, none⟩).getD undef)
theorem SB2.hiAt {w : World} {g : Nat} {a b : Int} (h : SB2 w g a b) : hiAt w g = b := by
  unfold Go.Proofs.Ytlmjfbgigfmdhaa.hiAt
  rw [h.c1]; rfl
/-- The reference's 'least' under way: its result's box and the box of x. -/
structure LB (w wr : World) (lo hi : Int) : Prop where
  r : SB2 wr w.heap.size 0 0
  x : SB2 wr (w.heap.size + 1) lo hi
  b : Below w.heap.size w wr
theorem LB.drewN {w wr : World} {lo hi : Int} (h : LB w wr lo hi) (q : Nat) : LB w (wr.drewN q) lo hi := ⟨h.r, h.x, below_drewN5 h.b q⟩
theorem SpL.at_ {w w' : World} {g o : Nat} {l : List Spn} {k : Nat} {s : Spn} (h : SpL w (some ⟨g, o, none⟩) l) (hs : l[k]? = some s) (hb : Below w.heap.size w w') : w'.cell? ⟨g, o + k * 2, none⟩ = some (.int .i64 s.lo) ∧ w'.cell? ⟨g, o + k * 2 + 1, none⟩ = some (.int .i64 s.hi) := by
  obtain ⟨g', o', e, hg, hc⟩ := (h.kept hb) (Nat.lt_of_le_of_lt (Nat.zero_le _) (List.getElem?_eq_some_iff.1 hs).1)
  obtain ⟨rfl, rfl⟩ : g = g' ∧ o = o' := by simp only [Option.some.injEq, Addr.mk.injEq] at e; exact ⟨e.1, e.2.1⟩
  exact hc k s hs
theorem LB.set {w wr : World} {lo hi : Int} (h : LB w wr lo hi) (a b : Int) : LB w (sset wr (w.heap.size + 1) a b) a b := ⟨((Below.heap_setCell _ _ _ _ (by show w.heap.size ≠ w.heap.size + 1; omega)).trans (Below.heap_setCell _ _ _ _ (by show w.heap.size ≠ w.heap.size + 1; omega))).trans h.r, h.x.set a b, sset_below h.b (by omega) a b⟩
theorem LB.set1 {w wr : World} {lo hi : Int} (h : LB w wr lo hi) (b : Int) : LB w (wr.setCell ⟨w.heap.size + 1, 1, none⟩ (.int .i64 b)) lo b := ⟨(Below.heap_setCell _ _ _ _ (by show w.heap.size ≠ w.heap.size + 1; omega)).trans h.r, h.x.set1 b, h.b.setCell (by show w.heap.size ≤ w.heap.size + 1; omega) _⟩
theorem LB.start (w : World) (lo hi : Int) : LB w ((w.alloc (.cells #[.int .i64 0, .int .i64 0] 34)).alloc (.cells #[.int .i64 lo, .int .i64 hi] 34)) lo hi := by
  have h1 := sb2_new w 0 0
  have hb1 := below_alloc5 w (.cells #[.int .i64 0, .int .i64 0] 34)
  have hs : (w.alloc (.cells #[.int .i64 0, .int .i64 0] 34)).heap.size = w.heap.size + 1 := by simp
  generalize w.alloc (.cells #[.int .i64 0, .int .i64 0] 34) = w1 at *
  have h2 := sb2_new w1 lo hi
  rw [hs] at h2
  exact ⟨h1.kept (below_alloc5 w1 _) h1.lt, h2, hb1.alloc (by omega) _⟩
theorem LB.kept {w wr w' : World} {lo hi : Int} (h : LB w wr lo hi) (hb : Below (w.heap.size + 2) wr w') : LB w w' lo hi := ⟨h.r.kept hb (by omega), h.x.kept hb (by omega), h.b.trans (hb.mono (by omega))⟩
theorem own_of_blocks5 {w w' : World} {base : Nat} {e : TypeId} {size : Nat} {v : Value} {n : Nat} {xs : List Value} (h : w.ownsRow base e size v n xs) (hb : ∀ b, base ≤ b → b < w.heap.size → w'.heap[b]? = w.heap[b]?) : w'.ownsRow base e size v n xs := by
  refine ⟨h.1, ?_⟩
  rcases h.2 with hn | ⟨g, cap, cur, hv, hg, hh, rest⟩
  · exact .inl hn
  · exact .inr ⟨g, cap, cur, hv, hg, (hb g hg (Array.getElem?_eq_some_iff.1 hh).1).trans hh, rest⟩
theorem own_mono5 {w : World} {base base' : Nat} {e : TypeId} {size : Nat} {v : Value} {n : Nat} {xs : List Value} (h : w.ownsRow base e size v n xs) (hb : base' ≤ base) : w.ownsRow base' e size v n xs := by
  refine ⟨h.1, ?_⟩
  rcases h.2 with hn | ⟨g, cap, cur, hv, hg, rest⟩
  · exact .inl hn
  · exact .inr ⟨g, cap, cur, hv, Nat.le_trans hb hg, rest⟩
theorem sset_own {w : World} {base g : Nat} {e : TypeId} {size : Nat} {v : Value} {n : Nat} {xs : List Value} (h : w.ownsRow base e size v n xs) (hg : g < base) (lo hi : Int) : (sset w g lo hi).ownsRow base e size v n xs :=
  own_of_blocks5 h fun b hb _ => (Below.heap_setCell (w.setCell ⟨g, 0, none⟩ _) ⟨g, 1, none⟩ _ b (by show b ≠ g; omega)).trans (Below.heap_setCell w ⟨g, 0, none⟩ _ b (by show b ≠ g; omega))
theorem filt_go {l : List Spn} {k : Nat} {s : Spn} (hs : l[k]? = some s) (f : Spn → Bool) : (l.take (k + 1)).filter f = (l.take k).filter f ++ if f s = true then [s] else [] := by
  obtain ⟨hk, e⟩ := List.getElem?_eq_some_iff.1 hs
  rw [List.take_succ_eq_append_getElem hk, e, List.filter_append]
  congr 1
  simp [List.filter_cons]
theorem own_empty5 (w : World) {base : Nat} (h : base ≤ w.heap.size) : (w.alloc (.cells #[] 34)).ownsRow base 34 2 (.slice (some ⟨w.heap.size, 0, none⟩) 0 0) 0 (spCells []) :=
  ⟨rfl, .inr ⟨w.heap.size, 0, #[], rfl, h, heap_alloc_new w _, Nat.le_refl _, Nat.zero_le _, rfl, rfl⟩⟩
theorem take_mem {l : List Spn} {k : Nat} {s t : Spn} (hs : l[k]? = some s) (ht : t ∈ l.take (k + 1)) : t ∈ l.take k ∨ t = s := by
  obtain ⟨hk, e⟩ := List.getElem?_eq_some_iff.1 hs
  rw [List.take_succ_eq_append_getElem hk, e, List.mem_append, List.mem_singleton] at ht
  exact ht
/-- The measure of the reference's growing: how many spans end behind x, and whether the last round grew it. -/
def mz (l : List Spn) (ag : Value) (h : Int) : Nat := 2 * above l h + match ag with | .bool true => 1 | _ => 0
theorem mz_le (l : List Spn) (ag : Value) (h : Int) : mz l ag h ≤ 2 * above l h + 1 := by
  unfold mz
  split <;> omega
theorem mz_true (l : List Spn) (h : Int) : mz l (.bool true) h = 2 * above l h + 1 := rfl
theorem mz_false (l : List Spn) (h : Int) : mz l (.bool false) h = 2 * above l h := rfl
/-- Spans between 0 and M. -/
def good (M : Int) (l : List Spn) : Prop := ∀ s ∈ l, 0 ≤ s.lo ∧ s.lo ≤ s.hi ∧ s.hi ≤ M
/-- What 'least' answers and leaves. -/
def LeastP (w : World) (l : List Spn) (e : Ending) (w' : World) : Prop :=
  ∃ x : Spn, ∃ A cap, Least l x ∧ x.hi ≤ 4294967296 ∧ e = .returned (.tuple #[.agg #[.int .i64 x.lo, .int .i64 x.hi], .slice A (l.filter fun s => decide (x.hi < s.lo)).length cap]) ∧ w'.ownsRow w.heap.size 34 2 (.slice A (l.filter fun s => decide (x.hi < s.lo)).length cap) (l.filter fun s => decide (x.hi < s.lo)).length (spCells (l.filter fun s => decide (x.hi < s.lo))) ∧ Below w.heap.size w w'

set_option maxHeartbeats 400000 in
set_option maxRecDepth 20000 in
theorem rleast_any (A : Option Addr) (cap : Nat) (l : List Spn) (w : World) (h : SpL w A l) (hl : l.length ≤ 1000000) (hl0 : 0 < l.length) (hG : good 4294967296 l) :
    Calls Try.prog 36 #[.slice A l.length cap] w (LeastP w l) := by
  obtain ⟨n, hn⟩ : ∃ n, n = l.length := ⟨_, rfl⟩
  have hn6 : n ≤ 1000000 := by omega
  have hn0 : 0 < n := by omega
  rw [← hn]
  obtain ⟨g, o, rfl, hg, hc⟩ := h hl0
  obtain ⟨s0, hs0⟩ : ∃ s, l[0]? = some s := ⟨l[0], List.getElem?_eq_getElem hl0⟩
  obtain ⟨c0, c1⟩ := hc 0 s0 hs0
  have hm0 : s0 ∈ l := List.mem_of_getElem? hs0
  have hni : (0 : Int) < (n : Int) := by omega
  rw [Nat.zero_mul, Nat.add_zero] at c0 c1
  generalize hlo : s0.lo = lo0 at *
  generalize hhi : s0.hi = hi0 at *
  have H := Lib.hid h
  have HN := Lib.hid hn
  have HG := Lib.hid hG
  have HM0 := Lib.hid hm0
  have HL0 := Lib.hid hlo
  have HH0 := Lib.hid hhi
  clear h hn hl hl0 hG hc hm0 hlo hhi hs0
  go_enter Try.func36, Try.ntmps36
  go_wp2_with fail
  have hLB := LB.start w lo0 hi0
  generalize (w.alloc (.cells #[.int .i64 0, .int .i64 0] 34)).alloc (.cells #[.int .i64 lo0, .int .i64 hi0] 34) = w1 at *
  have HLB := Lib.hid hLB
  clear hLB c0 c1
  go_loopw [5] (fun i wr => ∃ k : Nat, ∃ lo hi : Int, k ≤ n ∧ i = .int .i64 k ∧ Hid (LB w wr lo hi) ∧ Hid ((⟨lo, hi⟩ : Spn) ∈ l) ∧ Hid (∀ s ∈ l.take k, lo ≤ s.lo)) (fun i wr => n - (intOf i).toNat)
  case atStart => exact ⟨0, lo0, hi0, by omega, rfl, HLB, (by rw [← HL0.out, ← HH0.out]; exact HM0.out), (by intro s hs; simp at hs)⟩
  case round =>
    obtain ⟨k, lo, hi, hk, rfl, HB, HIN, HLOW⟩ := hrel
    clear HLB HL0 HH0 HM0
    by_cases hlt : k < n
    · obtain ⟨s, hget⟩ : ∃ s, l[k]? = some s := ⟨l[k]'(by have := HN.out; omega), List.getElem?_eq_getElem _⟩
      have HC := Lib.hid (fun w' (hb : Below w.heap.size w w') => H.out.at_ hget hb)
      have hki : (k : Int) < (n : Int) := by omega
      have hki0 : (0 : Int) ≤ (k : Int) := by omega
      have hsm : s ∈ l := List.mem_of_getElem? hget
      have hstep : ∀ m : Int, m ≤ s.lo → (∀ t ∈ l.take k, m ≤ t.lo) → ∀ t ∈ l.take (k + 1), m ≤ t.lo := fun m h1 h2 t ht => by
        rcases take_mem hget ht with h | h
        · exact h2 t h
        · rw [h]; exact h1
      obtain ⟨slo, shi⟩ := s
      have HSM := Lib.hid hsm
      have HST := Lib.hid hstep
      clear hget hsm hstep
      obtain ⟨c0, c1⟩ := HC.out wr HB.out.b
      have x0 := HB.out.x.c0
      have x1 := HB.out.x.c1
      by_cases hless : slo < lo
      · have d1 : decide (slo < lo) = true := by simpa using hless
        go_wp2_with fail
        go_quiet (fail)
        have HB2 := Lib.hid (HB.out.drewN nq)
        clear HB x0 x1 c0 c1
        generalize wr.drewN nq = w2 at *
        obtain ⟨c0, c1⟩ := HC.out w2 HB2.out.b
        have f0 := HB2.out.x.f 0
        have f1 := HB2.out.x.f 1
        have x0 := HB2.out.x.c0
        have x1 := HB2.out.x.c1
        go_wp2_with fail
        go_round
        case rel => exact ⟨k + 1, slo, shi, by omega, by go_num, Lib.hid (HB2.out.set slo shi), HSM, HST.out slo (by omega) (fun t ht => by have := HLOW.out t ht; omega)⟩
        case measure => simp [intOf]; omega
      · have d1 : decide (slo < lo) = false := by simpa using hless
        go_wp2_with fail
        go_quiet (fail)
        have HB2 := Lib.hid (HB.out.drewN nq)
        clear HB x0 x1 c0 c1
        generalize wr.drewN nq = w2 at *
        go_wp2_with fail
        go_round
        case rel => exact ⟨k + 1, lo, hi, by omega, by go_num, HB2, HIN, HST.out lo (by omega) HLOW.out⟩
        case measure => simp [intOf]; omega
    · have hkn : k = l.length := by have := HN.out; omega
      have hlow : ∀ s ∈ l, lo ≤ s.lo := by
        have := HLOW.out
        rwa [hkn, List.take_length] at this
      have hmem := HIN.out
      obtain ⟨hg1, hg2, hg3⟩ := HG.out _ hmem
      simp only at hg1 hg2 hg3
      have hcov : ∀ m, lo ≤ m → m ≤ hi → anyS l m = true := fun m h1 h2 => (anyS_iff l m).2 ⟨_, hmem, h1, h2⟩
      have HL := Lib.hid hlow
      have HC := Lib.hid hcov
      have HR := Lib.hid (show lo ≤ hi ∧ hi ≤ 4294967296 ∧ 0 ≤ lo from ⟨hg2, hg3, hg1⟩)
      have hd : decide ((k : Int) < (n : Int)) = false := by simp; omega
      clear hkn hlow hmem hg1 hg2 hg3 hcov HLOW HIN
      go_wp2_with fail
      clear hd hlt hk
      generalize hi = hi1 at *
      go_loopw [6, 7] (fun ag c7 wr => ∃ c : Nat, ∃ hi : Int, ag = .bool (decide (0 < c)) ∧ Hid (LB w wr lo hi) ∧ Hid (∀ m, lo ≤ m → m ≤ hi → anyS l m = true) ∧ Hid (lo ≤ hi ∧ hi ≤ 4294967296 ∧ 0 ≤ lo) ∧ Hid (c = 0 → ∀ s ∈ l, s.hi ≤ hi ∨ hi + 2 ≤ s.lo)) (fun ag _ wr => mz l ag (hiAt wr (w.heap.size + 1)))
      case atStart => exact ⟨1, hi1, rfl, HB, HC, HR, Lib.hid (fun h => absurd h (by decide))⟩
      case round =>
        clear HB HC HR hi1
        obtain ⟨c, hi, rfl, HB, HC, HR, HF⟩ := hrel
        by_cases hc0 : 0 < c
        · have hd : decide (0 < c) = true := by simpa using hc0
          rw [hd]
          have HM := Lib.hid (show mz l (.bool true) (hiAt wr (w.heap.size + 1)) = 2 * above l hi + 1 by rw [HB.out.x.hiAt]; rfl)
          clear HF hc0 hd
          go_wp2_with fail
          go_loopw [6, 7] (fun ag i wr2 => ∃ k c : Nat, ∃ hj : Int, k ≤ n ∧ i = .int .i64 k ∧ ag = .bool (decide (0 < c)) ∧ Hid (LB w wr2 lo hj) ∧ Hid (∀ m, lo ≤ m → m ≤ hj → anyS l m = true) ∧ Hid (lo ≤ hj ∧ hj ≤ 4294967296 ∧ 0 ≤ lo) ∧ Hid (c = 0 → hj = hi ∧ ∀ s ∈ l.take k, s.hi ≤ hi ∨ hi + 2 ≤ s.lo) ∧ Hid (0 < c → above l hj < above l hi) ∧ Hid (hi ≤ hj)) (fun _ i _ => n - (intOf i).toNat)
          case atStart => exact ⟨0, 0, hi, by omega, rfl, rfl, HB, HC, HR, Lib.hid (fun _ => ⟨rfl, fun s hs => by simp at hs⟩), Lib.hid (fun h => absurd h (by decide)), Lib.hid (Int.le_refl _)⟩
          case round =>
            clear HB HC HR
            obtain ⟨k, c, hj, hk, rfl, rfl, HB, HC, HR, HF, HA, HIJ⟩ := hrel
            by_cases hlt : k < n
            · obtain ⟨s, hget⟩ : ∃ s, l[k]? = some s := ⟨l[k]'(by have := HN.out; omega), List.getElem?_eq_getElem _⟩
              have hki : (k : Int) < (n : Int) := by omega
              have hki0 : (0 : Int) ≤ (k : Int) := by omega
              have hsm : s ∈ l := List.mem_of_getElem? hget
              obtain ⟨hr1, hr2, hr3⟩ := HR.out
              obtain ⟨c0, c1⟩ := H.out.at_ hget HB.out.b
              have HK1 := Lib.hid (fun w' (hb : Below w.heap.size w w') => H.out.at_ hget hb)
              have x0 := HB.out.x.c0
              have x1 := HB.out.x.c1
              have hw : IntKind.i64.wrap (hj + 1) = hj + 1 := IntWalk.i64_in _ (by omega)
              have HGT := Lib.hid hget
              have HSM := Lib.hid hsm
              obtain ⟨slo, shi⟩ := s
              have hgs := HG.out _ hsm
              simp only at c0 c1 hgs HK1
              clear hget hsm
              by_cases h1 : slo ≤ hj + 1
              · have d1 : decide (slo ≤ hj + 1) = true := by simpa using h1
                by_cases h2 : hj < shi
                · have d2 : decide (hj < shi) = true := by simpa using h2
                  have HC2 := Lib.hid (least_grow (x := ⟨lo, hj⟩) HSM.out HC.out h1 h2)
                  have HA2 := Lib.hid (above_lt (h := hi) HSM.out (by have := HIJ.out; show hi < shi; omega))
                  have HR2 := Lib.hid (show lo ≤ shi ∧ shi ≤ 4294967296 ∧ 0 ≤ lo from ⟨by omega, hgs.2.2, hr3⟩)
                  have HIJ2 := Lib.hid (show hi ≤ shi by have := HIJ.out; omega)
                  clear HF HGT HC HA HR HIJ
                  go_wp2_with fail
                  go_quiet (fail)
                  have HB2 := Lib.hid (HB.out.drewN nq)
                  clear HB x0 x1 c0 c1
                  generalize wr.drewN nq = w2 at *
                  obtain ⟨c0, c1⟩ := HK1.out w2 HB2.out.b
                  have f0 := HB2.out.x.f 0
                  have f1 := HB2.out.x.f 1
                  have x0 := HB2.out.x.c0
                  have x1 := HB2.out.x.c1
                  go_wp2_with fail
                  go_roundw
                  case rel => exact ⟨k + 1, 1, shi, by omega, by go_num, rfl, Lib.hid (HB2.out.set1 shi), HC2, HR2, Lib.hid (fun h => absurd h (by decide)), Lib.hid (fun _ => HA2.out), HIJ2⟩
                  case measure => simp [intOf]; omega
                · have d2 : decide (hj < shi) = false := by simpa using h2
                  have HF2 := Lib.hid (show c = 0 → hj = hi ∧ ∀ s ∈ l.take (k + 1), s.hi ≤ hi ∨ hi + 2 ≤ s.lo from fun h => ⟨(HF.out h).1, fun t ht => by
                    rcases take_mem HGT.out ht with h3 | h3
                    · exact (HF.out h).2 t h3
                    · rw [h3]; have := (HF.out h).1; left; show shi ≤ hi; omega⟩)
                  clear HF HGT
                  go_wp2_with fail
                  go_quiet (fail)
                  have HB2 := Lib.hid (HB.out.drewN nq)
                  clear HB x0 x1 c0 c1
                  generalize wr.drewN nq = w2 at *
                  go_wp2_with fail
                  go_roundw
                  case rel => exact ⟨k + 1, c, hj, by omega, by go_num, rfl, HB2, HC, HR, HF2, HA, HIJ⟩
                  case measure => simp [intOf]; omega
              · have d1 : decide (slo ≤ hj + 1) = false := by simpa using h1
                have HF2 := Lib.hid (show c = 0 → hj = hi ∧ ∀ s ∈ l.take (k + 1), s.hi ≤ hi ∨ hi + 2 ≤ s.lo from fun h => ⟨(HF.out h).1, fun t ht => by
                  rcases take_mem HGT.out ht with h3 | h3
                  · exact (HF.out h).2 t h3
                  · rw [h3]; have := (HF.out h).1; right; show hi + 2 ≤ slo; omega⟩)
                clear HF HGT
                go_wp2_with fail
                go_quiet (fail)
                have HB2 := Lib.hid (HB.out.drewN nq)
                clear HB x0 x1 c0 c1
                generalize wr.drewN nq = w2 at *
                go_wp2_with fail
                go_roundw
                case rel => exact ⟨k + 1, c, hj, by omega, by go_num, rfl, HB2, HC, HR, HF2, HA, HIJ⟩
                case measure => simp [intOf]; omega
            · have hkn : k = l.length := by have := HN.out; omega
              have HF2 := Lib.hid (show c = 0 → hj = hi ∧ ∀ s ∈ l, s.hi ≤ hj ∨ hj + 2 ≤ s.lo from fun h => by
                obtain ⟨h1, h2⟩ := HF.out h
                rw [hkn, List.take_length] at h2
                exact ⟨h1, by rw [h1]; exact h2⟩)
              have hd : decide ((k : Int) < (n : Int)) = false := by simp; omega
              clear hkn HF
              go_wp2_with fail
              go_roundw
              case rel => exact ⟨c, hj, rfl, HB, HC, HR, Lib.hid fun h => (HF2.out h).2⟩
              case measure =>
                rw [HM.out, HB.out.x.hiAt]
                by_cases hc : 0 < c
                · have := HA.out hc
                  have := mz_le l (.bool (decide (0 < c))) hj
                  omega
                · rw [show decide (0 < c) = false by simpa using hc, mz_false, (HF2.out (by omega)).1]
                  omega
        · obtain rfl : c = 0 := by omega
          have hx : Least l ⟨lo, hi⟩ := ⟨HL.out, HF.out rfl, HC.out, HR.out.1⟩
          have HX := Lib.hid hx
          have hd : decide (0 < (0 : Nat)) = false := rfl
          rw [hd]
          have hi4 := HR.out.2.1
          clear hx HC HR HF hc0 hd HL
          go_wp2_with fail
          have hsz : w.heap.size + 2 ≤ wr.heap.size := by have := HB.out.x.lt; omega
          have HO := Lib.hid (own_empty5 wr hsz)
          have HB0 := Lib.hid (HB.out.kept ((Below.refl _ wr).alloc hsz (.cells #[] 34)))
          obtain ⟨a0, ha0⟩ : ∃ a, a = wr.heap.size := ⟨_, rfl⟩
          rw [← ha0] at HO ⊢
          generalize wr.alloc (.cells #[] 34) = w4 at *
          obtain ⟨i0, hinf, hz0, hz1, hz2⟩ := info_parts info_span
          clear HB ha0 hsz
          go_loopw [8, 9] (fun sl i w5 => ∃ k cap' : Nat, ∃ A' : Option Addr, ∃ out : List Spn, k ≤ n ∧ out.length ≤ k ∧ i = .int .i64 k ∧ sl = .slice A' out.length cap' ∧ Hid (LB w w5 lo hi) ∧ Hid (out = (l.take k).filter fun s => decide (hi < s.lo)) ∧ Hid (w5.ownsRow (w.heap.size + 2) 34 2 (.slice A' out.length cap') out.length (spCells out))) (fun _ i _ => n - (intOf i).toNat)
          case atStart => exact ⟨0, 0, some ⟨a0, 0, none⟩, [], by omega, Nat.le_refl _, rfl, rfl, HB0, Lib.hid rfl, HO⟩
          case round =>
            clear HB0 HO
            obtain ⟨k, cap', A', out, hk, hok, rfl, rfl, HB, HOUT, HO⟩ := hrel
            by_cases hlt : k < n
            · obtain ⟨s, hget⟩ : ∃ s, l[k]? = some s := ⟨l[k]'(by have := HN.out; omega), List.getElem?_eq_getElem _⟩
              have hki : (k : Int) < (n : Int) := by omega
              have hki0 : (0 : Int) ≤ (k : Int) := by omega
              have HK1 := Lib.hid (fun w' (hb : Below w.heap.size w w') => H.out.at_ hget hb)
              have hfg := filt_go hget fun s => decide (hi < s.lo)
              rw [← HOUT.out] at hfg
              have HSN := Lib.hid (spCells_snoc out s)
              obtain ⟨M, hM⟩ : ∃ M, M = out ++ [s] := ⟨_, rfl⟩
              rw [← hM] at HSN
              have hMl : out.length + 1 = M.length := by rw [hM]; simp
              obtain ⟨slo, shi⟩ := s
              unfold spC at HSN
              simp only at HK1 hfg HSN
              have HMM := Lib.hid hM
              clear hget hM
              obtain ⟨c0, c1⟩ := HK1.out wr HB.out.b
              have x1 := HB.out.x.c1
              by_cases h1 : hi < slo
              · have d1 : decide (hi < slo) = true := by simpa using h1
                rw [d1, if_pos rfl, ← HMM.out] at hfg
                have HFG := Lib.hid hfg
                clear hfg HOUT
                go_wp2_with fail
                go_quiet (fail)
                have HB2 := Lib.hid (HB.out.drewN nq)
                have hown2 : (wr.drewN nq).ownsRow (w.heap.size + 2) 34 2 (.slice A' out.length cap') out.length (spCells out) := HO.out
                clear HB x1 c0 c1 HO
                generalize wr.drewN nq = w2 at *
                obtain ⟨c0, c1⟩ := HK1.out w2 HB2.out.b
                have hsz : w.heap.size + 2 ≤ w2.heap.size := by have := HB2.out.x.lt; omega
                go_wp2_with (at_builtin; refine wpList_append_lies _ rfl _ _ 22 rfl (w.heap.size + 2) 34 i0 (.agg #[.int .i64 0, .int .i64 0]) 2 16 Try.underlying22 hinf hz0 hz1 hz2 rfl (by omega) _ out.length (spCells out) rfl (hown2.alloc _) ⟨w2.heap.size, 0, none⟩ 1 1 [.int .i64 slo, .int .i64 shi] rfl rfl ?c1 ?c2 (by omega) ?c3 ?c4 ?c5 _ rfl ?_)
                case c1 => exact World.news_of_block (cs := #[.int .i64 slo, .int .i64 shi]) (t := 34) (fr := (0, 0)) (heap_alloc_new w2 _)
                case c2 => simp [Value.oneCell']
                case c3 => unfold maxLen; omega
                case c4 => omega
                case c5 => simp; omega
                intro g2 cap2 w3 hown3 hgrow hat hlt2
                have hB3 := ((Below.refl (w.heap.size + 2) w2).alloc hsz (.cells #[.int .i64 slo, .int .i64 shi] 34)).grown hgrow (by simp; omega) (fun j hj => (hown2.lt j hj).1)
                rw [← HSN.out] at hown3
                try rw [hMl] at hown3
                try rw [hMl]
                have HB3 := Lib.hid (HB2.out.kept hB3)
                have HO3 := Lib.hid hown3
                clear hB3 hown2 hown3 hgrow hat hlt2 c0 c1 HB2
                go_wp2_with fail
                go_roundw
                case rel => exact ⟨k + 1, cap2, some ⟨g2, 0, none⟩, M, by omega, by omega, by go_num, rfl, HB3, Lib.hid HFG.out.symm, HO3⟩
                case measure => simp [intOf]; omega
              · have d1 : decide (hi < slo) = false := by simpa using h1
                rw [d1, if_neg (by decide), List.append_nil] at hfg
                have HFG := Lib.hid hfg
                clear hfg HOUT
                go_wp2_with fail
                go_quiet (fail)
                have HB2 := Lib.hid (HB.out.drewN nq)
                have hown2 : (wr.drewN nq).ownsRow (w.heap.size + 2) 34 2 (.slice A' out.length cap') out.length (spCells out) := HO.out
                have HO2 := Lib.hid hown2
                clear HB x1 c0 c1 HO hown2
                generalize wr.drewN nq = w2 at *
                go_wp2_with fail
                go_roundw
                case rel => exact ⟨k + 1, cap', A', out, by omega, by omega, by go_num, rfl, HB2, Lib.hid HFG.out.symm, HO2⟩
                case measure => simp [intOf]; omega
            · have hkn : k = l.length := by have := HN.out; omega
              have hout : out = l.filter fun s => decide (hi < s.lo) := by
                have := HOUT.out
                rwa [hkn, List.take_length] at this
              have HOUT2 := Lib.hid hout
              have hd : decide ((k : Int) < (n : Int)) = false := by simp; omega
              clear hkn hout HOUT
              have f0 := HB.out.r.f 0
              have f1 := HB.out.r.f 1
              have r0 := HB.out.r.c0
              have r1 := HB.out.r.c1
              have x0 := HB.out.x.c0
              have x1 := HB.out.x.c1
              go_wp2_with fail
              change bodyPost _ _ _ _ _ (sset wr w.heap.size lo hi)
              refine bodyPost_ret (res_span2 rfl _ _ rfl (HB.out.r.set lo hi)) rfl ⟨⟨lo, hi⟩, A', cap', HX.out, hi4, ?_, ?_, sset_below HB.out.b (Nat.le_refl _) lo hi⟩
              · rw [← HOUT2.out]; rfl
              · rw [← HOUT2.out]
                exact own_mono5 (sset_own HO.out (by omega) lo hi) (by omega)
end Go.Proofs.Ytlmjfbgigfmdhaa
