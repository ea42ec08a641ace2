/- Contracts of the functions, part 25: Elems3. -/
import Derived.Laws.CopyOwn
import Derived.Test.YtafpmlikocchpaaPA3
/- copy(dst, src) of a whole slice into a slice of the same length that the call owns: elements of any fixed number of cells. -/
namespace Go.Proofs.Ytafpmlikocchpaa
open Go.ChangeShapes Go.WideShapes Go.ChangeAt Go.RowKit
set_option linter.unusedVariables false
variable {α : Type} {E : Enc α}

theorem run_copy_rowk {P : Program} (w : World) (dT sT ty elem : TypeId) (k g dLen dCap : Nat) (a : Addr) (sLen sCap : Nat) (cur : Array Value) (t : TypeId) (cs : List Value)
    (hu : P.underlying dT = some (.slice elem)) (hs : (P.info? elem).map (·.size) = some k)
    (hg : w.heap[g]? = some (.cells cur t (0, 0))) (hn : cs.length = Nat.min sLen dLen * k)
    (hsrc : ∀ j v, cs[j]? = some v → w.cell? (a.add j) = some v) (hfit : cs.length ≤ cur.size) (h1 : ∀ v ∈ cs, v.oneCell' = true) :
    (Builtin.copy_ #[dT, sT] ty #[.slice (some ⟨g, 0, none⟩) dLen dCap, .slice (some a) sLen sCap]).run P w =
      .ok (goInt (Nat.min sLen dLen)) (w.setRow g (cs ++ cur.toList.drop cs.length).toArray) := by
  have hl := run_loadCells_list (P := P) w a cs hsrc
  have hst := run_storeCells_at P g 0 t cs 0 cur w hg (by simpa using hfit) h1
  cases hq : P.info? elem with
  | none => simp [hq] at hs
  | some i =>
    have hi : i.size = k := by simpa [hq] using hs
    simp [Builtin.copy_, run_underlying hu, Builtin.lenOf, Builtin.firstCells, sizeOf, typeInfo, hq, hi, ← hn, hl, hst]
theorem run_copy_nonek {P : Program} (w : World) (dT sT ty elem : TypeId) (d : Option Addr) (dLen dCap sLen sCap : Nat) (hu : P.underlying dT = some (.slice elem)) (hs : ((P.info? elem).map (·.size)).isSome = true) (h0 : Nat.min sLen dLen = 0) :
    (Builtin.copy_ #[dT, sT] ty #[.slice d dLen dCap, .slice none sLen sCap]).run P w = .ok (goInt 0) w := by
  cases hq : P.info? elem with
  | none => simp [hq] at hs
  | some i => cases d <;> simp [Builtin.copy_, run_underlying hu, Builtin.lenOf, Builtin.firstCells, sizeOf, typeInfo, hq, storeCells, h0]
/-- copy(own, src): all elements: what it runs to. -/
theorem run_copy_all {t e : TypeId} {bytes : Nat} {w : World} (T : ElemTy t e E.k bytes)
    (base g n c : Nat) (xs : List Value) (hown : w.ownsRow base e E.k (.slice (some ⟨g, 0, none⟩) n c) n xs)
    (A : Option Addr) (cap : Nat) (l : List α) (hm : n = l.length) (hl : RowL E w A l) :
    ∃ w', (∀ ty, (Builtin.copy_ #[t, t] ty #[.slice (some ⟨g, 0, none⟩) n c, .slice A n cap]).run Try.prog w = .ok (.int .i64 (n : Int)) w') ∧ w'.ownsRow base e E.k (.slice (some ⟨g, 0, none⟩) n c) n (E.cells l) ∧ w.grownBy w' (some g) := by
  obtain ⟨i, z, h1, h2, h3, h4, h5⟩ := T.info
  have hsz : (Try.prog.info? e).map (·.size) = some E.k := by rw [h1]; simp [h3]
  cases A with
  | none =>
    have hl0 : l = [] := by
      cases l with
      | nil => rfl
      | cons y r =>
        obtain ⟨g, o, e, _⟩ := hl (by simp)
        cases e
    subst hl0
    have hm0 : n = 0 := by simpa using hm
    subst hm0
    refine ⟨w, fun ty => run_copy_nonek (P := Try.prog) w t t ty e (some ⟨g, 0, none⟩) 0 c 0 cap T.und (by rw [hsz]; rfl) rfl, ?_, rfl, rfl, rfl, Nat.le_refl _, fun _ _ _ => rfl⟩
    have := hown.1
    have hx : xs = [] := List.eq_nil_of_length_eq_zero (by rw [this]; simp)
    rw [hx] at hown
    exact hown
  | some ad =>
    rcases hown.2 with ⟨h1, _⟩ | ⟨g', c', cur, hv, hbg, hh, hnc, hcm, hcs, ht⟩
    · cases h1
    · simp only [Value.slice.injEq, Option.some.injEq, Addr.mk.injEq, true_and, and_true] at hv
      obtain ⟨rfl, rfl⟩ := hv
      have hcl : (E.cells l).length = n * E.k := by rw [E.cells_length, hm]
      have hfit : (E.cells l).length ≤ cur.size := by rw [hcl, hcs]; exact Nat.mul_le_mul_right _ hnc
      have hrun := fun ty => run_copy_rowk (P := Try.prog) w t t ty e E.k g n c ad n cap cur e (E.cells l) T.und hsz hh (by rw [hcl]; show _ = min n n * E.k; rw [Nat.min_self]) hl.news hfit (E.cells_one' l)
      have hmm : Nat.min n n = n := Nat.min_self n
      rw [hmm] at hrun
      refine ⟨_, hrun, ⟨hcl, .inr ⟨g, c, (E.cells l ++ cur.toList.drop (E.cells l).length).toArray, rfl, hbg, setRow_heap w g cur _ e (0, 0) hh, hnc, hcm, ?_, ?_⟩⟩, rfl, rfl, rfl, by simp [World.setRow], fun k _ hk => setRow_other w g k _ (fun e => hk (by rw [e]))⟩
      · simp only [List.size_toArray, List.length_append, List.length_drop, Array.length_toList]
        omega
      · show ((E.cells l ++ cur.toList.drop (E.cells l).length).take (n * E.k)) = _
        rw [← hcl, List.take_left']
        rfl
end Go.Proofs.Ytafpmlikocchpaa
