/- Contracts of the functions, part 10: OvMath, OvMath2, OwnE. -/
import Derived.Test.YtafpmlikocchpaaPA4
import Derived.Test.YtafpmlikocchpaaPA6
/- Plain mathematics of overlapping pieces: no Go in sight. -/
namespace Go.Proofs.Ytafpmlikocchpaa
set_option linter.unusedVariables false
set_option maxRecDepth 100000

/-- A piece; a byte of a buffer with the segment that it belongs to. -/
structure PcR where
  at_ : Int
  dat : List UInt8
  fr : Int
  to_ : Int
structure CeR where
  at_ : Int
  c : UInt8
  fr : Int
  to_ : Int
instance : Inhabited PcR := ⟨⟨0, [], 0, 0⟩⟩
instance : Inhabited CeR := ⟨⟨0, 0, 0, 0⟩⟩
theorem CeR.ext' {x y : CeR} (h1 : x.at_ = y.at_) (h2 : x.c = y.c) (h3 : x.fr = y.fr) (h4 : x.to_ = y.to_) : x = y := by
  obtain ⟨a, b, c, d⟩ := x
  obtain ⟨a', b', c', d'⟩ := y
  simp only at h1 h2 h3 h4
  subst h1 h2 h3 h4
  rfl
/-- A piece by itself is one of a buffer. -/
def okP (x : PcR) : Prop := x.dat ≠ [] ∧ 0 ≤ x.fr ∧ x.to_ ≤ 4294967296 ∧ x.fr ≤ x.at_ ∧ x.at_ + x.dat.length ≤ x.to_
instance (x : PcR) : Decidable (okP x) := inferInstanceAs (Decidable (_ ∧ _))
/-- A buffer, all of which lies from e on. -/
def vldF : Int → List PcR → Prop
  | _, [] => True
  | e, x :: r => okP x ∧ e ≤ x.at_ ∧ vldF (x.at_ + x.dat.length) r
def vldL (l : List PcR) : Prop := vldF 0 l
instance decVldF : ∀ (e : Int) (l : List PcR), Decidable (vldF e l)
  | _, [] => isTrue trivial
  | e, x :: r => match decVldF (x.at_ + x.dat.length) r with
    | isTrue h => if h1 : okP x ∧ e ≤ x.at_ then isTrue ⟨h1.1, h1.2, h⟩ else isFalse (fun h2 => h1 ⟨h2.1, h2.2.1⟩)
    | isFalse h => isFalse (fun h2 => h h2.2.2)
instance (l : List PcR) : Decidable (vldL l) := decVldF 0 l
theorem vldF_mono {e e' : Int} (h : e' ≤ e) : ∀ {l : List PcR}, vldF e l → vldF e' l
  | [], _ => trivial
  | x :: r, ⟨h1, h2, h3⟩ => ⟨h1, by omega, h3⟩
/-- The cells of a segment's bytes from an offset on. -/
def celF (fr to_ : Int) : Int → List UInt8 → List CeR
  | _, [] => []
  | o, b :: r => ⟨o, b, fr, to_⟩ :: celF fr to_ (o + 1) r
def celP (x : PcR) : List CeR := celF x.fr x.to_ x.at_ x.dat
def cels (l : List PcR) : List CeR := l.flatMap celP
theorem celF_len (fr to_ : Int) : ∀ (b : List UInt8) (o : Int), (celF fr to_ o b).length = b.length
  | [], _ => rfl
  | x :: r, o => by show (celF fr to_ (o + 1) r).length + 1 = _; rw [celF_len fr to_ r]; rfl
theorem celF_get (fr to_ : Int) : ∀ (b : List UInt8) (o : Int) (k : Nat), (celF fr to_ o b)[k]? = (b[k]?).map (fun c => (⟨o + k, c, fr, to_⟩ : CeR))
  | [], _, _ => by simp [celF]
  | x :: r, o, 0 => by simp [celF]
  | x :: r, o, k + 1 => by
    show (celF fr to_ (o + 1) r)[k]? = _
    rw [celF_get fr to_ r (o + 1) k, List.getElem?_cons_succ]
    congr 1
    funext c
    congr 1
    omega
theorem celF_append (fr to_ : Int) : ∀ (a b : List UInt8) (o : Int), celF fr to_ o (a ++ b) = celF fr to_ o a ++ celF fr to_ (o + a.length) b
  | [], b, o => by simp [celF]
  | x :: r, b, o => by
    show ⟨o, x, fr, to_⟩ :: celF fr to_ (o + 1) (r ++ b) = ⟨o, x, fr, to_⟩ :: (celF fr to_ (o + 1) r ++ _)
    rw [celF_append fr to_ r b (o + 1)]
    congr 3
    simp only [List.length_cons]
    omega
theorem celF_mem {fr to_ : Int} : ∀ {b : List UInt8} {o : Int} {y : CeR}, y ∈ celF fr to_ o b → y.fr = fr ∧ y.to_ = to_ ∧ o ≤ y.at_ ∧ y.at_ < o + b.length
  | [], _, _, h => by cases h
  | x :: r, o, y, h => by
    rcases List.mem_cons.1 h with rfl | h
    · exact ⟨rfl, rfl, Int.le_refl _, by simp only [List.length_cons]; omega⟩
    · obtain ⟨h1, h2, h3, h4⟩ := celF_mem h
      exact ⟨h1, h2, by omega, by simp only [List.length_cons]; omega⟩
theorem cels_cons (x : PcR) (r : List PcR) : cels (x :: r) = celP x ++ cels r := rfl
theorem celP_len (x : PcR) : (celP x).length = x.dat.length := celF_len _ _ _ _
def sizeL (l : List PcR) : Nat := (l.map (fun x => x.dat.length)).sum
theorem cels_len : ∀ l : List PcR, (cels l).length = sizeL l
  | [] => rfl
  | x :: r => by rw [cels_cons, List.length_append, celP_len, cels_len r]; rfl
/-- Ascending cells, all from e on. -/
def srtF : Int → List CeR → Prop
  | _, [] => True
  | e, x :: r => e ≤ x.at_ ∧ srtF (x.at_ + 1) r
theorem srtF_mono {e e' : Int} (h : e' ≤ e) : ∀ {l : List CeR}, srtF e l → srtF e' l
  | [], _ => trivial
  | x :: r, ⟨h2, h3⟩ => ⟨by omega, h3⟩
theorem srtF_ge {e : Int} : ∀ {l : List CeR}, srtF e l → ∀ {y : CeR}, y ∈ l → e ≤ y.at_
  | x :: r, ⟨h1, h2⟩, y, hy => by
    rcases List.mem_cons.1 hy with rfl | hy
    · exact h1
    · have := srtF_ge h2 hy; omega
theorem srtF_append : ∀ {a b : List CeR} {e m : Int}, srtF e a → (∀ y ∈ a, y.at_ < m) → e ≤ m → srtF m b → srtF e (a ++ b)
  | [], b, e, m, _, _, hm, hb => srtF_mono hm hb
  | x :: r, b, e, m, ⟨h1, h2⟩, ha, hm, hb => ⟨h1, srtF_append h2 (fun y hy => ha y (List.mem_cons_of_mem _ hy)) (by have := ha x (List.mem_cons_self ..); omega) hb⟩
theorem celF_srt (fr to_ : Int) : ∀ (b : List UInt8) (o : Int), srtF o (celF fr to_ o b)
  | [], _ => trivial
  | x :: r, o => ⟨Int.le_refl _, celF_srt fr to_ r (o + 1)⟩
/-- A cell lies in its segment. -/
def okC (y : CeR) : Prop := 0 ≤ y.fr ∧ y.fr ≤ y.at_ ∧ y.at_ < y.to_ ∧ y.to_ ≤ 4294967296
theorem cels_srt : ∀ {l : List PcR} {e : Int}, vldF e l → srtF e (cels l)
  | [], _, _ => trivial
  | x :: r, e, ⟨h1, h2, h3⟩ => by
    rw [cels_cons]
    exact srtF_append (srtF_mono h2 (celF_srt _ _ _ _)) (fun y hy => (celF_mem hy).2.2.2) (by have := h1.2.2.2.1; omega) (cels_srt h3)
theorem cels_ok : ∀ {l : List PcR} {e : Int}, vldF e l → ∀ y ∈ cels l, okC y
  | x :: r, e, ⟨h1, h2, h3⟩, y, hy => by
    rw [cels_cons] at hy
    rcases List.mem_append.1 hy with hy | hy
    · obtain ⟨g1, g2, g3, g4⟩ := celF_mem hy
      obtain ⟨-, k1, k2, k3, k4⟩ := h1
      exact ⟨by omega, by omega, by omega, by omega⟩
    · exact cels_ok h3 y hy
/-! ### The byte at an offset -/
def fndC (c : List CeR) (o : Int) : Option CeR := c.find? (fun y => y.at_ == o)
theorem fndC_nil (o : Int) : fndC [] o = none := rfl
theorem fndC_cons (x : CeR) (r : List CeR) (o : Int) : fndC (x :: r) o = if x.at_ = o then some x else fndC r o := by
  unfold fndC
  rw [List.find?_cons]
  by_cases h : x.at_ = o
  · rw [if_pos h, show (x.at_ == o) = true by simpa using h]
  · rw [if_neg h, show (x.at_ == o) = false by simpa using h]
theorem fndC_at {c : List CeR} {o : Int} {y : CeR} (h : fndC c o = some y) : y.at_ = o ∧ y ∈ c := by
  unfold fndC at h
  exact ⟨by simpa using List.find?_some h, List.mem_of_find?_eq_some h⟩
theorem fndC_below {e : Int} : ∀ {c : List CeR}, srtF e c → ∀ {o : Int}, o < e → fndC c o = none
  | [], _, _, _ => rfl
  | x :: r, ⟨h1, h2⟩, o, ho => by rw [fndC_cons, if_neg (by omega), fndC_below h2 (by omega)]
theorem fndC_mem {e : Int} : ∀ {c : List CeR}, srtF e c → ∀ {y : CeR}, y ∈ c → fndC c y.at_ = some y
  | x :: r, ⟨h1, h2⟩, y, hy => by
    rw [fndC_cons]
    rcases List.mem_cons.1 hy with rfl | hm
    · rw [if_pos rfl]
    · have := srtF_ge h2 hm
      rw [if_neg (by omega)]
      exact fndC_mem h2 hm
/-- Ascending cells are known by their bytes. -/
theorem srt_ext : ∀ {a b : List CeR} {e : Int}, srtF e a → srtF e b → (∀ o, fndC a o = fndC b o) → a = b
  | [], [], _, _, _, _ => rfl
  | [], y :: s, _, _, _, h => by have := h y.at_; rw [fndC_cons, if_pos rfl] at this; cases this
  | x :: r, [], _, _, _, h => by have := h x.at_; rw [fndC_cons, if_pos rfl] at this; cases this
  | x :: r, y :: s, e, ⟨h1, h2⟩, ⟨g1, g2⟩, h => by
    have hx := h x.at_
    have hy := h y.at_
    rw [fndC_cons, if_pos rfl, fndC_cons] at hx
    rw [fndC_cons, fndC_cons, if_pos rfl] at hy
    have e1 : x.at_ = y.at_ := by
      by_cases q : x.at_ = y.at_
      · exact q
      · rw [if_neg (fun w => q w.symm)] at hx
        rw [if_neg q] at hy
        have a1 := srtF_ge g2 (fndC_at hx.symm).2
        have a2 := srtF_ge h2 (fndC_at hy).2
        omega
    rw [if_pos e1.symm] at hx
    obtain rfl := Option.some.inj hx
    congr 1
    refine srt_ext h2 g2 (fun o => ?_)
    have ho := h o
    rw [fndC_cons, fndC_cons] at ho
    by_cases q : x.at_ = o
    · subst q
      rw [fndC_below h2 (by omega), fndC_below g2 (by omega)]
    · rwa [if_neg q, if_neg q] at ho
/-! ### Pieces of cells -/
def addC (x : CeR) : List PcR → List PcR
  | [] => [⟨x.at_, [x.c], x.fr, x.to_⟩]
  | p :: r => if p.at_ = x.at_ + 1 ∧ p.fr = x.fr ∧ p.to_ = x.to_ then ⟨x.at_, x.c :: p.dat, x.fr, x.to_⟩ :: r else ⟨x.at_, [x.c], x.fr, x.to_⟩ :: p :: r
theorem addC_cons (x : CeR) (p : PcR) (r : List PcR) : addC x (p :: r) = if p.at_ = x.at_ + 1 ∧ p.fr = x.fr ∧ p.to_ = x.to_ then ⟨x.at_, x.c :: p.dat, x.fr, x.to_⟩ :: r else ⟨x.at_, [x.c], x.fr, x.to_⟩ :: p :: r := rfl
def pcs (c : List CeR) : List PcR := c.foldr addC []
theorem pcs_cons (x : CeR) (r : List CeR) : pcs (x :: r) = addC x (pcs r) := rfl
theorem cels_addC (x : CeR) (l : List PcR) : cels (addC x l) = x :: cels l := by
  cases l with
  | nil => rfl
  | cons p r =>
    rw [addC_cons]
    split
    · rename_i h
      rw [cels_cons, cels_cons]
      show ⟨x.at_, x.c, x.fr, x.to_⟩ :: celF x.fr x.to_ (x.at_ + 1) p.dat ++ cels r = _
      have e : celF x.fr x.to_ (x.at_ + 1) p.dat = celP p := by unfold celP; rw [h.1, h.2.1, h.2.2]
      rw [e]
      rfl
    · rfl
theorem cels_pcs : ∀ c : List CeR, cels (pcs c) = c
  | [] => rfl
  | x :: r => by rw [pcs_cons, cels_addC, cels_pcs r]
theorem addC_vld {x : CeR} {l : List PcR} {e : Int} (hx : okC x) (he : e ≤ x.at_) (h : vldF (x.at_ + 1) l) : vldF e (addC x l) := by
  obtain ⟨h1, h2, h3, h4⟩ := hx
  cases l with
  | nil => exact ⟨⟨by simp, h1, h4, h2, by simp; omega⟩, he, trivial⟩
  | cons p r =>
    obtain ⟨g1, g2, g3⟩ := h
    rw [addC_cons]
    split
    · rename_i q
      refine ⟨⟨by simp, h1, h4, h2, ?_⟩, he, ?_⟩
      · obtain ⟨-, -, -, -, k⟩ := g1
        simp only [List.length_cons]
        omega
      · have : x.at_ + ((x.c :: p.dat).length : Nat) = p.at_ + p.dat.length := by simp only [List.length_cons]; omega
        show vldF (x.at_ + ((x.c :: p.dat).length : Nat)) r
        rw [this]
        exact g3
    · exact ⟨⟨by simp, h1, h4, h2, by simp; omega⟩, he, g1, g2, g3⟩
theorem pcs_vld : ∀ {c : List CeR} {e : Int}, srtF e c → (∀ y ∈ c, okC y) → vldF e (pcs c)
  | [], _, _, _ => trivial
  | x :: r, e, ⟨h1, h2⟩, h => addC_vld (h x (List.mem_cons_self ..)) h1 (pcs_vld h2 (fun y hy => h y (List.mem_cons_of_mem _ hy)))
/-- A run of bytes of one segment, which ends there. -/
theorem pcs_run (fr to_ : Int) : ∀ (b : List UInt8) (o : Int) (rest : List CeR), b ≠ [] → (∀ y r, rest = y :: r → ¬ (y.at_ = o + b.length ∧ y.fr = fr ∧ y.to_ = to_)) → pcs (celF fr to_ o b ++ rest) = ⟨o, b, fr, to_⟩ :: pcs rest
  | [], _, _, h, _ => absurd rfl h
  | [x], o, rest, _, h => by
    show addC ⟨o, x, fr, to_⟩ (pcs rest) = _
    cases hr : rest with
    | nil => rfl
    | cons y r =>
      have hne := h y r hr
      rw [pcs_cons]
      have hhead : ∃ p q, addC y (pcs r) = p :: q ∧ p.at_ = y.at_ ∧ p.fr = y.fr ∧ p.to_ = y.to_ := by
        cases pcs r with
        | nil => exact ⟨_, _, rfl, rfl, rfl, rfl⟩
        | cons p q =>
          rw [addC_cons]
          split
          · exact ⟨_, _, rfl, rfl, rfl, rfl⟩
          · exact ⟨_, _, rfl, rfl, rfl, rfl⟩
      obtain ⟨p, q, e, h1, h2, h3⟩ := hhead
      rw [e]
      rw [addC_cons]
      rw [if_neg]
      rw [h1, h2, h3]
      simpa using hne
  | x :: y :: b, o, rest, _, h => by
    have ih := pcs_run fr to_ (y :: b) (o + 1) rest (by simp) (fun z r hz => by have := h z r hz; simp only [List.length_cons] at this ⊢; intro ⟨k1, k2⟩; exact this ⟨by omega, k2⟩)
    show addC ⟨o, x, fr, to_⟩ (pcs (celF fr to_ (o + 1) (y :: b) ++ rest)) = _
    rw [ih]
    rw [addC_cons]
    rw [if_pos ⟨rfl, rfl, rfl⟩]
/-! ### Inserting -/
def winsB (pol : Int) (of ot nf nt : Int) : Bool := pol == 2 || (pol == 3 && decide (nf < of)) || (pol == 4 && (decide (nf < of) || (nf == of && decide (ot < nt))))
def putC (x : CeR) : List CeR → List CeR
  | [] => [x]
  | y :: r => if x.at_ < y.at_ then x :: y :: r else y :: putC x r
def setC (x : CeR) : List CeR → List CeR
  | [] => []
  | y :: r => if y.at_ = x.at_ then x :: r else y :: setC x r
/-- One byte of the new segment, over the old cells. -/
def stepC (pol : Int) (c : List CeR) (x : CeR) (out : List CeR) : List CeR :=
  match fndC c x.at_ with
  | none => putC x out
  | some y => if winsB pol y.fr y.to_ x.fr x.to_ = true then setC x out else out
def insC (pol : Int) (c : List CeR) (new : List CeR) : List CeR := new.foldl (fun out x => stepC pol c x out) c
def thereC (c new : List CeR) : Nat := (new.filter (fun x => (fndC c x.at_).isSome)).length
def differC (c new : List CeR) : Nat := (new.filter (fun x => match fndC c x.at_ with | none => false | some y => y.c != x.c)).length
/-- The segment of some data. -/
def segC (a : Int) (b : List UInt8) : List CeR := celF a (a + b.length) a b
def insL (l : List PcR) (a : Int) (b : List UInt8) (pol : Int) : List PcR × Nat × Nat :=
  if b = [] then (l, 0, 0)
  else if a < 0 ∨ 2147483648 < a ∨ pol < 1 ∨ 5 < pol then ([], 0, 4)
  else if pol = 5 ∧ 0 < thereC (cels l) (segC a b) then
    (if thereC (cels l) (segC a b) = b.length ∧ differC (cels l) (segC a b) = 0 then (l, 0, 0) else ([], 0, 17))
  else if 64 < (pcs (insC pol (cels l) (segC a b))).length then ([], 0, 11)
  else (pcs (insC pol (cels l) (segC a b)), differC (cels l) (segC a b), 0)
theorem putC_srt {x : CeR} : ∀ {out : List CeR} {e : Int}, srtF e out → e ≤ x.at_ → fndC out x.at_ = none → srtF e (putC x out) ∧ ∀ o, fndC (putC x out) o = if o = x.at_ then some x else fndC out o
  | [], e, _, he, _ => ⟨⟨he, trivial⟩, fun o => by
      show fndC [x] o = _
      rw [fndC_cons]
      by_cases h : o = x.at_
      · rw [if_pos h.symm, if_pos h]
      · rw [if_neg (fun q => h q.symm), if_neg h]⟩
  | y :: r, e, ⟨h1, h2⟩, he, hn => by
    rw [fndC_cons] at hn
    have hne : ¬ y.at_ = x.at_ := fun q => by rw [if_pos q] at hn; cases hn
    rw [if_neg hne] at hn
    unfold putC
    split
    · rename_i hlt
      refine ⟨⟨he, by omega, h2⟩, fun o => ?_⟩
      rw [fndC_cons]
      by_cases h : o = x.at_
      · rw [if_pos h.symm, if_pos h]
      · rw [if_neg (fun q => h q.symm), if_neg h]
    · rename_i hlt
      obtain ⟨g1, g2⟩ := putC_srt h2 (by omega) hn
      refine ⟨⟨h1, g1⟩, fun o => ?_⟩
      rw [fndC_cons, fndC_cons, g2 o]
      by_cases h : o = x.at_
      · rw [if_pos h, if_neg (by omega), if_pos h]
      · rw [if_neg h, if_neg h]
theorem setC_srt {x : CeR} : ∀ {out : List CeR} {e : Int}, srtF e out → fndC out x.at_ ≠ none → srtF e (setC x out) ∧ ∀ o, fndC (setC x out) o = if o = x.at_ then some x else fndC out o
  | [], e, _, hn => absurd rfl hn
  | y :: r, e, ⟨h1, h2⟩, hn => by
    rw [fndC_cons] at hn
    unfold setC
    split
    · rename_i hq
      refine ⟨⟨by omega, by rw [← hq]; exact h2⟩, fun o => ?_⟩
      rw [fndC_cons, fndC_cons]
      by_cases h : o = x.at_
      · rw [if_pos h.symm, if_pos h]
      · rw [if_neg (fun q => h q.symm), if_neg h, if_neg (by omega)]
    · rename_i hq
      rw [if_neg hq] at hn
      obtain ⟨g1, g2⟩ := setC_srt h2 hn
      refine ⟨⟨h1, g1⟩, fun o => ?_⟩
      rw [fndC_cons, fndC_cons, g2 o]
      by_cases h : o = x.at_
      · rw [if_pos h, if_neg (by omega), if_pos h]
      · rw [if_neg h, if_neg h]
/-- What stands at an offset after a byte came. -/
def winC (pol : Int) (old : Option CeR) (x : CeR) : CeR := match old with
  | none => x
  | some y => if winsB pol y.fr y.to_ x.fr x.to_ = true then x else y
theorem stepC_srt {pol : Int} {c : List CeR} {x : CeR} {out : List CeR} {e : Int} (h : srtF e out) (he : e ≤ x.at_) (hs : fndC out x.at_ = fndC c x.at_) :
    srtF e (stepC pol c x out) ∧ ∀ o, fndC (stepC pol c x out) o = if o = x.at_ then some (winC pol (fndC c x.at_) x) else fndC out o := by
  unfold stepC winC
  cases hq : fndC c x.at_ with
  | none =>
    rw [hq] at hs
    exact putC_srt h he hs
  | some y =>
    rw [hq] at hs
    simp only
    split
    · exact setC_srt h (by rw [hs]; simp)
    · refine ⟨h, fun o => ?_⟩
      by_cases ho : o = x.at_
      · rw [if_pos ho, ho, hs]
      · rw [if_neg ho]
/-- THE CELLS AFTER A SEGMENT CAME: offset by offset. -/
theorem insC_srt {pol : Int} {c : List CeR} {e : Int} (hc : srtF e c) : ∀ {new : List CeR} {m : Int}, e ≤ m → srtF m new → ∀ {out : List CeR}, srtF e out → (∀ o, m ≤ o → fndC out o = fndC c o) →
    srtF e (new.foldl (fun out x => stepC pol c x out) out) ∧ ∀ o, fndC (new.foldl (fun out x => stepC pol c x out) out) o = match fndC new o with | some x => some (winC pol (fndC c o) x) | none => fndC out o
  | [], m, _, _, out, ho, _ => ⟨ho, fun o => rfl⟩
  | x :: r, m, hm, ⟨h1, h2⟩, out, ho, hs => by
    obtain ⟨g1, g2⟩ := stepC_srt (pol := pol) ho (by omega : e ≤ x.at_) (hs x.at_ h1)
    obtain ⟨k1, k2⟩ := insC_srt (pol := pol) hc (by omega : e ≤ x.at_ + 1) h2 g1 (fun o hle => by rw [g2 o, if_neg (by omega)]; exact hs o (by omega))
    refine ⟨k1, fun o => ?_⟩
    show fndC (r.foldl _ (stepC pol c x out)) o = _
    rw [k2 o, fndC_cons]
    by_cases hq : x.at_ = o
    · subst hq
      rw [fndC_below h2 (by omega), if_pos rfl, g2, if_pos rfl]
    · rw [if_neg hq]
      cases fndC r o with
      | some y => rfl
      | none => simp only; rw [g2, if_neg (fun q => hq q.symm)]
theorem segC_fnd (a : Int) (b : List UInt8) (o : Int) : fndC (segC a b) o = if a ≤ o ∧ o < a + b.length then some ⟨o, b.getD (o - a).toNat 0, a, a + b.length⟩ else none := by
  have H : ∀ (b : List UInt8) (fr to_ a : Int), fndC (celF fr to_ a b) o = if a ≤ o ∧ o < a + b.length then some ⟨o, b.getD (o - a).toNat 0, fr, to_⟩ else none := by
    intro b fr to_
    induction b with
    | nil => intro a; rw [if_neg (by simp)]; rfl
    | cons x r ih =>
      intro a
      show fndC (⟨a, x, fr, to_⟩ :: celF fr to_ (a + 1) r) o = _
      rw [fndC_cons, ih (a + 1)]
      simp only [List.length_cons]
      by_cases hq : a = o
      · subst hq
        rw [if_pos rfl, if_pos ⟨Int.le_refl _, by omega⟩, Int.sub_self]
        rfl
      · rw [if_neg hq]
        by_cases hr : a + 1 ≤ o ∧ o < a + 1 + r.length
        · rw [if_pos hr, if_pos ⟨by omega, by omega⟩]
          congr 2
          rw [show (o - a).toNat = (o - (a + 1)).toNat + 1 by omega]
          rfl
        · rw [if_neg hr, if_neg (by omega)]
  exact H b a (a + b.length) a
theorem insC_fnd {pol : Int} {c : List CeR} {e : Int} (hc : srtF e c) {a : Int} (he : e ≤ a) (b : List UInt8) :
    srtF e (insC pol c (segC a b)) ∧ ∀ o, fndC (insC pol c (segC a b)) o = match fndC (segC a b) o with | some x => some (winC pol (fndC c o) x) | none => fndC c o :=
  insC_srt hc he (celF_srt _ _ _ _) hc (fun _ _ => rfl)
theorem insC_ok {pol : Int} {c : List CeR} {e : Int} (hc : srtF e c) (hk : ∀ y ∈ c, okC y) {a : Int} (he : e ≤ a) (b : List UInt8) (h0 : 0 ≤ a) (hb : a + b.length ≤ 4294967296) : ∀ y ∈ insC pol c (segC a b), okC y := fun y hy => by
  obtain ⟨h1, h2⟩ := insC_fnd (pol := pol) hc he b
  have hy2 := fndC_mem h1 hy
  rw [h2] at hy2
  have hseg : ∀ x, fndC (segC a b) y.at_ = some x → okC x := fun x hx => by
    rw [segC_fnd] at hx
    split at hx
    · rename_i hr
      obtain rfl := Option.some.inj hx
      exact ⟨h0, hr.1, hr.2, hb⟩
    · cases hx
  cases hq : fndC (segC a b) y.at_ with
  | none =>
    rw [hq] at hy2
    exact hk y (fndC_at hy2).2
  | some x =>
    rw [hq] at hy2
    simp only [Option.some.injEq] at hy2
    unfold winC at hy2
    split at hy2
    · rw [← hy2]; exact hseg x hq
    · rename_i z hz
      split at hy2
      · rw [← hy2]; exact hseg x hq
      · rw [← hy2]; exact hk z (fndC_at hz).2
end Go.Proofs.Ytafpmlikocchpaa

/- Plain mathematics of overlapping pieces: taking, cutting. -/
namespace Go.Proofs.Ytafpmlikocchpaa
set_option linter.unusedVariables false
set_option maxRecDepth 100000

/-- The bytes from an offset on, up to the first offset that has none. -/
def takC (c : List CeR) : Nat → Int → List UInt8
  | 0, _ => []
  | f + 1, o => match fndC c o with
    | none => []
    | some y => y.c :: takC c f (o + 1)
def takL (l : List PcR) (a : Int) : List UInt8 := takC (cels l) ((cels l).length + 1) a
theorem fnd_run : ∀ {c : List CeR} {e : Int}, srtF e c → ∀ {o : Int} {k : Nat}, (∀ j : Nat, j < k → fndC c (o + j) ≠ none) → k ≤ c.length
  | [], e, _, o, k, h => by
    cases k with
    | zero => exact Nat.le_refl _
    | succ k => exact absurd rfl (h 0 (by omega))
  | x :: r, e, ⟨h1, h2⟩, o, k, h => by
    rcases Int.lt_trichotomy x.at_ o with q | q | q
    · have := fnd_run h2 (o := o) (k := k) (fun j hj => by have := h j hj; rw [fndC_cons, if_neg (by omega)] at this; exact this)
      simp only [List.length_cons]
      omega
    · cases k with
      | zero => exact Nat.zero_le _
      | succ k =>
        have := fnd_run h2 (o := o + 1) (k := k) (fun j hj => by
          have := h (j + 1) (by omega)
          rw [fndC_cons, if_neg (by omega)] at this
          rwa [show o + 1 + (j : Int) = o + ((j + 1 : Nat) : Int) by omega])
        simp only [List.length_cons]
        omega
    · cases k with
      | zero => exact Nat.zero_le _
      | succ k =>
        have := h 0 (by omega)
        rw [fndC_cons, if_neg (by omega), fndC_below h2 (by omega)] at this
        exact absurd rfl this
/-- All offsets of what is taken have a byte. -/
theorem takC_fnd (c : List CeR) : ∀ (f : Nat) (o : Int) (j : Nat), j < (takC c f o).length → ∃ y, fndC c (o + j) = some y ∧ (takC c f o)[j]? = some y.c
  | 0, o, j, h => by simp [takC] at h
  | f + 1, o, j, h => by
    unfold takC at h ⊢
    cases hq : fndC c o with
    | none => rw [hq] at h; simp at h
    | some y =>
      rw [hq] at h
      cases j with
      | zero => exact ⟨y, by simpa using hq, rfl⟩
      | succ j =>
        obtain ⟨z, h1, h2⟩ := takC_fnd c f (o + 1) j (by simpa using h)
        exact ⟨z, by rw [← h1]; congr 1; omega, by simpa using h2⟩
theorem takC_le {c : List CeR} {e : Int} (hc : srtF e c) (f : Nat) (o : Int) : (takC c f o).length ≤ c.length :=
  fnd_run hc (o := o) (fun j hj => by obtain ⟨y, h, -⟩ := takC_fnd c f o j hj; rw [h]; simp)
/-- There is no byte behind what is taken. -/
theorem takC_end {c : List CeR} : ∀ (f : Nat) (o : Int), (takC c f o).length < f → fndC c (o + (takC c f o).length) = none
  | 0, _, h => absurd h (by omega)
  | f + 1, o, h => by
    unfold takC at h ⊢
    cases hq : fndC c o with
    | none => simpa using hq
    | some y =>
      rw [hq] at h
      simp only [List.length_cons] at h ⊢
      have := takC_end (c := c) f (o + 1) (by omega)
      rwa [show o + ((takC c f (o + 1)).length + 1 : Nat) = o + 1 + ((takC c f (o + 1)).length : Nat) by omega]
theorem takC_same {c d : List CeR} : ∀ (f g : Nat) (o : Int), (∀ p, o ≤ p → fndC c p = fndC d p) → (takC c f o).length < f → (takC d g o).length < g → takC c f o = takC d g o
  | 0, _, _, _, h, _ => absurd h (by omega)
  | f + 1, 0, _, _, _, h => absurd h (by omega)
  | f + 1, g + 1, o, h, h1, h2 => by
    unfold takC at h1 h2 ⊢
    rw [← h o (Int.le_refl _)] at h2 ⊢
    cases hq : fndC c o with
    | none => rfl
    | some y =>
      rw [hq] at h1 h2
      simp only [List.length_cons] at h1 h2
      simp only
      rw [takC_same f g (o + 1) (fun p hp => h p (by omega)) (by omega) (by omega)]
theorem takL_end {l : List PcR} {e : Int} (hl : vldF e l) (a : Int) : fndC (cels l) (a + (takL l a).length) = none := by
  have h := takC_le (cels_srt hl) ((cels l).length + 1) a
  exact takC_end _ _ (by omega)
/-! ### Cutting -/
def cutP (a : Int) (x : PcR) : Option PcR :=
  if x.at_ + x.dat.length ≤ a then none else if x.at_ < a then some ⟨a, x.dat.drop (a - x.at_).toNat, x.fr, x.to_⟩ else some x
def cutL (l : List PcR) (a : Int) : List PcR := l.filterMap (cutP a)
theorem cutL_cons (x : PcR) (r : List PcR) (a : Int) : cutL (x :: r) a = (match cutP a x with | none => cutL r a | some y => y :: cutL r a) := by
  unfold cutL
  rw [List.filterMap_cons]
  cases cutP a x <;> rfl
theorem celF_cut (fr to_ a : Int) : ∀ (b : List UInt8) (o : Int), (celF fr to_ o b).filter (fun y => decide (a ≤ y.at_)) = if o + b.length ≤ a then [] else if o < a then celF fr to_ a (b.drop (a - o).toNat) else celF fr to_ o b
  | [], o => by
    show [] = _
    split
    · rfl
    · rw [if_neg (by simp at *; omega)]; rfl
  | x :: r, o => by
    show List.filter _ (⟨o, x, fr, to_⟩ :: celF fr to_ (o + 1) r) = _
    rw [List.filter_cons, celF_cut fr to_ a r (o + 1)]
    simp only [List.length_cons, decide_eq_true_eq]
    by_cases h1 : a ≤ o
    · rw [if_pos h1, if_neg (show ¬ (o + 1 + (r.length : Int) ≤ a) by omega), if_neg (show ¬ o + 1 < a by omega), if_neg (show ¬ (o + ((r.length + 1 : Nat) : Int) ≤ a) by omega), if_neg (show ¬ o < a by omega)]
      rfl
    · rw [if_neg h1]
      by_cases h3 : o + 1 + (r.length : Int) ≤ a
      · rw [if_pos h3, if_pos (show o + ((r.length + 1 : Nat) : Int) ≤ a by omega)]
      · rw [if_neg h3, if_neg (show ¬ (o + ((r.length + 1 : Nat) : Int) ≤ a) by omega), if_pos (show o < a by omega)]
        by_cases h4 : o + 1 < a
        · rw [if_pos h4, show (a - o).toNat = (a - (o + 1)).toNat + 1 by omega]; rfl
        · have : a = o + 1 := by omega
          subst this
          rw [if_neg h4, show (o + 1 - o).toNat = 1 by omega]
          rfl
theorem cels_cut : ∀ (l : List PcR) (a : Int), cels (cutL l a) = (cels l).filter (fun y => decide (a ≤ y.at_))
  | [], _ => rfl
  | x :: r, a => by
    have e : celP x = celF x.fr x.to_ x.at_ x.dat := rfl
    rw [cutL_cons, cels_cons, List.filter_append, e, celF_cut, ← cels_cut r a]
    unfold cutP
    split
    · rename_i h
      split at h
      · rename_i q; rw [if_pos q]; rfl
      · split at h <;> cases h
    · rename_i y h
      split at h
      · cases h
      · rename_i q
        rw [if_neg q]
        split at h
        · rename_i q2
          obtain rfl := Option.some.inj h
          rw [if_pos q2]
          rfl
        · rename_i q2
          obtain rfl := Option.some.inj h
          rw [if_neg q2]
          rfl
theorem cutP_at {a : Int} {x y : PcR} (h : cutP a x = some y) (hx : okP x) : okP y ∧ a ≤ y.at_ ∧ x.at_ ≤ y.at_ ∧ y.at_ + y.dat.length = x.at_ + x.dat.length := by
  obtain ⟨h1, h2, h3, h4, h5⟩ := hx
  unfold cutP at h
  split at h
  · cases h
  · rename_i q
    split at h
    · rename_i q2
      obtain rfl := Option.some.inj h
      have hl : (x.dat.drop (a - x.at_).toNat).length = x.dat.length - (a - x.at_).toNat := List.length_drop
      refine ⟨⟨?_, h2, h3, by show x.fr ≤ a; omega, ?_⟩, Int.le_refl _, by show x.at_ ≤ a; omega, ?_⟩
      · show x.dat.drop (a - x.at_).toNat ≠ []
        intro e
        rw [e] at hl
        simp only [List.length_nil] at hl
        omega
      · show a + ((x.dat.drop (a - x.at_).toNat).length : Int) ≤ x.to_
        omega
      · show a + ((x.dat.drop (a - x.at_).toNat).length : Int) = _
        omega
    · obtain rfl := Option.some.inj h
      exact ⟨⟨h1, h2, h3, h4, h5⟩, by omega, Int.le_refl _, rfl⟩
theorem cutL_vld : ∀ {l : List PcR} {e : Int}, vldF e l → ∀ (a : Int), vldF (max e a) (cutL l a)
  | [], _, _, _ => trivial
  | x :: r, e, ⟨h1, h2, h3⟩, a => by
    rw [cutL_cons]
    cases hq : cutP a x with
    | none =>
      simp only
      have hle : x.at_ + x.dat.length ≤ a := by
        unfold cutP at hq
        split at hq
        · assumption
        · split at hq <;> cases hq
      refine vldF_mono ?_ (cutL_vld h3 a)
      have : e ≤ x.at_ + x.dat.length := by omega
      omega
    | some y =>
      simp only
      obtain ⟨k1, k2, k3, k4⟩ := cutP_at hq h1
      refine ⟨k1, by omega, ?_⟩
      rw [k4]
      have hle : ¬ x.at_ + x.dat.length ≤ a := by
        unfold cutP at hq
        split at hq
        · cases hq
        · assumption
      have := cutL_vld h3 a
      rwa [show max (x.at_ + (x.dat.length : Int)) a = x.at_ + x.dat.length by omega] at this
theorem cutL_buf {l : List PcR} (h : vldL l) (a : Int) : vldL (cutL l a) := vldF_mono (by omega) (cutL_vld h a)
theorem cut_cut (l : List PcR) {e : Int} (h : vldF e l) {a b : Int} (hab : a ≤ b) : cutL (cutL l a) b = cutL l b := by
  induction l generalizing e with
  | nil => rfl
  | cons x r ih =>
    obtain ⟨h1, h2, h3⟩ := h
    rw [cutL_cons, cutL_cons]
    cases hq : cutP a x with
    | none =>
      have hle : x.at_ + x.dat.length ≤ a := by
        unfold cutP at hq
        split at hq
        · assumption
        · split at hq <;> cases hq
      simp only
      rw [ih h3, show cutP b x = none by unfold cutP; rw [if_pos (by omega)]]
    | some y =>
      obtain ⟨k1, k2, k3, k4⟩ := cutP_at hq h1
      simp only
      rw [cutL_cons, ih h3]
      have : cutP b y = cutP b x := by
        unfold cutP at hq
        split at hq
        · cases hq
        · rename_i q
          split at hq
          · rename_i q2
            obtain rfl := Option.some.inj hq
            unfold cutP
            rw [k4]
            by_cases e1 : x.at_ + (x.dat.length : Int) ≤ b
            · rw [if_pos e1, if_pos e1]
            · rw [if_neg e1, if_neg e1, if_pos (by omega : x.at_ < b)]
              by_cases e2 : a < b
              · rw [if_pos e2]
                show some (⟨b, (x.dat.drop (a - x.at_).toNat).drop (b - a).toNat, x.fr, x.to_⟩ : PcR) = some ⟨b, x.dat.drop (b - x.at_).toNat, x.fr, x.to_⟩
                rw [List.drop_drop, show (a - x.at_).toNat + (b - a).toNat = (b - x.at_).toNat by omega]
              · rw [if_neg e2]
                have : a = b := by omega
                subst this
                rfl
          · obtain rfl := Option.some.inj hq
            rfl
      rw [this]
theorem fnd_filter {c : List CeR} {a o : Int} (h : a ≤ o) : fndC (c.filter (fun y => decide (a ≤ y.at_))) o = fndC c o := by
  induction c with
  | nil => rfl
  | cons x r ih =>
    rw [List.filter_cons, fndC_cons]
    by_cases q : a ≤ x.at_
    · rw [if_pos (by simpa using q), fndC_cons, ih]
    · rw [if_neg (by simpa using q), ih, if_neg (by omega)]
/-- WHAT IS TAKEN DOES NOT DEPEND ON WHAT WAS CUT BEFORE. -/
theorem tak_cut {l : List PcR} {e : Int} (h : vldF e l) (a : Int) : takL (cutL l a) a = takL l a := by
  have h1 := cutL_vld h a
  refine takC_same _ _ _ (fun p hp => by rw [cels_cut, fnd_filter hp]) ?_ ?_
  · have := takC_le (cels_srt h1) ((cels (cutL l a)).length + 1) a; omega
  · have := takC_le (cels_srt h) ((cels l).length + 1) a; omega
/-- Between two cuts there are as many bytes as offsets that have one. -/
theorem cut_count : ∀ {c : List CeR} {e : Int}, srtF e c → ∀ {o : Int} {k : Nat}, (∀ j : Nat, j < k → fndC c (o + j) ≠ none) →
    (c.filter (fun y => decide (o ≤ y.at_))).length = k + (c.filter (fun y => decide (o + k ≤ y.at_))).length
  | [], e, _, o, k, h => by
    cases k with
    | zero => rfl
    | succ k => exact absurd rfl (h 0 (by omega))
  | x :: r, e, ⟨h1, h2⟩, o, k, h => by
    rw [List.filter_cons, List.filter_cons]
    rcases Int.lt_trichotomy x.at_ o with q | q | q
    · rw [if_neg (by simp; omega), if_neg (by simp; omega)]
      exact cut_count h2 (fun j hj => by have := h j hj; rw [fndC_cons, if_neg (by omega)] at this; exact this)
    · cases k with
      | zero =>
        rw [if_pos (by simp; omega), if_pos (by simp; omega)]
        simp
      | succ k =>
        rw [if_pos (by simp; omega), if_neg (by simp; omega)]
        have hall : ∀ y ∈ r, o + 1 ≤ y.at_ := fun y hy => by have := srtF_ge h2 hy; omega
        have ih := cut_count h2 (o := o + 1) (k := k) (fun j hj => by
          have := h (j + 1) (by omega)
          rw [fndC_cons, if_neg (by omega)] at this
          rwa [show o + 1 + (j : Int) = o + ((j + 1 : Nat) : Int) by omega])
        have e1 : r.filter (fun y => decide (o ≤ y.at_)) = r := List.filter_eq_self.2 (fun y hy => by simp; have := hall y hy; omega)
        have e2 : r.filter (fun y => decide (o + 1 ≤ y.at_)) = r := List.filter_eq_self.2 (fun y hy => by simp; exact hall y hy)
        rw [e1, List.length_cons]
        rw [e2] at ih
        rw [ih, show o + 1 + (k : Int) = o + ((k + 1 : Nat) : Int) by omega]
        omega
    · cases k with
      | zero =>
        rw [if_pos (by simp; omega), if_pos (by simp; omega)]
        simp
      | succ k =>
        have := h 0 (by omega)
        rw [fndC_cons, if_neg (by omega), fndC_below h2 (by omega)] at this
        exact absurd rfl this
/-- TAKING DIVIDES A BUFFER. -/
theorem take_size {l : List PcR} {e : Int} (h : vldF e l) (a : Int) : sizeL (cutL l a) = (takL l a).length + sizeL (cutL l (a + (takL l a).length)) := by
  rw [← cels_len, ← cels_len, cels_cut, cels_cut]
  exact cut_count (cels_srt h) (fun j hj => by obtain ⟨y, hy, -⟩ := takC_fnd _ _ _ j hj; rw [hy]; simp)
/-- The first piece of what is left lies behind a gap. -/
theorem rest_gap {l : List PcR} {e : Int} (h : vldF e l) (a : Int) {x : PcR} {r : List PcR} (hx : cutL l (a + (takL l a).length) = x :: r) : a + (takL l a).length < x.at_ := by
  have h1 := cutL_vld h (a + (takL l a).length)
  rw [hx] at h1
  obtain ⟨k1, k2, k3⟩ := h1
  have hge : a + (takL l a).length ≤ x.at_ := by omega
  rcases Int.lt_or_le (a + (takL l a).length) x.at_ with q | q
  · exact q
  · have heq : x.at_ = a + (takL l a).length := by omega
    have hn := takL_end h a
    rw [← fnd_filter (Int.le_refl _), ← cels_cut, hx, cels_cons] at hn
    cases hd : x.dat with
    | nil => exact absurd hd k1.1
    | cons b s =>
      have e1 : celP x = ⟨x.at_, b, x.fr, x.to_⟩ :: celF x.fr x.to_ (x.at_ + 1) s := by unfold celP; rw [hd]; rfl
      rw [e1, List.cons_append, fndC_cons, if_pos heq] at hn
      cases hn
end Go.Proofs.Ytafpmlikocchpaa

/- A slice of elements of any kind that the call owns (SetMem's OwnR for every kind of element): what a loop that appends carries along. -/
namespace Go.Proofs.Ytafpmlikocchpaa
open Go.ChangeShapes Go.WideShapes Go.ChangeAt Go.RowKit
set_option linter.unusedVariables false
set_option maxRecDepth 100000
variable {α : Type} {E : Enc α} {e : TypeId}

def OwnE (E : Enc α) (e : TypeId) (w : World) (base : Nat) (A : Option Addr) (n c : Nat) (l : List α) : Prop := n = l.length ∧ w.ownsRow base e E.k (.slice A n c) n (E.cells l)
theorem OwnE.kept {w w' : World} {base n c : Nat} {A : Option Addr} {l : List α} (h : OwnE E e w base A n c l) (hb : Below w.heap.size w w') : OwnE E e w' base A n c l := ⟨h.1, own_kept h.2 hb (Nat.le_refl _)⟩
theorem OwnE.al {w : World} {base n c : Nat} {A : Option Addr} {l : List α} (h : OwnE E e w base A n c l) (o : Obj) : OwnE E e (w.alloc o) base A n c l := h.kept (below_alloc6 w o)
theorem OwnE.drew {w : World} {base n c : Nat} {A : Option Addr} {l : List α} (h : OwnE E e w base A n c l) (q : Nat) : OwnE E e (w.drewN q) base A n c l := h
theorem OwnE.drew1 {w : World} {base n c : Nat} {A : Option Addr} {l : List α} (h : OwnE E e w base A n c l) : OwnE E e w.drew base A n c l := h
theorem OwnE.row {w : World} {base n c : Nat} {A : Option Addr} {l : List α} (h : OwnE E e w base A n c l) : RowL E w A l := rowl_of_own h.2 h.1
theorem OwnE.nil (w : World) (base : Nat) : OwnE E e w base none 0 0 [] := ⟨rfl, World.ownsRow_nil w base e E.k⟩
theorem OwnE.push {w w' : World} {base n m c g cap : Nat} {A : Option Addr} {l ys : List α} (h : OwnE E e w base A n c l) (hm : m = ys.length) (hw : w'.ownsRow base e E.k (.slice (some ⟨g, 0, none⟩) (n + m) cap) (n + m) (E.cells (l ++ ys))) : OwnE E e w' base (some ⟨g, 0, none⟩) (n + m) cap (l ++ ys) := ⟨by rw [h.1, hm, List.length_append], hw⟩
theorem OwnE.far {w w1 w' : World} {base n c : Nat} {A : Option Addr} {l : List α} (h : OwnE E e w base A n c l) (hg : w1.grownBy w' (Value.slice A n c).ownBlock) {b : Nat} (hb : b < base) (hl : b < w1.heap.size) : w'.heap[b]? = w1.heap[b]? :=
  hg.block b hl fun q => by
    have := (h.2.lt b q.symm).1
    omega
/-- What was below base at the loop's start stays: an append onto an owned slice, behind a box of its own. -/
theorem OwnE.below {w0 w w' : World} {B base n c : Nat} {A : Option Addr} {l : List α} {cs : Obj} (h : OwnE E e w base A n c l) (hB : Below B w0 w) (hBs : B ≤ w.heap.size) (hbb : B ≤ base) (hg : (w.alloc cs).grownBy w' (Value.slice A n c).ownBlock) : Below B w0 w' :=
  (hB.alloc hBs cs).grown hg (by simp; omega) (fun j hj => Nat.le_trans hbb (h.2.lt j hj).1)
theorem OwnE.below0 {w0 w w' : World} {B base n c : Nat} {A : Option Addr} {l : List α} (h : OwnE E e w base A n c l) (hB : Below B w0 w) (hBs : B ≤ w.heap.size) (hbb : B ≤ base) (hg : w.grownBy w' (Value.slice A n c).ownBlock) : Below B w0 w' :=
  hB.grown hg hBs (fun j hj => Nat.le_trans hbb (h.2.lt j hj).1)
theorem OwnE.none0 {w : World} {base n c : Nat} {A : Option Addr} {l : List α} (h : OwnE E e w base A n c l) : A = none → c = 0 := fun e => by subst e; exact (own_none h.2).2
theorem OwnE.lenA {w : World} {base n c : Nat} {A : Option Addr} {l : List α} (h : OwnE E e w base A n c l) : n = l.length := h.1
end Go.Proofs.Ytafpmlikocchpaa
