/- Contracts of the functions, part 22: OvMath3, OvMath4, VLem. -/
import Derived.Test.YtafpmlikocchpaaPA10
import Derived.Test.YtafpmlikocchpaaPA19
/- Plain mathematics of overlapping pieces: owners, how many pieces a buffer has, sizes, what Take returns after Insert. -/
namespace Go.Proofs.Ytafpmlikocchpaa
set_option linter.unusedVariables false
set_option maxRecDepth 100000

/-- The segment that the byte at an offset belongs to. -/
def own (c : List CeR) (o : Int) : Option (Int × Int) := (fndC c o).map (fun y => (y.fr, y.to_))
theorem own_cons (x : CeR) (r : List CeR) (o : Int) : own (x :: r) o = if x.at_ = o then some (x.fr, x.to_) else own r o := by
  unfold own
  rw [fndC_cons]
  split <;> rfl
theorem own_below {e : Int} {c : List CeR} (h : srtF e c) {o : Int} (ho : o < e) : own c o = none := by unfold own; rw [fndC_below h ho]; rfl
def ownW (pol a z : Int) : Option (Int × Int) → Int × Int
  | none => (a, z)
  | some q => if winsB pol q.1 q.2 a z = true then (a, z) else q
theorem own_ins {pol : Int} {c : List CeR} {e : Int} (hc : srtF e c) {a : Int} (he : e ≤ a) (b : List UInt8) (o : Int) :
    own (insC pol c (segC a b)) o = if a ≤ o ∧ o < a + b.length then some (ownW pol a (a + b.length) (own c o)) else own c o := by
  unfold own
  rw [(insC_fnd (pol := pol) hc he b).2 o, segC_fnd]
  by_cases h : a ≤ o ∧ o < a + b.length
  · rw [if_pos h, if_pos h]
    simp only [Option.map_some]
    unfold winC ownW
    cases fndC c o with
    | none => rfl
    | some y =>
      simp only [Option.map_some]
      split <;> rfl
  · rw [if_neg h, if_neg h]
/-- Where the owner changes. -/
def chgB (c : List CeR) (B : List Int) : Prop := ∀ o, own c o ≠ own c (o - 1) → o ∈ B
theorem chgB_nil : chgB [] [] := fun o h => absurd rfl h
theorem chgB_ins {pol : Int} {c : List CeR} {e : Int} (hc : srtF e c) {a : Int} (he : e ≤ a) (b : List UInt8) {B : List Int} (h : chgB c B) : chgB (insC pol c (segC a b)) (a :: (a + b.length) :: B) := fun o ho => by
  rw [own_ins hc he, own_ins hc he] at ho
  by_cases q1 : o = a
  · subst q1; exact List.mem_cons_self ..
  · by_cases q2 : o = a + b.length
    · subst q2; exact List.mem_cons_of_mem _ (List.mem_cons_self ..)
    · refine List.mem_cons_of_mem _ (List.mem_cons_of_mem _ (h o (fun heq => ho ?_)))
      by_cases q : a ≤ o ∧ o < a + b.length
      · rw [if_pos q, if_pos (show a ≤ o - 1 ∧ o - 1 < a + b.length by omega), heq]
      · rw [if_neg q, if_neg (show ¬ (a ≤ o - 1 ∧ o - 1 < a + b.length) by omega), heq]
/-- Pieces in ascending order. -/
def ascP : Int → List PcR → Prop
  | _, [] => True
  | e, x :: r => e ≤ x.at_ ∧ ascP (x.at_ + 1) r
theorem ascP_ge : ∀ {l : List PcR} {e : Int}, ascP e l → ∀ q ∈ l, e ≤ q.at_
  | x :: r, e, ⟨h1, h2⟩, q, hq => by
    rcases List.mem_cons.1 hq with rfl | hq
    · exact h1
    · have := ascP_ge h2 q hq; omega
theorem ascP_mono {e e' : Int} (h : e' ≤ e) : ∀ {l : List PcR}, ascP e l → ascP e' l
  | [], _ => trivial
  | x :: r, ⟨h1, h2⟩ => ⟨by omega, h2⟩
theorem pcs_starts : ∀ {c : List CeR} {e : Int}, srtF e c → ascP e (pcs c) ∧ ∀ q ∈ pcs c, own c q.at_ = some (q.fr, q.to_) ∧ own c (q.at_ - 1) ≠ some (q.fr, q.to_)
  | [], _, _ => ⟨trivial, fun q h => by cases h⟩
  | x :: r, e, ⟨h1, h2⟩ => by
    obtain ⟨g1, g2⟩ := pcs_starts h2
    have hhead : own (x :: r) x.at_ = some (x.fr, x.to_) ∧ own (x :: r) (x.at_ - 1) ≠ some (x.fr, x.to_) := by
      rw [own_cons, own_cons, if_pos rfl, if_neg (by omega), own_below h2 (by omega)]
      exact ⟨rfl, fun h => by cases h⟩
    have hfar : ∀ q : PcR, x.at_ + 2 ≤ q.at_ → (own r q.at_ = some (q.fr, q.to_) ∧ own r (q.at_ - 1) ≠ some (q.fr, q.to_)) → own (x :: r) q.at_ = some (q.fr, q.to_) ∧ own (x :: r) (q.at_ - 1) ≠ some (q.fr, q.to_) := fun q hq hk => by
      rw [own_cons, own_cons, if_neg (by omega), if_neg (by omega)]
      exact hk
    rw [pcs_cons]
    cases hp : pcs r with
    | nil => exact ⟨⟨h1, trivial⟩, fun q hq => by obtain rfl := List.mem_singleton.1 hq; exact hhead⟩
    | cons p t =>
      rw [hp] at g1 g2
      obtain ⟨k1, k2⟩ := g1
      have hp2 := g2 p (List.mem_cons_self ..)
      rw [addC_cons]
      split
      · rename_i hm
        refine ⟨⟨h1, ascP_mono (by show x.at_ + 1 ≤ p.at_ + 1; omega) k2⟩, fun q hq => ?_⟩
        rcases List.mem_cons.1 hq with rfl | hq
        · exact hhead
        · have := ascP_ge k2 q hq
          exact hfar q (by omega) (g2 q (List.mem_cons_of_mem _ hq))
      · rename_i hm
        refine ⟨⟨h1, k1, k2⟩, fun q hq => ?_⟩
        rcases List.mem_cons.1 hq with rfl | hq
        · exact hhead
        · rcases List.mem_cons.1 hq with rfl | hq
          · rw [own_cons, own_cons, if_neg (by omega)]
            refine ⟨hp2.1, ?_⟩
            split
            · rename_i hx
              intro hc
              have := Option.some.inj hc
              exact hm ⟨by omega, (congrArg Prod.fst this).symm, (congrArg Prod.snd this).symm⟩
            · exact hp2.2
          · have := ascP_ge k2 q hq
            exact hfar q (by omega) (g2 q (List.mem_cons_of_mem _ hq))
theorem ascP_len : ∀ {l : List PcR} {e : Int} (B : List Int), ascP e l → (∀ q ∈ l, q.at_ ∈ B) → l.length ≤ B.length
  | [], _, _, _, _ => Nat.zero_le _
  | x :: r, e, B, ⟨h1, h2⟩, hB => by
    have hx := hB x (List.mem_cons_self ..)
    have := ascP_len (B.erase x.at_) h2 (fun q hq => (List.mem_erase_of_ne (by have := ascP_ge h2 q hq; omega)).2 (hB q (List.mem_cons_of_mem _ hq)))
    rw [List.length_erase_of_mem hx] at this
    have hp : 0 < B.length := List.length_pos_of_mem hx
    simp only [List.length_cons]
    omega
/-- There are at most as many pieces as places where the owner changes. -/
theorem pcs_few {c : List CeR} {e : Int} (hc : srtF e c) {B : List Int} (h : chgB c B) : (pcs c).length ≤ B.length := by
  obtain ⟨g1, g2⟩ := pcs_starts hc
  exact ascP_len B g1 (fun q hq => h _ (by rw [(g2 q hq).1]; exact fun k => (g2 q hq).2 k.symm))
theorem insC_nil (pol : Int) (c : List CeR) (a : Int) : insC pol c (segC a []) = c := rfl
theorem differC_nil (c : List CeR) (a : Int) : differC c (segC a []) = 0 := rfl
/-- Insert into a buffer with few pieces. -/
theorem insL_pcs {pol : Int} {c : List CeR} (hc : srtF 0 c) {a : Int} (h0 : 0 ≤ a) (ha : a ≤ 2147483648) (hp : 1 ≤ pol) (hp4 : pol ≤ 4) (b : List UInt8) {B : List Int} (hB : chgB c B) (hBl : B.length ≤ 62) :
    insL (pcs c) a b pol = (pcs (insC pol c (segC a b)), differC c (segC a b), 0) := by
  unfold insL
  by_cases hb : b = []
  · subst hb
    rw [if_pos rfl, insC_nil, differC_nil]
  · rw [if_neg hb, if_neg (by omega), if_neg (by omega), cels_pcs]
    have := pcs_few (insC_fnd (pol := pol) hc h0 b).1 (chgB_ins (pol := pol) hc h0 b hB)
    simp only [List.length_cons] at this
    rw [if_neg (by omega)]
/-! ### Sizes -/
theorem putC_len3 (x : CeR) : ∀ c : List CeR, (putC x c).length = c.length + 1
  | [] => rfl
  | y :: r => by
    unfold putC
    split
    · rfl
    · simp only [List.length_cons, putC_len3 x r]
theorem setC_len3 (x : CeR) : ∀ c : List CeR, (setC x c).length = c.length
  | [] => rfl
  | y :: r => by
    unfold setC
    split
    · rfl
    · simp only [List.length_cons, setC_len3 x r]
theorem stepC_len (pol : Int) (c : List CeR) (x : CeR) (out : List CeR) : (stepC pol c x out).length + (if (fndC c x.at_).isSome = true then 1 else 0) = out.length + 1 := by
  unfold stepC
  cases fndC c x.at_ with
  | none => simp only [putC_len3]; rfl
  | some y =>
    simp only
    split
    · rw [setC_len3]; rfl
    · rfl
theorem insC_len (pol : Int) (c : List CeR) : ∀ (new out : List CeR), (new.foldl (fun out x => stepC pol c x out) out).length + thereC c new = out.length + new.length
  | [], out => rfl
  | x :: r, out => by
    have h1 := insC_len pol c r (stepC pol c x out)
    have h2 := stepC_len pol c x out
    show (r.foldl _ (stepC pol c x out)).length + _ = _
    have e : thereC c (x :: r) = thereC c r + (if (fndC c x.at_).isSome = true then 1 else 0) := by
      unfold thereC
      rw [List.filter_cons]
      split <;> simp
    rw [e]
    simp only [List.length_cons]
    omega
theorem thereC_le (c new : List CeR) : thereC c new ≤ new.length := List.length_filter_le ..
theorem differC_le (c new : List CeR) : differC c new ≤ new.length := List.length_filter_le ..
theorem segC_len3 (a : Int) (b : List UInt8) : (segC a b).length = b.length := celF_len _ _ _ _
/-- What is there already is not more than what there is. -/
theorem filter_run : ∀ {c : List CeR} {e : Int}, srtF e c → ∀ (b : List UInt8) (fr to_ o : Int), thereC c (celF fr to_ o b) ≤ c.length
  | c, e, hc, b, fr, to_, o => by
    induction b generalizing c e o with
    | nil => exact Nat.zero_le _
    | cons x r ih =>
      have e1 : thereC c (celF fr to_ o (x :: r)) = thereC c (celF fr to_ (o + 1) r) + (if (fndC c o).isSome = true then 1 else 0) := by
        unfold thereC
        show (List.filter _ (⟨o, x, fr, to_⟩ :: celF fr to_ (o + 1) r)).length = _
        rw [List.filter_cons]
        simp only
        split <;> simp
      rw [e1]
      cases hq : fndC c o with
      | none => simpa using ih c e hc (o + 1)
      | some y =>
        obtain ⟨h1, h2⟩ := fndC_at hq
        -- the cells but this one
        have hsplit : ∀ {c : List CeR} {e : Int}, srtF e c → ∀ {y : CeR}, y ∈ c → ∃ d, srtF e d ∧ d.length + 1 = c.length ∧ ∀ p, p ≠ y.at_ → fndC d p = fndC c p := by
          intro c
          induction c with
          | nil => intro e _ y hy; cases hy
          | cons z s ihs =>
            intro e ⟨k1, k2⟩ y hy
            rcases List.mem_cons.1 hy with rfl | hy
            · exact ⟨s, srtF_mono (by omega) k2, rfl, fun p hp => by rw [fndC_cons, if_neg (fun q => hp q.symm)]⟩
            · obtain ⟨d, d1, d2, d3⟩ := ihs k2 hy
              exact ⟨z :: d, ⟨k1, d1⟩, by simp only [List.length_cons]; omega, fun p hp => by rw [fndC_cons, fndC_cons, d3 p hp]⟩
        obtain ⟨d, d1, d2, d3⟩ := hsplit hc h2
        have hsame : thereC c (celF fr to_ (o + 1) r) = thereC d (celF fr to_ (o + 1) r) := by
          unfold thereC
          refine congrArg List.length (List.filter_congr fun z hz => ?_)
          have := (celF_mem hz).2.2.1
          rw [d3 z.at_ (by omega)]
        rw [hsame]
        have := ih d e d1 (o + 1)
        simp
        omega
theorem insL_size {pol : Int} {l : List PcR} (hv : vldL l) {a : Int} (h0 : 0 ≤ a) (b : List UInt8) : sizeL (pcs (insC pol (cels l) (segC a b))) + thereC (cels l) (segC a b) = sizeL l + b.length ∧ thereC (cels l) (segC a b) ≤ b.length ∧ thereC (cels l) (segC a b) ≤ sizeL l := by
  rw [← cels_len, cels_pcs, ← cels_len]
  have h1 := insC_len pol (cels l) (segC a b) (cels l)
  rw [segC_len3] at h1
  have h2 := thereC_le (cels l) (segC a b)
  rw [segC_len3] at h2
  exact ⟨h1, h2, filter_run (cels_srt hv) b _ _ _⟩
/-! ### Taking -/
theorem takC_pre (c : List CeR) : ∀ (b : List UInt8) (f : Nat) (o : Int), b.length ≤ f → (∀ (j : Nat) (hj : j < b.length), ∃ y, fndC c (o + j) = some y ∧ y.c = b[j]) → ∃ r, takC c f o = b ++ r
  | [], f, o, _, _ => ⟨_, rfl⟩
  | x :: s, 0, o, h, _ => absurd h (by simp)
  | x :: s, f + 1, o, h, hc => by
    obtain ⟨y, h1, h2⟩ := hc 0 (by simp)
    obtain ⟨r, hr⟩ := takC_pre c s f (o + 1) (by simpa using h) (fun j hj => by
      obtain ⟨z, g1, g2⟩ := hc (j + 1) (by simpa using hj)
      exact ⟨z, by rw [← g1]; congr 1; omega, by rw [g2]; rfl⟩)
    refine ⟨r, ?_⟩
    unfold takC
    rw [show o = o + ((0 : Nat) : Int) by omega, h1]
    simp only
    rw [show o + ((0 : Nat) : Int) + 1 = o + 1 by omega, hr, h2]
    rfl
theorem takL_pre {l : List PcR} {e : Int} (hv : vldF e l) (a : Int) (b : List UInt8) (h : ∀ (j : Nat) (hj : j < b.length), ∃ y, fndC (cels l) (a + j) = some y ∧ y.c = b[j]) : ∃ r, takL l a = b ++ r := by
  refine takC_pre _ b _ a ?_ h
  have := fnd_run (cels_srt hv) (o := a) (k := b.length) (fun j hj => by obtain ⟨y, h1, -⟩ := h j hj; rw [h1]; simp)
  omega
/-- All offsets have a byte: so many bytes are taken. -/
theorem takL_len {l : List PcR} {e : Int} (hv : vldF e l) (a : Int) (m : Nat) (h : ∀ j : Nat, j < m → fndC (cels l) (a + j) ≠ none) : m ≤ (takL l a).length := by
  have hb : ∃ b : List UInt8, b.length = m ∧ ∀ (j : Nat) (hj : j < b.length), ∃ y, fndC (cels l) (a + j) = some y ∧ y.c = b[j] := by
    refine ⟨(List.range m).map (fun j => ((fndC (cels l) (a + (j : Nat))).map (·.c)).getD 0), by simp, fun j hj => ?_⟩
    simp only [List.length_map, List.length_range] at hj
    cases hq : fndC (cels l) (a + j) with
    | none => exact absurd hq (h j hj)
    | some y => exact ⟨y, rfl, by simp [hq]⟩
  obtain ⟨b, hb1, hb2⟩ := hb
  obtain ⟨r, hr⟩ := takL_pre hv a b hb2
  rw [hr, List.length_append]
  omega
/-- A piece's bytes are there. -/
theorem fnd_piece {l : List PcR} {e : Int} (hv : vldF e l) {x : PcR} (hx : x ∈ l) (j : Nat) (hj : j < x.dat.length) : fndC (cels l) (x.at_ + j) = some ⟨x.at_ + j, x.dat[j], x.fr, x.to_⟩ := by
  have hm : (⟨x.at_ + j, x.dat[j], x.fr, x.to_⟩ : CeR) ∈ cels l := by
    unfold cels
    rw [List.mem_flatMap]
    refine ⟨x, hx, ?_⟩
    have := celF_get x.fr x.to_ x.dat x.at_ j
    rw [List.getElem?_eq_getElem hj] at this
    exact List.mem_of_getElem? this
  exact fndC_mem (cels_srt hv) hm
theorem fnd_ins {pol : Int} {l : List PcR} (hv : vldL l) {a : Int} (h0 : 0 ≤ a) (b : List UInt8) (o : Int) : fndC (cels (pcs (insC pol (cels l) (segC a b)))) o = match fndC (segC a b) o with | some x => some (winC pol (fndC (cels l) o) x) | none => fndC (cels l) o := by
  rw [cels_pcs]
  exact (insC_fnd (cels_srt hv) h0 b).2 o
theorem ins_vld {pol : Int} {l : List PcR} (hv : vldL l) {a : Int} (h0 : 0 ≤ a) (b : List UInt8) (hb : a + b.length ≤ 4294967296) : vldL (pcs (insC pol (cels l) (segC a b))) :=
  pcs_vld (insC_fnd (cels_srt hv) h0 b).1 (insC_ok (cels_srt hv) (cels_ok hv) h0 b h0 hb)
end Go.Proofs.Ytafpmlikocchpaa

/- Plain mathematics of overlapping pieces: several segments one after the other, and a table of owners. -/
namespace Go.Proofs.Ytafpmlikocchpaa
set_option linter.unusedVariables false
set_option maxRecDepth 100000

/-- The bytes after all segments; how often differing bytes overlapped. -/
def insAll (pol : Int) (l : List PcR) : List CeR := l.foldl (fun c x => insC pol c (segC x.at_ x.dat)) []
def difAll (pol : Int) : List PcR → List CeR → Nat
  | [], _ => 0
  | x :: r, c => differC c (segC x.at_ x.dat) + difAll pol r (insC pol c (segC x.at_ x.dat))
def inR (x : PcR) : Prop := 0 ≤ x.at_ ∧ x.at_ ≤ 150 ∧ x.dat.length ≤ 50
theorem insAll_snoc (pol : Int) (l : List PcR) (x : PcR) : insAll pol (l ++ [x]) = insC pol (insAll pol l) (segC x.at_ x.dat) := by unfold insAll; rw [List.foldl_append]; rfl
theorem difAll_snoc (pol : Int) (x : PcR) : ∀ (l : List PcR) (c : List CeR), difAll pol (l ++ [x]) c = difAll pol l c + differC (l.foldl (fun c x => insC pol c (segC x.at_ x.dat)) c) (segC x.at_ x.dat)
  | [], c => by show differC c _ + 0 = 0 + differC c _; omega
  | y :: r, c => by
    show differC c _ + difAll pol (r ++ [x]) _ = _
    rw [difAll_snoc pol x r]
    show _ = differC c _ + difAll pol r _ + _
    rw [Nat.add_assoc]
    rfl
/-- What is known of the bytes after segments within the first 200 offsets. -/
structure AllI (c : List CeR) (n : Nat) : Prop where
  srt : srtF 0 c
  ok : ∀ y ∈ c, okC y
  far : ∀ o, 200 ≤ o → fndC c o = none
  len : c.length ≤ n * 50
  few : ∃ B, chgB c B ∧ B.length = 2 * n
theorem AllI.nil : AllI [] 0 := ⟨trivial, fun y h => (by cases h), fun o _ => rfl, Nat.le_refl _, [], chgB_nil, rfl⟩
theorem AllI.next {c : List CeR} {n : Nat} {x : PcR} (h : AllI c n) (pol : Int) (hx : inR x) : AllI (insC pol c (segC x.at_ x.dat)) (n + 1) := by
  obtain ⟨h1, h2, h3⟩ := hx
  obtain ⟨g1, g2⟩ := insC_fnd (pol := pol) h.srt h1 x.dat
  refine ⟨g1, insC_ok h.srt h.ok h1 x.dat h1 (by omega), fun o ho => ?_, ?_, ?_⟩
  · rw [g2, segC_fnd, if_neg (by omega)]
    exact h.far o ho
  · have k1 := insC_len pol c (segC x.at_ x.dat) c
    have k2 := h.len
    rw [segC_len3] at k1
    show (List.foldl _ c (segC x.at_ x.dat)).length ≤ _
    omega
  · obtain ⟨B, b1, b2⟩ := h.few
    exact ⟨_, chgB_ins (pol := pol) h.srt h1 x.dat b1, by simp only [List.length_cons]; omega⟩
theorem AllI.take {l : List PcR} (pol : Int) (hl : ∀ x ∈ l, inR x) : ∀ k, k ≤ l.length → AllI (insAll pol (l.take k)) k
  | 0, _ => by rw [List.take_zero]; exact AllI.nil
  | k + 1, hk => by
    rw [List.take_succ_eq_append_getElem hk, insAll_snoc]
    exact (AllI.take pol hl k (by omega)).next pol (hl _ (List.getElem_mem _))
theorem AllI.vld {c : List CeR} {n : Nat} (h : AllI c n) : vldL (pcs c) := pcs_vld h.srt h.ok
theorem AllI.size {c : List CeR} {n : Nat} (h : AllI c n) : sizeL (pcs c) ≤ n * 50 := by rw [← cels_len, cels_pcs]; exact h.len
theorem AllI.ins {c : List CeR} {n : Nat} {x : PcR} {pol : Int} (h : AllI c n) (hn : n ≤ 31) (hx : inR x) (hp : 1 ≤ pol) (hp4 : pol ≤ 4) : insL (pcs c) x.at_ x.dat pol = (pcs (insC pol c (segC x.at_ x.dat)), differC c (segC x.at_ x.dat), 0) := by
  obtain ⟨B, b1, b2⟩ := h.few
  exact insL_pcs h.srt hx.1 (by have := hx.2.1; omega) hp hp4 x.dat b1 (by omega)
theorem AllI.pieces {c : List CeR} {n : Nat} (h : AllI c n) : (pcs c).length ≤ 2 * n := by
  obtain ⟨B, b1, b2⟩ := h.few
  rw [← b2]
  exact pcs_few h.srt b1
/-! ### The table of owners -/
def OwM (l : List PcR) (c : List CeR) (OW : Nat → Nat) : Prop := ∀ p : Nat, p < 200 → (OW p = 0 → fndC c (p : Int) = none) ∧ (∀ j, OW p = j + 1 → ∃ x, l[j]? = some x ∧ x.at_ ≤ (p : Int) ∧ (p : Int) < x.at_ + x.dat.length ∧ fndC c (p : Int) = some ⟨(p : Int), x.dat.getD ((p : Int) - x.at_).toNat 0, x.at_, x.at_ + x.dat.length⟩)
def updF (OW : Nat → Nat) (p v : Nat) : Nat → Nat := fun q => if q = p then v else OW q
theorem OwM.nil (l : List PcR) : OwM l [] (fun _ => 0) := fun p _ => ⟨fun _ => rfl, fun j h => absurd h (by simp)⟩
theorem OwM.set {l : List PcR} {c d : List CeR} {OW : Nat → Nat} {p i : Nat} {x : PcR} (h : OwM l c OW) (hx : l[i]? = some x) (h1 : x.at_ ≤ (p : Int)) (h2 : (p : Int) < x.at_ + x.dat.length)
    (hd : ∀ o, fndC d o = if o = (p : Int) then some ⟨(p : Int), x.dat.getD ((p : Int) - x.at_).toNat 0, x.at_, x.at_ + x.dat.length⟩ else fndC c o) : OwM l d (updF OW p (i + 1)) := fun q hq => by
  unfold updF
  rw [hd]
  by_cases e : q = p
  · subst e
    rw [if_pos rfl, if_pos rfl]
    refine ⟨fun h => by omega, fun j hj => ?_⟩
    obtain rfl : j = i := by omega
    exact ⟨x, hx, h1, h2, rfl⟩
  · rw [if_neg e, if_neg (by omega)]
    exact h q hq
theorem OwM.same {l : List PcR} {c d : List CeR} {OW : Nat → Nat} (h : OwM l c OW) (hd : ∀ o, fndC d o = fndC c o) : OwM l d OW := fun q hq => by
  rw [hd]
  exact h q hq
/-- Where the building of the table stands: behind k bytes of segment i. -/
structure ModI (pol : Int) (l : List PcR) (i k : Nat) (x : PcR) (OW : Nat → Nat) (df : Nat) : Prop where
  out : ∃ out, srtF 0 out ∧ out = ((segC x.at_ x.dat).take k).foldl (fun out z => stepC pol (insAll pol (l.take i)) z out) (insAll pol (l.take i)) ∧ (∀ o, x.at_ + k ≤ o → fndC out o = fndC (insAll pol (l.take i)) o) ∧ OwM l out OW
  df : df = difAll pol (l.take i) [] + differC (insAll pol (l.take i)) ((segC x.at_ x.dat).take k)
theorem segC_at {x : PcR} {k : Nat} (hk : k < x.dat.length) : (segC x.at_ x.dat)[k]? = some ⟨x.at_ + k, x.dat[k], x.at_, x.at_ + x.dat.length⟩ := by
  unfold segC
  rw [celF_get, List.getElem?_eq_getElem hk]
  rfl
theorem ModI.start {pol : Int} {l : List PcR} {i : Nat} {x : PcR} {OW : Nat → Nat} (hl : ∀ x ∈ l, inR x) (hx : l[i]? = some x) (h : OwM l (insAll pol (l.take i)) OW) : ModI pol l i 0 x OW (difAll pol (l.take i) []) := by
  have hi : i ≤ l.length := Nat.le_of_lt (List.getElem?_eq_some_iff.1 hx).1
  exact ⟨⟨_, (AllI.take pol hl i hi).srt, rfl, fun _ _ => rfl, h⟩, rfl⟩
theorem ModI.finish {pol : Int} {l : List PcR} {i : Nat} {x : PcR} {OW : Nat → Nat} {df : Nat} (hx : l[i]? = some x) (h : ModI pol l i x.dat.length x OW df) : OwM l (insAll pol (l.take (i + 1))) OW ∧ df = difAll pol (l.take (i + 1)) [] := by
  obtain ⟨hi, e⟩ := List.getElem?_eq_some_iff.1 hx
  obtain ⟨out, h1, h2, h3, h4⟩ := h.out
  have hd := h.df
  have hT : (segC x.at_ x.dat).take x.dat.length = segC x.at_ x.dat := List.take_of_length_le (by rw [segC_len3]; exact Nat.le_refl _)
  rw [hT] at h2 hd
  rw [List.take_succ_eq_append_getElem hi, e, insAll_snoc, difAll_snoc]
  exact ⟨by rw [h2] at h4; exact h4, hd⟩
/-- A byte whose offset has no owner yet. -/
theorem ModI.free {pol : Int} {l : List PcR} {i k p : Nat} {x : PcR} {OW : Nat → Nat} {df : Nat} (h : ModI pol l i k x OW df) (hx : l[i]? = some x) (hk : k < x.dat.length) (hp : (p : Int) = x.at_ + k) (h0 : 0 ≤ x.at_) (hp2 : p < 200) (hz : OW p = 0) : ModI pol l i (k + 1) x (updF OW p (i + 1)) df := by
  obtain ⟨out, h1, h2, h3, h4⟩ := h.out
  have hs := segC_at hk
  have hn := (h4 p hp2).1 hz
  have hC := h3 (p : Int) (by omega)
  rw [hn] at hC
  obtain ⟨g1, g2⟩ := stepC_srt (pol := pol) (c := insAll pol (l.take i)) (x := ⟨x.at_ + k, x.dat[k], x.at_, x.at_ + x.dat.length⟩) h1 (by show (0 : Int) ≤ x.at_ + k; omega) (by show fndC out (x.at_ + k) = _; rw [← hp, hn, hC])
  simp only [← hp, ← hC, winC] at g2
  have htk : (segC x.at_ x.dat).take (k + 1) = (segC x.at_ x.dat).take k ++ [⟨x.at_ + k, x.dat[k], x.at_, x.at_ + x.dat.length⟩] := by
    obtain ⟨hk', e'⟩ := List.getElem?_eq_some_iff.1 hs
    rw [List.take_succ_eq_append_getElem hk', e']
  refine ⟨⟨_, g1, ?_, fun o ho => ?_, ?_⟩, ?_⟩
  · rw [htk, List.foldl_append, ← h2]; rfl
  · rw [← hp, g2, if_neg (by omega)]; exact h3 o (by omega)
  · refine h4.set hx (by omega) (by omega) (fun o => ?_)
    rw [← hp, g2 o]
    congr 3
    rw [show ((p : Int) - x.at_).toNat = k by omega]
    simp [List.getD, List.getElem?_eq_getElem hk]
  · rw [h.df, htk]
    unfold differC
    rw [List.filter_append, List.length_append]
    simp only [List.filter_cons, List.filter_nil, ← hp, ← hC]
    rfl
/-- A byte whose offset has an owner. -/
theorem ModI.over {pol : Int} {l : List PcR} {i k p j : Nat} {x y : PcR} {OW : Nat → Nat} {df : Nat} (h : ModI pol l i k x OW df) (hx : l[i]? = some x) (hk : k < x.dat.length) (hp : (p : Int) = x.at_ + k) (h0 : 0 ≤ x.at_) (hp2 : p < 200) (hz : OW p = j + 1) (hy : l[j]? = some y) :
    (y.at_ ≤ (p : Int) ∧ (p : Int) < y.at_ + y.dat.length) ∧ ModI pol l i (k + 1) x (if winsB pol y.at_ (y.at_ + y.dat.length) x.at_ (x.at_ + x.dat.length) = true then updF OW p (i + 1) else OW) (df + if y.dat.getD ((p : Int) - y.at_).toNat 0 ≠ x.dat[k] then 1 else 0) := by
  obtain ⟨out, h1, h2, h3, h4⟩ := h.out
  have hs := segC_at hk
  obtain ⟨y', hy', c1, c2, hn⟩ := (h4 p hp2).2 j hz
  obtain rfl : y' = y := Option.some.inj (hy'.symm.trans hy)
  have hC := h3 (p : Int) (by omega)
  rw [hn] at hC
  obtain ⟨g1, g2⟩ := stepC_srt (pol := pol) (c := insAll pol (l.take i)) (x := ⟨x.at_ + k, x.dat[k], x.at_, x.at_ + x.dat.length⟩) h1 (by show (0 : Int) ≤ x.at_ + k; omega) (by show fndC out (x.at_ + k) = _; rw [← hp, hn, hC])
  simp only [← hp, ← hC, winC] at g2
  have htk : (segC x.at_ x.dat).take (k + 1) = (segC x.at_ x.dat).take k ++ [⟨x.at_ + k, x.dat[k], x.at_, x.at_ + x.dat.length⟩] := by
    obtain ⟨hk', e'⟩ := List.getElem?_eq_some_iff.1 hs
    rw [List.take_succ_eq_append_getElem hk', e']
  refine ⟨⟨c1, c2⟩, ⟨_, g1, ?_, fun o ho => ?_, ?_⟩, ?_⟩
  · rw [htk, List.foldl_append, ← h2]; rfl
  · rw [← hp, g2, if_neg (by omega)]; exact h3 o (by omega)
  · by_cases hw : winsB pol y'.at_ (y'.at_ + y'.dat.length) x.at_ (x.at_ + x.dat.length) = true
    · rw [if_pos hw]
      refine h4.set hx (by omega) (by omega) (fun o => ?_)
      rw [← hp, g2 o, if_pos hw]
      congr 3
      rw [show ((p : Int) - x.at_).toNat = k by omega]
      simp [List.getD, List.getElem?_eq_getElem hk]
    · rw [if_neg hw]
      refine h4.same (fun o => ?_)
      rw [← hp, g2 o, if_neg hw]
      by_cases ho : o = (p : Int)
      · rw [if_pos ho, ho, hn]
      · rw [if_neg ho]
  · rw [h.df, htk]
    unfold differC
    rw [List.filter_append, List.length_append, Nat.add_assoc]
    congr 2
    simp only [List.filter_cons, List.filter_nil, ← hp, ← hC]
    generalize y'.dat.getD ((p : Int) - y'.at_).toNat 0 = G
    by_cases hd : G = x.dat[k]
    · simp [hd]
    · simp [hd]
/-! ### Reading the table -/
theorem tak_next4 {c : List CeR} {f : Nat} {o : Int} {y : CeR} (h : fndC c o = some y) : takC c (f + 1) o = y.c :: takC c f (o + 1) := by
  show (match fndC c o with | none => [] | some y => y.c :: takC c f (o + 1)) = _
  rw [h]
theorem tak_stop4 {c : List CeR} {f : Nat} {o : Int} (h : fndC c o = none) : takC c f o = [] := by
  cases f with
  | zero => rfl
  | succ f =>
    show (match fndC c o with | none => [] | some y => y.c :: takC c f (o + 1)) = _
    rw [h]
/-- How far the reading is. -/
def RedI (c : List CeR) (b : List UInt8) : Prop := takL (pcs c) 0 = b ++ takC c (c.length + 1 - b.length) (b.length : Int) ∧ b.length ≤ c.length ∧ ∀ j : Nat, j < b.length → fndC c (j : Int) ≠ none
theorem RedI.start (c : List CeR) : RedI c [] := ⟨by unfold takL; rw [cels_pcs]; rfl, Nat.zero_le _, fun j h => absurd h (by simp)⟩
theorem RedI.next {c : List CeR} {b : List UInt8} {y : CeR} (hc : srtF 0 c) (h : RedI c b) (hy : fndC c (b.length : Int) = some y) : RedI c (b ++ [y.c]) := by
  obtain ⟨h1, h2, h3⟩ := h
  have hall : ∀ j : Nat, j < b.length + 1 → fndC c (j : Int) ≠ none := fun j hj => by
    by_cases e : j = b.length
    · subst e; rw [hy]; simp
    · exact h3 j (by omega)
  have hlen := fnd_run hc (o := 0) (k := b.length + 1) (fun j hj => by rw [Int.zero_add]; exact hall j hj)
  refine ⟨?_, by rw [List.length_append]; exact hlen, fun j hj => hall j (by rw [List.length_append] at hj; exact hj)⟩
  rw [h1, show c.length + 1 - b.length = (c.length + 1 - (b ++ [y.c]).length) + 1 by rw [List.length_append]; simp only [List.length_cons, List.length_nil]; omega, tak_next4 hy, List.append_assoc]
  congr 3
  rw [List.length_append]
  simp only [List.length_cons, List.length_nil]
  omega
theorem RedI.stop {c : List CeR} {b : List UInt8} (h : RedI c b) (hn : fndC c (b.length : Int) = none) : takL (pcs c) 0 = b := by
  rw [h.1, tak_stop4 hn, List.append_nil]
end Go.Proofs.Ytafpmlikocchpaa

/- Lemmas about lists of pieces, for the walks of the laws. -/
namespace Go.Proofs.Ytafpmlikocchpaa
open Go.ChangeShapes Go.WideShapes Go.ChangeAt Go.RowKit
set_option linter.unusedVariables false
set_option maxRecDepth 100000

theorem mem_size {l : List PcR} {y : PcR} (h : y ∈ l) : y.dat.length ≤ sizeL l := by
  induction l with
  | nil => cases h
  | cons x r ih =>
    rw [sizeL_cons]
    rcases List.mem_cons.1 h with rfl | h
    · omega
    · have := ih h; omega
theorem okP_wf {y : PcR} (h : okP y) : pcWf y := by
  obtain ⟨-, h1, h2, h3, h4⟩ := h
  have hi : ∀ z : Int, 0 ≤ z → z ≤ 4294967296 → (Lit.int .i64 z).wf = true := fun z a b => by
    have : IntKind.i64.min ≤ z ∧ z ≤ IntKind.i64.max := ⟨by show (-9223372036854775808 : Int) ≤ z; omega, by show z ≤ (9223372036854775807 : Int); omega⟩
    simpa [Lit.wf] using this
  exact ⟨hi _ (by omega) (by omega), hi _ (by omega) (by omega), hi _ (by omega) (by omega), by omega⟩
theorem vld_wf {l : List PcR} (h : vldL l) (hz : sizeL l ≤ 1000) : ∀ y ∈ l, pcWf y ∧ y.dat.length ≤ 1000 := fun y hy => ⟨okP_wf (vldF_mem h y hy), by have := mem_size hy; omega⟩
theorem few_wf {l : List PcR} (h : ∀ y ∈ l, pcWf y) (hz : sizeL l ≤ 1000) : ∀ y ∈ l, pcWf y ∧ y.dat.length ≤ 1000 := fun y hy => ⟨h y hy, by have := mem_size hy; omega⟩
theorem insL_len (l : List PcR) (a : Int) (b : List UInt8) (pol : Int) : (insL l a b pol).1.length ≤ l.length + 64 := by
  unfold insL
  split
  · show l.length ≤ _; omega
  · split
    · show 0 ≤ _; omega
    · split
      · split
        · show l.length ≤ _; omega
        · show 0 ≤ _; omega
      · split
        · show 0 ≤ _; omega
        · rename_i h
          show (pcs _).length ≤ _
          omega
theorem cutL_len (l : List PcR) (a : Int) : (cutL l a).length ≤ l.length := List.length_filterMap_le ..
theorem cutL_size {l : List PcR} {e : Int} (hv : vldF e l) (a : Int) : sizeL (cutL l a) ≤ sizeL l := by
  rw [← cels_len, ← cels_len, cels_cut]
  exact List.length_filter_le ..
theorem takL_at {l : List PcR} (hv : vldL l) {a : Int} (h : takL l a ≠ []) : 0 ≤ a ∧ a < 4294967296 := by
  have hp : 0 < (takL l a).length := List.length_pos_iff.2 h
  obtain ⟨y, h1, -⟩ := takC_fnd (cels l) _ a 0 hp
  obtain ⟨h2, h3⟩ := fndC_at h1
  obtain ⟨k1, k2, k3, k4⟩ := cels_ok hv y h3
  omega
theorem takL_size {l : List PcR} (hv : vldL l) (a : Int) : (takL l a).length ≤ sizeL l := by
  rw [← cels_len]
  exact takC_le (cels_srt hv) _ a
end Go.Proofs.Ytafpmlikocchpaa
