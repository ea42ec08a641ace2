/- Contracts of the functions, part 5: InRow, EthMath. -/
import Derived.Deep.Slices
import Derived.Deep.Strs
import Derived.Lib.SmallJoins
import Derived.Test.YtnpklepafpdadaaDoorPA1
import Derived.Test.YtnpklepafpdadaaDoorPA4
/- Slices of elements as they come in: a row that reads as a list; strings. -/
namespace Go.Proofs.YtnpklepafpdadaaDoor
open Go.ChangeShapes Go.WideShapes Go.ChangeAt Go.RowKit
set_option linter.unusedVariables false

theorem choose_some {α : Type} [Inhabited α] {p : Nat → α → Prop} {m : Nat} (h : ∀ i, i < m → ∃ x, p i x) : ∃ f : Nat → α, ∀ i, i < m → p i (f i) := by
  classical
  exact ⟨fun i => if hi : i < m then (h i hi).choose else default, fun i hi => by simp only [dif_pos hi]; exact (h i hi).choose_spec⟩
theorem addr_twice (a : Addr) (x y : Nat) : (a.add x).add y = a.add (x + y) := by
  unfold Addr.add
  by_cases hx : x = 0 <;> by_cases hy : y = 0 <;> simp [hx, hy] <;> omega
/-- A slice that comes in, its elements opened one by one. -/
theorem in_row {H : Type} {enc : TypeId × Value → H} {α : Type} [Inhabited α] {E : Enc α} {P : α → Prop} {t e : TypeId} (ht : Tryd.prog.underlying t = some (.slice e)) (hk : Tryd.prog.cellsOf e = E.k)
    {W : World} {base : Nat} {sp : Nat → Bool} {held : Bool} (each : ∀ fuel (cs : List Value) (x : DataW H × List MemPlace), cs.length = E.k → DataW.trod enc Tryd.prog W base sp held fuel e cs = some x → ∃ q : α, P q ∧ cs = E.c q)
    {A : Option Addr} {n cap : Nat} {d : DataW H} {p : List MemPlace} (h : DataW.Trod enc Tryd.prog W base sp held t (.slice A n cap) d p) : ∃ l : List α, RowL E W A l ∧ n = l.length ∧ (A = none → cap = 0) ∧ n ≤ maxLen ∧ ∀ r ∈ l, P r := by
  obtain ⟨fuel, hf⟩ := h
  rcases Go.Deep.open_slice ht hf with ⟨hcs, _⟩ | ⟨a, l, c, m, k, D, Pl, hcs, _, hl, hm, hmm, _, hx⟩
  · simp [Value.cells] at hcs
    obtain ⟨rfl, rfl, rfl⟩ := hcs
    exact ⟨[], RowL.nil _ _, rfl, fun _ => rfl, by simp [maxLen], by simp⟩
  · simp [Value.cells] at hcs
    obtain ⟨rfl, rfl, rfl⟩ := hcs
    have hlm : n ≤ m := by rw [hmm]; split <;> omega
    have every : ∀ i, i < n → ∃ q : α, P q ∧ ∀ j v, (E.c q)[j]? = some v → W.cell? (a.add (i * E.k + j)) = some v := by
      intro i hi
      obtain ⟨cs', h1, h2⟩ := hx i (by omega)
      rw [hk] at h1
      obtain ⟨_, hlen, hcell⟩ := World.cells?_some h1
      obtain ⟨q, hq, rfl⟩ := each _ cs' _ hlen h2
      refine ⟨q, hq, fun j v hv => ?_⟩
      have hj : j < E.k := by rw [← E.len q]; exact (List.getElem?_eq_some_iff.1 hv).1
      have := hcell j hj
      rw [addr_twice] at this
      rw [this]
      exact hv
    obtain ⟨q, hq⟩ := choose_some every
    refine ⟨(List.range n).map q, fun hp => ?_, by simp, (fun e => by simp at e), by omega, fun r hr => ?_⟩
    · simp only [List.length_map, List.length_range] at hp
      obtain ⟨b, off, spot⟩ := a
      have hpos := E.pos
      obtain ⟨u, hu⟩ : ∃ u, (E.c (q 0))[0]? = some u := ⟨_, List.getElem?_eq_getElem (by rw [E.len]; exact hpos)⟩
      have h0 := (hq 0 hp).2 0 u hu
      have hspot : spot = none := by simpa [Addr.add] using World.cell?_spot h0
      subst hspot
      have hlt := World.block_lt_of_cell? W _ h0
      refine ⟨b, off, rfl, by simpa [Addr.add] using hlt, fun i x hx j v hv => ?_⟩
      rw [List.getElem?_map] at hx
      by_cases hi : i < n
      · rw [List.getElem?_range hi] at hx
        simp only [Option.map_some, Option.some.injEq] at hx
        subst hx
        have := (hq i hi).2 j v hv
        rw [addr_add7] at this
        rw [Nat.add_assoc]
        exact this
      · rw [List.getElem?_eq_none (by simpa using hi)] at hx
        simp at hx
    · obtain ⟨i, hi, rfl⟩ := List.mem_map.1 hr
      exact (hq i (List.mem_range.1 hi)).1
/-- A slice that is a field of what comes in. -/
theorem in_row_field {H : Type} {enc : TypeId × Value → H} {α : Type} [Inhabited α] {E : Enc α} {P : α → Prop} {t e : TypeId} (ht : Tryd.prog.underlying t = some (.slice e)) (hk : Tryd.prog.cellsOf e = E.k)
    {W : World} {base : Nat} {sp : Nat → Bool} {held : Bool} (each : ∀ fuel (cs : List Value) (x : DataW H × List MemPlace), cs.length = E.k → DataW.trod enc Tryd.prog W base sp held fuel e cs = some x → ∃ q : α, P q ∧ cs = E.c q)
    {fuel : Nat} {cs : List Value} {x : DataW H × List MemPlace} (h : DataW.trod enc Tryd.prog W base sp held fuel t cs = some x) : ∃ (A : Option Addr) (cap : Nat) (l : List α), cs = [.slice A l.length cap] ∧ RowL E W A l ∧ (A = none → cap = 0) ∧ l.length ≤ maxLen ∧ ∀ r ∈ l, P r := by
  obtain ⟨A, n, cap, rfl⟩ : ∃ A n cap, cs = [.slice A n cap] := by
    rcases Go.Deep.open_slice ht h with ⟨hcs, _⟩ | ⟨a, l, c, m, k, D, Pl, hcs, _⟩
    · exact ⟨_, _, _, hcs⟩
    · exact ⟨_, _, _, hcs⟩
  obtain ⟨l, h1, rfl, h3, h4, h5⟩ := in_row (E := E) (P := P) ht hk each (A := A) (n := n) (cap := cap) (d := x.1) (p := x.2) ⟨fuel, h⟩
  exact ⟨A, cap, l, rfl, h1, h3, h4, h5⟩
theorem arr5 {cs : Array Value} (h : cs.size = 5) : ∃ a b c d e, cs = #[a, b, c, d, e] := by
  obtain ⟨l⟩ := cs
  match l, h with
  | [a, b, c, d, e], _ => exact ⟨a, b, c, d, e, rfl⟩
end Go.Proofs.YtnpklepafpdadaaDoor

/- Plain mathematics of Ethernet frames: no Go in sight. -/
namespace Go.Proofs.YtnpklepafpdadaaDoor
set_option linter.unusedVariables false

/-- A frame: destination, source, tags, type, payload. -/
structure EthR where
  dst : Nat
  src : Nat
  vl : List Int
  ty : Int
  pay : List UInt8
def zeroE : EthR := ⟨0, 0, [], 0, []⟩
/-- k bytes of n, most significant first. -/
def beL (k n : Nat) : List UInt8 := (leL k n).reverse
theorem beL_len (k n : Nat) : (beL k n).length = k := by unfold beL; rw [List.length_reverse, leL_length]
theorem num_beL (k n : Nat) (h : n < 256 ^ k) : num (beL k n) = n := by unfold beL; rw [num_reverse_leL, Nat.mod_eq_of_lt h]
theorem beL_num (l : List UInt8) (k : Nat) (h : l.length = k) : beL k (num l) = l := by
  have := leL_num l.reverse
  rw [List.reverse_reverse, List.length_reverse, h] at this
  unfold beL
  rw [this, List.reverse_reverse]
def tgN (t : Nat) : Prop := t = 33024 ∨ t = 34984
instance (t : Nat) : Decidable (tgN t) := inferInstanceAs (Decidable (t = 33024 ∨ t = 34984))
/-- From the tags on: the error, the tags, the type, the payload. -/
def decV : Nat → List UInt8 → List Int → Nat × List Int × Nat × List UInt8
  | 0, _, _ => (9, [], 0, [])
  | f + 1, r, v =>
    if r.length < 2 then (1, [], 0, [])
    else if tgN (num (r.take 2)) then
      (if v.length = 2 then (9, [], 0, [])
      else if (r.drop 2).length < 2 then (1, [], 0, [])
      else decV f ((r.drop 2).drop 2) (v ++ [((num ((r.drop 2).take 2) % 4096 : Nat) : Int)]))
    else if num (r.take 2) < 1536 then (2, [], 0, [])
    else (0, v, num (r.take 2), r.drop 2)
def decE (s : List UInt8) : EthR × Nat :=
  if s.length < 14 then (zeroE, 1)
  else if (decV 3 (s.drop 12) []).1 ≠ 0 then (zeroE, (decV 3 (s.drop 12) []).1)
  else (⟨num (s.take 6), num ((s.drop 6).take 6), (decV 3 (s.drop 12) []).2.1, (decV 3 (s.drop 12) []).2.2.1, (decV 3 (s.drop 12) []).2.2.2⟩, 0)
def tagB (n i : Nat) (v : Int) : List UInt8 := beL 2 (if i + 1 = n then 33024 else 34984) ++ beL 2 v.toNat
/-- The first k tags of v. -/
def tagsB (v : List Int) (k : Nat) : List UInt8 := (List.range k).flatMap (fun i => tagB v.length i (v.getD i 0))
theorem tagB_len (n i : Nat) (v : Int) : (tagB n i v).length = 4 := by unfold tagB; rw [List.length_append, beL_len, beL_len]
theorem tagsB_len (v : List Int) : ∀ k, (tagsB v k).length = 4 * k
  | 0 => rfl
  | k + 1 => by
    have h := tagsB_len v k
    unfold tagsB at h ⊢
    rw [List.range_succ, List.flatMap_append, List.length_append, h]
    simp [tagB_len]
    omega
theorem tagsB_next {v : List Int} {k : Nat} {x : Int} (h : v[k]? = some x) : tagsB v (k + 1) = tagsB v k ++ tagB v.length k x := by
  unfold tagsB
  rw [List.range_succ, List.flatMap_append]
  simp [List.getD, h]
def badE (x : EthR) : Prop := 281474976710656 ≤ x.dst ∨ 281474976710656 ≤ x.src ∨ (∃ v ∈ x.vl, v < 0 ∨ 4095 < v) ∨ x.ty < 1536 ∨ 65535 < x.ty ∨ tgN x.ty.toNat
instance (x : EthR) : Decidable (badE x) := inferInstanceAs (Decidable (_ ∨ _))
def bodyE (x : EthR) : List UInt8 := beL 6 x.dst ++ beL 6 x.src ++ tagsB x.vl x.vl.length ++ (beL 2 x.ty.toNat ++ x.pay)
def encE (x : EthR) : List UInt8 × Nat :=
  if badE x then ([], 4) else if 2 < x.vl.length then ([], 9) else if 4096 < (bodyE x).length then ([], 3) else (bodyE x, 0)
theorem bodyE_len (x : EthR) : (bodyE x).length = 14 + 4 * x.vl.length + x.pay.length := by
  unfold bodyE
  simp only [List.length_append, beL_len, tagsB_len]
  omega
/-! ### Decoding inverts encoding -/
theorem decV_tag {f t a : Nat} {r : List UInt8} {v : List Int} (ht : tgN t) (ha : a < 65536) (hv : v.length ≠ 2) : decV (f + 1) (beL 2 t ++ (beL 2 a ++ r)) v = decV f r (v ++ [((a % 4096 : Nat) : Int)]) := by
  have h2 : (beL 2 t ++ (beL 2 a ++ r)).take 2 = beL 2 t := by rw [List.take_left' (beL_len 2 t)]
  have h3 : (beL 2 t ++ (beL 2 a ++ r)).drop 2 = beL 2 a ++ r := by rw [List.drop_left' (beL_len 2 t)]
  have h4 : (beL 2 a ++ r).take 2 = beL 2 a := by rw [List.take_left' (beL_len 2 a)]
  have h5 : (beL 2 a ++ r).drop 2 = r := by rw [List.drop_left' (beL_len 2 a)]
  have ht2 : t < 65536 := by rcases ht with h | h <;> omega
  have l1 : (beL 2 t ++ (beL 2 a ++ r)).length = 4 + r.length := by simp only [List.length_append, beL_len]; omega
  have l2 : (beL 2 a ++ r).length = 2 + r.length := by simp only [List.length_append, beL_len]
  rw [decV, h2, h3, h4, h5, num_beL 2 t (by omega), num_beL 2 a (by omega), if_neg (by omega), if_pos ht, if_neg hv, if_neg (by omega)]
theorem decV_type {f t : Nat} {r : List UInt8} {v : List Int} (ht : ¬ tgN t) (h1 : 1536 ≤ t) (h0 : t < 65536) : decV (f + 1) (beL 2 t ++ r) v = (0, v, t, r) := by
  have h2 : (beL 2 t ++ r).take 2 = beL 2 t := by rw [List.take_left' (beL_len 2 t)]
  have h3 : (beL 2 t ++ r).drop 2 = r := by rw [List.drop_left' (beL_len 2 t)]
  have l2 : (beL 2 t ++ r).length = 2 + r.length := by simp only [List.length_append, beL_len]
  rw [decV, h2, h3, num_beL 2 t (by omega), if_neg (by omega), if_neg ht, if_neg (by omega)]
theorem encE_ok {x : EthR} {s : List UInt8} (h : encE x = (s, 0)) : ¬ badE x ∧ x.vl.length ≤ 2 ∧ s = bodyE x ∧ (bodyE x).length ≤ 4096 := by
  unfold encE at h
  split at h
  · simp at h
  · split at h
    · simp at h
    · split at h
      · simp at h
      · rename_i h1 h2 h3
        exact ⟨h1, by omega, (Prod.mk.injEq .. ▸ h : _ ∧ _).1.symm, by omega⟩
theorem dec_enc {x : EthR} {s : List UInt8} (h : encE x = (s, 0)) : decE s = (x, 0) ∧ s.length = 14 + 4 * x.vl.length + x.pay.length := by
  obtain ⟨hb, hv, rfl, hl⟩ := encE_ok h
  obtain ⟨d, sr, v, ty, p⟩ := x
  unfold badE at hb
  simp only [not_or] at hb hv
  obtain ⟨b1, b2, b3, b4, b5, b6⟩ := hb
  have b3' : ∀ y ∈ v, 0 ≤ y ∧ y ≤ 4095 := fun y hy => by
    have hh : ¬ (y < 0 ∨ 4095 < y) := fun h => b3 ⟨y, hy, h⟩
    omega
  clear b3
  obtain ⟨t, rfl⟩ : ∃ t : Nat, ty = (t : Int) := ⟨ty.toNat, by omega⟩
  rw [Int.toNat_natCast] at b6
  have hbody : bodyE ⟨d, sr, v, (t : Int), p⟩ = beL 6 d ++ (beL 6 sr ++ (tagsB v v.length ++ (beL 2 t ++ p))) := by
    unfold bodyE
    rw [Int.toNat_natCast]
    simp only [List.append_assoc]
  have hV : decV 3 (tagsB v v.length ++ (beL 2 t ++ p)) [] = (0, v, t, p) := by
    match v, hv, b3' with
    | [], _, _ => exact decV_type b6 (by omega) (by omega)
    | [a], _, h =>
      have ha := h a (by simp)
      have e : tagsB [a] 1 = beL 2 33024 ++ beL 2 a.toNat := by simp [tagsB, tagB]
      show decV 3 (tagsB [a] 1 ++ _) [] = _
      rw [e, List.append_assoc, decV_tag (.inl rfl) (by omega) (by simp), decV_type b6 (by omega) (by omega)]
      rw [show ((a.toNat % 4096 : Nat) : Int) = a by omega]
      rfl
    | [a, b], _, h =>
      have ha := h a (by simp)
      have hb := h b (by simp)
      have e : tagsB [a, b] 2 = (beL 2 34984 ++ beL 2 a.toNat) ++ (beL 2 33024 ++ beL 2 b.toNat) := by simp [tagsB, tagB, List.range_succ]
      show decV 3 (tagsB [a, b] 2 ++ _) [] = _
      rw [e]
      simp only [List.append_assoc]
      rw [decV_tag (.inr rfl) (by omega) (by simp), decV_tag (.inl rfl) (by omega) (by simp), decV_type b6 (by omega) (by omega)]
      rw [show ((a.toNat % 4096 : Nat) : Int) = a by omega, show ((b.toNat % 4096 : Nat) : Int) = b by omega]
      rfl
    | a :: b :: c :: r, hv, _ => simp at hv
  refine ⟨?_, bodyE_len _⟩
  have hlen := bodyE_len ⟨d, sr, v, (t : Int), p⟩
  rw [hbody] at hlen ⊢
  have d6 : (beL 6 d ++ (beL 6 sr ++ (tagsB v v.length ++ (beL 2 t ++ p)))).drop 6 = beL 6 sr ++ (tagsB v v.length ++ (beL 2 t ++ p)) := List.drop_left' (beL_len 6 d)
  have d12 : (beL 6 d ++ (beL 6 sr ++ (tagsB v v.length ++ (beL 2 t ++ p)))).drop 12 = tagsB v v.length ++ (beL 2 t ++ p) := by
    rw [show (12 : Nat) = 6 + 6 from rfl, ← List.drop_drop, d6, List.drop_left' (beL_len 6 sr)]
  have t6 : (beL 6 d ++ (beL 6 sr ++ (tagsB v v.length ++ (beL 2 t ++ p)))).take 6 = beL 6 d := List.take_left' (beL_len 6 d)
  unfold decE
  rw [if_neg (by omega), d12, d6, t6, hV, if_neg (by simp), List.take_left' (beL_len 6 sr), num_beL 6 d (by omega), num_beL 6 sr (by omega)]
/-! ### Encoding what was decoded -/
theorem decV_ok : ∀ (f : Nat) (r : List UInt8) (v v' : List Int) (t : Nat) (p : List UInt8), v.length + f = 3 → decV f r v = (0, v', t, p) →
    ∃ u : List Int, v' = v ++ u ∧ v'.length ≤ 2 ∧ 4 * u.length + 2 ≤ r.length ∧ t = num ((r.drop (4 * u.length)).take 2) ∧ p = r.drop (4 * u.length + 2) ∧ ¬ tgN t ∧ 1536 ≤ t ∧ ∀ y ∈ u, 0 ≤ y ∧ y ≤ 4095
  | 0, r, v, v', t, p, _, h => by simp [decV] at h
  | f + 1, r, v, v', t, p, hf, h => by
    rw [decV] at h
    by_cases h1 : r.length < 2
    · rw [if_pos h1] at h; simp at h
    · rw [if_neg h1] at h
      by_cases h2 : tgN (num (r.take 2))
      · rw [if_pos h2] at h
        by_cases h3 : v.length = 2
        · rw [if_pos h3] at h; simp at h
        · rw [if_neg h3] at h
          by_cases h4 : (r.drop 2).length < 2
          · rw [if_pos h4] at h; simp at h
          · rw [if_neg h4] at h
            obtain ⟨u, rfl, a1, a2, a3, a4, a5, a6, a7⟩ := decV_ok f _ _ v' t p (by rw [List.length_append]; simp; omega) h
            rw [List.length_drop] at h4
            rw [List.drop_drop, List.length_drop] at a2
            rw [List.drop_drop, List.drop_drop] at a3 a4
            refine ⟨((num ((r.drop 2).take 2) % 4096 : Nat) : Int) :: u, by simp, a1, by rw [List.length_cons]; omega, ?_, ?_, a5, a6, ?_⟩
            · rw [a3, List.length_cons, show 2 + (2 + 4 * u.length) = 4 * (u.length + 1) by omega]
            · rw [a4, List.length_cons, show 2 + (2 + (4 * u.length + 2)) = 4 * (u.length + 1) + 2 by omega]
            · intro y hy
              rcases List.mem_cons.1 hy with rfl | hy
              · omega
              · exact a7 y hy
      · rw [if_neg h2] at h
        by_cases h3 : num (r.take 2) < 1536
        · rw [if_pos h3] at h; simp at h
        · rw [if_neg h3] at h
          simp only [Prod.mk.injEq, true_and] at h
          obtain ⟨rfl, rfl, rfl⟩ := h
          exact ⟨[], by simp, by omega, by simp; omega, by simp, by simp, h2, by omega, by simp⟩
theorem enc_dec {s : List UInt8} {x : EthR} (h : decE s = (x, 0)) (hs : s.length ≤ 4096) : ∃ t, encE x = (t, 0) ∧ t.length = s.length ∧ t.take 12 = s.take 12 ∧ x.vl.length ≤ 2 ∧ 12 + 4 * x.vl.length ≤ s.length ∧ t.drop (12 + 4 * x.vl.length) = s.drop (12 + 4 * x.vl.length) := by
  unfold decE at h
  by_cases h14 : s.length < 14
  · rw [if_pos h14] at h; simp at h
  · rw [if_neg h14] at h
    by_cases hd : (decV 3 (s.drop 12) []).1 = 0
    · rw [if_neg (by omega)] at h
      simp only [Prod.mk.injEq, and_true] at h
      obtain ⟨u, a0, a1, a2, a3, a4, a5, a6, a7⟩ := decV_ok 3 (s.drop 12) [] (decV 3 (s.drop 12) []).2.1 (decV 3 (s.drop 12) []).2.2.1 (decV 3 (s.drop 12) []).2.2.2 rfl (by rw [← hd])
      rw [List.nil_append] at a0
      generalize (decV 3 (s.drop 12) []).2.1 = v at *
      generalize (decV 3 (s.drop 12) []).2.2.1 = t at *
      generalize (decV 3 (s.drop 12) []).2.2.2 = p at *
      subst a0 h
      rw [List.length_drop] at a2
      rw [List.drop_drop] at a3 a4
      have l6 : (s.take 6).length = 6 := by rw [List.length_take]; omega
      have l6' : ((s.drop 6).take 6).length = 6 := by rw [List.length_take, List.length_drop]; omega
      have n6 := num_lt (s.take 6)
      have n6' := num_lt ((s.drop 6).take 6)
      rw [l6] at n6
      rw [l6'] at n6'
      have lt2 : ((s.drop (12 + 4 * v.length)).take 2).length = 2 := by rw [List.length_take, List.length_drop]; omega
      have nt := num_lt ((s.drop (12 + 4 * v.length)).take 2)
      rw [lt2, ← a3] at nt
      have hnb : ¬ badE ⟨num (s.take 6), num ((s.drop 6).take 6), v, (t : Int), p⟩ := by
        unfold badE
        simp only [not_or]
        refine ⟨by omega, by omega, ?_, by omega, by omega, by rw [Int.toNat_natCast]; exact a5⟩
        rintro ⟨y, hy, hh⟩
        have := a7 y hy
        omega
      have hbl := bodyE_len ⟨num (s.take 6), num ((s.drop 6).take 6), v, (t : Int), p⟩
      have hpl : p.length = s.length - (12 + (4 * v.length + 2)) := by rw [a4, List.length_drop]
      simp only at hbl a1 ⊢
      have hen : encE ⟨num (s.take 6), num ((s.drop 6).take 6), v, (t : Int), p⟩ = (bodyE ⟨num (s.take 6), num ((s.drop 6).take 6), v, (t : Int), p⟩, 0) := by
        unfold encE
        rw [if_neg hnb, if_neg (by simp only; omega), if_neg (by omega)]
      have hbe : bodyE ⟨num (s.take 6), num ((s.drop 6).take 6), v, (t : Int), p⟩ = s.take 12 ++ (tagsB v v.length ++ s.drop (12 + 4 * v.length)) := by
        unfold bodyE
        simp only [Int.toNat_natCast]
        rw [beL_num _ 6 l6, beL_num _ 6 l6', a3, beL_num _ 2 lt2, a4]
        have e1 : s.take 6 ++ (s.drop 6).take 6 = s.take 12 := by rw [show (12 : Nat) = 6 + 6 from rfl, List.take_add]
        have e2 : (s.drop (12 + 4 * v.length)).take 2 ++ s.drop (12 + (4 * v.length + 2)) = s.drop (12 + 4 * v.length) := by
          have h9 := List.take_append_drop 2 (s.drop (12 + 4 * v.length))
          rw [List.drop_drop] at h9
          rw [show 12 + (4 * v.length + 2) = (12 + 4 * v.length) + 2 by omega]
          exact h9
        rw [e1, e2, List.append_assoc]
      have l12 : (s.take 12).length = 12 := by rw [List.length_take]; omega
      refine ⟨_, hen, by rw [hbl]; omega, ?_, by omega, by omega, ?_⟩
      · rw [hbe, List.take_left' l12]
      · rw [hbe, ← List.append_assoc, List.drop_left' (by rw [List.length_append, l12, tagsB_len])]
    · rw [if_pos hd] at h
      simp only [Prod.mk.injEq] at h
      exact absurd h.2 hd
theorem decV_vl : ∀ (f : Nat) (r : List UInt8) (v : List Int), v.length + f ≤ 3 → (decV f r v).2.1.length ≤ 3
  | 0, r, v, h => by simp [decV]
  | f + 1, r, v, h => by
    rw [decV]
    split
    · simp
    · split
      · split
        · simp
        · split
          · simp
          · exact decV_vl f _ _ (by rw [List.length_append]; simp; omega)
      · split
        · simp
        · show v.length ≤ 3
          omega
theorem decE_vl (s : List UInt8) : (decE s).1.vl.length ≤ 3 := by
  unfold decE
  split
  · simp [zeroE]
  · split
    · simp [zeroE]
    · exact decV_vl 3 _ [] (by simp)
end Go.Proofs.YtnpklepafpdadaaDoor
