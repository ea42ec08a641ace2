/- Contracts of the functions, part 7: Ip4Math2, UdpMath. -/
import Derived.Test.YtnpklepafpdadaaDoorPA6
/- Plain mathematics of IPv4 packets: what was decoded is accepted; a changed byte is noticed; splitting. -/
namespace Go.Proofs.YtnpklepafpdadaaDoor
set_option linter.unusedVariables false

theorem decI_ok {S : List UInt8} {p : Ip4R} (h : decI S = (p, 0)) : ∃ l, optsD ((S.take (hdL S)).drop 20) = some l ∧ p = outI S l ∧ 20 ≤ S.length ∧ 20 ≤ hdL S ∧ hdL S ≤ S.length ∧ nm2 S 2 ≤ S.length ∧ hdL S ≤ nm2 S 2 ∧ nm2 S 6 < 32768 ∧ csum (S.take (hdL S)) = 0 := by
  unfold decI at h
  split at h
  · simp at h
  · split at h
    · simp at h
    · split at h
      · simp at h
      · split at h
        · simp at h
        · split at h
          · simp at h
          · split at h
            · simp at h
            · rename_i h1 h2 h3 h4 h5 _ l hl
              split at h
              · simp at h
              · rename_i h6
                exact ⟨l, hl, (Prod.mk.injEq .. ▸ h : _ ∧ _).1.symm, by omega, by omega, by omega, by omega, by omega, by omega, by omega⟩
theorem decI_bad {S : List UInt8} (h : (decI S).2 ≠ 0) : (decI S).1 = zeroI := by
  unfold decI at h ⊢
  split
  · rfl
  · split
    · rfl
    · split
      · rfl
      · split
        · rfl
        · split
          · rfl
          · split
            · rfl
            · split
              · rfl
              · rename_i h1 h2 h3 h4 h5 _ l hl h6
                rw [if_neg h1, if_neg h2, if_neg h3, if_neg h4, if_neg h5, hl] at h
                simp only at h
                rw [if_neg h6] at h
                exact absurd rfl h
/-- WHAT WAS DECODED IS ACCEPTED. -/
theorem enc_dec4 {S : List UInt8} {p : Ip4R} (h : decI S = (p, 0)) : ∃ t, encI p = (t, 0) ∧ t.length ≤ S.length ∧ 20 + p.pay.length ≤ t.length := by
  obtain ⟨l, hl, rfl, h1, h2, h3, h4, h5, h6, -⟩ := decI_ok h
  obtain ⟨g1, g2, g3⟩ := opts_ok _ _ l (Nat.le_refl _) hl
  have hh : hdL S ≤ 60 := by unfold hdL; omega
  have hd4 : hdL S % 4 = 0 := by unfold hdL; omega
  rw [List.length_drop, List.length_take, Nat.min_eq_left h3] at g2
  have ht := nm2_lt S 2
  have hb : ¬ badI (outI S l) := by
    unfold badI outI a4
    have b1 := byt_lt S 1
    have b8 := byt_lt S 8
    have b9 := byt_lt S 9
    have b4 := nm2_lt S 4
    have s4 := nm4_lt S 12
    have d4 := nm4_lt S 16
    simp only [not_or, Classical.not_not]
    refine ⟨by omega, by omega, by omega, by omega, by omega, ⟨trivial, trivial, s4⟩, ⟨trivial, trivial, d4⟩, ?_⟩
    rintro ⟨x, hx, hk⟩
    have := g1 x hx
    omega
  have hp : (outI S l).pay.length = nm2 S 2 - hdL S := by show ((S.take (nm2 S 2)).drop (hdL S)).length = _; rw [List.length_drop, List.length_take]; omega
  have hw := (wrP_len l).1
  have hpd : (wrOs l).length + padN (wrOs l).length ≤ hdL S - 20 := by unfold padN; omega
  have hho : hlI (outI S l) ≤ hdL S := by show 20 + (wrP l).length ≤ _; omega
  have hto : totI (outI S l) ≤ nm2 S 2 := by unfold totI; rw [hp]; omega
  refine ⟨headI (outI S l) ++ (outI S l).pay, ?_, ?_, ?_⟩
  · unfold encI
    rw [if_neg hb, if_neg (show ¬ 40 < (wrOs (outI S l).ops).length by show ¬ 40 < (wrOs l).length; omega), if_neg (by omega)]
  · rw [List.length_append, headI_len]
    have : hlI (outI S l) + (outI S l).pay.length = totI (outI S l) := rfl
    omega
  · rw [List.length_append, headI_len]
    unfold hlI
    omega
/-! ### A changed byte -/
theorem wsum_set : ∀ (l : List UInt8) (i : Nat) (c : UInt8) (h : i < l.length), (wsum (l.set i c) : Int) = wsum l + ((c.toNat : Int) - (l[i].toNat : Int)) * (if i % 2 = 0 then 256 else 1)
  | [a], 0, c, _ => by simp [wsum]; omega
  | a :: b :: l, 0, c, _ => by simp [wsum]; omega
  | a :: b :: l, 1, c, _ => by simp [wsum]; omega
  | a :: b :: l, i + 2, c, h => by
    have ih := wsum_set l i c (by simp at h; omega)
    simp only [List.set_cons_succ, wsum, List.getElem_cons_succ, Int.natCast_add]
    rw [ih, show (i + 2) % 2 = i % 2 by omega]
    omega
theorem csum_set {l : List UInt8} {i : Nat} {c : UInt8} (h : i < l.length) (hc : c ≠ l[i]) (h0 : csum l = 0) : csum (l.set i c) ≠ 0 := fun h1 => by
  have e0 := csum_zero h0
  have e1 := csum_zero h1
  have hs := wsum_set l i c h
  have hne : c.toNat ≠ l[i].toNat := fun e => hc (UInt8.toNat.inj e)
  have b1 := c.toNat_lt
  have b2 := l[i].toNat_lt
  split at hs <;> omega
/-- A CHANGED BYTE OF THE HEADER IS NOTICED. -/
theorem dec_set {p : Ip4R} {s : List UInt8} (h : encI p = (s, 0)) {i : Nat} {c : UInt8} (h1 : 1 ≤ i) (h2 : i < hlI p) (hi : i < s.length) (hc : c ≠ s[i]) : (decI (s.set i c)).2 ≠ 0 := fun h0 => by
  obtain ⟨hb, ho, ht, rfl⟩ := encI_ok h
  obtain ⟨q, hq⟩ : ∃ q, decI ((headI p ++ p.pay).set i c) = (q, 0) := ⟨_, Prod.ext rfl h0⟩
  obtain ⟨l, -, -, g1, g2, g3, g4, g5, g6, g7⟩ := decI_ok hq
  have E := enc4 hb ho ht p.pay
  have hpd := need_pad ho
  have hw := (wrP_len p.ops).1
  have hw4 := (wrP_len p.ops).2
  have hh : hlI p ≤ 60 ∧ 20 ≤ hlI p ∧ hlI p % 4 = 0 := by unfold hlI; omega
  have hHD : hdL ((headI p ++ p.pay).set i c) = hlI p := by
    have e : byt ((headI p ++ p.pay).set i c) 0 = byt (headI p ++ p.pay) 0 := by
      unfold byt
      rw [List.getD_eq_getElem?_getD, List.getD_eq_getElem?_getD, List.getElem?_set_ne (by omega)]
    unfold hdL
    rw [e, E.b0]
    omega
  rw [hHD, ← headI_len p, List.take_set, List.take_left] at g7
  have hil : i < (headI p).length := by rw [headI_len]; exact h2
  rw [List.getElem_append_left hil] at hc
  exact csum_set hil hc (headI_sum p) g7
/-! ### Splitting -/
def isRoute (k : Int) : Bool := k == 131 || k == 137
def routedI (p : Ip4R) : Bool := p.ops.any (fun x => isRoute x.kd)
/-- The options of the part at a place. -/
def opsAt (l : List OpR) (at_ : Nat) : List OpR := l.filter (fun x => at_ == 0 || decide (128 ≤ x.kd))
def partI (p : Ip4R) (d : List UInt8) (off : Int) (more : Bool) (at_ : Nat) : Ip4R := { p with ops := opsAt p.ops at_, pay := d, off := off, more := more }
/-- The parts from a place on; none: an offset is too great. -/
def partsI (p : Ip4R) (size : Nat) : Nat → Nat → Option (List Ip4R)
  | 0, _ => some []
  | f + 1, at_ =>
    if 65528 < p.off + at_ then none
    else if p.pay.length - at_ ≤ size then some [partI p (p.pay.drop at_) (p.off + at_) p.more at_]
    else (partsI p size f (at_ + size)).map (fun l => partI p ((p.pay.drop at_).take size) (p.off + at_) true at_ :: l)
def splitI (p : Ip4R) (size : Int) : List Ip4R × Nat :=
  if size < 8 ∨ size % 8 ≠ 0 then ([], 4)
  else if (encI p).2 ≠ 0 then ([], (encI p).2)
  else if (p.pay.length : Int) ≤ size then ([partI p p.pay p.off p.more 0], 0)
  else if p.dont = true then ([], 10)
  else match partsI p size.toNat (p.pay.length + 1) 0 with
    | none => ([], 4)
    | some l => (l, 0)
theorem opsAt_sub (l : List OpR) (a : Nat) : (wrOs (opsAt l a)).length ≤ (wrOs l).length := by
  induction l with
  | nil => exact Nat.le_refl _
  | cons x r ih =>
    unfold opsAt at ih ⊢
    rw [List.filter_cons]
    split
    · rw [wrOs_cons, wrOs_cons, List.length_append, List.length_append]; omega
    · rw [wrOs_cons, List.length_append]; omega
theorem padN_mono {a b : Nat} (h : a ≤ b) : a + padN a ≤ b + padN b := by unfold padN; omega
/-- A part is accepted. -/
theorem part_ok {p : Ip4R} {s : List UInt8} (h : encI p = (s, 0)) {d : List UInt8} {off : Int} {more : Bool} {a : Nat} (hd : d.length ≤ p.pay.length) (h0 : 0 ≤ off) (h1 : off ≤ 65528) (h8 : off % 8 = 0) : (encI (partI p d off more a)).2 = 0 := by
  obtain ⟨hb, ho, ht, -⟩ := encI_ok h
  have hso := opsAt_sub p.ops a
  have hpm := padN_mono hso
  have e1 := (wrP_len p.ops).1
  have e2 := (wrP_len (opsAt p.ops a)).1
  have hb2 : ¬ badI (partI p d off more a) := by
    unfold badI at hb ⊢
    simp only [not_or] at hb ⊢
    obtain ⟨h3, h4, h5, h6, -, h7, h9, hk⟩ := hb
    refine ⟨h3, h4, h5, h6, ⟨by show ¬ off < 0; omega, by show ¬ 65528 < off; omega, by show ¬ off % 8 ≠ 0; omega⟩, h7, h9, ?_⟩
    rintro ⟨x, hx, hxk⟩
    exact hk ⟨x, (List.mem_filter.1 hx).1, hxk⟩
  have ht2 : ¬ 65535 < totI (partI p d off more a) := by
    have : totI (partI p d off more a) = 20 + (wrP (opsAt p.ops a)).length + d.length := rfl
    unfold totI hlI at ht
    omega
  unfold encI
  rw [if_neg hb2, if_neg (show ¬ 40 < (wrOs (partI p d off more a).ops).length by show ¬ 40 < (wrOs (opsAt p.ops a)).length; omega), if_neg ht2]
/-- What the law says of the parts from a place on. -/
def PartsP (p : Ip4R) (size : Nat) (at_ : Nat) (l : List Ip4R) : Prop :=
  (l.flatMap (·.pay)) = p.pay.drop at_ ∧ l ≠ [] ∧ ∀ (i : Nat) (x : Ip4R), l[i]? = some x →
    (encI x).2 = 0 ∧ x.off = p.off + (at_ + ((l.take i).flatMap (·.pay)).length : Nat) ∧ x.id = p.id ∧ x.pay.length ≤ size ∧ x.more = (decide (i + 1 < l.length) || p.more)
theorem parts_ok {p : Ip4R} {s : List UInt8} (h : encI p = (s, 0)) {size : Nat} (hs : 8 ≤ size) (hs8 : size % 8 = 0) : ∀ (f at_ : Nat) (l : List Ip4R), p.pay.length < at_ + f * 8 → at_ % 8 = 0 → at_ ≤ p.pay.length → 0 < f → partsI p size f at_ = some l → PartsP p size at_ l
  | 0, _, _, _, _, _, hf, _ => absurd hf (by omega)
  | f + 1, a, l, hfa, ha8, hal, _, hp => by
    obtain ⟨hb, -⟩ := encI_ok h
    have hoff : 0 ≤ p.off ∧ p.off % 8 = 0 := by
      unfold badI at hb
      simp only [not_or] at hb
      obtain ⟨-, -, -, -, ⟨g1, g2, g3⟩, -⟩ := hb
      omega
    rw [partsI] at hp
    split at hp
    · cases hp
    · rename_i h1
      split at hp
      · rename_i h2
        obtain rfl := Option.some.inj hp
        refine ⟨by simp [partI], by simp, fun i x hx => ?_⟩
        match i with
        | 0 =>
          simp at hx
          subst hx
          exact ⟨part_ok h (by rw [List.length_drop]; omega) (by omega) (by omega) (by omega), by simp [partI], rfl, by show (p.pay.drop a).length ≤ size; rw [List.length_drop]; omega, by simp [partI]⟩
        | i + 1 => simp at hx
      · rename_i h2
        cases e : partsI p size f (a + size) with
        | none => rw [e] at hp; cases hp
        | some r =>
          rw [e] at hp
          obtain rfl := Option.some.inj hp
          have hf0 : 0 < f := by
            rcases Nat.eq_zero_or_pos f with rfl | h
            · omega
            · exact h
          obtain ⟨i1, i2, i3⟩ := parts_ok h hs hs8 f (a + size) r (by omega) (by omega) (by omega) hf0 e
          refine ⟨?_, by simp, fun i x hx => ?_⟩
          · rw [List.flatMap_cons, i1]
            show (p.pay.drop a).take size ++ p.pay.drop (a + size) = _
            rw [← List.drop_drop, List.take_append_drop]
          · match i with
            | 0 =>
              simp at hx
              subst hx
              have hr : 0 < r.length := List.length_pos_iff.2 i2
              exact ⟨part_ok h (by rw [List.length_take, List.length_drop]; omega) (by omega) (by omega) (by omega), by simp [partI], rfl, by show ((p.pay.drop a).take size).length ≤ size; rw [List.length_take]; omega, by simp [partI]; omega⟩
            | i + 1 =>
              rw [List.getElem?_cons_succ] at hx
              obtain ⟨j1, j2, j3, j4, j5⟩ := i3 i x hx
              refine ⟨j1, ?_, j3, j4, ?_⟩
              · rw [j2, List.take_succ_cons, List.flatMap_cons, List.length_append]
                have : (partI p ((p.pay.drop a).take size) (p.off + a) true a).pay.length = size := by show ((p.pay.drop a).take size).length = size; rw [List.length_take, List.length_drop]; omega
                rw [this]
                congr 1
                omega
              · rw [j5, List.length_cons]
                congr 1
                simp
theorem split_ok {p : Ip4R} {size : Int} {l : List Ip4R} (h : splitI p size = (l, 0)) : PartsP p size.toNat 0 l := by
  unfold splitI at h
  split at h
  · simp at h
  · rename_i h1
    split at h
    · rename_i h2
      simp only [Prod.mk.injEq] at h
      exact absurd h.2 h2
    · rename_i h2
      obtain ⟨s, hs⟩ : ∃ s, encI p = (s, 0) := ⟨_, Prod.ext rfl (by omega)⟩
      split at h
      · rename_i h3
        obtain rfl := (Prod.mk.injEq .. ▸ h : _ ∧ _).1.symm
        obtain ⟨hb, -⟩ := encI_ok hs
        have hoff : 0 ≤ p.off ∧ p.off ≤ 65528 ∧ p.off % 8 = 0 := by
          unfold badI at hb
          simp only [not_or] at hb
          obtain ⟨-, -, -, -, ⟨g1, g2, g3⟩, -⟩ := hb
          omega
        refine ⟨by simp [partI], by simp, fun i x hx => ?_⟩
        match i with
        | 0 =>
          simp at hx
          subst hx
          exact ⟨part_ok hs (Nat.le_refl _) hoff.1 hoff.2.1 hoff.2.2, by simp [partI], rfl, by show p.pay.length ≤ _; omega, by simp [partI]⟩
        | i + 1 => simp at hx
      · rename_i h3
        split at h
        · simp at h
        · cases e : partsI p size.toNat (p.pay.length + 1) 0 with
          | none => rw [e] at h; simp at h
          | some r =>
            rw [e] at h
            obtain rfl := (Prod.mk.injEq .. ▸ h : _ ∧ _).1.symm
            exact parts_ok hs (by omega) (by omega) _ 0 _ (by omega) (by omega) (by omega) (by omega) e
theorem split_bad {p : Ip4R} {size : Int} (h : (splitI p size).2 ≠ 0) : (splitI p size).1 = [] := by
  unfold splitI at h ⊢
  split
  · rfl
  · split
    · rfl
    · split
      · rename_i h1 h2 h3
        rw [if_neg h1, if_neg h2, if_pos h3] at h
        exact absurd rfl h
      · split
        · rfl
        · rename_i h1 h2 h3 h4
          rw [if_neg h1, if_neg h2, if_neg h3, if_neg h4] at h
          cases e : partsI p size.toNat (p.pay.length + 1) 0 with
          | none => rfl
          | some r => rw [e] at h; exact absurd rfl h
end Go.Proofs.YtnpklepafpdadaaDoor

/- Plain mathematics of UDP datagrams: no Go in sight. -/
namespace Go.Proofs.YtnpklepafpdadaaDoor
set_option linter.unusedVariables false

structure UdpR where
  src : Int
  dst : Int
  pay : List UInt8
def zeroU : UdpR := ⟨0, 0, []⟩
/-- An address is valid. -/
def fineU (a : AdR) : Prop := a.v6 = true ∨ (a.hi = 0 ∧ a.lo < 4294967296)
instance (a : AdR) : Decidable (fineU a) := inferInstanceAs (Decidable (_ ∨ _))
def fitU (a b : AdR) : Prop := fineU a ∧ fineU b ∧ a.v6 = b.v6
instance (a b : AdR) : Decidable (fitU a b) := inferInstanceAs (Decidable (_ ∧ _))
/-- The bytes of an address. -/
def adU (a : AdR) : List UInt8 := if a.v6 then beL 8 a.hi ++ beL 8 a.lo else beL 4 a.lo
/-- The pseudo header of a protocol's packet of z bytes. -/
def psU (a b : AdR) (pr z : Nat) : List UInt8 := adU a ++ adU b ++ (if a.v6 then beL 4 z ++ beL 4 pr else beL 2 pr ++ beL 2 z)
def sumU (a b : AdR) (s : List UInt8) : Nat := if csum (psU a b 17 s.length ++ s) = 0 then 65535 else csum (psU a b 17 s.length ++ s)
/-- A datagram with its checksum bytes 0. -/
def clrU (S : List UInt8) (n : Nat) : List UInt8 := S.take 6 ++ (0 :: 0 :: (S.take n).drop 8)
def decU (a b : AdR) (S : List UInt8) : UdpR × Nat :=
  if ¬ fitU a b then (zeroU, 13)
  else if S.length < 8 then (zeroU, 1)
  else if nm2 S 4 < 8 then (zeroU, 2)
  else if S.length < nm2 S 4 then (zeroU, 1)
  else if nm2 S 6 ≠ sumU a b (clrU S (nm2 S 4)) ∧ (nm2 S 6 ≠ 0 ∨ a.v6 = true) then (zeroU, 8)
  else (⟨nm2 S 0, nm2 S 2, (S.take (nm2 S 4)).drop 8⟩, 0)
def badU (u : UdpR) : Prop := u.src < 0 ∨ 65535 < u.src ∨ u.dst < 0 ∨ 65535 < u.dst
instance (u : UdpR) : Decidable (badU u) := inferInstanceAs (Decidable (_ ∨ _))
def hdU (u : UdpR) : List UInt8 := beL 2 u.src.toNat ++ (beL 2 u.dst.toNat ++ beL 2 (8 + u.pay.length))
def encU (a b : AdR) (u : UdpR) : List UInt8 × Nat :=
  if ¬ fitU a b then ([], 13) else if badU u then ([], 4) else if 65507 < u.pay.length then ([], 3)
  else (hdU u ++ (beL 2 (sumU a b (hdU u ++ (0 :: 0 :: u.pay))) ++ u.pay), 0)
theorem hdU_len (u : UdpR) : (hdU u).length = 6 := by unfold hdU; simp [beL_len]
theorem sumU_le (a b : AdR) (s : List UInt8) : sumU a b s ≤ 65535 ∧ sumU a b s ≠ 0 := by
  have := csum_le (psU a b 17 s.length ++ s)
  unfold sumU
  split <;> omega
theorem encU_ok {a b : AdR} {u : UdpR} {s : List UInt8} (h : encU a b u = (s, 0)) : fitU a b ∧ ¬ badU u ∧ u.pay.length ≤ 65507 ∧ s = hdU u ++ (beL 2 (sumU a b (hdU u ++ (0 :: 0 :: u.pay))) ++ u.pay) := by
  unfold encU at h
  split at h
  · simp at h
  · split at h
    · simp at h
    · split at h
      · simp at h
      · rename_i h1 h2 h3
        exact ⟨Classical.not_not.1 h1, h2, by omega, (Prod.mk.injEq .. ▸ h : _ ∧ _).1.symm⟩
theorem encU_bad {a b : AdR} {u : UdpR} (h : (encU a b u).2 ≠ 0) : (encU a b u).1 = [] := by
  unfold encU at h ⊢
  split
  · rfl
  · split
    · rfl
    · split
      · rfl
      · rename_i h1 h2 h3
        rw [if_neg h1, if_neg h2, if_neg h3] at h
        exact absurd rfl h
theorem decU_bad {a b : AdR} {S : List UInt8} (h : (decU a b S).2 ≠ 0) : (decU a b S).1 = zeroU := by
  unfold decU at h ⊢
  split
  · rfl
  · split
    · rfl
    · split
      · rfl
      · split
        · rfl
        · split
          · rfl
          · rename_i h1 h2 h3 h4 h5
            rw [if_neg h1, if_neg h2, if_neg h3, if_neg h4, if_neg h5] at h
            exact absurd rfl h
/-- The fields of what was encoded, whatever follows. -/
theorem encU_at {a b : AdR} {u : UdpR} (hb : ¬ badU u) (hp : u.pay.length ≤ 65507) (c : Nat) (hc : c ≤ 65535) (T : List UInt8) (S : List UInt8) (hS : S = hdU u ++ (beL 2 c ++ (u.pay ++ T))) :
    nm2 S 0 = u.src.toNat ∧ nm2 S 2 = u.dst.toNat ∧ nm2 S 4 = 8 + u.pay.length ∧ nm2 S 6 = c ∧ S.take 6 = hdU u ∧ (S.take (8 + u.pay.length)).drop 8 = u.pay ∧ S.length = 8 + u.pay.length + T.length := by
  unfold badU at hb
  simp only [not_or] at hb
  obtain ⟨h1, h2, h3, h4⟩ := hb
  have e : S = beL 2 u.src.toNat ++ (beL 2 u.dst.toNat ++ (beL 2 (8 + u.pay.length) ++ (beL 2 c ++ (u.pay ++ T)))) := by rw [hS]; unfold hdU; simp
  refine ⟨?_, ?_, ?_, ?_, ?_, ?_, ?_⟩
  · rw [e]; exact nm2_at (a := []) (i := 0) rfl (by omega)
  · rw [e]; exact nm2_at (by rw [beL_len]) (by omega)
  · rw [e, ← List.append_assoc]; exact nm2_at (by simp [beL_len]) (by omega)
  · rw [hS, ← hdU_len u]; exact nm2_at rfl hc
  · rw [hS, ← hdU_len u, List.take_left]
  · have e2 : S = (hdU u ++ beL 2 c) ++ (u.pay ++ T) := by rw [hS]; simp
    have hl : (hdU u ++ beL 2 c).length = 8 := by simp [hdU_len, beL_len]
    rw [e2, ← hl, List.take_length_add_append, List.drop_left, List.take_left]
  · rw [hS]; simp [hdU_len, beL_len]; omega
/-- DECODING INVERTS ENCODING. -/
theorem dec_encU {a b : AdR} {u : UdpR} {s : List UInt8} (h : encU a b u = (s, 0)) (T : List UInt8) : decU a b (s ++ T) = (u, 0) ∧ s.length = 8 + u.pay.length ∧ u.pay.length ≤ 65507 := by
  obtain ⟨hf, hb, hp, rfl⟩ := encU_ok h
  obtain ⟨c, hc⟩ : ∃ c, c = sumU a b (hdU u ++ (0 :: 0 :: u.pay)) := ⟨_, rfl⟩
  have hcl := (sumU_le a b (hdU u ++ (0 :: 0 :: u.pay))).1
  rw [← hc] at hcl ⊢
  obtain ⟨g1, g2, g3, g4, g5, g6, g7⟩ := encU_at (a := a) (b := b) hb hp c hcl T (hdU u ++ (beL 2 c ++ u.pay) ++ T) (by simp)
  refine ⟨?_, by simp [hdU_len, beL_len]; omega, hp⟩
  unfold decU clrU
  rw [g3, g4, g5, g6, g7, if_neg (Classical.not_not.2 hf), if_neg (by omega), if_neg (by omega), if_neg (by omega), if_neg (by rw [← hc]; exact fun e => e.1 rfl), g1, g2]
  unfold badU at hb
  simp only [not_or] at hb
  rw [Int.toNat_of_nonneg (by omega), Int.toNat_of_nonneg (by omega)]
/-! ### A changed byte -/
theorem psU_len (a b : AdR) (pr z : Nat) : (psU a b pr z).length % 2 = 0 := by
  unfold psU adU
  split <;> split <;> simp [beL_len]
/-- Equal checksums: equal sums, modulo 65535. -/
theorem sumU_mod {a b : AdR} {s t : List UInt8} (hl : s.length = t.length) (h : sumU a b s = sumU a b t) : wsum s % 65535 = wsum t % 65535 := by
  have e : ∀ l : List UInt8, (sumU a b l + wsum (psU a b 17 l.length ++ l)) % 65535 = 0 := fun l => by
    have h1 := rep_mod (wsum (psU a b 17 l.length ++ l))
    have h2 := rep_le (wsum (psU a b 17 l.length ++ l))
    unfold sumU csum
    split <;> omega
  have e1 := e s
  have e2 := e t
  rw [wsum_append _ _ (psU_len a b 17 _)] at e1 e2
  rw [h, hl] at e1
  omega
theorem wsum_setN {l : List UInt8} {i : Nat} {c : UInt8} (h : i < l.length) (hc : c ≠ l[i]) : wsum (l.set i c) % 65535 ≠ wsum l % 65535 := fun e => by
  have hs := wsum_set l i c h
  have hne : c.toNat ≠ l[i].toNat := fun e => hc (UInt8.toNat.inj e)
  have b1 := c.toNat_lt
  have b2 := l[i].toNat_lt
  split at hs <;> omega
/-- A CHANGED BYTE, OTHER THAN IN THE LENGTH, IS NOTICED, unless it makes the checksum 0. -/
theorem dec_setU {a b : AdR} {u : UdpR} {s : List UInt8} (h : encU a b u = (s, 0)) {i : Nat} {c : UInt8} (hi : i < s.length) (h4 : i ≠ 4) (h5 : i ≠ 5) (hc : c ≠ s[i]) :
    (decU a b (s.set i c)).2 = 8 ∨ ((decU a b (s.set i c)).2 = 0 ∧ a.v6 = false ∧ nm2 (s.set i c) 6 = 0) := by
  obtain ⟨hf, hb, hp, hs⟩ := encU_ok h
  obtain ⟨cs, hcs⟩ : ∃ c, c = sumU a b (hdU u ++ (0 :: 0 :: u.pay)) := ⟨_, rfl⟩
  have hcl := sumU_le a b (hdU u ++ (0 :: 0 :: u.pay))
  rw [← hcs] at hcl hs
  obtain ⟨g1, g2, g3, g4, g5, g6, g7⟩ := encU_at (a := a) (b := b) hb hp cs hcl.1 [] s (by rw [hs]; simp)
  have hlen : s.length = 8 + u.pay.length := by rw [g7]; rfl
  have hnm : ∀ j, i ≠ j → i ≠ j + 1 → nm2 (s.set i c) j = nm2 s j := fun j h1 h2 => by
    unfold nm2
    congr 1
    apply List.ext_getElem?
    intro k
    simp only [List.getElem?_take, List.getElem?_drop]
    split
    · rename_i hk
      rw [List.getElem?_set_ne (by omega)]
    · rfl
  have hn4 : nm2 (s.set i c) 4 = 8 + u.pay.length := (hnm 4 h4 h5).trans g3
  have hl' : (s.set i c).length = 8 + u.pay.length := by rw [List.length_set, hlen]
  -- the checksum does not match
  have hno : nm2 (s.set i c) 6 ≠ sumU a b (clrU (s.set i c) (8 + u.pay.length)) := fun e => by
    have hclr0 : clrU s (8 + u.pay.length) = hdU u ++ (0 :: 0 :: u.pay) := by unfold clrU; rw [g5, g6]
    have hclrl : ∀ x : List UInt8, x.length = 8 + u.pay.length → (clrU x (8 + u.pay.length)).length = 8 + u.pay.length := fun x hx => by
      unfold clrU
      simp only [List.length_append, List.length_cons, List.length_take, List.length_drop, hx]
      omega
    by_cases h67 : i = 6 ∨ i = 7
    · have hsame : clrU (s.set i c) (8 + u.pay.length) = clrU s (8 + u.pay.length) := by
        apply List.ext_getElem?
        intro k
        unfold clrU
        simp only [List.getElem?_append, List.length_take, List.length_set, hlen]
        split
        · rename_i hk
          rw [List.getElem?_take, List.getElem?_take, if_pos (by omega), if_pos (by omega), List.getElem?_set_ne (by omega)]
        · rename_i hk
          match hq : k - min 6 (8 + u.pay.length) with
          | 0 => rfl
          | 1 => rfl
          | q + 2 =>
            simp only [List.getElem?_cons_succ, List.getElem?_drop, List.getElem?_take]
            split
            · rw [List.getElem?_set_ne (by omega)]
            · rfl
      rw [hsame, hclr0, ← hcs, ← g4] at e
      -- the two bytes differ
      have hb6 : ∀ x : List UInt8, x.length = 8 + u.pay.length → nm2 x 6 = byt x 6 * 256 + byt x 7 := fun x hx => by
        have e6 : x[6]? = some (x[6]'(by omega)) := List.getElem?_eq_getElem _
        have e7 : x[7]? = some (x[7]'(by omega)) := List.getElem?_eq_getElem _
        have : (x.drop 6).take 2 = [x[6]'(by omega), x[7]'(by omega)] := by
          rw [List.drop_eq_getElem_cons (by omega), List.drop_eq_getElem_cons (by omega)]
          rfl
        unfold nm2 byt
        rw [this, List.getD_eq_getElem?_getD, List.getD_eq_getElem?_getD, e6, e7]
        simp [num]
      rw [hb6 _ hl', hb6 _ hlen] at e
      have hc2 : c.toNat ≠ (s[i]'hi).toNat := fun e => hc (UInt8.toNat.inj e)
      have bb := c.toNat_lt
      have b0 := byt_lt s 6
      have b1 := byt_lt s 7
      rcases h67 with rfl | rfl
      · have k1 : byt (s.set 6 c) 6 = c.toNat := by unfold byt; rw [List.getD_eq_getElem?_getD, List.getElem?_set_self hi]; rfl
        have k2 : byt (s.set 6 c) 7 = byt s 7 := by unfold byt; rw [List.getD_eq_getElem?_getD, List.getD_eq_getElem?_getD, List.getElem?_set_ne (by omega)]
        have k3 : byt s 6 = (s[6]'hi).toNat := by unfold byt; rw [List.getD_eq_getElem?_getD, List.getElem?_eq_getElem hi]; rfl
        rw [k1, k2] at e
        omega
      · have k1 : byt (s.set 7 c) 7 = c.toNat := by unfold byt; rw [List.getD_eq_getElem?_getD, List.getElem?_set_self hi]; rfl
        have k2 : byt (s.set 7 c) 6 = byt s 6 := by unfold byt; rw [List.getD_eq_getElem?_getD, List.getD_eq_getElem?_getD, List.getElem?_set_ne (by omega)]
        have k3 : byt s 7 = (s[7]'hi).toNat := by unfold byt; rw [List.getD_eq_getElem?_getD, List.getElem?_eq_getElem hi]; rfl
        rw [k1, k2] at e
        omega
    · have hset : clrU (s.set i c) (8 + u.pay.length) = (clrU s (8 + u.pay.length)).set i c := by
        apply List.ext_getElem?
        intro k
        rw [List.getElem?_set, hclrl s hlen]
        by_cases hik : i = k
        · subst hik
          rw [if_pos rfl, if_pos (by omega)]
          unfold clrU
          simp only [List.getElem?_append, List.length_take, List.length_set, hlen]
          split
          · rw [List.getElem?_take, if_pos (by omega), List.getElem?_set_self hi]
          · match hq : i - min 6 (8 + u.pay.length) with
            | 0 => omega
            | 1 => omega
            | q + 2 =>
              simp only [List.getElem?_cons_succ, List.getElem?_drop, List.getElem?_take]
              rw [if_pos (by omega), show 8 + q = i by omega, List.getElem?_set_self hi]
        · rw [if_neg hik]
          unfold clrU
          simp only [List.getElem?_append, List.length_take, List.length_set, hlen]
          split
          · rw [List.getElem?_take, List.getElem?_take]
            split
            · rw [List.getElem?_set_ne hik]
            · rfl
          · match hq : k - min 6 (8 + u.pay.length) with
            | 0 => rfl
            | 1 => rfl
            | q + 2 =>
              simp only [List.getElem?_cons_succ, List.getElem?_drop, List.getElem?_take]
              split
              · rw [List.getElem?_set_ne (by omega)]
              · rfl
      have hci : i < (clrU s (8 + u.pay.length)).length := by rw [hclrl s hlen]; omega
      have hat : (clrU s (8 + u.pay.length))[i]? = some (s[i]'hi) := by
        unfold clrU
        simp only [List.getElem?_append, List.length_take, hlen]
        split
        · rw [List.getElem?_take, if_pos (by omega), List.getElem?_eq_getElem hi]
        · match hq : i - min 6 (8 + u.pay.length) with
          | 0 => omega
          | 1 => omega
          | q + 2 =>
            simp only [List.getElem?_cons_succ, List.getElem?_drop, List.getElem?_take]
            rw [if_pos (by omega), show 8 + q = i by omega, List.getElem?_eq_getElem hi]
      have hat2 : (clrU s (8 + u.pay.length))[i] = s[i]'hi := by
        have := List.getElem?_eq_getElem hci
        rw [hat] at this
        exact (Option.some.inj this).symm
      have e6 : nm2 (s.set i c) 6 = cs := (hnm 6 (by omega) (by omega)).trans g4
      rw [e6, hset, hcs, ← hclr0] at e
      exact wsum_setN hci (by rw [hat2]; exact hc) (sumU_mod (by rw [List.length_set]) e).symm
  unfold decU
  rw [hn4, if_neg (Classical.not_not.2 hf), hl', if_neg (by omega), if_neg (by omega), if_neg (by omega)]
  by_cases hz : nm2 (s.set i c) 6 ≠ 0 ∨ a.v6 = true
  · exact .inl (by rw [if_pos ⟨hno, hz⟩])
  · right
    rw [if_neg (fun e => hz e.2)]
    have h1 : ¬ nm2 (s.set i c) 6 ≠ 0 := fun e => hz (.inl e)
    refine ⟨rfl, ?_, by omega⟩
    cases hv : a.v6 with
    | false => rfl
    | true => exact absurd (.inr hv) hz
end Go.Proofs.YtnpklepafpdadaaDoor
