/- Contracts of the functions, part 3: Ip4Math2, Nums. -/
import Derived.Test.YtimilcjlogcfhaaRows
import Derived.WalkKit
import Derived.LoopTactic
import Derived.ProofKit
import Derived.OpenShut
import Derived.ShutString
import Derived.ChangeOld
import Derived.Below
import Derived.Lib.Hide
import Derived.BigQuiet
import Derived.Outline
import Derived.IntWalk
import Derived.Test.YtimilcjlogcfhaaPE1
import Derived.Test.YtimilcjlogcfhaaPE2
/- Plain mathematics of IPv4 packets: what was decoded is accepted; a changed byte is noticed; splitting. -/
namespace Go.Proofs.Ytimilcjlogcfhaa
set_option linter.unusedVariables false

theorem decI_ok {S : List UInt8} {p : Ip4R} (h : decI S = (p, 0)) : ∃ l, optsD ((S.take (hdL S)).drop 20) = some l ∧ p = outI S l ∧ 20 ≤ S.length ∧ 20 ≤ hdL S ∧ hdL S ≤ S.length ∧ nm2 S 2 ≤ S.length ∧ hdL S ≤ nm2 S 2 ∧ nm2 S 6 < 32768 ∧ csum (S.take (hdL S)) = 0 := by
  unfold decI at h
  split at h
  · simp at h
  · split at h
    · simp at h
    · split at h
      · simp at h
      · split at h
        · simp at h
        · split at h
          · simp at h
          · split at h
            · simp at h
            · rename_i h1 h2 h3 h4 h5 _ l hl
              split at h
              · simp at h
              · rename_i h6
                exact ⟨l, hl, (Prod.mk.injEq .. ▸ h : _ ∧ _).1.symm, by omega, by omega, by omega, by omega, by omega, by omega, by omega⟩
theorem decI_bad {S : List UInt8} (h : (decI S).2 ≠ 0) : (decI S).1 = zeroI := by
  unfold decI at h ⊢
  split
  · rfl
  · split
    · rfl
    · split
      · rfl
      · split
        · rfl
        · split
          · rfl
          · split
            · rfl
            · split
              · rfl
              · rename_i h1 h2 h3 h4 h5 _ l hl h6
                rw [if_neg h1, if_neg h2, if_neg h3, if_neg h4, if_neg h5, hl] at h
                simp only at h
                rw [if_neg h6] at h
                exact absurd rfl h
/-- WHAT WAS DECODED IS ACCEPTED. -/
theorem enc_dec4 {S : List UInt8} {p : Ip4R} (h : decI S = (p, 0)) : ∃ t, encI p = (t, 0) ∧ t.length ≤ S.length ∧ 20 + p.pay.length ≤ t.length := by
  obtain ⟨l, hl, rfl, h1, h2, h3, h4, h5, h6, -⟩ := decI_ok h
  obtain ⟨g1, g2, g3⟩ := opts_ok _ _ l (Nat.le_refl _) hl
  have hh : hdL S ≤ 60 := by unfold hdL; omega
  have hd4 : hdL S % 4 = 0 := by unfold hdL; omega
  rw [List.length_drop, List.length_take, Nat.min_eq_left h3] at g2
  have ht := nm2_lt S 2
  have hb : ¬ badI (outI S l) := by
    unfold badI outI a4
    have b1 := byt_lt S 1
    have b8 := byt_lt S 8
    have b9 := byt_lt S 9
    have b4 := nm2_lt S 4
    have s4 := nm4_lt S 12
    have d4 := nm4_lt S 16
    simp only [not_or, Classical.not_not]
    refine ⟨by omega, by omega, by omega, by omega, by omega, ⟨trivial, trivial, s4⟩, ⟨trivial, trivial, d4⟩, ?_⟩
    rintro ⟨x, hx, hk⟩
    have := g1 x hx
    omega
  have hp : (outI S l).pay.length = nm2 S 2 - hdL S := by show ((S.take (nm2 S 2)).drop (hdL S)).length = _; rw [List.length_drop, List.length_take]; omega
  have hw := (wrP_len l).1
  have hpd : (wrOs l).length + padN (wrOs l).length ≤ hdL S - 20 := by unfold padN; omega
  have hho : hlI (outI S l) ≤ hdL S := by show 20 + (wrP l).length ≤ _; omega
  have hto : totI (outI S l) ≤ nm2 S 2 := by unfold totI; rw [hp]; omega
  refine ⟨headI (outI S l) ++ (outI S l).pay, ?_, ?_, ?_⟩
  · unfold encI
    rw [if_neg hb, if_neg (show ¬ 40 < (wrOs (outI S l).ops).length by show ¬ 40 < (wrOs l).length; omega), if_neg (by omega)]
  · rw [List.length_append, headI_len]
    have : hlI (outI S l) + (outI S l).pay.length = totI (outI S l) := rfl
    omega
  · rw [List.length_append, headI_len]
    unfold hlI
    omega
/-! ### A changed byte -/
theorem wsum_set : ∀ (l : List UInt8) (i : Nat) (c : UInt8) (h : i < l.length), (wsum (l.set i c) : Int) = wsum l + ((c.toNat : Int) - (l[i].toNat : Int)) * (if i % 2 = 0 then 256 else 1)
  | [a], 0, c, _ => by simp [wsum]; omega
  | a :: b :: l, 0, c, _ => by simp [wsum]; omega
  | a :: b :: l, 1, c, _ => by simp [wsum]; omega
  | a :: b :: l, i + 2, c, h => by
    have ih := wsum_set l i c (by simp at h; omega)
    simp only [List.set_cons_succ, wsum, List.getElem_cons_succ, Int.natCast_add]
    rw [ih, show (i + 2) % 2 = i % 2 by omega]
    omega
theorem csum_set {l : List UInt8} {i : Nat} {c : UInt8} (h : i < l.length) (hc : c ≠ l[i]) (h0 : csum l = 0) : csum (l.set i c) ≠ 0 := fun h1 => by
  have e0 := csum_zero h0
  have e1 := csum_zero h1
  have hs := wsum_set l i c h
  have hne : c.toNat ≠ l[i].toNat := fun e => hc (UInt8.toNat.inj e)
  have b1 := c.toNat_lt
  have b2 := l[i].toNat_lt
  split at hs <;> omega
/-- A CHANGED BYTE OF THE HEADER IS NOTICED. -/
theorem dec_set {p : Ip4R} {s : List UInt8} (h : encI p = (s, 0)) {i : Nat} {c : UInt8} (h1 : 1 ≤ i) (h2 : i < hlI p) (hi : i < s.length) (hc : c ≠ s[i]) : (decI (s.set i c)).2 ≠ 0 := fun h0 => by
  obtain ⟨hb, ho, ht, rfl⟩ := encI_ok h
  obtain ⟨q, hq⟩ : ∃ q, decI ((headI p ++ p.pay).set i c) = (q, 0) := ⟨_, Prod.ext rfl h0⟩
  obtain ⟨l, -, -, g1, g2, g3, g4, g5, g6, g7⟩ := decI_ok hq
  have E := enc4 hb ho ht p.pay
  have hpd := need_pad ho
  have hw := (wrP_len p.ops).1
  have hw4 := (wrP_len p.ops).2
  have hh : hlI p ≤ 60 ∧ 20 ≤ hlI p ∧ hlI p % 4 = 0 := by unfold hlI; omega
  have hHD : hdL ((headI p ++ p.pay).set i c) = hlI p := by
    have e : byt ((headI p ++ p.pay).set i c) 0 = byt (headI p ++ p.pay) 0 := by
      unfold byt
      rw [List.getD_eq_getElem?_getD, List.getD_eq_getElem?_getD, List.getElem?_set_ne (by omega)]
    unfold hdL
    rw [e, E.b0]
    omega
  rw [hHD, ← headI_len p, List.take_set, List.take_left] at g7
  have hil : i < (headI p).length := by rw [headI_len]; exact h2
  rw [List.getElem_append_left hil] at hc
  exact csum_set hil hc (headI_sum p) g7
/-! ### Splitting -/
def isRoute (k : Int) : Bool := k == 131 || k == 137
def routedI (p : Ip4R) : Bool := p.ops.any (fun x => isRoute x.kd)
/-- The options of the part at a place. -/
def opsAt (l : List OpR) (at_ : Nat) : List OpR := l.filter (fun x => at_ == 0 || decide (128 ≤ x.kd))
def partI (p : Ip4R) (d : List UInt8) (off : Int) (more : Bool) (at_ : Nat) : Ip4R := { p with ops := opsAt p.ops at_, pay := d, off := off, more := more }
/-- The parts from a place on; none: an offset is too great. -/
def partsI (p : Ip4R) (size : Nat) : Nat → Nat → Option (List Ip4R)
  | 0, _ => some []
  | f + 1, at_ =>
    if 65528 < p.off + at_ then none
    else if p.pay.length - at_ ≤ size then some [partI p (p.pay.drop at_) (p.off + at_) p.more at_]
    else (partsI p size f (at_ + size)).map (fun l => partI p ((p.pay.drop at_).take size) (p.off + at_) true at_ :: l)
def splitI (p : Ip4R) (size : Int) : List Ip4R × Nat :=
  if size < 8 ∨ size % 8 ≠ 0 then ([], 4)
  else if (encI p).2 ≠ 0 then ([], (encI p).2)
  else if (p.pay.length : Int) ≤ size then ([partI p p.pay p.off p.more 0], 0)
  else if p.dont = true then ([], 10)
  else match partsI p size.toNat (p.pay.length + 1) 0 with
    | none => ([], 4)
    | some l => (l, 0)
theorem opsAt_sub (l : List OpR) (a : Nat) : (wrOs (opsAt l a)).length ≤ (wrOs l).length := by
  induction l with
  | nil => exact Nat.le_refl _
  | cons x r ih =>
    unfold opsAt at ih ⊢
    rw [List.filter_cons]
    split
    · rw [wrOs_cons, wrOs_cons, List.length_append, List.length_append]; omega
    · rw [wrOs_cons, List.length_append]; omega
theorem padN_mono {a b : Nat} (h : a ≤ b) : a + padN a ≤ b + padN b := by unfold padN; omega
/-- A part is accepted. -/
theorem part_ok {p : Ip4R} {s : List UInt8} (h : encI p = (s, 0)) {d : List UInt8} {off : Int} {more : Bool} {a : Nat} (hd : d.length ≤ p.pay.length) (h0 : 0 ≤ off) (h1 : off ≤ 65528) (h8 : off % 8 = 0) : (encI (partI p d off more a)).2 = 0 := by
  obtain ⟨hb, ho, ht, -⟩ := encI_ok h
  have hso := opsAt_sub p.ops a
  have hpm := padN_mono hso
  have e1 := (wrP_len p.ops).1
  have e2 := (wrP_len (opsAt p.ops a)).1
  have hb2 : ¬ badI (partI p d off more a) := by
    unfold badI at hb ⊢
    simp only [not_or] at hb ⊢
    obtain ⟨h3, h4, h5, h6, -, h7, h9, hk⟩ := hb
    refine ⟨h3, h4, h5, h6, ⟨by show ¬ off < 0; omega, by show ¬ 65528 < off; omega, by show ¬ off % 8 ≠ 0; omega⟩, h7, h9, ?_⟩
    rintro ⟨x, hx, hxk⟩
    exact hk ⟨x, (List.mem_filter.1 hx).1, hxk⟩
  have ht2 : ¬ 65535 < totI (partI p d off more a) := by
    have : totI (partI p d off more a) = 20 + (wrP (opsAt p.ops a)).length + d.length := rfl
    unfold totI hlI at ht
    omega
  unfold encI
  rw [if_neg hb2, if_neg (show ¬ 40 < (wrOs (partI p d off more a).ops).length by show ¬ 40 < (wrOs (opsAt p.ops a)).length; omega), if_neg ht2]
/-- What the law says of the parts from a place on. -/
def PartsP (p : Ip4R) (size : Nat) (at_ : Nat) (l : List Ip4R) : Prop :=
  (l.flatMap (·.pay)) = p.pay.drop at_ ∧ l ≠ [] ∧ ∀ (i : Nat) (x : Ip4R), l[i]? = some x →
    (encI x).2 = 0 ∧ x.off = p.off + (at_ + ((l.take i).flatMap (·.pay)).length : Nat) ∧ x.id = p.id ∧ x.pay.length ≤ size ∧ x.more = (decide (i + 1 < l.length) || p.more)
theorem parts_ok {p : Ip4R} {s : List UInt8} (h : encI p = (s, 0)) {size : Nat} (hs : 8 ≤ size) (hs8 : size % 8 = 0) : ∀ (f at_ : Nat) (l : List Ip4R), p.pay.length < at_ + f * 8 → at_ % 8 = 0 → at_ ≤ p.pay.length → 0 < f → partsI p size f at_ = some l → PartsP p size at_ l
  | 0, _, _, _, _, _, hf, _ => absurd hf (by omega)
  | f + 1, a, l, hfa, ha8, hal, _, hp => by
    obtain ⟨hb, -⟩ := encI_ok h
    have hoff : 0 ≤ p.off ∧ p.off % 8 = 0 := by
      unfold badI at hb
      simp only [not_or] at hb
      obtain ⟨-, -, -, -, ⟨g1, g2, g3⟩, -⟩ := hb
      omega
    rw [partsI] at hp
    split at hp
    · cases hp
    · rename_i h1
      split at hp
      · rename_i h2
        obtain rfl := Option.some.inj hp
        refine ⟨by simp [partI], by simp, fun i x hx => ?_⟩
        match i with
        | 0 =>
          simp at hx
          subst hx
          exact ⟨part_ok h (by rw [List.length_drop]; omega) (by omega) (by omega) (by omega), by simp [partI], rfl, by show (p.pay.drop a).length ≤ size; rw [List.length_drop]; omega, by simp [partI]⟩
        | i + 1 => simp at hx
      · rename_i h2
        cases e : partsI p size f (a + size) with
        | none => rw [e] at hp; cases hp
        | some r =>
          rw [e] at hp
          obtain rfl := Option.some.inj hp
          have hf0 : 0 < f := by
            rcases Nat.eq_zero_or_pos f with rfl | h
            · omega
            · exact h
          obtain ⟨i1, i2, i3⟩ := parts_ok h hs hs8 f (a + size) r (by omega) (by omega) (by omega) hf0 e
          refine ⟨?_, by simp, fun i x hx => ?_⟩
          · rw [List.flatMap_cons, i1]
            show (p.pay.drop a).take size ++ p.pay.drop (a + size) = _
            rw [← List.drop_drop, List.take_append_drop]
          · match i with
            | 0 =>
              simp at hx
              subst hx
              have hr : 0 < r.length := List.length_pos_iff.2 i2
              exact ⟨part_ok h (by rw [List.length_take, List.length_drop]; omega) (by omega) (by omega) (by omega), by simp [partI], rfl, by show ((p.pay.drop a).take size).length ≤ size; rw [List.length_take]; omega, by simp [partI]; omega⟩
            | i + 1 =>
              rw [List.getElem?_cons_succ] at hx
              obtain ⟨j1, j2, j3, j4, j5⟩ := i3 i x hx
              refine ⟨j1, ?_, j3, j4, ?_⟩
              · rw [j2, List.take_succ_cons, List.flatMap_cons, List.length_append]
                have : (partI p ((p.pay.drop a).take size) (p.off + a) true a).pay.length = size := by show ((p.pay.drop a).take size).length = size; rw [List.length_take, List.length_drop]; omega
                rw [this]
                congr 1
                omega
              · rw [j5, List.length_cons]
                congr 1
                simp
theorem split_ok {p : Ip4R} {size : Int} {l : List Ip4R} (h : splitI p size = (l, 0)) : PartsP p size.toNat 0 l := by
  unfold splitI at h
  split at h
  · simp at h
  · rename_i h1
    split at h
    · rename_i h2
      simp only [Prod.mk.injEq] at h
      exact absurd h.2 h2
    · rename_i h2
      obtain ⟨s, hs⟩ : ∃ s, encI p = (s, 0) := ⟨_, Prod.ext rfl (by omega)⟩
      split at h
      · rename_i h3
        obtain rfl := (Prod.mk.injEq .. ▸ h : _ ∧ _).1.symm
        obtain ⟨hb, -⟩ := encI_ok hs
        have hoff : 0 ≤ p.off ∧ p.off ≤ 65528 ∧ p.off % 8 = 0 := by
          unfold badI at hb
          simp only [not_or] at hb
          obtain ⟨-, -, -, -, ⟨g1, g2, g3⟩, -⟩ := hb
          omega
        refine ⟨by simp [partI], by simp, fun i x hx => ?_⟩
        match i with
        | 0 =>
          simp at hx
          subst hx
          exact ⟨part_ok hs (Nat.le_refl _) hoff.1 hoff.2.1 hoff.2.2, by simp [partI], rfl, by show p.pay.length ≤ _; omega, by simp [partI]⟩
        | i + 1 => simp at hx
      · rename_i h3
        split at h
        · simp at h
        · cases e : partsI p size.toNat (p.pay.length + 1) 0 with
          | none => rw [e] at h; simp at h
          | some r =>
            rw [e] at h
            obtain rfl := (Prod.mk.injEq .. ▸ h : _ ∧ _).1.symm
            exact parts_ok hs (by omega) (by omega) _ 0 _ (by omega) (by omega) (by omega) (by omega) e
theorem split_bad {p : Ip4R} {size : Int} (h : (splitI p size).2 ≠ 0) : (splitI p size).1 = [] := by
  unfold splitI at h ⊢
  split
  · rfl
  · split
    · rfl
    · split
      · rename_i h1 h2 h3
        rw [if_neg h1, if_neg h2, if_pos h3] at h
        exact absurd rfl h
      · split
        · rfl
        · rename_i h1 h2 h3 h4
          rw [if_neg h1, if_neg h2, if_neg h3, if_neg h4] at h
          cases e : partsI p size.toNat (p.pay.length + 1) 0 with
          | none => rfl
          | some r => rw [e] at h; exact absurd rfl h
end Go.Proofs.Ytimilcjlogcfhaa

/- Contracts of the functions that only compute: validSize, Power, Value. -/
namespace Go.Proofs.Ytimilcjlogcfhaa
open Go.ChangeShapes Go.WideShapes Go.ChangeAt Go.RowKit

theorem ret_int {k : IntKind} {a b : Int} (h : a = b) : Ending.returned (.int k a) = .returned (.int k b) := by rw [h]

theorem valid_yes (n : Int) (w : World) (h0 : 1 ≤ n) (h1 : n ≤ 7) :
    Calls Try.prog 69 #[.int .i64 n] w fun e w' => e = .returned (.bool true) ∧ w = w' := by
  go_enter Try.func69, Try.ntmps69
  go_wp2
  go_ret
  exact ⟨rfl, rfl⟩

theorem valid_no (n : Int) (w : World) (h : n < 1 ∨ 7 < n) :
    Calls Try.prog 69 #[.int .i64 n] w fun e w' => e = .returned (.bool false) ∧ w = w' := by
  rcases h with h | h
  · go_enter Try.func69, Try.ntmps69
    go_wp2
    go_ret
    exact ⟨rfl, rfl⟩
  · have h' : 1 ≤ n := by omega
    have hd : decide (n ≤ 7) = false := by simp; omega
    go_enter Try.func69, Try.ntmps69
    go_wp2
    go_ret
    exact ⟨rfl, rfl⟩

theorem power_any (n : Int) (w : World) (h0 : 1 ≤ n) (h1 : n ≤ 7) :
    Calls Try.prog 65 #[.int .i64 n] w fun e w' => e = .returned (.int .i64 (pw n.toNat : Nat)) ∧ w = w' := by
  go_enter Try.func65, Try.ntmps65
  go_wp2
  go_loop [3, 4] (fun p i => ∃ k : Nat, (k : Int) ≤ n ∧ i = .int .i64 k ∧ p = .int .i64 (pw k : Nat)) (fun _ i => n.toNat - (intOf i).toNat)
  case atStart => exact ⟨0, by omega, rfl, rfl⟩
  case round =>
    obtain ⟨k, hk, rfl, rfl⟩ := hrel
    by_cases hlt : (k : Int) < n
    · have hp : pw k ≤ 281474976710656 := pw_le6 (by omega)
      go_wp2
      go_round
      case rel => exact ⟨k + 1, by omega, by go_num, by rw [pw_succ]; go_num⟩
      case measure => simp [intOf]; omega
    · go_wp2
      go_ret
      exact ⟨ret_int (by rw [show n.toNat = k from by omega]), rfl⟩

/-- The value of a string of at most seven bytes. -/
theorem value_any (s : ByteArray) (w : World) (hs : s.size ≤ 7) :
    Calls Try.prog 71 #[.string s] w fun e w' => e = .returned (.int .i64 (num s.data.toList : Nat)) ∧ w = w' := by
  go_enter Try.func71, Try.ntmps71
  go_wp2
  go_loop [3, 4] (fun p i => ∃ k : Nat, k ≤ s.size ∧ i = .int .i64 k ∧ p = .int .i64 (num (s.data.toList.take k) : Nat)) (fun _ i => s.size - (intOf i).toNat)
  case atStart => exact ⟨0, by omega, rfl, rfl⟩
  case round =>
    obtain ⟨k, hk, rfl, rfl⟩ := hrel
    by_cases hlt : k < s.size
    · have hp : num (s.data.toList.take k) < 281474976710656 := num_lt6 (by rw [List.length_take]; omega)
      have H : Hid (num (s.data.toList.take (k + 1)) = num (s.data.toList.take k) * 256 + s[k].toNat) := by
        show num (s.data.toList.take (k + 1)) = _
        rw [List.take_succ_eq_append_getElem (by simpa using hlt), num_snoc]; rfl
      have hb : s[k].toNat < 256 := u8_lt _
      go_wp2
      go_round
      case rel => exact ⟨k + 1, by omega, by go_num, by rw [H.out]; go_num⟩
      case measure => simp [intOf]; omega
    · go_wp2
      go_ret
      exact ⟨ret_int (by rw [List.take_of_length_le (by simp; omega)]), rfl⟩
end Go.Proofs.Ytimilcjlogcfhaa
