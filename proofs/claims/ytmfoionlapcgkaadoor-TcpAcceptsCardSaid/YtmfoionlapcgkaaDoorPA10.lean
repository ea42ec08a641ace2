/- Contracts of the functions, part 10: UdpMath, Addr, Addr2. -/
import Derived.Deep.WholeRow
import Derived.Deep.RegionWith
import Derived.Deep.RegionHeld3
import Derived.Test.YtmfoionlapcgkaaDoorPA2
import Derived.Test.YtmfoionlapcgkaaDoorPA5
/- Plain mathematics of UDP datagrams: no Go in sight. -/
namespace Go.Proofs.YtmfoionlapcgkaaDoor
set_option linter.unusedVariables false

structure UdpR where
  src : Int
  dst : Int
  pay : List UInt8
def zeroU : UdpR := ⟨0, 0, []⟩
/-- An address is valid. -/
def fineU (a : AdR) : Prop := a.v6 = true ∨ (a.hi = 0 ∧ a.lo < 4294967296)
instance (a : AdR) : Decidable (fineU a) := inferInstanceAs (Decidable (_ ∨ _))
def fitU (a b : AdR) : Prop := fineU a ∧ fineU b ∧ a.v6 = b.v6
instance (a b : AdR) : Decidable (fitU a b) := inferInstanceAs (Decidable (_ ∧ _))
/-- The bytes of an address. -/
def adU (a : AdR) : List UInt8 := if a.v6 then beL 8 a.hi ++ beL 8 a.lo else beL 4 a.lo
/-- The pseudo header of a protocol's packet of z bytes. -/
def psU (a b : AdR) (pr z : Nat) : List UInt8 := adU a ++ adU b ++ (if a.v6 then beL 4 z ++ beL 4 pr else beL 2 pr ++ beL 2 z)
def sumU (a b : AdR) (s : List UInt8) : Nat := if csum (psU a b 17 s.length ++ s) = 0 then 65535 else csum (psU a b 17 s.length ++ s)
/-- A datagram with its checksum bytes 0. -/
def clrU (S : List UInt8) (n : Nat) : List UInt8 := S.take 6 ++ (0 :: 0 :: (S.take n).drop 8)
def decU (a b : AdR) (S : List UInt8) : UdpR × Nat :=
  if ¬ fitU a b then (zeroU, 13)
  else if S.length < 8 then (zeroU, 1)
  else if nm2 S 4 < 8 then (zeroU, 2)
  else if S.length < nm2 S 4 then (zeroU, 1)
  else if nm2 S 6 ≠ sumU a b (clrU S (nm2 S 4)) ∧ (nm2 S 6 ≠ 0 ∨ a.v6 = true) then (zeroU, 8)
  else (⟨nm2 S 0, nm2 S 2, (S.take (nm2 S 4)).drop 8⟩, 0)
def badU (u : UdpR) : Prop := u.src < 0 ∨ 65535 < u.src ∨ u.dst < 0 ∨ 65535 < u.dst
instance (u : UdpR) : Decidable (badU u) := inferInstanceAs (Decidable (_ ∨ _))
def hdU (u : UdpR) : List UInt8 := beL 2 u.src.toNat ++ (beL 2 u.dst.toNat ++ beL 2 (8 + u.pay.length))
def encU (a b : AdR) (u : UdpR) : List UInt8 × Nat :=
  if ¬ fitU a b then ([], 13) else if badU u then ([], 4) else if 65507 < u.pay.length then ([], 3)
  else (hdU u ++ (beL 2 (sumU a b (hdU u ++ (0 :: 0 :: u.pay))) ++ u.pay), 0)
theorem hdU_len (u : UdpR) : (hdU u).length = 6 := by unfold hdU; simp [beL_len]
theorem sumU_le (a b : AdR) (s : List UInt8) : sumU a b s ≤ 65535 ∧ sumU a b s ≠ 0 := by
  have := csum_le (psU a b 17 s.length ++ s)
  unfold sumU
  split <;> omega
theorem encU_ok {a b : AdR} {u : UdpR} {s : List UInt8} (h : encU a b u = (s, 0)) : fitU a b ∧ ¬ badU u ∧ u.pay.length ≤ 65507 ∧ s = hdU u ++ (beL 2 (sumU a b (hdU u ++ (0 :: 0 :: u.pay))) ++ u.pay) := by
  unfold encU at h
  split at h
  · simp at h
  · split at h
    · simp at h
    · split at h
      · simp at h
      · rename_i h1 h2 h3
        exact ⟨Classical.not_not.1 h1, h2, by omega, (Prod.mk.injEq .. ▸ h : _ ∧ _).1.symm⟩
theorem encU_bad {a b : AdR} {u : UdpR} (h : (encU a b u).2 ≠ 0) : (encU a b u).1 = [] := by
  unfold encU at h ⊢
  split
  · rfl
  · split
    · rfl
    · split
      · rfl
      · rename_i h1 h2 h3
        rw [if_neg h1, if_neg h2, if_neg h3] at h
        exact absurd rfl h
theorem decU_bad {a b : AdR} {S : List UInt8} (h : (decU a b S).2 ≠ 0) : (decU a b S).1 = zeroU := by
  unfold decU at h ⊢
  split
  · rfl
  · split
    · rfl
    · split
      · rfl
      · split
        · rfl
        · split
          · rfl
          · rename_i h1 h2 h3 h4 h5
            rw [if_neg h1, if_neg h2, if_neg h3, if_neg h4, if_neg h5] at h
            exact absurd rfl h
/-- The fields of what was encoded, whatever follows. -/
theorem encU_at {a b : AdR} {u : UdpR} (hb : ¬ badU u) (hp : u.pay.length ≤ 65507) (c : Nat) (hc : c ≤ 65535) (T : List UInt8) (S : List UInt8) (hS : S = hdU u ++ (beL 2 c ++ (u.pay ++ T))) :
    nm2 S 0 = u.src.toNat ∧ nm2 S 2 = u.dst.toNat ∧ nm2 S 4 = 8 + u.pay.length ∧ nm2 S 6 = c ∧ S.take 6 = hdU u ∧ (S.take (8 + u.pay.length)).drop 8 = u.pay ∧ S.length = 8 + u.pay.length + T.length := by
  unfold badU at hb
  simp only [not_or] at hb
  obtain ⟨h1, h2, h3, h4⟩ := hb
  have e : S = beL 2 u.src.toNat ++ (beL 2 u.dst.toNat ++ (beL 2 (8 + u.pay.length) ++ (beL 2 c ++ (u.pay ++ T)))) := by rw [hS]; unfold hdU; simp
  refine ⟨?_, ?_, ?_, ?_, ?_, ?_, ?_⟩
  · rw [e]; exact nm2_at (a := []) (i := 0) rfl (by omega)
  · rw [e]; exact nm2_at (by rw [beL_len]) (by omega)
  · rw [e, ← List.append_assoc]; exact nm2_at (by simp [beL_len]) (by omega)
  · rw [hS, ← hdU_len u]; exact nm2_at rfl hc
  · rw [hS, ← hdU_len u, List.take_left]
  · have e2 : S = (hdU u ++ beL 2 c) ++ (u.pay ++ T) := by rw [hS]; simp
    have hl : (hdU u ++ beL 2 c).length = 8 := by simp [hdU_len, beL_len]
    rw [e2, ← hl, List.take_length_add_append, List.drop_left, List.take_left]
  · rw [hS]; simp [hdU_len, beL_len]; omega
/-- DECODING INVERTS ENCODING. -/
theorem dec_encU {a b : AdR} {u : UdpR} {s : List UInt8} (h : encU a b u = (s, 0)) (T : List UInt8) : decU a b (s ++ T) = (u, 0) ∧ s.length = 8 + u.pay.length ∧ u.pay.length ≤ 65507 := by
  obtain ⟨hf, hb, hp, rfl⟩ := encU_ok h
  obtain ⟨c, hc⟩ : ∃ c, c = sumU a b (hdU u ++ (0 :: 0 :: u.pay)) := ⟨_, rfl⟩
  have hcl := (sumU_le a b (hdU u ++ (0 :: 0 :: u.pay))).1
  rw [← hc] at hcl ⊢
  obtain ⟨g1, g2, g3, g4, g5, g6, g7⟩ := encU_at (a := a) (b := b) hb hp c hcl T (hdU u ++ (beL 2 c ++ u.pay) ++ T) (by simp)
  refine ⟨?_, by simp [hdU_len, beL_len]; omega, hp⟩
  unfold decU clrU
  rw [g3, g4, g5, g6, g7, if_neg (Classical.not_not.2 hf), if_neg (by omega), if_neg (by omega), if_neg (by omega), if_neg (by rw [← hc]; exact fun e => e.1 rfl), g1, g2]
  unfold badU at hb
  simp only [not_or] at hb
  rw [Int.toNat_of_nonneg (by omega), Int.toNat_of_nonneg (by omega)]
/-! ### A changed byte -/
theorem psU_len (a b : AdR) (pr z : Nat) : (psU a b pr z).length % 2 = 0 := by
  unfold psU adU
  split <;> split <;> simp [beL_len]
/-- Equal checksums: equal sums, modulo 65535. -/
theorem sumU_mod {a b : AdR} {s t : List UInt8} (hl : s.length = t.length) (h : sumU a b s = sumU a b t) : wsum s % 65535 = wsum t % 65535 := by
  have e : ∀ l : List UInt8, (sumU a b l + wsum (psU a b 17 l.length ++ l)) % 65535 = 0 := fun l => by
    have h1 := rep_mod (wsum (psU a b 17 l.length ++ l))
    have h2 := rep_le (wsum (psU a b 17 l.length ++ l))
    unfold sumU csum
    split <;> omega
  have e1 := e s
  have e2 := e t
  rw [wsum_append _ _ (psU_len a b 17 _)] at e1 e2
  rw [h, hl] at e1
  omega
theorem wsum_setN {l : List UInt8} {i : Nat} {c : UInt8} (h : i < l.length) (hc : c ≠ l[i]) : wsum (l.set i c) % 65535 ≠ wsum l % 65535 := fun e => by
  have hs := wsum_set l i c h
  have hne : c.toNat ≠ l[i].toNat := fun e => hc (UInt8.toNat.inj e)
  have b1 := c.toNat_lt
  have b2 := l[i].toNat_lt
  split at hs <;> omega
/-- A CHANGED BYTE, OTHER THAN IN THE LENGTH, IS NOTICED, unless it makes the checksum 0. -/
theorem dec_setU {a b : AdR} {u : UdpR} {s : List UInt8} (h : encU a b u = (s, 0)) {i : Nat} {c : UInt8} (hi : i < s.length) (h4 : i ≠ 4) (h5 : i ≠ 5) (hc : c ≠ s[i]) :
    (decU a b (s.set i c)).2 = 8 ∨ ((decU a b (s.set i c)).2 = 0 ∧ a.v6 = false ∧ nm2 (s.set i c) 6 = 0) := by
  obtain ⟨hf, hb, hp, hs⟩ := encU_ok h
  obtain ⟨cs, hcs⟩ : ∃ c, c = sumU a b (hdU u ++ (0 :: 0 :: u.pay)) := ⟨_, rfl⟩
  have hcl := sumU_le a b (hdU u ++ (0 :: 0 :: u.pay))
  rw [← hcs] at hcl hs
  obtain ⟨g1, g2, g3, g4, g5, g6, g7⟩ := encU_at (a := a) (b := b) hb hp cs hcl.1 [] s (by rw [hs]; simp)
  have hlen : s.length = 8 + u.pay.length := by rw [g7]; rfl
  have hnm : ∀ j, i ≠ j → i ≠ j + 1 → nm2 (s.set i c) j = nm2 s j := fun j h1 h2 => by
    unfold nm2
    congr 1
    apply List.ext_getElem?
    intro k
    simp only [List.getElem?_take, List.getElem?_drop]
    split
    · rename_i hk
      rw [List.getElem?_set_ne (by omega)]
    · rfl
  have hn4 : nm2 (s.set i c) 4 = 8 + u.pay.length := (hnm 4 h4 h5).trans g3
  have hl' : (s.set i c).length = 8 + u.pay.length := by rw [List.length_set, hlen]
  -- the checksum does not match
  have hno : nm2 (s.set i c) 6 ≠ sumU a b (clrU (s.set i c) (8 + u.pay.length)) := fun e => by
    have hclr0 : clrU s (8 + u.pay.length) = hdU u ++ (0 :: 0 :: u.pay) := by unfold clrU; rw [g5, g6]
    have hclrl : ∀ x : List UInt8, x.length = 8 + u.pay.length → (clrU x (8 + u.pay.length)).length = 8 + u.pay.length := fun x hx => by
      unfold clrU
      simp only [List.length_append, List.length_cons, List.length_take, List.length_drop, hx]
      omega
    by_cases h67 : i = 6 ∨ i = 7
    · have hsame : clrU (s.set i c) (8 + u.pay.length) = clrU s (8 + u.pay.length) := by
        apply List.ext_getElem?
        intro k
        unfold clrU
        simp only [List.getElem?_append, List.length_take, List.length_set, hlen]
        split
        · rename_i hk
          rw [List.getElem?_take, List.getElem?_take, if_pos (by omega), if_pos (by omega), List.getElem?_set_ne (by omega)]
        · rename_i hk
          match hq : k - min 6 (8 + u.pay.length) with
          | 0 => rfl
          | 1 => rfl
          | q + 2 =>
            simp only [List.getElem?_cons_succ, List.getElem?_drop, List.getElem?_take]
            split
            · rw [List.getElem?_set_ne (by omega)]
            · rfl
      rw [hsame, hclr0, ← hcs, ← g4] at e
      -- the two bytes differ
      have hb6 : ∀ x : List UInt8, x.length = 8 + u.pay.length → nm2 x 6 = byt x 6 * 256 + byt x 7 := fun x hx => by
        have e6 : x[6]? = some (x[6]'(by omega)) := List.getElem?_eq_getElem _
        have e7 : x[7]? = some (x[7]'(by omega)) := List.getElem?_eq_getElem _
        have : (x.drop 6).take 2 = [x[6]'(by omega), x[7]'(by omega)] := by
          rw [List.drop_eq_getElem_cons (by omega), List.drop_eq_getElem_cons (by omega)]
          rfl
        unfold nm2 byt
        rw [this, List.getD_eq_getElem?_getD, List.getD_eq_getElem?_getD, e6, e7]
        simp [num]
      rw [hb6 _ hl', hb6 _ hlen] at e
      have hc2 : c.toNat ≠ (s[i]'hi).toNat := fun e => hc (UInt8.toNat.inj e)
      have bb := c.toNat_lt
      have b0 := byt_lt s 6
      have b1 := byt_lt s 7
      rcases h67 with rfl | rfl
      · have k1 : byt (s.set 6 c) 6 = c.toNat := by unfold byt; rw [List.getD_eq_getElem?_getD, List.getElem?_set_self hi]; rfl
        have k2 : byt (s.set 6 c) 7 = byt s 7 := by unfold byt; rw [List.getD_eq_getElem?_getD, List.getD_eq_getElem?_getD, List.getElem?_set_ne (by omega)]
        have k3 : byt s 6 = (s[6]'hi).toNat := by unfold byt; rw [List.getD_eq_getElem?_getD, List.getElem?_eq_getElem hi]; rfl
        rw [k1, k2] at e
        omega
      · have k1 : byt (s.set 7 c) 7 = c.toNat := by unfold byt; rw [List.getD_eq_getElem?_getD, List.getElem?_set_self hi]; rfl
        have k2 : byt (s.set 7 c) 6 = byt s 6 := by unfold byt; rw [List.getD_eq_getElem?_getD, List.getD_eq_getElem?_getD, List.getElem?_set_ne (by omega)]
        have k3 : byt s 7 = (s[7]'hi).toNat := by unfold byt; rw [List.getD_eq_getElem?_getD, List.getElem?_eq_getElem hi]; rfl
        rw [k1, k2] at e
        omega
    · have hset : clrU (s.set i c) (8 + u.pay.length) = (clrU s (8 + u.pay.length)).set i c := by
        apply List.ext_getElem?
        intro k
        rw [List.getElem?_set, hclrl s hlen]
        by_cases hik : i = k
        · subst hik
          rw [if_pos rfl, if_pos (by omega)]
          unfold clrU
          simp only [List.getElem?_append, List.length_take, List.length_set, hlen]
          split
          · rw [List.getElem?_take, if_pos (by omega), List.getElem?_set_self hi]
          · match hq : i - min 6 (8 + u.pay.length) with
            | 0 => omega
            | 1 => omega
            | q + 2 =>
              simp only [List.getElem?_cons_succ, List.getElem?_drop, List.getElem?_take]
              rw [if_pos (by omega), show 8 + q = i by omega, List.getElem?_set_self hi]
        · rw [if_neg hik]
          unfold clrU
          simp only [List.getElem?_append, List.length_take, List.length_set, hlen]
          split
          · rw [List.getElem?_take, List.getElem?_take]
            split
            · rw [List.getElem?_set_ne hik]
            · rfl
          · match hq : k - min 6 (8 + u.pay.length) with
            | 0 => rfl
            | 1 => rfl
            | q + 2 =>
              simp only [List.getElem?_cons_succ, List.getElem?_drop, List.getElem?_take]
              split
              · rw [List.getElem?_set_ne (by omega)]
              · rfl
      have hci : i < (clrU s (8 + u.pay.length)).length := by rw [hclrl s hlen]; omega
      have hat : (clrU s (8 + u.pay.length))[i]? = some (s[i]'hi) := by
        unfold clrU
        simp only [List.getElem?_append, List.length_take, hlen]
        split
        · rw [List.getElem?_take, if_pos (by omega), List.getElem?_eq_getElem hi]
        · match hq : i - min 6 (8 + u.pay.length) with
          | 0 => omega
          | 1 => omega
          | q + 2 =>
            simp only [List.getElem?_cons_succ, List.getElem?_drop, List.getElem?_take]
            rw [if_pos (by omega), show 8 + q = i by omega, List.getElem?_eq_getElem hi]
      have hat2 : (clrU s (8 + u.pay.length))[i] = s[i]'hi := by
        have := List.getElem?_eq_getElem hci
        rw [hat] at this
        exact (Option.some.inj this).symm
      have e6 : nm2 (s.set i c) 6 = cs := (hnm 6 (by omega) (by omega)).trans g4
      rw [e6, hset, hcs, ← hclr0] at e
      exact wsum_setN hci (by rw [hat2]; exact hc) (sumU_mod (by rw [List.length_set]) e).symm
  unfold decU
  rw [hn4, if_neg (Classical.not_not.2 hf), hl', if_neg (by omega), if_neg (by omega), if_neg (by omega)]
  by_cases hz : nm2 (s.set i c) 6 ≠ 0 ∨ a.v6 = true
  · exact .inl (by rw [if_pos ⟨hno, hz⟩])
  · right
    rw [if_neg (fun e => hz e.2)]
    have h1 : ¬ nm2 (s.set i c) 6 ≠ 0 := fun e => hz (.inl e)
    refine ⟨rfl, ?_, by omega⟩
    cases hv : a.v6 with
    | false => rfl
    | true => exact absurd (.inr hv) hz
end Go.Proofs.YtmfoionlapcgkaaDoor

/- Contracts: the bytes of numbers and addresses, and the pseudo header, of layer 2 and its reference. -/
namespace Go.Proofs.YtmfoionlapcgkaaDoor
open Go.ChangeShapes Go.WideShapes Go.ChangeAt Go.RowKit

theorem leL_append : ∀ (a b n : Nat), leL (a + b) n = leL a n ++ leL b (n / pw a)
  | 0, b, n => by simp [leL, pw]
  | a + 1, b, n => by
    rw [show a + 1 + b = (a + b) + 1 by omega]
    simp only [leL]
    rw [leL_append a b, List.cons_append, Nat.div_div_eq_div_mul, pw_succ, Nat.mul_comm]
theorem leL_mod : ∀ (a n m : Nat), n % pw a = m % pw a → leL a n = leL a m
  | 0, _, _, _ => rfl
  | a + 1, n, m, h => by
    rw [pw_succ, Nat.mul_comm, Nat.mod_mul, Nat.mod_mul] at h
    have h1 : n % 256 = m % 256 := by omega
    have h2 : n / 256 % pw a = m / 256 % pw a := by omega
    simp only [leL]
    rw [h1, leL_mod a _ _ h2]
/-- The reference's number in one byte more. -/
theorem be_succ (k n : Nat) : str [UInt8.ofNat (n / pw k % 256)] ++ str (leL k n).reverse = str (leL (k + 1) n).reverse := by
  rw [str_append, leL_snoc, List.reverse_append]; rfl

theorem rnum_any (n k : Nat) (w : World) (hn : n ≤ 9223372036854775807) (hk : k ≤ 16) :
    Calls Tryd.prog 61 #[.int .i64 n, .int .i64 k] w fun e w' => e = .returned (.string (str (leL k n).reverse)) ∧ Below w.heap.size w w' := by
  go_enter Tryd.func61, Tryd.ntmps61
  go_wp2_with fail
  go_loopw [0, 5, 6] (fun m t i wr => ∃ j q : Nat, j ≤ k ∧ i = .int .i64 j ∧ m = .int .i64 q ∧ q ≤ 9223372036854775807 ∧ q = n / pw j ∧ t = .string (str (leL j n).reverse) ∧ Below w.heap.size w wr) (fun _ _ i _ => k - (intOf i).toNat)
  case atStart => exact ⟨0, n, by omega, rfl, rfl, hn, by simp [pw], rfl, Below.refl _ _⟩
  case round =>
    obtain ⟨j, q, hj, rfl, rfl, hq, hqn, rfl, hb⟩ := hrel
    have hsz : (str (leL j n).reverse).size = j := by rw [str_size, List.length_reverse, leL_length]
    by_cases hlt : j < k
    · have hcv := fun W g => one_string W g ((q : Int) % 256) (by omega) (by omega)
      rw [show ((q : Int) % 256).toNat = q % 256 by omega] at hcv
      have hfin : str [UInt8.ofNat (q % 256)] ++ str (leL j n).reverse = str (leL (j + 1) n).reverse := by rw [hqn]; exact be_succ j n
      have hq2 : q / 256 = n / pw (j + 1) := by rw [hqn, Nat.div_div_eq_div_mul, pw_succ]
      have hcat : (9223372036854775807 < (str [UInt8.ofNat (q % 256)]).size + (str (leL j n).reverse).size) = False := by
        rw [hsz, str_size]; simp; omega
      have HF := Lib.hid hfin
      have HQ := Lib.hid hq2
      clear hfin hq2 hqn hsz
      generalize str (leL j n).reverse = S at *
      generalize hu : str [UInt8.ofNat (q % 256)] = U at *
      go_wp2_with fail
      go_roundw
      case rel => exact ⟨j + 1, q / 256, by omega, by go_num, by go_num, by omega, HQ.out, by rw [← HF.out], hb.alloc hb.size _⟩
      case measure => simp [intOf]; omega
    · obtain rfl : j = k := by omega
      go_wp2_with fail
      go_ret
      exact ⟨rfl, hb⟩

theorem ret_str {a b : ByteArray} (h : a = b) : Ending.returned (.string a) = .returned (.string b) := by rw [h]
theorem ret_bool {a b : Bool} (h : a = b) : Ending.returned (.bool a) = .returned (.bool b) := by rw [h]
theorem half_join (n : Nat) : str (leL 4 (n / 4294967296)).reverse ++ str (leL 4 (n % 4294967296)).reverse = str (leL 8 n).reverse := by
  have e : pw 4 = 4294967296 := by decide
  rw [str_append, ← List.reverse_append, show (8 : Nat) = 4 + 4 from rfl, leL_append 4 4 n, e, leL_mod 4 (n % 4294967296) n (by rw [e]; omega)]

theorem rhalf_any (n : Nat) (w : World) (h : n < 18446744073709551616) :
    Calls Tryd.prog 74 #[.int .u64 n] w fun e w' => e = .returned (.string (str (leL 8 n).reverse)) ∧ Below w.heap.size w w' := by
  have h1 := fun W => rnum_any (n / 4294967296) 4 W (by omega) (by omega)
  have h2 := fun W => rnum_any (n % 4294967296) 4 W (by omega) (by omega)
  have hj := half_join n
  have hcat : (9223372036854775807 < (str (leL 4 (n / 4294967296)).reverse).size + (str (leL 4 (n % 4294967296)).reverse).size) = False := by
    rw [str_size, str_size]; simp [leL_length]
  have e1 : ((n / 4294967296 : Nat) : Int) = (n : Int) / 4294967296 := by omega
  have e2 : ((n % 4294967296 : Nat) : Int) = (n : Int) % 4294967296 := by omega
  rw [e1] at h1
  rw [e2] at h2
  have HJ := Lib.hid hj
  have H1 := Lib.hid h1
  have H2 := Lib.hid h2
  clear hj h1 h2 e1 e2
  generalize str (leL 4 (n / 4294967296)).reverse = A at *
  generalize str (leL 4 (n % 4294967296)).reverse = B at *
  generalize str (leL 8 n).reverse = C at *
  go_enter Tryd.func74, Tryd.ntmps74
  go_wp2_with fail
  refine (H1.out _).mono ?_
  rintro e w1 ⟨rfl, hb1⟩
  go_wp2_with fail
  refine (H2.out _).mono ?_
  rintro e w2 ⟨rfl, hb2⟩
  go_wp2_with fail
  go_ret
  exact ⟨ret_str HJ.out, hb1.trans (hb2.mono hb1.size)⟩

/-- An address as a value. -/
def adv (v6 : Bool) (hi lo : Nat) : Value := .agg #[.bool v6, .int .u64 hi, .int .u64 lo]
/-- Is it valid? -/
def vadr (v6 : Bool) (hi lo : Nat) : Bool := v6 || (hi == 0 && decide (lo < 4294967296))

theorem valid_addr (v6 : Bool) (hi lo : Nat) (w : World) :
    Calls Tryd.prog 52 #[.agg #[.bool v6, .int .u64 hi, .int .u64 lo]] w fun e w' => e = .returned (.bool (vadr v6 hi lo)) ∧ Below w.heap.size w w' := by
  cases v6 with
  | true =>
    go_enter Tryd.func52, Tryd.ntmps52
    go_wp2_with fail
    go_ret
    exact ⟨rfl, (Below.refl _ _).alloc (Nat.le_refl _) _⟩
  | false =>
    by_cases h : hi = 0
    · subst h
      have hv : vadr false 0 lo = decide (lo < 4294967296) := by simp [vadr]
      by_cases hl : lo < 4294967296
      · have HV : Hid (vadr false 0 lo = true) := by show _ = _; rw [hv]; simpa using hl
        clear hv
        go_enter Tryd.func52, Tryd.ntmps52
        go_wp2_with fail
        go_ret
        exact ⟨ret_bool (by rw [HV.out]; simp; omega), (Below.refl _ _).alloc (Nat.le_refl _) _⟩
      · have HV : Hid (vadr false 0 lo = false) := by show _ = _; rw [hv]; simpa using hl
        have hd : decide ((lo : Int) < 4294967296) = false := by simp; omega
        clear hv
        go_enter Tryd.func52, Tryd.ntmps52
        go_wp2_with fail
        go_ret
        exact ⟨ret_bool HV.out.symm, (Below.refl _ _).alloc (Nat.le_refl _) _⟩
    · have hv : vadr false hi lo = false := by simp [vadr, h]
      have HV := Lib.hid hv
      have hd : ((hi : Int) == 0) = false := by simp; omega
      clear hv h
      go_enter Tryd.func52, Tryd.ntmps52
      go_wp2_with fail
      go_ret
      exact ⟨ret_bool HV.out.symm, (Below.refl _ _).alloc (Nat.le_refl _) _⟩

theorem rvalid_addr (v6 : Bool) (hi lo : Nat) (w : World) :
    Calls Tryd.prog 59 #[.agg #[.bool v6, .int .u64 hi, .int .u64 lo]] w fun e w' => e = .returned (.bool (vadr v6 hi lo)) ∧ Below w.heap.size w w' := by
  cases v6 with
  | true =>
    go_enter Tryd.func59, Tryd.ntmps59
    go_wp2_with fail
    go_ret
    exact ⟨rfl, (Below.refl _ _).alloc (Nat.le_refl _) _⟩
  | false =>
    by_cases h : hi = 0
    · subst h
      have hv : vadr false 0 lo = decide (lo < 4294967296) := by simp [vadr]
      by_cases hl : lo < 4294967296
      · have HV : Hid (vadr false 0 lo = true) := by show _ = _; rw [hv]; simpa using hl
        clear hv
        go_enter Tryd.func59, Tryd.ntmps59
        go_wp2_with fail
        go_ret
        exact ⟨ret_bool (by rw [HV.out]; simp; omega), (Below.refl _ _).alloc (Nat.le_refl _) _⟩
      · have HV : Hid (vadr false 0 lo = false) := by show _ = _; rw [hv]; simpa using hl
        have hd : decide ((lo : Int) < 4294967296) = false := by simp; omega
        clear hv
        go_enter Tryd.func59, Tryd.ntmps59
        go_wp2_with fail
        go_ret
        exact ⟨ret_bool HV.out.symm, (Below.refl _ _).alloc (Nat.le_refl _) _⟩
    · have hv : vadr false hi lo = false := by simp [vadr, h]
      have HV := Lib.hid hv
      have hd : ((hi : Int) == 0) = false := by simp; omega
      clear hv h
      go_enter Tryd.func59, Tryd.ntmps59
      go_wp2_with fail
      go_ret
      exact ⟨ret_bool HV.out.symm, (Below.refl _ _).alloc (Nat.le_refl _) _⟩
end Go.Proofs.YtmfoionlapcgkaaDoor

/- Contracts: eightBytes, addressBytes of the program under its table of shifts; the reference's address. -/
namespace Go.Proofs.YtmfoionlapcgkaaDoor
open Go.ChangeShapes Go.WideShapes Go.ChangeAt Go.RowKit

/-- The table of shifts. -/
def shArr : Array Value := #[.int .u64 56, .int .u64 48, .int .u64 40, .int .u64 32, .int .u64 24, .int .u64 16, .int .u64 8, .int .u64 0]
/-- The variable holds it. -/
def Sh (w : World) : Prop := ∃ t fr, w.heap[1]? = some (.cells shArr t fr)
theorem Sh.lt {w : World} (h : Sh w) : 1 < w.heap.size := by
  obtain ⟨t, fr, hg⟩ := h
  obtain ⟨hlt, _⟩ := Array.getElem?_eq_some_iff.1 hg
  exact hlt
theorem Sh.kept {w w' : World} (h : Sh w) (hb : Below w.heap.size w w') : Sh w' := by
  have hlt := h.lt
  obtain ⟨t, fr, hg⟩ := h
  exact ⟨t, fr, by rw [hb.block _ hlt]; exact hg⟩
theorem Sh.alloc {w : World} (h : Sh w) (o : Obj) : Sh (w.alloc o) := h.kept ((Below.refl _ _).alloc (Nat.le_refl _) _)
theorem Sh.drew {w : World} (h : Sh w) : Sh w.drew := h

theorem sh_at (k : Nat) (h : k < 8) (W : World) : (Instr.index 109 (.agg shArr) (.int .i64 (k : Int))).run Tryd.prog W = .ok (.int .u64 ((56 - 8 * k : Nat) : Int)) W := by
  have i0 : ∀ V, (Instr.index 109 (.agg shArr) (.int .i64 0)).run Tryd.prog V = .ok (.int .u64 56) V := fun _ => by kernel_rfl
  have i1 : ∀ V, (Instr.index 109 (.agg shArr) (.int .i64 1)).run Tryd.prog V = .ok (.int .u64 48) V := fun _ => by kernel_rfl
  have i2 : ∀ V, (Instr.index 109 (.agg shArr) (.int .i64 2)).run Tryd.prog V = .ok (.int .u64 40) V := fun _ => by kernel_rfl
  have i3 : ∀ V, (Instr.index 109 (.agg shArr) (.int .i64 3)).run Tryd.prog V = .ok (.int .u64 32) V := fun _ => by kernel_rfl
  have i4 : ∀ V, (Instr.index 109 (.agg shArr) (.int .i64 4)).run Tryd.prog V = .ok (.int .u64 24) V := fun _ => by kernel_rfl
  have i5 : ∀ V, (Instr.index 109 (.agg shArr) (.int .i64 5)).run Tryd.prog V = .ok (.int .u64 16) V := fun _ => by kernel_rfl
  have i6 : ∀ V, (Instr.index 109 (.agg shArr) (.int .i64 6)).run Tryd.prog V = .ok (.int .u64 8) V := fun _ => by kernel_rfl
  have i7 : ∀ V, (Instr.index 109 (.agg shArr) (.int .i64 7)).run Tryd.prog V = .ok (.int .u64 0) V := fun _ => by kernel_rfl
  have hk : k = 0 ∨ k = 1 ∨ k = 2 ∨ k = 3 ∨ k = 4 ∨ k = 5 ∨ k = 6 ∨ k = 7 := by omega
  rcases hk with rfl | rfl | rfl | rfl | rfl | rfl | rfl | rfl
  · exact i0 W
  · exact i1 W
  · exact i2 W
  · exact i3 W
  · exact i4 W
  · exact i5 W
  · exact i6 W
  · exact i7 W

set_option maxRecDepth 20000 in
theorem eightb_any (n : Nat) (w : World) (_hn : n < 18446744073709551616) (hsh : Sh w) :
    Calls Tryd.prog 73 #[.int .u64 n] w fun e w' => e = .returned (.string (str (leL 8 n).reverse)) ∧ Below w.heap.size w w' := by
  have h0 := hsh.lt
  obtain ⟨t, fr, hg⟩ := hsh
  have hix := sh_at
  have hsz : (Tryd.prog.info? 109).map (·.size) = some shArr.size := by kernel_rfl
  generalize shArr = S at *
  have HIX := Lib.hid hix
  have HG := Lib.hid (fun o => (heap_alloc_old (w := w) (o := o) (h := h0)).trans hg)
  have HSZ := Lib.hid hsz
  clear hix hg hsz h0
  go_enter Tryd.func73, Tryd.ntmps73
  go_wp2_with (refine wpList_load_row rfl 109 _ rfl 1 rfl t S fr _ (HG.out _) Tryd.underlying109 rfl HSZ.out ?_)
  go_loopw [7] (fun i wr => ∃ k : Nat, k ≤ 8 ∧ i = .int .i64 k ∧ wr.rowIs w.heap.size 108 8 (fun x => .int .u8 (if x < k then ((n / 2 ^ (56 - 8 * x) % 256 : Nat) : Int) else 0)) ∧ Below w.heap.size w wr) (fun i _ => 8 - (intOf i).toNat)
  case atStart =>
    refine ⟨0, by omega, rfl, ?_, (Below.refl _ _).alloc (Nat.le_refl _) _⟩
    refine World.rowIs.congr (World.rowIs_alloc w _ _ (fun _ => .int .u8 0) ?_) (fun i _ => by simp)
    intro i hi
    have hk : i = 0 ∨ i = 1 ∨ i = 2 ∨ i = 3 ∨ i = 4 ∨ i = 5 ∨ i = 6 ∨ i = 7 := by
      have : i < 8 := hi
      omega
    rcases hk with rfl | rfl | rfl | rfl | rfl | rfl | rfl | rfl <;> rfl
  case round =>
    obtain ⟨k, hk, rfl, hrow, hb⟩ := hrel
    by_cases hlt : k < 8
    · have hi := HIX.out k hlt
      have hc := hrow.cell hlt
      rw [if_neg (Nat.lt_irrefl k)] at hc
      have hf := hrow.frozen k
      have hq : 56 - 8 * k ≤ 56 := by omega
      generalize hqq : 56 - 8 * k = q at *
      have HQ := Lib.hid hqq
      clear hqq
      go_wp2_with fail
      go_roundw
      case rel =>
        refine ⟨k + 1, by omega, by go_num, (hrow.set k _).congr (fun x hx => ?_), hb.setCell (Nat.le_refl _) _⟩
        by_cases e : x = k
        · subst e
          rw [if_pos rfl, if_pos (by omega), HQ.out]
          simp
        · rw [if_neg e]
          by_cases e2 : x < k
          · rw [if_pos e2, if_pos (by omega)]
          · rw [if_neg e2, if_neg (by omega)]
      case measure => simp [intOf]; omega
    · have hd : decide ((k : Int) < 8) = false := by simp; omega
      obtain rfl : k = 8 := by omega
      have hl8 : (leL 8 n).reverse.length = 8 := by rw [List.length_reverse, leL_length]
      have hbs : BS wr w.heap.size (.slice (some ⟨w.heap.size, 0, none⟩) (leL 8 n).reverse.length 8) (leL 8 n).reverse := by
        refine ⟨some ⟨w.heap.size, 0, none⟩, 8, rfl, by omega, fun _ => ⟨w.heap.size, 0, rfl, Nat.le_refl _, hrow.lt, fun x hx => ?_⟩⟩
        have hx8 : x < 8 := by omega
        rw [Nat.zero_add]
        refine ⟨?_, hrow.frozen x⟩
        rw [hrow.cell hx8, if_pos hx8, List.getElem_reverse, leL_get, UInt8.toNat_ofNat', show (leL 8 n).length - 1 - x = 7 - x by rw [leL_length], show (2 : Nat) ^ (56 - 8 * x) = 256 ^ (7 - x) by rw [show (256 : Nat) = 2 ^ 8 from rfl, ← Nat.pow_mul, show 8 * (7 - x) = 56 - 8 * x by omega]]
        simp
      have hcv := bs_string hbs
      rw [hl8] at hcv
      have HB := Lib.hid hb
      clear hb hbs hrow hl8
      go_wp2_with fail
      go_ret
      exact ⟨rfl, HB.out⟩

/-- The bytes of an address. -/
def adr (v6 : Bool) (hi lo : Nat) : List UInt8 := if v6 then (leL 8 hi).reverse ++ (leL 8 lo).reverse else (leL 4 lo).reverse
theorem adr_length (v6 : Bool) (hi lo : Nat) : (adr v6 hi lo).length = if v6 then 16 else 4 := by
  unfold adr; split <;> simp [leL_length]

theorem adr_tail (lo : Nat) : (str (leL 8 lo).reverse).extract 4 (str (leL 8 lo).reverse).size = str (leL 4 lo).reverse := by
  apply ByteArray.ext
  apply Array.ext'
  rw [Lib.extract_data, str_size, List.length_reverse, leL_length, str_toList, str_toList, show (8 : Nat) = 4 + 4 from rfl, leL_append, List.reverse_append]
  rw [List.drop_append_of_le_length (by simp [leL_length]), List.drop_eq_nil_of_le (by simp [leL_length]), List.nil_append, List.take_of_length_le (by simp [leL_length])]

theorem addrb_any (v6 : Bool) (hi lo : Nat) (w : World) (hhi : hi < 18446744073709551616) (hlo : lo < 18446744073709551616) (hsh : Sh w) :
    Calls Tryd.prog 53 #[.agg #[.bool v6, .int .u64 hi, .int .u64 lo]] w fun e w' => e = .returned (.string (str (adr v6 hi lo))) ∧ Below w.heap.size w w' := by
  have h1 := fun W h => eightb_any hi W hhi h
  have h2 := fun W h => eightb_any lo W hlo h
  have H1 := Lib.hid h1
  have H2 := Lib.hid h2
  clear h1 h2
  cases v6 with
  | true =>
    have hcat : (9223372036854775807 < (str (leL 8 hi).reverse).size + (str (leL 8 lo).reverse).size) = False := by
      rw [str_size, str_size]; simp [leL_length]
    have HF : Hid (str (leL 8 hi).reverse ++ str (leL 8 lo).reverse = str (adr true hi lo)) := str_append _ _
    generalize str (leL 8 hi).reverse = A at *
    generalize str (leL 8 lo).reverse = B at *
    generalize str (adr true hi lo) = R at *
    go_enter Tryd.func53, Tryd.ntmps53
    go_wp2_with fail
    obtain ⟨W0, hW⟩ : ∃ W0, W0 = w.alloc (.cells #[.bool true, .int .u64 hi, .int .u64 lo] 24) := ⟨_, rfl⟩
    rw [← hW]
    have c1 : W0.cell? ⟨w.heap.size, 1, none⟩ = some (.int .u64 hi) := by rw [hW, World.cell?_alloc_at _ _ _ _ rfl]; rfl
    have c2 : W0.cell? ⟨w.heap.size, 2, none⟩ = some (.int .u64 lo) := by rw [hW, World.cell?_alloc_at _ _ _ _ rfl]; rfl
    have hs0 : Sh W0 := by rw [hW]; exact hsh.alloc _
    have hB0 : Below w.heap.size w W0 := by rw [hW]; exact (Below.refl _ _).alloc (Nat.le_refl _) _
    have hg0 : w.heap.size < W0.heap.size := by rw [hW]; simp
    clear hW
    go_region_held3 (fun w' => w'.cell? ⟨w.heap.size, 1, none⟩ = some (.int .u64 hi) ∧ w'.cell? ⟨w.heap.size, 2, none⟩ = some (.int .u64 lo)) (go_keep) (first
      | (go_at_call_of 73 (Value.int .u64 (hi : Int)); refine (H1.out _ ?_).mono ?_; exact hs0; rintro e w2 ⟨rfl, hb2d⟩; have hb2 : Below W0.heap.size W0 w2 := ⟨hb2d.os, hb2d.tape, hb2d.output, hb2d.size, hb2d.block⟩; have hs2 : Sh w2 := hs0.kept hb2; have d1 := (kept_cells hb2 w.heap.size 1 hg0).trans c1; have d2 := (kept_cells hb2 w.heap.size 2 hg0).trans c2)
      | (go_at_call_of 73 (Value.int .u64 (lo : Int)); refine (H2.out _ ?_).mono ?_; exact hs2; rintro e w3 ⟨rfl, hb3⟩; have d3 := (kept_cells hb3 w.heap.size 1 (Nat.lt_of_lt_of_le hg0 hb2.size)).trans d1; have d4 := (kept_cells hb3 w.heap.size 2 (Nat.lt_of_lt_of_le hg0 hb2.size)).trans d2))
    go_wp2_with fail
    go_ret
    refine ⟨ret_str HF.out, ?_⟩
    have k2 := hB0.trans (hb2.mono hB0.size)
    exact k2.trans (hb3.mono k2.size)
  | false =>
    have hx := adr_tail lo
    have hsz : (str (leL 8 lo).reverse).size = 8 := by rw [str_size, List.length_reverse, leL_length]
    have hle : 4 ≤ (str (leL 8 lo).reverse).size := by omega
    have HF : Hid (str (leL 4 lo).reverse = str (adr false hi lo)) := rfl
    have HX := Lib.hid hx
    clear hx hsz
    generalize str (leL 8 lo).reverse = B at *
    generalize str (leL 4 lo).reverse = C at *
    generalize str (adr false hi lo) = R at *
    go_enter Tryd.func53, Tryd.ntmps53
    go_wp2_with fail
    refine (H2.out _ ?_).mono ?_
    exact hsh.alloc _
    rintro e w2 ⟨rfl, hb2⟩
    go_wp2_with fail
    go_ret
    exact ⟨ret_str (by rw [HX.out, HF.out]), ((Below.refl _ _).alloc (Nat.le_refl _) _).trans (hb2.mono (by simp))⟩

theorem raddr_any (v6 : Bool) (hi lo : Nat) (w : World) (hhi : hi < 18446744073709551616) (hlo : lo < 18446744073709551616) (hv : vadr v6 hi lo = true) :
    Calls Tryd.prog 60 #[.agg #[.bool v6, .int .u64 hi, .int .u64 lo]] w fun e w' => e = .returned (.string (str (adr v6 hi lo))) ∧ Below w.heap.size w w' := by
  cases v6 with
  | true =>
    have h1 := fun W => rhalf_any hi W hhi
    have h2 := fun W => rhalf_any lo W hlo
    have H1 := Lib.hid h1
    have H2 := Lib.hid h2
    clear h1 h2 hv
    have hcat : (9223372036854775807 < (str (leL 8 hi).reverse).size + (str (leL 8 lo).reverse).size) = False := by
      rw [str_size, str_size]; simp [leL_length]
    have HF : Hid (str (leL 8 hi).reverse ++ str (leL 8 lo).reverse = str (adr true hi lo)) := str_append _ _
    generalize str (leL 8 hi).reverse = A at *
    generalize str (leL 8 lo).reverse = B at *
    generalize str (adr true hi lo) = R at *
    go_enter Tryd.func60, Tryd.ntmps60
    go_wp2_with fail
    obtain ⟨W0, hW⟩ : ∃ W0, W0 = w.alloc (.cells #[.bool true, .int .u64 hi, .int .u64 lo] 24) := ⟨_, rfl⟩
    rw [← hW]
    have c1 : W0.cell? ⟨w.heap.size, 1, none⟩ = some (.int .u64 hi) := by rw [hW, World.cell?_alloc_at _ _ _ _ rfl]; rfl
    have c2 : W0.cell? ⟨w.heap.size, 2, none⟩ = some (.int .u64 lo) := by rw [hW, World.cell?_alloc_at _ _ _ _ rfl]; rfl
    have hB0 : Below w.heap.size w W0 := by rw [hW]; exact (Below.refl _ _).alloc (Nat.le_refl _) _
    have hg0 : w.heap.size < W0.heap.size := by rw [hW]; simp
    clear hW
    go_region_held3 (fun w' => w'.cell? ⟨w.heap.size, 1, none⟩ = some (.int .u64 hi) ∧ w'.cell? ⟨w.heap.size, 2, none⟩ = some (.int .u64 lo)) (go_keep) (first
      | (go_at_call_of 74 (Value.int .u64 (hi : Int)); refine (H1.out _).mono ?_; rintro e w2 ⟨rfl, hb2d⟩; have hb2 : Below W0.heap.size W0 w2 := ⟨hb2d.os, hb2d.tape, hb2d.output, hb2d.size, hb2d.block⟩; have d1 := (kept_cells hb2 w.heap.size 1 hg0).trans c1; have d2 := (kept_cells hb2 w.heap.size 2 hg0).trans c2)
      | (go_at_call_of 74 (Value.int .u64 (lo : Int)); refine (H2.out _).mono ?_; rintro e w3 ⟨rfl, hb3⟩; have d3 := (kept_cells hb3 w.heap.size 1 (Nat.lt_of_lt_of_le hg0 hb2.size)).trans d1; have d4 := (kept_cells hb3 w.heap.size 2 (Nat.lt_of_lt_of_le hg0 hb2.size)).trans d2))
    go_wp2_with fail
    go_ret
    refine ⟨ret_str HF.out, ?_⟩
    have k2 := hB0.trans (hb2.mono hB0.size)
    exact k2.trans (hb3.mono k2.size)
  | false =>
    have hl : lo < 4294967296 := by
      simp [vadr] at hv
      exact hv.2
    have h2 := fun W => rnum_any lo 4 W (by omega) (by omega)
    have HF : Hid (str (leL 4 lo).reverse = str (adr false hi lo)) := rfl
    have H2 := Lib.hid h2
    clear h2 hv
    generalize str (leL 4 lo).reverse = C at *
    generalize str (adr false hi lo) = R at *
    go_enter Tryd.func60, Tryd.ntmps60
    go_wp2_with fail
    refine (H2.out _).mono ?_
    rintro e w2 ⟨rfl, hb2⟩
    go_wp2_with fail
    go_ret
    exact ⟨ret_str HF.out, ((Below.refl _ _).alloc (Nat.le_refl _) _).trans (hb2.mono (by simp))⟩
end Go.Proofs.YtmfoionlapcgkaaDoor
