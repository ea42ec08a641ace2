/- Contracts of the functions, part 19: TcpMath, TcpMem, In14. -/
import Derived.Deep.Cut
import Derived.BigQuiet
import Derived.SizedLaws
import Derived.Test.YtmfoionlapcgkaaDoorPA3
import Derived.Test.YtmfoionlapcgkaaDoorPA6
import Derived.Test.YtmfoionlapcgkaaDoorPA9
import Derived.Test.YtmfoionlapcgkaaDoorPA10
import Derived.Test.YtmfoionlapcgkaaDoorPA18
/- Plain mathematics of TCP segments: no Go in sight. -/
namespace Go.Proofs.YtmfoionlapcgkaaDoor
set_option linter.unusedVariables false
set_option maxRecDepth 100000

structure TcpR where
  src : Int
  dst : Int
  seq : Nat
  ack : Nat
  fl : Int
  win : Int
  urg : Int
  ops : List OpR
  pay : List UInt8
def zeroT : TcpR := ⟨0, 0, 0, 0, 0, 0, 0, [], []⟩
def hdT (S : List UInt8) : Nat := byt S 12 / 16 * 4
def outT (S : List UInt8) (l : List OpR) : TcpR :=
  ⟨nm2 S 0, nm2 S 2, nm4 S 4, nm4 S 8, ((byt S 13 % 64 : Nat) : Int), nm2 S 14, nm2 S 18, l, S.drop (hdT S)⟩
def decT (a b : AdR) (S : List UInt8) : TcpR × Nat :=
  if ¬ fitU a b then (zeroT, 13)
  else if 65535 < S.length then (zeroT, 3)
  else if S.length < 20 then (zeroT, 1)
  else if hdT S < 20 then (zeroT, 2)
  else if S.length < hdT S then (zeroT, 1)
  else if csum (psU a b 6 S.length ++ S) ≠ 0 then (zeroT, 8)
  else match optsD ((S.take (hdT S)).drop 20) with
    | none => (zeroT, 2)
    | some l => (outT S l, 0)
def wrd (n : Int) : Prop := 0 ≤ n ∧ n ≤ 65535
instance (n : Int) : Decidable (wrd n) := inferInstanceAs (Decidable (_ ∧ _))
def badT (t : TcpR) : Prop := ¬ wrd t.src ∨ ¬ wrd t.dst ∨ ¬ wrd t.win ∨ ¬ wrd t.urg ∨ (t.fl < 0 ∨ 63 < t.fl) ∨ ¬ okK t.ops
instance decOk14 (l : List OpR) : Decidable (okK l) := by unfold okK; infer_instance
instance (t : TcpR) : Decidable (badT t) := inferInstanceAs (Decidable (_ ∨ _))
def hlT (t : TcpR) : Nat := 20 + (wrP t.ops).length
def preT (t : TcpR) : List UInt8 := beL 2 t.src.toNat ++ (beL 2 t.dst.toNat ++ (beL 4 t.seq ++ (beL 4 t.ack ++ (UInt8.ofNat (hlT t / 4 * 16) :: UInt8.ofNat t.fl.toNat :: beL 2 t.win.toNat))))
def postT (t : TcpR) : List UInt8 := beL 2 t.urg.toNat ++ (wrP t.ops ++ t.pay)
def totT (t : TcpR) : Nat := hlT t + t.pay.length
def sumT (a b : AdR) (t : TcpR) : Nat := csum ((psU a b 6 (totT t) ++ preT t) ++ (beL 2 0 ++ postT t))
def encT (a b : AdR) (t : TcpR) : List UInt8 × Nat :=
  if badT t then ([], 4) else if 40 < (wrOs t.ops).length ∨ 60000 < t.pay.length then ([], 3) else if ¬ fitU a b then ([], 13)
  else (preT t ++ (beL 2 (sumT a b t) ++ postT t), 0)
/-- Seq and Ack are 32-bit numbers. -/
def fitT (t : TcpR) : Prop := t.seq < 4294967296 ∧ t.ack < 4294967296
theorem preT_len (t : TcpR) : (preT t).length = 16 := by unfold preT; simp [beL_len]
theorem postT_len (t : TcpR) : (postT t).length = 2 + (wrP t.ops).length + t.pay.length := by unfold postT; simp [beL_len]; omega
theorem encT_len (t : TcpR) (c : Nat) : (preT t ++ (beL 2 c ++ postT t)).length = totT t := by
  rw [List.length_append, List.length_append, preT_len, postT_len, beL_len]; unfold totT hlT; omega
theorem encT_ok {a b : AdR} {t : TcpR} {s : List UInt8} (h : encT a b t = (s, 0)) : fitU a b ∧ ¬ badT t ∧ (wrOs t.ops).length ≤ 40 ∧ t.pay.length ≤ 60000 ∧ s = preT t ++ (beL 2 (sumT a b t) ++ postT t) := by
  unfold encT at h
  split at h
  · simp at h
  · split at h
    · simp at h
    · split at h
      · simp at h
      · rename_i h1 h2 h3
        exact ⟨Classical.not_not.1 h3, h1, by omega, by omega, (Prod.mk.injEq .. ▸ h : _ ∧ _).1.symm⟩
theorem encT_bad {a b : AdR} {t : TcpR} (h : (encT a b t).2 ≠ 0) : (encT a b t).1 = [] := by
  unfold encT at h ⊢
  split
  · rfl
  · split
    · rfl
    · split
      · rfl
      · rename_i h1 h2 h3
        rw [if_neg h1, if_neg h2, if_neg h3] at h
        exact absurd rfl h
theorem decT_ok {a b : AdR} {S : List UInt8} {t : TcpR} (h : decT a b S = (t, 0)) : ∃ l, optsD ((S.take (hdT S)).drop 20) = some l ∧ t = outT S l ∧ fitU a b ∧ S.length ≤ 65535 ∧ 20 ≤ hdT S ∧ hdT S ≤ S.length ∧ csum (psU a b 6 S.length ++ S) = 0 := by
  unfold decT at h
  split at h
  · simp at h
  · split at h
    · simp at h
    · split at h
      · simp at h
      · split at h
        · simp at h
        · split at h
          · simp at h
          · split at h
            · simp at h
            · split at h
              · simp at h
              · rename_i h1 h2 h3 h4 h5 h6 _ l hl
                exact ⟨l, hl, (Prod.mk.injEq .. ▸ h : _ ∧ _).1.symm, Classical.not_not.1 h1, by omega, by omega, by omega, Classical.not_not.1 h6⟩
theorem decT_bad {a b : AdR} {S : List UInt8} (h : (decT a b S).2 ≠ 0) : (decT a b S).1 = zeroT := by
  unfold decT at h ⊢
  split
  · rfl
  · split
    · rfl
    · split
      · rfl
      · split
        · rfl
        · split
          · rfl
          · split
            · rfl
            · split
              · rfl
              · rename_i h1 h2 h3 h4 h5 h6 _ l hl
                rw [if_neg h1, if_neg h2, if_neg h3, if_neg h4, if_neg h5, if_neg h6, hl] at h
                exact absurd rfl h
theorem sumT_le (a b : AdR) (t : TcpR) : sumT a b t ≤ 65535 := csum_le _
theorem encT_sum {a b : AdR} {t : TcpR} {s : List UInt8} (h : encT a b t = (s, 0)) : csum (psU a b 6 s.length ++ s) = 0 := by
  obtain ⟨-, -, -, -, rfl⟩ := encT_ok h
  rw [encT_len, ← List.append_assoc]
  exact csum_fill (by rw [List.length_append, preT_len]; have := psU_len a b 6 (totT t); omega)
/-- The fields of what was encoded. -/
structure EncT (t : TcpR) (S : List UInt8) : Prop where
  f0 : nm2 S 0 = t.src.toNat
  f2 : nm2 S 2 = t.dst.toNat
  f4 : nm4 S 4 = t.seq
  f8 : nm4 S 8 = t.ack
  b12 : byt S 12 = hlT t / 4 * 16
  b13 : byt S 13 = t.fl.toNat
  f14 : nm2 S 14 = t.win.toNat
  f18 : nm2 S 18 = t.urg.toNat
theorem encT_at {t : TcpR} (hb : ¬ badT t) (hf : fitT t) (ho : (wrOs t.ops).length ≤ 40) (c : Nat) (S : List UInt8) (hS : S = preT t ++ (beL 2 c ++ postT t)) : EncT t S := by
  unfold badT wrd at hb
  simp only [not_or, Classical.not_not] at hb
  obtain ⟨⟨a1, a2⟩, ⟨a3, a4⟩, ⟨a5, a6⟩, ⟨a7, a8⟩, ⟨a9, a10⟩, -⟩ := hb
  have hw := (wrP_len t.ops).1
  have hpd := need_pad ho
  have hh : hlT t ≤ 60 := by unfold hlT; omega
  obtain ⟨q1, q2⟩ := hf
  have e : S = beL 2 t.src.toNat ++ (beL 2 t.dst.toNat ++ (beL 4 t.seq ++ (beL 4 t.ack ++ (UInt8.ofNat (hlT t / 4 * 16) :: UInt8.ofNat t.fl.toNat :: (beL 2 t.win.toNat ++ (beL 2 c ++ (beL 2 t.urg.toNat ++ (wrP t.ops ++ t.pay)))))))) := by
    rw [hS]; unfold preT postT; simp
  refine ⟨?_, ?_, ?_, ?_, ?_, ?_, ?_, ?_⟩
  · rw [e]; exact nm2_at (a := []) (i := 0) rfl (by omega)
  · rw [e]; exact nm2_at (by rw [beL_len]) (by omega)
  · rw [e, ← List.append_assoc]; exact nm4_at (by simp [beL_len]) q1
  · rw [e, ← List.append_assoc, ← List.append_assoc]; exact nm4_at (by simp [beL_len]) q2
  · rw [e, ← List.append_assoc, ← List.append_assoc, ← List.append_assoc]; exact (byt_at (by simp [beL_len])).trans (u8n (by omega))
  · rw [e, ← List.append_assoc, ← List.append_assoc, ← List.append_assoc]
    rw [show ∀ (x : List UInt8) (c : UInt8) (r : List UInt8), x ++ (c :: r) = (x ++ [c]) ++ r from fun x c r => by simp]
    exact (byt_at (by simp [beL_len])).trans (u8n (by omega))
  · rw [e, ← List.append_assoc, ← List.append_assoc, ← List.append_assoc]
    rw [show ∀ (x : List UInt8) (c d : UInt8) (r : List UInt8), x ++ (c :: d :: r) = (x ++ [c, d]) ++ r from fun x c d r => by simp]
    exact nm2_at (by simp [beL_len]) (by omega)
  · rw [e, ← List.append_assoc, ← List.append_assoc, ← List.append_assoc]
    rw [show ∀ (x : List UInt8) (c d : UInt8) (r : List UInt8), x ++ (c :: d :: r) = (x ++ [c, d]) ++ r from fun x c d r => by simp]
    rw [← List.append_assoc, ← List.append_assoc]
    exact nm2_at (by simp [beL_len]) (by omega)
theorem wrO_le {x : OpR} : ∀ {l : List OpR}, x ∈ l → (wrO x).length ≤ (wrOs l).length
  | y :: r, h => by
    rw [wrOs_cons, List.length_append]
    rcases List.mem_cons.1 h with rfl | h
    · omega
    · have := wrO_le h
      omega
/-- DECODING INVERTS ENCODING. -/
theorem dec_encT {a b : AdR} {t : TcpR} {s : List UInt8} (hf : fitT t) (h : encT a b t = (s, 0)) : decT a b s = (t, 0) ∧ s.length = totT t ∧ t.pay.length ≤ 60000 := by
  have hsum := encT_sum h
  obtain ⟨hfit, hb, ho, hp, hs⟩ := encT_ok h
  have E := encT_at hb hf ho (sumT a b t) s hs
  have hlen : s.length = totT t := by rw [hs]; exact encT_len _ _
  have hw := (wrP_len t.ops).1
  have hw4 := (wrP_len t.ops).2
  have hpd := need_pad ho
  have hh : hlT t ≤ 60 ∧ 20 ≤ hlT t ∧ hlT t % 4 = 0 := by unfold hlT; omega
  have hH : hdT s = hlT t := by unfold hdT; rw [E.b12]; omega
  have hpre : ∀ c, s = preT t ++ (beL 2 c ++ postT t) → s = (preT t ++ beL 2 c ++ beL 2 t.urg.toNat) ++ (wrP t.ops ++ t.pay) := fun c e => by rw [e]; unfold postT; simp
  have hpl : (preT t ++ beL 2 (sumT a b t) ++ beL 2 t.urg.toNat).length = 20 := by simp [preT_len, beL_len]
  have e2 := hpre _ hs
  have hd : s.drop (hlT t) = t.pay := by
    rw [e2, ← List.append_assoc]
    exact List.drop_left' (by rw [List.length_append, hpl]; rfl)
  have hopt : (s.take (hlT t)).drop 20 = wrP t.ops := by
    rw [e2, ← List.append_assoc, List.take_left' (by rw [List.length_append, hpl]; rfl)]
    exact List.drop_left' hpl
  refine ⟨?_, hlen, hp⟩
  have htot : totT t ≤ 65535 := by unfold totT; omega
  unfold badT wrd at hb
  simp only [not_or, Classical.not_not] at hb
  obtain ⟨⟨a1, a2⟩, ⟨a3, a4⟩, ⟨a5, a6⟩, ⟨a7, a8⟩, ⟨a9, a10⟩, hk⟩ := hb
  have hdl : ∀ x ∈ t.ops, x.dat.length ≤ 253 := fun x hx => by
    have := wrO_le hx
    rw [wrO_len] at this
    omega
  have hod : optsD (wrP t.ops) = some t.ops := opts_round _ _ hk hdl
  unfold decT
  rw [if_neg (Classical.not_not.2 hfit), if_neg (by omega), if_neg (by unfold totT at hlen; omega), hH, if_neg (by omega), if_neg (by unfold totT at hlen; omega), if_neg (Classical.not_not.2 hsum), hopt, hod]
  simp only
  unfold outT
  rw [E.f0, E.f2, E.f4, E.f8, E.b13, E.f14, E.f18, hH, hd]
  rw [Nat.mod_eq_of_lt (by omega : t.fl.toNat < 64), Int.toNat_of_nonneg (by omega), Int.toNat_of_nonneg (by omega), Int.toNat_of_nonneg (by omega), Int.toNat_of_nonneg (by omega), Int.toNat_of_nonneg (by omega)]
/-- WHAT WAS DECODED IS ACCEPTED. -/
theorem enc_decT {a b : AdR} {S : List UInt8} {t : TcpR} (h : decT a b S = (t, 0)) (hp : t.pay.length ≤ 60000) : ∃ s, encT a b t = (s, 0) ∧ fitT t ∧ s.length ≤ S.length := by
  obtain ⟨l, hl, rfl, hfit, hle, h20, hhs, -⟩ := decT_ok h
  obtain ⟨g1, g2, g3⟩ := opts_ok _ _ l (Nat.le_refl _) hl
  have hh : hdT S ≤ 60 := by unfold hdT; have := byt_lt S 12; omega
  have hd4 : hdT S % 4 = 0 := by unfold hdT; omega
  rw [List.length_drop, List.length_take, Nat.min_eq_left hhs] at g2
  have hb : ¬ badT (outT S l) := by
    unfold badT outT wrd
    have b0 := nm2_lt S 0
    have b2 := nm2_lt S 2
    have b14 := nm2_lt S 14
    have b18 := nm2_lt S 18
    have hm : byt S 13 % 64 < 64 := Nat.mod_lt _ (by decide)
    simp only [not_or, Classical.not_not]
    exact ⟨by omega, by omega, by omega, by omega, by omega, g1⟩
  have hw := (wrP_len l).1
  have hpd : (wrOs l).length + padN (wrOs l).length ≤ hdT S - 20 := by unfold padN; omega
  refine ⟨preT (outT S l) ++ (beL 2 (sumT a b (outT S l)) ++ postT (outT S l)), ?_, ⟨nm4_lt S 4, nm4_lt S 8⟩, ?_⟩
  · unfold encT
    rw [if_neg hb, if_neg (show ¬ (40 < (wrOs (outT S l).ops).length ∨ 60000 < (outT S l).pay.length) by
      show ¬ (40 < (wrOs l).length ∨ 60000 < (outT S l).pay.length)
      omega), if_neg (Classical.not_not.2 hfit)]
  · rw [encT_len]
    have hpl : (outT S l).pay.length = S.length - hdT S := by show (S.drop (hdT S)).length = _; rw [List.length_drop]
    have hho : hlT (outT S l) = 20 + (wrP l).length := rfl
    unfold totT
    omega
theorem hd_pay {a b : AdR} {S : List UInt8} {t : TcpR} (h : decT a b S = (t, 0)) : t.pay.length + 20 ≤ S.length := by
  obtain ⟨l, hl, rfl, hfit, hle, h20, hhs, -⟩ := decT_ok h
  show (S.drop (hdT S)).length + 20 ≤ _
  rw [List.length_drop]
  omega
/-- A CHANGED BYTE IS NOTICED. -/
theorem dec_setT {a b : AdR} {t : TcpR} {s : List UInt8} (h : encT a b t = (s, 0)) {i : Nat} {c : UInt8} (hi : i < s.length) (hc : c ≠ s[i]) : (decT a b (s.set i c)).2 ≠ 0 := fun h0 => by
  have hsum := encT_sum h
  obtain ⟨q, hq⟩ : ∃ q, decT a b (s.set i c) = (q, 0) := ⟨_, Prod.ext rfl h0⟩
  obtain ⟨l, -, -, -, -, -, -, g⟩ := decT_ok hq
  rw [List.length_set] at g
  have e : psU a b 6 s.length ++ s.set i c = (psU a b 6 s.length ++ s).set ((psU a b 6 s.length).length + i) c := by
    rw [List.set_append_right _ _ (by omega), Nat.add_sub_cancel_left]
  rw [e] at g
  refine csum_set (l := psU a b 6 s.length ++ s) (i := (psU a b 6 s.length).length + i) (c := c) (by rw [List.length_append]; omega) ?_ hsum g
  rw [List.getElem_append_right (by omega)]
  simpa using hc
/-! ### Length, Scale, Stamps -/
/-- The data of the first option of a kind. -/
def optK (l : List OpR) (k : Int) : List UInt8 := ((l.find? (fun x => x.kd == k)).map (·.dat)).getD []
def scaT (t : TcpR) : Nat × Bool := if (optK t.ops 3).length = 1 then (min (byt (optK t.ops 3) 0) 14, true) else (0, false)
def staT (t : TcpR) : Nat × Nat × Bool := if (optK t.ops 8).length = 8 then (nm4 (optK t.ops 8) 0, nm4 (optK t.ops 8) 4, true) else (0, 0, false)
end Go.Proofs.YtmfoionlapcgkaaDoor

/- TCP segments in memory; the reference's number and family. -/
namespace Go.Proofs.YtmfoionlapcgkaaDoor
open Go.ChangeShapes Go.WideShapes Go.ChangeAt Go.RowKit
set_option linter.unusedVariables false
set_option maxRecDepth 100000

theorem tcpTy : BoxTy 31 9 := ⟨⟨_, Tryd.underlying31⟩, by kernel_rfl⟩
/-- A segment's cells. -/
def tcC (t : TcpR) (A : Option Addr) (c : Nat) (D : ByteArray) : Array Value :=
  #[.int .i64 t.src, .int .i64 t.dst, .int .u32 (t.seq : Int), .int .u32 (t.ack : Int), .int .i64 t.fl, .int .i64 t.win, .int .i64 t.urg, .slice A t.ops.length c, .string D]
/-- number, met by text. -/
theorem rnum14_any (S : List UInt8) (p n : Nat) (P N : Int) (hP : (p : Int) = P) (hN : (n : Int) = N) (hn : 1 ≤ n ∧ n ≤ 7) (h : p + n ≤ S.length) (hs : S.length ≤ 1000000) (w : World) :
    Calls Tryd.prog 34 #[.string (str S), .int .i64 P, .int .i64 N] w fun e w' => e = .returned (.int .i64 (num ((S.drop p).take n) : Nat)) ∧ w = w' := by
  subst hP hN
  have hsz := str_size S
  have H := Lib.hid (fun (W : World) => rget_ok (str S) (p : Int) (n : Int) W (by omega) (by omega) (by omega) (by omega) (by omega))
  have hsub : sub (str S) (p : Int).toNat (n : Int).toNat = (S.drop p).take n := by rw [Int.toNat_natCast, Int.toNat_natCast]; unfold sub; rw [str_toList]
  rw [hsub] at H
  clear hsub hsz
  generalize num ((S.drop p).take n) = X at *
  generalize str S = T at *
  go_enter Tryd.func34, Tryd.ntmps34
  go_wp2_with fail
  refine (H.out _).mono ?_
  rintro e w1 ⟨rfl, rfl⟩
  go_wp2_with fail
  go_ret
  exact ⟨rfl, rfl⟩
theorem rfine14 (v6 : Bool) (hi lo : Nat) (w : World) :
    Calls Tryd.prog 57 #[.agg #[.bool v6, .int .u64 (hi : Int), .int .u64 (lo : Int)]] w fun e w' => e = .returned (.bool (decide (fineU ⟨v6, hi, lo⟩))) ∧ Below w.heap.size w w' := by
  have := rvalid6_any v6 hi lo w
  rwa [vldA_fine ⟨v6, hi, lo⟩] at this
set_option maxHeartbeats 4000000 in
set_option maxRecDepth 40000 in
theorem rfam14_any (v1 v2 : Bool) (h1 l1 h2 l2 : Nat) (w : World) :
    Calls Tryd.prog 30 #[.agg #[.bool v1, .int .u64 (h1 : Int), .int .u64 (l1 : Int)], .agg #[.bool v2, .int .u64 (h2 : Int), .int .u64 (l2 : Int)]] w fun e w' => e = .returned (.bool (decide (fitU ⟨v1, h1, l1⟩ ⟨v2, h2, l2⟩))) ∧ Below w.heap.size w w' := by
  obtain ⟨R, hR⟩ : ∃ R, R = decide (fitU ⟨v1, h1, l1⟩ ⟨v2, h2, l2⟩) := ⟨_, rfl⟩
  rw [← hR]
  have c1 := fun W => rfine14 v1 h1 l1 W
  have c2 := fun W => rfine14 v2 h2 l2 W
  by_cases f1 : fineU ⟨v1, h1, l1⟩
  · rw [decide_eq_true f1] at c1
    have C1 := Lib.hid c1
    clear c1
    by_cases f2 : fineU ⟨v2, h2, l2⟩
    · rw [decide_eq_true f2] at c2
      have C2 := Lib.hid c2
      clear c2
      have hR2 := Lib.hid (show R = (v1 == v2) by
        rw [hR]
        by_cases hv : v1 = v2
        · rw [decide_eq_true (show fitU _ _ from ⟨f1, f2, hv⟩), beq_iff_eq.2 hv]
        · rw [decide_eq_false (show ¬ fitU _ _ from fun h => hv h.2.2), beq_eq_false_iff_ne.2 hv])
      clear hR f1 f2
      go_enter Tryd.func30, Tryd.ntmps30
      go_wp2_with fail
      obtain ⟨W0, hW⟩ : ∃ W0, W0 = (w.alloc (.cells #[.bool v1, .int .u64 h1, .int .u64 l1] 24)).alloc (.cells #[.bool v2, .int .u64 h2, .int .u64 l2] 24) := ⟨_, rfl⟩
      rw [← hW]
      have hT0 : Two W0 w.heap.size v1 h1 l1 v2 h2 l2 := by rw [hW]; exact two_new ..
      have hB0 : Below w.heap.size w W0 := by rw [hW]; exact ((Below.refl _ _).alloc (Nat.le_refl _) _).alloc (by simp) _
      clear hW
      refine (C1.out _).mono ?_
      rintro e w1 ⟨rfl, hb1⟩
      have hT1 := hT0.kept hb1
      have hB1 := hB0.trans (hb1.mono hB0.size)
      obtain ⟨q0, q1, q2, q3, q4, q5, q6⟩ := id hT1
      go_wp2_with fail
      refine (C2.out _).mono ?_
      rintro e w2 ⟨rfl, hb2⟩
      have hT2 := hT1.kept hb2
      have hB2 := hB1.trans (hb2.mono hB1.size)
      clear q0 q1 q2 q3 q4 q5 q6
      obtain ⟨q0, q1, q2, q3, q4, q5, q6⟩ := id hT2
      go_wp2_with fail
      go_ret
      exact ⟨by rw [hR2.out]; rfl, hB2⟩
    · rw [decide_eq_false f2] at c2
      have C2 := Lib.hid c2
      clear c2
      have hR2 := Lib.hid (show R = false by rw [hR]; exact decide_eq_false fun h => f2 h.2.1)
      clear hR f1 f2
      go_enter Tryd.func30, Tryd.ntmps30
      go_wp2_with fail
      obtain ⟨W0, hW⟩ : ∃ W0, W0 = (w.alloc (.cells #[.bool v1, .int .u64 h1, .int .u64 l1] 24)).alloc (.cells #[.bool v2, .int .u64 h2, .int .u64 l2] 24) := ⟨_, rfl⟩
      rw [← hW]
      have hT0 : Two W0 w.heap.size v1 h1 l1 v2 h2 l2 := by rw [hW]; exact two_new ..
      have hB0 : Below w.heap.size w W0 := by rw [hW]; exact ((Below.refl _ _).alloc (Nat.le_refl _) _).alloc (by simp) _
      clear hW
      refine (C1.out _).mono ?_
      rintro e w1 ⟨rfl, hb1⟩
      have hT1 := hT0.kept hb1
      have hB1 := hB0.trans (hb1.mono hB0.size)
      obtain ⟨q0, q1, q2, q3, q4, q5, q6⟩ := id hT1
      go_wp2_with fail
      refine (C2.out _).mono ?_
      rintro e w2 ⟨rfl, hb2⟩
      have hB2 := hB1.trans (hb2.mono hB1.size)
      clear q0 q1 q2 q3 q4 q5 q6
      go_wp2_with fail
      go_ret
      exact ⟨by rw [hR2.out]; rfl, hB2⟩
  · rw [decide_eq_false f1] at c1
    have C1 := Lib.hid c1
    clear c1 c2
    have hR2 := Lib.hid (show R = false by rw [hR]; exact decide_eq_false fun h => f1 h.1)
    clear hR f1
    go_enter Tryd.func30, Tryd.ntmps30
    go_wp2_with fail
    refine (C1.out _).mono ?_
    rintro e w1 ⟨rfl, hb1⟩
    go_wp2_with fail
    go_ret
    exact ⟨by rw [hR2.out]; rfl, (((Below.refl _ _).alloc (Nat.le_refl _) _).alloc (by simp) _).trans (hb1.mono (by simp; omega))⟩
end Go.Proofs.YtmfoionlapcgkaaDoor

/- Two addresses, a segment, as the laws of layer 14 take them. -/
namespace Go.Proofs.YtmfoionlapcgkaaDoor
open Go.ChangeShapes Go.WideShapes Go.ChangeAt Go.RowKit
set_option linter.unusedVariables false
set_option maxRecDepth 100000

theorem cellsEnds14 : Tryd.prog.cellsOf 26 = 6 := by kernel_rfl
theorem cellsTcp14 : Tryd.prog.cellsOf 31 = 9 := by kernel_rfl
theorem cellsU3214 : Tryd.prog.cellsOf 28 = 1 := by kernel_rfl
theorem nat_of_wf14 {x : Int} (h : (Lit.int .u32 x).wf = true) : ∃ n : Nat, x = n ∧ n < 4294967296 := by
  have h' : IntKind.u32.min ≤ x ∧ x ≤ IntKind.u32.max := by simpa [Lit.wf] using h
  have h0 : (0 : Int) ≤ x := h'.1
  have h1 : x ≤ 4294967295 := h'.2
  obtain ⟨k, rfl⟩ := Int.eq_ofNat_of_zero_le h0
  exact ⟨k, rfl, by omega⟩
theorem arr6_14 {cs : Array Value} (h : cs.size = 6) : ∃ c0 c1 c2 c3 c4 c5, cs = #[c0, c1, c2, c3, c4, c5] := by
  obtain ⟨l⟩ := cs
  match l, h with
  | [c0, c1, c2, c3, c4, c5], _ => exact ⟨c0, c1, c2, c3, c4, c5, rfl⟩
theorem arr9_14 {cs : Array Value} (h : cs.size = 9) : ∃ c0 c1 c2 c3 c4 c5 c6 c7 c8, cs = #[c0, c1, c2, c3, c4, c5, c6, c7, c8] := by
  obtain ⟨l⟩ := cs
  match l, h with
  | [c0, c1, c2, c3, c4, c5, c6, c7, c8], _ => exact ⟨c0, c1, c2, c3, c4, c5, c6, c7, c8, rfl⟩
variable {H : Type} {enc : TypeId × Value → H}
/-- The cells of a pair of addresses. -/
def endsC (a b : AdR) : Array Value := #[.bool a.v6, .int .u64 (a.hi : Int), .int .u64 (a.lo : Int), .bool b.v6, .int .u64 (b.hi : Int), .int .u64 (b.lo : Int)]
theorem in_ends14 {r : Reach} {w : World} {base b0 : Nat} {spare : Nat → Bool} {held : Bool} {v : Value} {d : DataW H} {p : List MemPlace} (hv : Value.okWide Tryd.prog w r b0 26 v) (h : DataW.Trod enc Tryd.prog w base spare held 26 v d p) :
    ∃ a b : AdR, fits13 a ∧ fits13 b ∧ v = .agg (endsC a b) := by
  have hs := Tryd.underlying26
  obtain ⟨cs, rfl, hsz⟩ := okWide_struct hs hv
  obtain ⟨c0, c1, c2, c3, c4, c5, rfl⟩ := arr6_14 (hsz.trans cellsEnds14)
  obtain ⟨fuel, hf⟩ := h
  obtain ⟨xs, k', _, hxy, _, hxl, hfs⟩ := DataW.trod_struct hs hf
  match xs, hxl with
  | [y0, y1], _ =>
    have g0 := hfs 0 _ rfl
    have g1 := hfs 1 _ rfl
    simp [cellsAd11, Value.cells] at g0 g1
    obtain ⟨s, hsf, rfl, rfl, rfl⟩ := open_ad11 g0
    obtain ⟨t, htf, rfl, rfl, rfl⟩ := open_ad11 g1
    exact ⟨s, t, hsf, htf, rfl⟩
/-- What a segment that comes in is known to be. -/
def tcpWf (x : TcpR) : Prop := ((Lit.int .i64 x.src).wf = true ∧ (Lit.int .i64 x.dst).wf = true ∧ (Lit.int .i64 x.fl).wf = true ∧ (Lit.int .i64 x.win).wf = true ∧ (Lit.int .i64 x.urg).wf = true) ∧ fitT x ∧ x.pay.length ≤ 281474976710656 ∧ x.ops.length ≤ maxLen ∧ ∀ y ∈ x.ops, optWf y
theorem in_tcp14 {r : Reach} {w : World} {base b0 : Nat} {spare : Nat → Bool} {held : Bool} {v : Value} {d : DataW H} {p : List MemPlace} (hv : Value.okWide Tryd.prog w r b0 31 v) (h : DataW.Trod enc Tryd.prog w base spare held 31 v d p) (hz : ∀ k ∈ d.weights Tryd.prog 31, k ≤ reachBytes) :
    ∃ (x : TcpR) (A : Option Addr) (c : Nat), tcpWf x ∧ v = .agg (tcC x A c (str x.pay)) ∧ RowL EOpt w A x.ops ∧ (A = none → c = 0) := by
  have hs := Tryd.underlying31
  obtain ⟨cs, rfl, hsz⟩ := okWide_struct hs hv
  obtain ⟨c0, c1, c2, c3, c4, c5, c6, c7, c8, rfl⟩ := arr9_14 (hsz.trans cellsTcp14)
  obtain ⟨fuel, hf⟩ := h
  obtain ⟨xs, k', _, hxy, _, hxl, hfs⟩ := DataW.trod_struct hs hf
  match xs, hxl with
  | [y0, y1, y2, y3, y4, y5, y6, y7, y8], _ =>
    have g0 := hfs 0 _ rfl
    have g1 := hfs 1 _ rfl
    have g2 := hfs 2 _ rfl
    have g3 := hfs 3 _ rfl
    have g4 := hfs 4 _ rfl
    have g5 := hfs 5 _ rfl
    have g6 := hfs 6 _ rfl
    have g7 := hfs 7 _ rfl
    have g8 := hfs 8 _ rfl
    simp [cellsInt11, cellsU3214, cellsStr11, cellsOps11, Value.cells] at g0 g1 g2 g3 g4 g5 g6 g7 g8
    obtain ⟨a0, e0, _, w0⟩ := DataW.trod_int Tryd.underlying3 g0
    obtain ⟨a1, e1, _, w1⟩ := DataW.trod_int Tryd.underlying3 g1
    obtain ⟨a2, e2, _, w2⟩ := DataW.trod_int Tryd.underlying28 g2
    obtain ⟨a3, e3, _, w3⟩ := DataW.trod_int Tryd.underlying28 g3
    obtain ⟨a4, e4, _, w4⟩ := DataW.trod_int Tryd.underlying3 g4
    obtain ⟨a5, e5, _, w5⟩ := DataW.trod_int Tryd.underlying3 g5
    obtain ⟨a6, e6, _, w6⟩ := DataW.trod_int Tryd.underlying3 g6
    obtain ⟨A, cap, l, e7, hr, hn, hl, hw⟩ := in_rowS (E := EOpt) (P := optWf) Tryd.underlying29 cellsOpt11 (fun fuel cs x hl h => open_opt11 fuel cs x hl h) g7 (fun k hk => hz k (by
      rw [show d = .agg [y0.1, y1.1, y2.1, y3.1, y4.1, y5.1, y6.1, y7.1, y8.1] from congrArg Prod.fst hxy]
      simp only [DataW.weights, hs]
      exact DataW.weights_mem_each (j := 7) (t := 29) (d := y7.1) rfl rfl _ hk))
    obtain ⟨q, e8, hy8, _⟩ := DataW.trod_string Tryd.underlying9 g8
    have hq : q.data.toList.length ≤ reachBytes := hz _ (by
      rw [show d = .agg [y0.1, y1.1, y2.1, y3.1, y4.1, y5.1, y6.1, y7.1, y8.1] from congrArg Prod.fst hxy]
      simp only [DataW.weights, hs]
      refine DataW.weights_mem_each (j := 8) (t := 9) (d := y8.1) rfl rfl _ ?_
      rw [hy8]
      exact weights_str _)
    obtain ⟨sq, rfl, hsq⟩ := nat_of_wf14 w2
    obtain ⟨ak, rfl, hak⟩ := nat_of_wf14 w3
    simp at e0 e1 e2 e3 e4 e5 e6 e7 e8
    subst e0 e1 e2 e3 e4 e5 e6 e7 e8
    refine ⟨⟨a0, a1, sq, ak, a4, a5, a6, l, q.data.toList⟩, A, cap, ⟨⟨w0, w1, w4, w5, w6⟩, ⟨hsq, hak⟩, Nat.le_trans hq (by decide), hl, hw⟩, ?_, hr, hn⟩
    unfold tcC
    simp only [str_of]
end Go.Proofs.YtmfoionlapcgkaaDoor
