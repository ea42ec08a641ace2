/- Contracts of the functions, part 5: Ip6Math, Ip6Math2, Ip4Math2. -/
import Derived.Test.YtjjldolafnfpoaaPE4
/- Plain mathematics of IPv6 packets: no Go in sight. -/
namespace Go.Proofs.Ytjjldolafnfpoaa
set_option linter.unusedVariables false

/-- A packet; an extension header is its kind and its data, as an option is. -/
structure Ip6R where
  cls : Int
  lab : Int
  hops : Int
  nxt : Int
  src : AdR
  dst : AdR
  exts : List OpR
  frg : Bool
  id : Int
  off : Int
  more : Bool
  pay : List UInt8
def zeroX : Ip6R := ⟨0, 0, 0, 0, ⟨false, 0, 0⟩, ⟨false, 0, 0⟩, [], false, 0, 0, false, []⟩
def nm8 (S : List UInt8) (i : Nat) : Nat := num ((S.drop i).take 8)
theorem nm8_lt (S : List UInt8) (i : Nat) : nm8 S i < 18446744073709551616 := by
  have h1 : ((S.drop i).take 8).length ≤ 8 := by rw [List.length_take]; omega
  exact Nat.lt_of_lt_of_le (num_lt _) (Nat.pow_le_pow_right (by omega) h1 : 256 ^ _ ≤ 256 ^ 8)
theorem nm8_at {a b : List UInt8} {i v : Nat} (hi : i = a.length) (hv : v < 18446744073709551616) : nm8 (a ++ (beL 8 v ++ b)) i = v := by
  unfold nm8
  subst hi
  rw [List.drop_left, List.take_left' (beL_len 8 v), num_beL 8 v (by omega)]
/-- The kinds of extension headers. -/
def extK (k : Int) : Prop := k = 0 ∨ k = 43 ∨ k = 60
instance (k : Int) : Decidable (extK k) := inferInstanceAs (Decidable (_ ∨ _))
/-! ### Reading the headers -/
structure St6 where
  nx : Nat
  exts : List OpR
  frg : Bool
  id : Nat
  off : Nat
  more : Bool
/-- There is a further header. -/
def hdK (k : Nat) : Prop := extK k ∨ k = 44
instance (k : Nat) : Decidable (hdK k) := inferInstanceAs (Decidable (_ ∨ _))
/-- The errors that a header may have; 0: none. -/
def bad6 (first : Bool) (s : St6) (r : List UInt8) : Nat :=
  if (s.nx = 0 ∧ first = false) ∨ s.frg = true then 2
  else if s.nx ≠ 44 ∧ s.exts.length = 8 then 9
  else if r.length < 8 ∨ s.nx ≠ 44 ∧ r.length < 8 + 8 * byt r 1 then 1
  else 0
def go6 (s : St6) (r : List UInt8) : St6 × List UInt8 :=
  if s.nx = 44 then (⟨byt r 0, s.exts, true, nm4 r 4, nm2 r 2 / 8 * 8, decide (byt r 3 % 2 = 1)⟩, r.drop 8)
  else (⟨byt r 0, s.exts ++ [⟨s.nx, (r.take (8 + 8 * byt r 1)).drop 2⟩], s.frg, s.id, s.off, s.more⟩, r.drop (8 + 8 * byt r 1))
/-- The headers from a place on: what was read, what is left, and the error. -/
def run6 : Nat → Bool → St6 → List UInt8 → (St6 × List UInt8) × Nat
  | 0, _, s, r => ((s, r), 0)
  | f + 1, first, s, r =>
    if hdK s.nx then if bad6 first s r ≠ 0 then ((s, r), bad6 first s r) else run6 f false (go6 s r).1 (go6 s r).2
    else ((s, r), 0)
def st6 (S : List UInt8) : St6 := ⟨byt S 6, [], false, 0, 0, false⟩
def outX (S : List UInt8) (s : St6) (r : List UInt8) : Ip6R :=
  ⟨((nm2 S 0 / 16 % 256 : Nat) : Int), ((nm4 S 0 % 1048576 : Nat) : Int), byt S 7, s.nx, ⟨true, nm8 S 8, nm8 S 16⟩, ⟨true, nm8 S 24, nm8 S 32⟩, s.exts, s.frg, s.id, s.off, s.more, r⟩
def decX (S : List UInt8) : Ip6R × Nat :=
  if S.length < 40 then (zeroX, 1)
  else if byt S 0 / 16 ≠ 6 then (zeroX, 2)
  else if S.length - 40 < nm2 S 4 then (zeroX, 1)
  else if (run6 (nm2 S 4 + 1) true (st6 S) ((S.drop 40).take (nm2 S 4))).2 ≠ 0 then (zeroX, (run6 (nm2 S 4 + 1) true (st6 S) ((S.drop 40).take (nm2 S 4))).2)
  else (outX S (run6 (nm2 S 4 + 1) true (st6 S) ((S.drop 40).take (nm2 S 4))).1.1 (run6 (nm2 S 4 + 1) true (st6 S) ((S.drop 40).take (nm2 S 4))).1.2, 0)
/-! ### Writing -/
def a6 (a : AdR) : Prop := a.v6 = true
instance (a : AdR) : Decidable (a6 a) := inferInstanceAs (Decidable (_ = _))
def badX (p : Ip6R) : Prop := (p.cls < 0 ∨ 255 < p.cls) ∨ (p.hops < 0 ∨ 255 < p.hops) ∨ (p.lab < 0 ∨ 1048575 < p.lab) ∨ (p.nxt < 0 ∨ 255 < p.nxt) ∨ extK p.nxt ∨ p.nxt = 44 ∨ p.src.v6 = false ∨ p.dst.v6 = false ∨
  (p.frg = false ∧ (p.id ≠ 0 ∨ p.off ≠ 0 ∨ p.more = true)) ∨ (p.frg = true ∧ (p.id < 0 ∨ 4294967296 ≤ p.id ∨ p.off < 0 ∨ 65528 < p.off ∨ p.off % 8 ≠ 0))
instance (p : Ip6R) : Decidable (badX p) := by unfold badX; infer_instance
/-- An extension header at a place is malformed. -/
def badE6 (x : OpR) (i : Nat) : Prop := ¬ extK x.kd ∨ (x.kd = 0 ∧ 0 < i) ∨ x.dat.length % 8 ≠ 6 ∨ 2046 < x.dat.length
instance (x : OpR) (i : Nat) : Decidable (badE6 x i) := by unfold badE6; infer_instance
def okE6 (l : List OpR) : Prop := ∀ (i : Nat) (x : OpR), l[i]? = some x → ¬ badE6 x i
def okE6B : List OpR → Nat → Bool
  | [], _ => true
  | x :: r, i => !decide (badE6 x i) && okE6B r (i + 1)
theorem okE6B_iff : ∀ (l : List OpR) (k : Nat), okE6B l k = true ↔ ∀ (i : Nat) (x : OpR), l[i]? = some x → ¬ badE6 x (k + i)
  | [], k => by simp [okE6B]
  | y :: r, k => by
    rw [okE6B, Bool.and_eq_true, okE6B_iff r (k + 1)]
    constructor
    · rintro ⟨h1, h2⟩ i x hx
      cases i with
      | zero =>
        obtain rfl := Option.some.inj hx
        simpa using h1
      | succ i =>
        have := h2 i x (by simpa using hx)
        rwa [show k + (i + 1) = k + 1 + i by omega]
    · intro h
      refine ⟨by simpa using h 0 y rfl, fun i x hx => ?_⟩
      have := h (i + 1) x (by simpa using hx)
      rwa [show k + (i + 1) = k + 1 + i by omega] at this
instance (l : List OpR) : Decidable (okE6 l) := decidable_of_iff (okE6B l 0 = true) (by rw [okE6B_iff]; simp only [Nat.zero_add]; exact Iff.rfl)
/-- The number of the first header and the bytes of all, before the bytes b whose kind is nx. -/
def wrX : List OpR → Nat → List UInt8 → Nat × List UInt8
  | [], nx, b => (nx, b)
  | x :: r, nx, b => (x.kd.toNat, UInt8.ofNat (wrX r nx b).1 :: UInt8.ofNat ((x.dat.length - 6) / 8) :: (x.dat ++ (wrX r nx b).2))
def frB (p : Ip6R) : List UInt8 := UInt8.ofNat p.nxt.toNat :: 0 :: (beL 2 (p.off.toNat + (if p.more then 1 else 0)) ++ beL 4 p.id.toNat)
/-- The kind and the bytes behind the extension headers. -/
def tlX (p : Ip6R) : Nat × List UInt8 := if p.frg then (44, frB p ++ p.pay) else (p.nxt.toNat, p.pay)
def bodX (p : Ip6R) : Nat × List UInt8 := wrX p.exts (tlX p).1 (tlX p).2
def hdX (p : Ip6R) : List UInt8 :=
  beL 4 (6 * 268435456 + p.cls.toNat * 1048576 + p.lab.toNat) ++ (beL 2 (bodX p).2.length ++ (UInt8.ofNat (bodX p).1 :: UInt8.ofNat p.hops.toNat :: (beL 8 p.src.hi ++ (beL 8 p.src.lo ++ (beL 8 p.dst.hi ++ beL 8 p.dst.lo)))))
def encX (p : Ip6R) : List UInt8 × Nat :=
  if badX p then ([], 4) else if 8 < p.exts.length then ([], 9) else if ¬ okE6 p.exts then ([], 2) else if 65535 < p.pay.length then ([], 3)
  else if 65535 < (bodX p).2.length then ([], 3) else (hdX p ++ (bodX p).2, 0)
theorem hdX_len (p : Ip6R) : (hdX p).length = 40 := by unfold hdX; simp [beL_len]
theorem frB_len (p : Ip6R) : (frB p).length = 8 := by unfold frB; simp [beL_len]
/-- The bytes of the extension headers. -/
def lenX (l : List OpR) : Nat := (l.map (fun x => 2 + x.dat.length)).sum
theorem wrX_len : ∀ (l : List OpR) (nx : Nat) (b : List UInt8), (wrX l nx b).2.length = lenX l + b.length
  | [], nx, b => by simp [wrX, lenX]
  | x :: r, nx, b => by
    have ih := wrX_len r nx b
    unfold lenX at ih ⊢
    simp only [wrX, List.length_cons, List.length_append, ih, List.map_cons, List.sum_cons]
    omega
theorem lenX_append (a b : List OpR) : lenX (a ++ b) = lenX a + lenX b := by unfold lenX; simp
theorem encX_ok {p : Ip6R} {s : List UInt8} (h : encX p = (s, 0)) : ¬ badX p ∧ p.exts.length ≤ 8 ∧ okE6 p.exts ∧ p.pay.length ≤ 65535 ∧ (bodX p).2.length ≤ 65535 ∧ s = hdX p ++ (bodX p).2 := by
  unfold encX at h
  split at h
  · simp at h
  · split at h
    · simp at h
    · split at h
      · simp at h
      · split at h
        · simp at h
        · split at h
          · simp at h
          · rename_i h1 h2 h3 h4 h5
            exact ⟨h1, by omega, Classical.not_not.1 h3, by omega, by omega, (Prod.mk.injEq .. ▸ h : _ ∧ _).1.symm⟩
theorem encX_mk {p : Ip6R} (h1 : ¬ badX p) (h2 : p.exts.length ≤ 8) (h3 : okE6 p.exts) (h5 : (bodX p).2.length ≤ 65535) : encX p = (hdX p ++ (bodX p).2, 0) := by
  have h4 : p.pay.length ≤ (bodX p).2.length := by
    unfold bodX tlX
    rw [wrX_len]
    split <;> simp <;> omega
  unfold encX
  rw [if_neg h1, if_neg (by omega), if_neg (Classical.not_not.2 h3), if_neg (by omega), if_neg (by omega)]
/-! ### Reading what was written -/
theorem byt_zero {c : UInt8} {l : List UInt8} : byt (c :: l) 0 = c.toNat := rfl
theorem byt_one {c d : UInt8} {l : List UInt8} : byt (c :: d :: l) 1 = d.toNat := rfl
theorem wrX_nx (l : List OpR) (nx : Nat) (b : List UInt8) (h : okE6 l) (hn : nx < 256) : (wrX l nx b).1 < 256 := by
  cases l with
  | nil => exact hn
  | cons x r =>
    have := h 0 x rfl
    unfold badE6 extK at this
    show x.kd.toNat < 256
    omega
theorem okE6_cons {x : OpR} {r : List OpR} (h : okE6 (x :: r)) : okE6 r := fun i y hy => by
  have h1 := h (i + 1) y (by simpa using hy)
  unfold badE6 at h1 ⊢
  intro e
  apply h1
  rcases e with e | ⟨e, -⟩ | e
  · exact .inl e
  · exact .inr (.inl ⟨e, by omega⟩)
  · exact .inr (.inr e)
/-- Kinds of headers that are not the first. -/
theorem okE6_rest {x : OpR} {r : List OpR} (h : okE6 (x :: r)) : ∀ (i : Nat) (y : OpR), r[i]? = some y → y.kd ≠ 0 := fun i y hy e => by
  have h1 := h (i + 1) y (by simpa using hy)
  exact h1 (.inr (.inl ⟨e, by omega⟩))
/-- THE HEADERS THAT WERE WRITTEN ARE READ. -/
theorem run6_wr : ∀ (l pre : List OpR) (f nx : Nat) (b : List UInt8) (first : Bool), okE6 l → (first = false → ∀ (i : Nat) (y : OpR), l[i]? = some y → y.kd ≠ 0) → pre.length + l.length ≤ 8 → nx < 256 →
    run6 (l.length + f) first ⟨(wrX l nx b).1, pre, false, 0, 0, false⟩ (wrX l nx b).2 = run6 f (first && l.isEmpty) ⟨nx, pre ++ l, false, 0, 0, false⟩ b
  | [], pre, f, nx, b, first, _, _, _, _ => by simp [wrX]
  | x :: r, pre, f, nx, b, first, ho, hf, hp, hn => by
    have hx := ho 0 x rfl
    have hr := okE6_cons ho
    have hk : extK x.kd := Classical.byContradiction fun e => hx (.inl e)
    have hl : x.dat.length % 8 = 6 ∧ x.dat.length ≤ 2046 := by unfold badE6 at hx; omega
    have hk2 : ((x.kd.toNat : Nat) : Int) = x.kd := by unfold extK at hk; omega
    have hnx := wrX_nx r nx b hr hn
    have hb1 : byt (wrX (x :: r) nx b).2 1 = (x.dat.length - 6) / 8 := (byt_one).trans (u8n (by omega))
    have hb0 : byt (wrX (x :: r) nx b).2 0 = (wrX r nx b).1 := (byt_zero).trans (u8n hnx)
    have h8 : 8 + 8 * ((x.dat.length - 6) / 8) = 2 + x.dat.length := by omega
    have hlen : (wrX (x :: r) nx b).2.length = 2 + x.dat.length + (wrX r nx b).2.length := by
      show (_ :: _ :: (x.dat ++ (wrX r nx b).2)).length = _
      simp only [List.length_cons, List.length_append]
      omega
    have hne : x.kd.toNat ≠ 44 := by unfold extK at hk; omega
    have hhd : hdK (⟨(wrX (x :: r) nx b).1, pre, false, 0, 0, false⟩ : St6).nx := (show hdK x.kd.toNat from .inl (by rw [hk2]; exact hk))
    have hfst : ¬ ((x.kd.toNat = 0 ∧ first = false) ∨ false = true) := by
      rintro (⟨h1, h2⟩ | h)
      · have := hf h2 0 x rfl
        omega
      · cases h
    have hbad : bad6 first ⟨(wrX (x :: r) nx b).1, pre, false, 0, 0, false⟩ (wrX (x :: r) nx b).2 = 0 := by
      unfold bad6
      rw [hb1, h8, hlen]
      show (if (x.kd.toNat = 0 ∧ first = false) ∨ false = true then 2 else if x.kd.toNat ≠ 44 ∧ pre.length = 8 then 9 else _) = 0
      simp only [List.length_cons] at hp
      rw [if_neg hfst, if_neg (by omega), if_neg (by omega)]
    have hgo : go6 ⟨(wrX (x :: r) nx b).1, pre, false, 0, 0, false⟩ (wrX (x :: r) nx b).2 = (⟨(wrX r nx b).1, pre ++ [x], false, 0, 0, false⟩, (wrX r nx b).2) := by
      unfold go6
      rw [hb1, h8, hb0]
      show (if x.kd.toNat = 44 then _ else (_, _)) = _
      rw [if_neg hne]
      have e1 : (((wrX (x :: r) nx b).2).take (2 + x.dat.length)).drop 2 = x.dat := by
        show ((_ :: _ :: (x.dat ++ (wrX r nx b).2)).take (2 + x.dat.length)).drop 2 = x.dat
        rw [show 2 + x.dat.length = x.dat.length + 1 + 1 by omega, List.take_succ_cons, List.take_succ_cons, List.drop_succ_cons, List.drop_succ_cons, List.drop_zero, List.take_left]
      have e2 : ((wrX (x :: r) nx b).2).drop (2 + x.dat.length) = (wrX r nx b).2 := by
        show (_ :: _ :: (x.dat ++ (wrX r nx b).2)).drop (2 + x.dat.length) = _
        rw [show 2 + x.dat.length = x.dat.length + 1 + 1 by omega, List.drop_succ_cons, List.drop_succ_cons, List.drop_left]
      rw [e1, e2]
      show ((⟨_, pre ++ [⟨((x.kd.toNat : Nat) : Int), x.dat⟩], false, 0, 0, false⟩ : St6), _) = _
      rw [hk2]
    rw [show (x :: r).length + f = (r.length + f) + 1 by simp; omega, run6, if_pos hhd, if_neg (by rw [hbad]; simp), hgo]
    dsimp only
    rw [run6_wr r (pre ++ [x]) f nx b false hr (fun _ => okE6_rest ho) (by simp at hp ⊢; omega) hn]
    simp
theorem hdK_not {p : Ip6R} (h : ¬ badX p) : ¬ hdK p.nxt.toNat := by
  unfold badX at h
  simp only [not_or] at h
  obtain ⟨-, -, -, h4, h5, h6, -⟩ := h
  unfold hdK
  intro e
  rcases e with e | e
  · apply h5
    unfold extK at e ⊢
    omega
  · omega
/-- The whole body is read. -/
theorem run6_bod {p : Ip6R} (h : ¬ badX p) (h2 : p.exts.length ≤ 8) (h3 : okE6 p.exts) (f : Nat) (hf : p.exts.length + 2 ≤ f) :
    run6 f true ⟨(bodX p).1, [], false, 0, 0, false⟩ (bodX p).2 = ((⟨p.nxt.toNat, p.exts, p.frg, p.id.toNat, p.off.toNat, p.more⟩, p.pay), 0) := by
  have hnk := hdK_not h
  obtain ⟨g, rfl⟩ : ∃ g, f = p.exts.length + (g + 2) := ⟨f - p.exts.length - 2, by omega⟩
  unfold badX at h
  simp only [not_or] at h
  obtain ⟨h1, -, -, h4, -, -, -, -, h9, h10⟩ := h
  have htl : (tlX p).1 < 256 := by unfold tlX; split <;> simp <;> omega
  unfold bodX
  rw [run6_wr p.exts [] (g + 2) _ _ true h3 (fun e => by cases e) (by simpa using h2) htl, List.nil_append]
  cases hfr : p.frg with
  | false =>
    have e1 : p.id = 0 ∧ p.off = 0 ∧ p.more = false := by
      rw [hfr] at h9
      have h9' : ¬ (p.id ≠ 0 ∨ p.off ≠ 0 ∨ p.more = true) := fun e => h9 ⟨rfl, e⟩
      simp only [not_or, Classical.not_not] at h9'
      exact ⟨h9'.1, h9'.2.1, by simpa using h9'.2.2⟩
    have e2 : tlX p = (p.nxt.toNat, p.pay) := by unfold tlX; rw [hfr]; rfl
    rw [e2, run6, if_neg hnk, e1.1, e1.2.1, e1.2.2]
    rfl
  | true =>
    have e1 : ¬ (p.id < 0 ∨ 4294967296 ≤ p.id ∨ p.off < 0 ∨ 65528 < p.off ∨ p.off % 8 ≠ 0) := fun e => h10 ⟨hfr, e⟩
    have e2 : tlX p = (44, frB p ++ p.pay) := by unfold tlX; rw [hfr]; rfl
    rw [e2]
    dsimp only
    obtain ⟨fl, hfl⟩ : ∃ fl, fl = p.off.toNat + (if p.more then 1 else 0) := ⟨_, rfl⟩
    have hfl2 : fl ≤ 65535 := by rw [hfl]; split <;> omega
    have hF : frB p ++ p.pay = UInt8.ofNat p.nxt.toNat :: 0 :: (beL 2 fl ++ (beL 4 p.id.toNat ++ p.pay)) := by unfold frB; rw [← hfl]; simp
    have b0 : byt (frB p ++ p.pay) 0 = p.nxt.toNat := by rw [hF]; exact (byt_zero).trans (u8n (by omega))
    have b2 : nm2 (frB p ++ p.pay) 2 = fl := by rw [hF]; exact nm2_at (a := [UInt8.ofNat p.nxt.toNat, 0]) (i := 2) rfl hfl2
    have b4 : nm4 (frB p ++ p.pay) 4 = p.id.toNat := by
      rw [hF]
      have := nm4_at (a := UInt8.ofNat p.nxt.toNat :: 0 :: beL 2 fl) (b := p.pay) (i := 4) (v := p.id.toNat) (by simp [beL_len]) (by omega)
      simpa using this
    have b3 : byt (frB p ++ p.pay) 3 = fl % 256 := by
      have hb : beL 2 fl = [UInt8.ofNat (fl / 256), UInt8.ofNat fl] := by
        unfold beL
        simp only [leL, List.reverse_cons, List.reverse_nil, List.nil_append, List.cons_append]
        congr 1
        · apply UInt8.toNat.inj; simp only [UInt8.toNat_ofNat']; omega
        · congr 1; apply UInt8.toNat.inj; simp only [UInt8.toNat_ofNat']; omega
      rw [hF, hb]
      show (UInt8.ofNat fl).toNat = _
      rw [UInt8.toNat_ofNat']
    have hbad : bad6 (true && p.exts.isEmpty) ⟨44, p.exts, false, 0, 0, false⟩ (frB p ++ p.pay) = 0 := by
      unfold bad6
      rw [if_neg (by simp), if_neg (by simp), if_neg (by rw [List.length_append, frB_len]; simp)]
    have hgo : go6 ⟨44, p.exts, false, 0, 0, false⟩ (frB p ++ p.pay) = (⟨p.nxt.toNat, p.exts, true, p.id.toNat, p.off.toNat, p.more⟩, p.pay) := by
      unfold go6
      rw [if_pos rfl, b0, b2, b3, b4, List.drop_left' (frB_len p)]
      have k1 : fl / 8 * 8 = p.off.toNat := by rw [hfl]; split <;> omega
      have k2 : decide (fl % 256 % 2 = 1) = p.more := by
        rw [hfl]
        cases hm : p.more with
        | true => simp; omega
        | false => simp; omega
      rw [k1, k2]
    rw [run6, if_pos (.inr rfl), if_neg (by rw [hbad]; simp), hgo]
    dsimp only
    rw [run6, if_neg hnk]
/-- The bytes of an encoded packet, piece by piece. -/
theorem encX_head {p : Ip6R} (h : ¬ badX p) (h3 : okE6 p.exts) (hb : (bodX p).2.length ≤ 65535) (hs1 : p.src.hi < 18446744073709551616) (hs2 : p.src.lo < 18446744073709551616) (hd1 : p.dst.hi < 18446744073709551616) (hd2 : p.dst.lo < 18446744073709551616) (T : List UInt8) :
    byt (hdX p ++ T) 0 / 16 = 6 ∧ nm2 (hdX p ++ T) 0 / 16 % 256 = p.cls.toNat ∧ nm4 (hdX p ++ T) 0 % 1048576 = p.lab.toNat ∧ nm2 (hdX p ++ T) 4 = (bodX p).2.length ∧ byt (hdX p ++ T) 6 = (bodX p).1 ∧ byt (hdX p ++ T) 7 = p.hops.toNat ∧
    nm8 (hdX p ++ T) 8 = p.src.hi ∧ nm8 (hdX p ++ T) 16 = p.src.lo ∧ nm8 (hdX p ++ T) 24 = p.dst.hi ∧ nm8 (hdX p ++ T) 32 = p.dst.lo := by
  have hnk : p.nxt.toNat < 256 := by unfold badX at h; simp only [not_or] at h; omega
  unfold badX at h
  simp only [not_or] at h
  obtain ⟨h1, h2, hlb, h4, -⟩ := h
  have htl : (tlX p).1 < 256 := by unfold tlX; split <;> simp <;> omega
  have hnx : (bodX p).1 < 256 := wrX_nx p.exts _ _ h3 htl
  obtain ⟨C, hC⟩ : ∃ C, C = p.cls.toNat := ⟨_, rfl⟩
  obtain ⟨L, hL⟩ : ∃ L, L = p.lab.toNat := ⟨_, rfl⟩
  have hCl : C ≤ 255 := by omega
  have hLl : L ≤ 1048575 := by omega
  obtain ⟨V, hV⟩ : ∃ V, V = 6 * 268435456 + C * 1048576 + L := ⟨_, rfl⟩
  have hVl : V < 4294967296 := by omega
  have e : hdX p ++ T = beL 4 V ++ (beL 2 (bodX p).2.length ++ (UInt8.ofNat (bodX p).1 :: UInt8.ofNat p.hops.toNat :: (beL 8 p.src.hi ++ (beL 8 p.src.lo ++ (beL 8 p.dst.hi ++ (beL 8 p.dst.lo ++ T)))))) := by
    unfold hdX
    rw [← hC, ← hL, ← hV]
    simp
  have e4 : beL 4 V = [UInt8.ofNat (V / 16777216), UInt8.ofNat (V / 65536), UInt8.ofNat (V / 256), UInt8.ofNat V] := by
    unfold beL
    simp only [leL, List.reverse_cons, List.reverse_nil, List.nil_append, List.cons_append, Nat.div_div_eq_div_mul]
    congr 1
    · apply UInt8.toNat.inj; simp only [UInt8.toNat_ofNat']; omega
    · congr 1
      · apply UInt8.toNat.inj; simp only [UInt8.toNat_ofNat']; omega
      · congr 1
        · apply UInt8.toNat.inj; simp only [UInt8.toNat_ofNat']; omega
        · congr 1; apply UInt8.toNat.inj; simp only [UInt8.toNat_ofNat']; omega
  have n4 : nm4 (hdX p ++ T) 0 = V := by rw [e]; exact nm4_at (a := []) (i := 0) rfl hVl
  have n2 : nm2 (hdX p ++ T) 0 = V / 65536 := by
    rw [e, e4]
    unfold nm2
    rw [List.drop_zero]
    show num [UInt8.ofNat (V / 16777216), UInt8.ofNat (V / 65536)] = _
    have : num [UInt8.ofNat (V / 16777216), UInt8.ofNat (V / 65536)] = (UInt8.ofNat (V / 16777216)).toNat * 256 + (UInt8.ofNat (V / 65536)).toNat := by simp [num]
    rw [this, UInt8.toNat_ofNat', UInt8.toNat_ofNat']
    omega
  have c0 : byt (hdX p ++ T) 0 = V / 16777216 := by
    rw [e, e4]
    exact (byt_zero).trans (u8n (by omega))
  refine ⟨by rw [c0]; omega, by rw [n2]; omega, by rw [n4]; omega, ?_, ?_, ?_, ?_, ?_, ?_, ?_⟩
  · rw [e]; exact nm2_at (by rw [beL_len]) hb
  · rw [e]
    have := byt_at (a := beL 4 V ++ beL 2 (bodX p).2.length) (b := UInt8.ofNat p.hops.toNat :: (beL 8 p.src.hi ++ (beL 8 p.src.lo ++ (beL 8 p.dst.hi ++ (beL 8 p.dst.lo ++ T))))) (i := 6) (c := UInt8.ofNat (bodX p).1) (by simp [beL_len])
    rw [u8n hnx] at this
    simpa using this
  · rw [e]
    have := byt_at (a := beL 4 V ++ (beL 2 (bodX p).2.length ++ [UInt8.ofNat (bodX p).1])) (b := beL 8 p.src.hi ++ (beL 8 p.src.lo ++ (beL 8 p.dst.hi ++ (beL 8 p.dst.lo ++ T)))) (i := 7) (c := UInt8.ofNat p.hops.toNat) (by simp [beL_len])
    rw [u8n (by omega)] at this
    simpa using this
  · rw [e]
    have := nm8_at (a := beL 4 V ++ (beL 2 (bodX p).2.length ++ [UInt8.ofNat (bodX p).1, UInt8.ofNat p.hops.toNat])) (b := beL 8 p.src.lo ++ (beL 8 p.dst.hi ++ (beL 8 p.dst.lo ++ T))) (i := 8) (v := p.src.hi) (by simp [beL_len]) hs1
    simpa using this
  · rw [e]
    have := nm8_at (a := beL 4 V ++ (beL 2 (bodX p).2.length ++ ([UInt8.ofNat (bodX p).1, UInt8.ofNat p.hops.toNat] ++ beL 8 p.src.hi))) (b := beL 8 p.dst.hi ++ (beL 8 p.dst.lo ++ T)) (i := 16) (v := p.src.lo) (by simp [beL_len]) hs2
    simpa using this
  · rw [e]
    have := nm8_at (a := beL 4 V ++ (beL 2 (bodX p).2.length ++ ([UInt8.ofNat (bodX p).1, UInt8.ofNat p.hops.toNat] ++ (beL 8 p.src.hi ++ beL 8 p.src.lo)))) (b := beL 8 p.dst.lo ++ T) (i := 24) (v := p.dst.hi) (by simp [beL_len]) hd1
    simpa using this
  · rw [e]
    have := nm8_at (a := beL 4 V ++ (beL 2 (bodX p).2.length ++ ([UInt8.ofNat (bodX p).1, UInt8.ofNat p.hops.toNat] ++ (beL 8 p.src.hi ++ (beL 8 p.src.lo ++ beL 8 p.dst.hi))))) (b := T) (i := 32) (v := p.dst.lo) (by simp [beL_len]) hd2
    simpa using this
def fit6 (p : Ip6R) : Prop := p.src.hi < 18446744073709551616 ∧ p.src.lo < 18446744073709551616 ∧ p.dst.hi < 18446744073709551616 ∧ p.dst.lo < 18446744073709551616
/-- DECODING INVERTS ENCODING. -/
theorem dec_enc6 {p : Ip6R} {s : List UInt8} (h : encX p = (s, 0)) (hft : fit6 p) (T : List UInt8) : decX (s ++ T) = (p, 0) ∧ s.length = 40 + (bodX p).2.length ∧ (bodX p).2.length ≤ 65535 := by
  obtain ⟨hb, he, ho, hp, hbl, rfl⟩ := encX_ok h
  have hl : (hdX p ++ (bodX p).2).length = 40 + (bodX p).2.length := by rw [List.length_append, hdX_len]
  refine ⟨?_, hl, hbl⟩
  rw [List.append_assoc]
  obtain ⟨c0, c1, c2, c3, c4, c5, c6, c7, c8, c9⟩ := encX_head hb ho hbl hft.1 hft.2.1 hft.2.2.1 hft.2.2.2 ((bodX p).2 ++ T)
  have hS : (hdX p ++ ((bodX p).2 ++ T)).length = 40 + (bodX p).2.length + T.length := by rw [List.length_append, List.length_append, hdX_len]; omega
  have hdr : ((hdX p ++ ((bodX p).2 ++ T)).drop 40).take (bodX p).2.length = (bodX p).2 := by
    rw [List.drop_left' (hdX_len p), List.take_left]
  have hel : lenX p.exts ≤ (bodX p).2.length := by unfold bodX; rw [wrX_len]; omega
  have hel2 : 2 * p.exts.length ≤ lenX p.exts := by
    unfold lenX
    induction p.exts with
    | nil => simp
    | cons x r ih => simp only [List.map_cons, List.sum_cons, List.length_cons]; omega
  have hfuel : p.exts.length + 2 ≤ (bodX p).2.length + 1 ∨ ((bodX p).2.length + 1 < p.exts.length + 2) := by omega
  have hrun : run6 ((bodX p).2.length + 1) true (st6 (hdX p ++ ((bodX p).2 ++ T))) (bodX p).2 = ((⟨p.nxt.toNat, p.exts, p.frg, p.id.toNat, p.off.toNat, p.more⟩, p.pay), 0) := by
    unfold st6
    rw [c4]
    rcases hfuel with hfu | hfu
    · exact run6_bod hb he ho _ hfu
    · -- no header at all
      have he0 : p.exts = [] := by
        apply List.eq_nil_of_length_eq_zero
        omega
      have hfr : p.frg = false := by
        cases hfr : p.frg with
        | false => rfl
        | true =>
          exfalso
          have : 8 ≤ (bodX p).2.length := by
            unfold bodX tlX
            rw [wrX_len, hfr, if_pos rfl]
            simp only [List.length_append, frB_len]
            omega
          omega
      have hbd : bodX p = (p.nxt.toNat, p.pay) := by unfold bodX tlX; rw [he0, hfr]; rfl
      have hid : p.id = 0 ∧ p.off = 0 ∧ p.more = false := by
        unfold badX at hb
        simp only [not_or] at hb
        obtain ⟨-, -, -, -, -, -, -, -, h9, -⟩ := hb
        have h9' : ¬ (p.id ≠ 0 ∨ p.off ≠ 0 ∨ p.more = true) := fun e => h9 ⟨hfr, e⟩
        simp only [not_or, Classical.not_not] at h9'
        exact ⟨h9'.1, h9'.2.1, by simpa using h9'.2.2⟩
      rw [hbd]
      rw [run6, if_neg (hdK_not hb), he0, hfr, hid.1, hid.2.1, hid.2.2]
      rfl
  unfold decX
  rw [c3, hdr, hrun, hS, if_neg (by omega), if_neg (by omega), if_neg (by omega), if_neg (by simp)]
  have hout : outX (hdX p ++ ((bodX p).2 ++ T)) ⟨p.nxt.toNat, p.exts, p.frg, p.id.toNat, p.off.toNat, p.more⟩ p.pay = p := by
    unfold outX
    rw [c1, c2, c5, c6, c7, c8, c9]
    unfold badX at hb
    simp only [not_or] at hb
    obtain ⟨h1, h2, h5, h4, -, -, h7, h8, h9, h10⟩ := hb
    have hs : p.src.v6 = true := by simpa using h7
    have hd : p.dst.v6 = true := by simpa using h8
    have i1 : 0 ≤ p.id ∧ 0 ≤ p.off := by
      cases hfr : p.frg with
      | false =>
        have h9' : ¬ (p.id ≠ 0 ∨ p.off ≠ 0 ∨ p.more = true) := fun e => h9 ⟨hfr, e⟩
        omega
      | true =>
        have e1 : ¬ (p.id < 0 ∨ 4294967296 ≤ p.id ∨ p.off < 0 ∨ 65528 < p.off ∨ p.off % 8 ≠ 0) := fun e => h10 ⟨hfr, e⟩
        omega
    obtain ⟨cls, lab, hops, nxt, ⟨sv, sh, sl⟩, ⟨dv, dh, dl⟩, exts, frg, id, off, more, pay⟩ := p
    dsimp only at *
    subst hs hd
    rw [Int.toNat_of_nonneg (by omega), Int.toNat_of_nonneg (by omega), Int.toNat_of_nonneg (by omega), Int.toNat_of_nonneg (by omega), Int.toNat_of_nonneg i1.1, Int.toNat_of_nonneg i1.2]
  rw [hout]
/-- Without its last byte an encoded packet is too short. -/
theorem dec_cut6 {p : Ip6R} {s : List UInt8} (h : encX p = (s, 0)) (hft : fit6 p) : (decX (s.take (s.length - 1))).2 = 1 := by
  obtain ⟨hb, he, ho, hp, hbl, rfl⟩ := encX_ok h
  have hl : (hdX p ++ (bodX p).2).length = 40 + (bodX p).2.length := by rw [List.length_append, hdX_len]
  rw [hl]
  rcases Nat.eq_zero_or_pos (bodX p).2.length with h0 | h0
  · unfold decX
    rw [if_pos (by rw [List.length_take, hl]; omega)]
  · have ht : (hdX p ++ (bodX p).2).take (40 + (bodX p).2.length - 1) = hdX p ++ (bodX p).2.take ((bodX p).2.length - 1) := by
      rw [show 40 + (bodX p).2.length - 1 = (hdX p).length + ((bodX p).2.length - 1) by rw [hdX_len]; omega, List.take_length_add_append]
    rw [ht]
    obtain ⟨c0, c1, c2, c3, -⟩ := encX_head hb ho hbl hft.1 hft.2.1 hft.2.2.1 hft.2.2.2 ((bodX p).2.take ((bodX p).2.length - 1))
    have hlt : (hdX p ++ (bodX p).2.take ((bodX p).2.length - 1)).length = 40 + ((bodX p).2.length - 1) := by rw [List.length_append, hdX_len, List.length_take]; omega
    unfold decX
    rw [c3, hlt, if_neg (by omega), if_neg (by omega), if_pos (by omega)]
end Go.Proofs.Ytjjldolafnfpoaa

/- Plain mathematics of IPv6 packets: what was decoded is accepted; splitting. -/
namespace Go.Proofs.Ytjjldolafnfpoaa
set_option linter.unusedVariables false

theorem decX_ok {S : List UInt8} {p : Ip6R} (h : decX S = (p, 0)) : ∃ s r, 40 ≤ S.length ∧ byt S 0 / 16 = 6 ∧ nm2 S 4 ≤ S.length - 40 ∧ run6 (nm2 S 4 + 1) true (st6 S) ((S.drop 40).take (nm2 S 4)) = ((s, r), 0) ∧ p = outX S s r := by
  unfold decX at h
  split at h
  · simp at h
  · split at h
    · simp at h
    · split at h
      · simp at h
      · split at h
        · rename_i h1
          simp only [Prod.mk.injEq] at h
          exact absurd h.2 h1
        · rename_i h1 h2 h3 h4
          exact ⟨_, _, by omega, by omega, by omega, Prod.ext rfl (Classical.not_not.1 h4), (Prod.mk.injEq .. ▸ h : _ ∧ _).1.symm⟩
theorem decX_bad {S : List UInt8} (h : (decX S).2 ≠ 0) : (decX S).1 = zeroX := by
  unfold decX at h ⊢
  split
  · rfl
  · split
    · rfl
    · split
      · rfl
      · split
        · rfl
        · rename_i h1 h2 h3 h4
          rw [if_neg h1, if_neg h2, if_neg h3, if_neg h4] at h
          exact absurd rfl h
theorem lenX_one (x : OpR) (l : List OpR) : lenX (x :: l) = 2 + x.dat.length + lenX l := by unfold lenX; simp
theorem run6_ok : ∀ (f : Nat) (first : Bool) (s : St6) (r : List UInt8) (s' : St6) (r' : List UInt8), r.length < f → run6 f first s r = ((s', r'), 0) → s.nx < 256 → s.exts.length ≤ 8 →
    ¬ hdK s'.nx ∧ s'.nx < 256 ∧ ∃ l, s'.exts = s.exts ++ l ∧ s'.exts.length ≤ 8 ∧ lenX l + r'.length + (if s'.frg = s.frg then 0 else 8) = r.length ∧
      (∀ (i : Nat) (x : OpR), l[i]? = some x → extK x.kd ∧ x.dat.length % 8 = 6 ∧ x.dat.length ≤ 2046 ∧ (x.kd = 0 → i = 0 ∧ first = true)) ∧
      ((s'.frg = s.frg ∧ s'.id = s.id ∧ s'.off = s.off ∧ s'.more = s.more) ∨ (s.frg = false ∧ s'.frg = true ∧ s'.id < 4294967296 ∧ s'.off ≤ 65528 ∧ s'.off % 8 = 0))
  | 0, first, s, r, s', r', hf, _, _, _ => absurd hf (by omega)
  | f + 1, first, s, r, s', r', hf, h, hn, he => by
    rw [run6] at h
    by_cases hk : hdK s.nx
    · rw [if_pos hk] at h
      by_cases hb : bad6 first s r ≠ 0
      · rw [if_pos hb] at h
        simp only [Prod.mk.injEq] at h
        exact absurd h.2 hb
      · rw [if_neg hb] at h
        have hb0 : bad6 first s r = 0 := by omega
        have hbb : ¬ ((s.nx = 0 ∧ first = false) ∨ s.frg = true) ∧ ¬ (s.nx ≠ 44 ∧ s.exts.length = 8) ∧ ¬ (r.length < 8 ∨ s.nx ≠ 44 ∧ r.length < 8 + 8 * byt r 1) := by
          unfold bad6 at hb0
          split at hb0
          · omega
          · split at hb0
            · omega
            · split at hb0
              · omega
              · rename_i k1 k2 k3
                exact ⟨k1, k2, k3⟩
        obtain ⟨k1, k2, k3⟩ := hbb
        have hfr : s.frg = false := by
          cases e : s.frg with
          | false => rfl
          | true => exact absurd (.inr e) k1
        have h0 := byt_lt r 0
        have h1 := byt_lt r 1
        by_cases h44 : s.nx = 44
        · have hgo : go6 s r = (⟨byt r 0, s.exts, true, nm4 r 4, nm2 r 2 / 8 * 8, decide (byt r 3 % 2 = 1)⟩, r.drop 8) := by unfold go6; rw [if_pos h44]
          rw [hgo] at h
          obtain ⟨i1, i2, l, i3, i4, i5, i6, i7⟩ := run6_ok f false _ _ s' r' (by rw [List.length_drop]; omega) h h0 he
          dsimp only at i3 i5 i7
          have hs' : s'.frg = true := by
            rcases i7 with ⟨e, -⟩ | ⟨e, -⟩
            · exact e
            · cases e
          refine ⟨i1, i2, l, i3, i4, ?_, fun i x hx => ?_, .inr ⟨hfr, hs', ?_⟩⟩
          · rw [if_pos hs'] at i5
            rw [if_neg (by rw [hs', hfr]; simp)]
            rw [List.length_drop] at i5
            omega
          · obtain ⟨j1, j2, j3, j4⟩ := i6 i x hx
            exact ⟨j1, j2, j3, fun e => absurd (j4 e).2 (by simp)⟩
          · rcases i7 with ⟨_, e1, e2, _⟩ | ⟨e, _⟩
            · have b4 := nm4_lt r 4
              have b2 := nm2_lt r 2
              rw [e1, e2]
              omega
            · cases e
        · have hgo : go6 s r = (⟨byt r 0, s.exts ++ [⟨s.nx, (r.take (8 + 8 * byt r 1)).drop 2⟩], s.frg, s.id, s.off, s.more⟩, r.drop (8 + 8 * byt r 1)) := by unfold go6; rw [if_neg h44]
          rw [hgo] at h
          have hlr : 8 + 8 * byt r 1 ≤ r.length := by omega
          have hdl : ((r.take (8 + 8 * byt r 1)).drop 2).length = 6 + 8 * byt r 1 := by rw [List.length_drop, List.length_take]; omega
          obtain ⟨i1, i2, l, i3, i4, i5, i6, i7⟩ := run6_ok f false _ _ s' r' (by rw [List.length_drop]; omega) h h0 (by simp; omega)
          dsimp only at i3 i5 i7
          refine ⟨i1, i2, ⟨s.nx, (r.take (8 + 8 * byt r 1)).drop 2⟩ :: l, by rw [i3]; simp, i4, ?_, fun i x hx => ?_, i7⟩
          · rw [lenX_one]
            dsimp only
            rw [hdl]
            rw [List.length_drop] at i5
            omega
          · cases i with
            | zero =>
              obtain rfl := Option.some.inj hx
              dsimp only
              refine ⟨?_, by omega, by omega, fun e => ⟨rfl, ?_⟩⟩
              · rcases hk with hk | hk
                · exact hk
                · exact absurd hk h44
              · cases hfi : first with
                | true => rfl
                | false => exact absurd (.inl ⟨by omega, hfi⟩) k1
            | succ i =>
              obtain ⟨j1, j2, j3, j4⟩ := i6 i x (by simpa using hx)
              exact ⟨j1, j2, j3, fun e => absurd (j4 e).2 (by simp)⟩
    · rw [if_neg hk] at h
      simp only [Prod.mk.injEq] at h
      obtain ⟨⟨rfl, rfl⟩, -⟩ := h
      exact ⟨hk, hn, [], by simp, he, by simp [lenX], fun i x hx => by simp at hx, .inl ⟨rfl, rfl, rfl, rfl⟩⟩
theorem bodX_len (p : Ip6R) : (bodX p).2.length = lenX p.exts + (if p.frg then 8 else 0) + p.pay.length := by
  unfold bodX tlX
  rw [wrX_len]
  split
  · simp only [List.length_append, frB_len]; omega
  · simp
/-- WHAT WAS DECODED IS ACCEPTED. -/
theorem enc_dec6 {S : List UInt8} {p : Ip6R} (h : decX S = (p, 0)) : ∃ t, encX p = (t, 0) ∧ t.length ≤ S.length ∧ fit6 p ∧ p.exts.length ≤ 8 ∧ (∀ x ∈ p.exts, x.dat.length ≤ 2046) ∧ p.pay.length ≤ 65535 := by
  obtain ⟨s, r, h1, h2, h3, h4, rfl⟩ := decX_ok h
  have hl : ((S.drop 40).take (nm2 S 4)).length = nm2 S 4 := by rw [List.length_take, List.length_drop]; omega
  obtain ⟨i1, i2, l, i3, i4, i5, i6, i7⟩ := run6_ok _ _ _ _ s r (by rw [hl]; omega) h4 (byt_lt S 6) (by simp [st6])
  rw [hl] at i5
  have ht := nm2_lt S 4
  have e3 : s.exts = l := by rw [i3]; rfl
  have hbl : (bodX (outX S s r)).2.length = nm2 S 4 := by
    rw [bodX_len, ← i5]
    show lenX s.exts + (if s.frg then 8 else 0) + r.length = lenX l + r.length + (if s.frg = false then 0 else 8)
    rw [e3]
    cases s.frg <;> simp <;> omega
  have hbx : ¬ badX (outX S s r) := by
    unfold badX outX
    have b0 := byt_lt S 7
    have b4 := nm4_lt S 0
    simp only [not_or]
    refine ⟨⟨by omega, by omega⟩, ⟨by omega, by omega⟩, ⟨by omega, by omega⟩, ⟨by omega, by omega⟩, fun e => i1 (.inl e), fun e => i1 (.inr (by omega)), by simp, by simp, ?_, ?_⟩
    · rintro ⟨hf, e⟩
      rcases i7 with ⟨g1, g2, g3, g4⟩ | ⟨g1, g2, -⟩
      · rw [g2, g3, g4] at e
        simp [st6] at e
      · rw [hf] at g2
        cases g2
    · rintro ⟨hf, e⟩
      rcases i7 with ⟨g1, -⟩ | ⟨g1, g2, g3, g4, g5⟩
      · rw [hf] at g1
        cases g1
      · omega
  have hok : okE6 (outX S s r).exts := fun i x hx => by
    have hx' : l[i]? = some x := by rw [← e3]; exact hx
    obtain ⟨j1, j2, j3, j4⟩ := i6 i x hx'
    unfold badE6
    rintro (e | ⟨e1, e2⟩ | e | e)
    · exact e j1
    · have := (j4 e1).1
      omega
    · omega
    · omega
  have henc := encX_mk hbx (show s.exts.length ≤ 8 from i4) hok (by rw [hbl]; omega)
  refine ⟨_, henc, ?_, ⟨nm8_lt _ _, nm8_lt _ _, nm8_lt _ _, nm8_lt _ _⟩, i4, fun x hx => ?_, ?_⟩
  · rw [List.length_append, hdX_len, hbl]; omega
  · obtain ⟨i, hi⟩ := List.mem_iff_getElem?.1 (show x ∈ s.exts from hx)
    rw [e3] at hi
    exact (i6 i x hi).2.2.1
  · show r.length ≤ _
    omega
/-! ### Splitting -/
def routedX (p : Ip6R) : Bool := p.exts.any (fun x => x.kd == 43)
def partX (p : Ip6R) (d : List UInt8) (at_ : Nat) (more : Bool) (id : Int) : Ip6R := { p with frg := true, id := id, off := (at_ : Int), more := more, pay := d }
/-- The parts from a place on, or the error of one. -/
def partsX (p : Ip6R) (size : Nat) (id : Int) : Nat → Nat → List Ip6R × Nat
  | 0, _ => ([], 0)
  | f + 1, a =>
    if (encX (partX p ((p.pay.drop a).take size) a (decide (a + size < p.pay.length)) id)).2 ≠ 0 then ([], (encX (partX p ((p.pay.drop a).take size) a (decide (a + size < p.pay.length)) id)).2)
    else if a + size < p.pay.length then
      if (partsX p size id f (a + size)).2 ≠ 0 then ([], (partsX p size id f (a + size)).2)
      else (partX p ((p.pay.drop a).take size) a (decide (a + size < p.pay.length)) id :: (partsX p size id f (a + size)).1, 0)
    else ([partX p ((p.pay.drop a).take size) a (decide (a + size < p.pay.length)) id], 0)
def splitX (p : Ip6R) (size id : Int) : List Ip6R × Nat :=
  if (encX p).2 ≠ 0 then ([], (encX p).2)
  else if size < 1 ∨ size % 8 ≠ 0 ∨ id < 0 ∨ 4294967296 ≤ id then ([], 4)
  else if p.frg = true then ([], 10)
  else partsX p size.toNat id (p.pay.length + 1) 0
/-- What the law says of the parts from a place on. -/
def PartsX (p : Ip6R) (size : Nat) (id : Int) (a : Nat) (l : List Ip6R) : Prop :=
  (l.flatMap (·.pay)) = p.pay.drop a ∧ l ≠ [] ∧ ∀ (i : Nat) (x : Ip6R), l[i]? = some x →
    (encX x).2 = 0 ∧ x.frg = true ∧ x.id = id ∧ x.off = ((a + ((l.take i).flatMap (·.pay)).length : Nat) : Int) ∧ x.more = decide (i + 1 < l.length) ∧ x.pay.length ≤ size ∧ (i + 1 < l.length → x.pay.length = size) ∧ x.exts = p.exts ∧ x.src = p.src ∧ x.dst = p.dst
theorem parts6_ok {p : Ip6R} {size : Nat} {id : Int} (hs : 1 ≤ size) : ∀ (f a : Nat) (l : List Ip6R), p.pay.length < a + f → a ≤ p.pay.length → 0 < f → partsX p size id f a = (l, 0) → PartsX p size id a l
  | 0, _, _, _, _, hf, _ => absurd hf (by omega)
  | f + 1, a, l, hfa, hal, _, hp => by
    rw [partsX] at hp
    split at hp
    · rename_i h1
      simp only [Prod.mk.injEq] at hp
      exact absurd hp.2 h1
    · rename_i h1
      have h1' := Classical.not_not.1 h1
      split at hp
      · rename_i h2
        split at hp
        · rename_i h3
          simp only [Prod.mk.injEq] at hp
          exact absurd hp.2 h3
        · rename_i h3
          obtain ⟨r, hr⟩ : ∃ r, partsX p size id f (a + size) = (r, 0) := ⟨_, Prod.ext rfl (Classical.not_not.1 h3)⟩
          rw [hr] at hp
          simp only [Prod.mk.injEq, and_true] at hp
          subst hp
          obtain ⟨i1, i2, i3⟩ := parts6_ok hs f (a + size) r (by omega) (by omega) (by omega) hr
          have hr0 : 0 < r.length := List.length_pos_iff.2 i2
          have hd : ((p.pay.drop a).take size).length = size := by rw [List.length_take, List.length_drop]; omega
          refine ⟨?_, by simp, fun i x hx => ?_⟩
          · rw [List.flatMap_cons, i1]
            show (p.pay.drop a).take size ++ p.pay.drop (a + size) = _
            rw [← List.drop_drop, List.take_append_drop]
          · match i with
            | 0 =>
              obtain rfl := Option.some.inj hx
              refine ⟨h1', rfl, rfl, by simp [partX], ?_, Nat.le_of_eq hd, fun _ => hd, rfl, rfl, rfl⟩
              show decide (a + size < p.pay.length) = _
              rw [decide_eq_true h2, eq_comm, decide_eq_true_eq, List.length_cons]
              omega
            | i + 1 =>
              rw [List.getElem?_cons_succ] at hx
              obtain ⟨j1, j2, j3, j4, j5, j6, j7, j8, j9⟩ := i3 i x hx
              refine ⟨j1, j2, j3, ?_, ?_, j6, fun hlt => j7 (by simp at hlt; omega), j8, j9⟩
              · rw [j4, List.take_succ_cons, List.flatMap_cons, List.length_append]
                have : (partX p ((p.pay.drop a).take size) a (decide (a + size < p.pay.length)) id).pay.length = size := hd
                rw [this]
                congr 1
                omega
              · rw [j5, List.length_cons]
                simp
      · rename_i h2
        simp only [Prod.mk.injEq, and_true] at hp
        subst hp
        have hd : (p.pay.drop a).take size = p.pay.drop a := List.take_of_length_le (by rw [List.length_drop]; omega)
        refine ⟨?_, by simp, fun i x hx => ?_⟩
        · show ((p.pay.drop a).take size) ++ [] = _
          rw [hd, List.append_nil]
        · match i with
          | 0 =>
            simp only [List.getElem?_cons_zero, Option.some.injEq] at hx
            subst hx
            refine ⟨h1', rfl, rfl, by simp [partX], ?_, ?_, fun hlt => by simp at hlt, rfl, rfl, rfl⟩
            · show decide (a + size < p.pay.length) = _
              rw [decide_eq_false h2]
              simp
            · show ((p.pay.drop a).take size).length ≤ _
              rw [List.length_take]
              omega
          | i + 1 => simp at hx
theorem split6_ok {p : Ip6R} {size id : Int} {l : List Ip6R} (h : splitX p size id = (l, 0)) : (encX p).2 = 0 ∧ (1 ≤ size ∧ size % 8 = 0 ∧ 0 ≤ id ∧ id < 4294967296) ∧ p.frg = false ∧ PartsX p size.toNat id 0 l := by
  unfold splitX at h
  split at h
  · rename_i h1
    simp only [Prod.mk.injEq] at h
    exact absurd h.2 h1
  · rename_i h1
    split at h
    · simp at h
    · rename_i h2
      split at h
      · simp at h
      · rename_i h3
        exact ⟨Classical.not_not.1 h1, by omega, by simpa using h3, parts6_ok (by omega) _ 0 _ (by omega) (by omega) (by omega) h⟩
theorem parts6_bad {p : Ip6R} {size : Nat} {id : Int} : ∀ (f a : Nat), (partsX p size id f a).2 ≠ 0 → (partsX p size id f a).1 = []
  | 0, _, h => absurd rfl h
  | f + 1, a, h => by
    rw [partsX] at h ⊢
    split
    · rfl
    · rename_i h1
      split
      · rename_i h2
        split
        · rfl
        · rename_i h3
          rw [if_neg h1, if_pos h2, if_neg h3] at h
          exact absurd rfl h
      · rename_i h2
        rw [if_neg h1, if_neg h2] at h
        exact absurd rfl h
theorem split6_bad {p : Ip6R} {size id : Int} (h : (splitX p size id).2 ≠ 0) : (splitX p size id).1 = [] := by
  unfold splitX at h ⊢
  split
  · rfl
  · split
    · rfl
    · split
      · rfl
      · rename_i h1 h2 h3
        rw [if_neg h1, if_neg h2, if_neg h3] at h
        exact parts6_bad _ _ h
end Go.Proofs.Ytjjldolafnfpoaa

/- Plain mathematics of IPv4 packets: what was decoded is accepted; a changed byte is noticed; splitting. -/
namespace Go.Proofs.Ytjjldolafnfpoaa
set_option linter.unusedVariables false

theorem decI_ok {S : List UInt8} {p : Ip4R} (h : decI S = (p, 0)) : ∃ l, optsD ((S.take (hdL S)).drop 20) = some l ∧ p = outI S l ∧ 20 ≤ S.length ∧ 20 ≤ hdL S ∧ hdL S ≤ S.length ∧ nm2 S 2 ≤ S.length ∧ hdL S ≤ nm2 S 2 ∧ nm2 S 6 < 32768 ∧ csum (S.take (hdL S)) = 0 := by
  unfold decI at h
  split at h
  · simp at h
  · split at h
    · simp at h
    · split at h
      · simp at h
      · split at h
        · simp at h
        · split at h
          · simp at h
          · split at h
            · simp at h
            · rename_i h1 h2 h3 h4 h5 _ l hl
              split at h
              · simp at h
              · rename_i h6
                exact ⟨l, hl, (Prod.mk.injEq .. ▸ h : _ ∧ _).1.symm, by omega, by omega, by omega, by omega, by omega, by omega, by omega⟩
theorem decI_bad {S : List UInt8} (h : (decI S).2 ≠ 0) : (decI S).1 = zeroI := by
  unfold decI at h ⊢
  split
  · rfl
  · split
    · rfl
    · split
      · rfl
      · split
        · rfl
        · split
          · rfl
          · split
            · rfl
            · split
              · rfl
              · rename_i h1 h2 h3 h4 h5 _ l hl h6
                rw [if_neg h1, if_neg h2, if_neg h3, if_neg h4, if_neg h5, hl] at h
                simp only at h
                rw [if_neg h6] at h
                exact absurd rfl h
/-- WHAT WAS DECODED IS ACCEPTED. -/
theorem enc_dec4 {S : List UInt8} {p : Ip4R} (h : decI S = (p, 0)) : ∃ t, encI p = (t, 0) ∧ t.length ≤ S.length ∧ 20 + p.pay.length ≤ t.length := by
  obtain ⟨l, hl, rfl, h1, h2, h3, h4, h5, h6, -⟩ := decI_ok h
  obtain ⟨g1, g2, g3⟩ := opts_ok _ _ l (Nat.le_refl _) hl
  have hh : hdL S ≤ 60 := by unfold hdL; omega
  have hd4 : hdL S % 4 = 0 := by unfold hdL; omega
  rw [List.length_drop, List.length_take, Nat.min_eq_left h3] at g2
  have ht := nm2_lt S 2
  have hb : ¬ badI (outI S l) := by
    unfold badI outI a4
    have b1 := byt_lt S 1
    have b8 := byt_lt S 8
    have b9 := byt_lt S 9
    have b4 := nm2_lt S 4
    have s4 := nm4_lt S 12
    have d4 := nm4_lt S 16
    simp only [not_or, Classical.not_not]
    refine ⟨by omega, by omega, by omega, by omega, by omega, ⟨trivial, trivial, s4⟩, ⟨trivial, trivial, d4⟩, ?_⟩
    rintro ⟨x, hx, hk⟩
    have := g1 x hx
    omega
  have hp : (outI S l).pay.length = nm2 S 2 - hdL S := by show ((S.take (nm2 S 2)).drop (hdL S)).length = _; rw [List.length_drop, List.length_take]; omega
  have hw := (wrP_len l).1
  have hpd : (wrOs l).length + padN (wrOs l).length ≤ hdL S - 20 := by unfold padN; omega
  have hho : hlI (outI S l) ≤ hdL S := by show 20 + (wrP l).length ≤ _; omega
  have hto : totI (outI S l) ≤ nm2 S 2 := by unfold totI; rw [hp]; omega
  refine ⟨headI (outI S l) ++ (outI S l).pay, ?_, ?_, ?_⟩
  · unfold encI
    rw [if_neg hb, if_neg (show ¬ 40 < (wrOs (outI S l).ops).length by show ¬ 40 < (wrOs l).length; omega), if_neg (by omega)]
  · rw [List.length_append, headI_len]
    have : hlI (outI S l) + (outI S l).pay.length = totI (outI S l) := rfl
    omega
  · rw [List.length_append, headI_len]
    unfold hlI
    omega
/-! ### A changed byte -/
theorem wsum_set : ∀ (l : List UInt8) (i : Nat) (c : UInt8) (h : i < l.length), (wsum (l.set i c) : Int) = wsum l + ((c.toNat : Int) - (l[i].toNat : Int)) * (if i % 2 = 0 then 256 else 1)
  | [a], 0, c, _ => by simp [wsum]; omega
  | a :: b :: l, 0, c, _ => by simp [wsum]; omega
  | a :: b :: l, 1, c, _ => by simp [wsum]; omega
  | a :: b :: l, i + 2, c, h => by
    have ih := wsum_set l i c (by simp at h; omega)
    simp only [List.set_cons_succ, wsum, List.getElem_cons_succ, Int.natCast_add]
    rw [ih, show (i + 2) % 2 = i % 2 by omega]
    omega
theorem csum_set {l : List UInt8} {i : Nat} {c : UInt8} (h : i < l.length) (hc : c ≠ l[i]) (h0 : csum l = 0) : csum (l.set i c) ≠ 0 := fun h1 => by
  have e0 := csum_zero h0
  have e1 := csum_zero h1
  have hs := wsum_set l i c h
  have hne : c.toNat ≠ l[i].toNat := fun e => hc (UInt8.toNat.inj e)
  have b1 := c.toNat_lt
  have b2 := l[i].toNat_lt
  split at hs <;> omega
/-- A CHANGED BYTE OF THE HEADER IS NOTICED. -/
theorem dec_set {p : Ip4R} {s : List UInt8} (h : encI p = (s, 0)) {i : Nat} {c : UInt8} (h1 : 1 ≤ i) (h2 : i < hlI p) (hi : i < s.length) (hc : c ≠ s[i]) : (decI (s.set i c)).2 ≠ 0 := fun h0 => by
  obtain ⟨hb, ho, ht, rfl⟩ := encI_ok h
  obtain ⟨q, hq⟩ : ∃ q, decI ((headI p ++ p.pay).set i c) = (q, 0) := ⟨_, Prod.ext rfl h0⟩
  obtain ⟨l, -, -, g1, g2, g3, g4, g5, g6, g7⟩ := decI_ok hq
  have E := enc4 hb ho ht p.pay
  have hpd := need_pad ho
  have hw := (wrP_len p.ops).1
  have hw4 := (wrP_len p.ops).2
  have hh : hlI p ≤ 60 ∧ 20 ≤ hlI p ∧ hlI p % 4 = 0 := by unfold hlI; omega
  have hHD : hdL ((headI p ++ p.pay).set i c) = hlI p := by
    have e : byt ((headI p ++ p.pay).set i c) 0 = byt (headI p ++ p.pay) 0 := by
      unfold byt
      rw [List.getD_eq_getElem?_getD, List.getD_eq_getElem?_getD, List.getElem?_set_ne (by omega)]
    unfold hdL
    rw [e, E.b0]
    omega
  rw [hHD, ← headI_len p, List.take_set, List.take_left] at g7
  have hil : i < (headI p).length := by rw [headI_len]; exact h2
  rw [List.getElem_append_left hil] at hc
  exact csum_set hil hc (headI_sum p) g7
/-! ### Splitting -/
def isRoute (k : Int) : Bool := k == 131 || k == 137
def routedI (p : Ip4R) : Bool := p.ops.any (fun x => isRoute x.kd)
/-- The options of the part at a place. -/
def opsAt (l : List OpR) (at_ : Nat) : List OpR := l.filter (fun x => at_ == 0 || decide (128 ≤ x.kd))
def partI (p : Ip4R) (d : List UInt8) (off : Int) (more : Bool) (at_ : Nat) : Ip4R := { p with ops := opsAt p.ops at_, pay := d, off := off, more := more }
/-- The parts from a place on; none: an offset is too great. -/
def partsI (p : Ip4R) (size : Nat) : Nat → Nat → Option (List Ip4R)
  | 0, _ => some []
  | f + 1, at_ =>
    if 65528 < p.off + at_ then none
    else if p.pay.length - at_ ≤ size then some [partI p (p.pay.drop at_) (p.off + at_) p.more at_]
    else (partsI p size f (at_ + size)).map (fun l => partI p ((p.pay.drop at_).take size) (p.off + at_) true at_ :: l)
def splitI (p : Ip4R) (size : Int) : List Ip4R × Nat :=
  if size < 8 ∨ size % 8 ≠ 0 then ([], 4)
  else if (encI p).2 ≠ 0 then ([], (encI p).2)
  else if (p.pay.length : Int) ≤ size then ([partI p p.pay p.off p.more 0], 0)
  else if p.dont = true then ([], 10)
  else match partsI p size.toNat (p.pay.length + 1) 0 with
    | none => ([], 4)
    | some l => (l, 0)
theorem opsAt_sub (l : List OpR) (a : Nat) : (wrOs (opsAt l a)).length ≤ (wrOs l).length := by
  induction l with
  | nil => exact Nat.le_refl _
  | cons x r ih =>
    unfold opsAt at ih ⊢
    rw [List.filter_cons]
    split
    · rw [wrOs_cons, wrOs_cons, List.length_append, List.length_append]; omega
    · rw [wrOs_cons, List.length_append]; omega
theorem padN_mono {a b : Nat} (h : a ≤ b) : a + padN a ≤ b + padN b := by unfold padN; omega
/-- A part is accepted. -/
theorem part_ok {p : Ip4R} {s : List UInt8} (h : encI p = (s, 0)) {d : List UInt8} {off : Int} {more : Bool} {a : Nat} (hd : d.length ≤ p.pay.length) (h0 : 0 ≤ off) (h1 : off ≤ 65528) (h8 : off % 8 = 0) : (encI (partI p d off more a)).2 = 0 := by
  obtain ⟨hb, ho, ht, -⟩ := encI_ok h
  have hso := opsAt_sub p.ops a
  have hpm := padN_mono hso
  have e1 := (wrP_len p.ops).1
  have e2 := (wrP_len (opsAt p.ops a)).1
  have hb2 : ¬ badI (partI p d off more a) := by
    unfold badI at hb ⊢
    simp only [not_or] at hb ⊢
    obtain ⟨h3, h4, h5, h6, -, h7, h9, hk⟩ := hb
    refine ⟨h3, h4, h5, h6, ⟨by show ¬ off < 0; omega, by show ¬ 65528 < off; omega, by show ¬ off % 8 ≠ 0; omega⟩, h7, h9, ?_⟩
    rintro ⟨x, hx, hxk⟩
    exact hk ⟨x, (List.mem_filter.1 hx).1, hxk⟩
  have ht2 : ¬ 65535 < totI (partI p d off more a) := by
    have : totI (partI p d off more a) = 20 + (wrP (opsAt p.ops a)).length + d.length := rfl
    unfold totI hlI at ht
    omega
  unfold encI
  rw [if_neg hb2, if_neg (show ¬ 40 < (wrOs (partI p d off more a).ops).length by show ¬ 40 < (wrOs (opsAt p.ops a)).length; omega), if_neg ht2]
/-- What the law says of the parts from a place on. -/
def PartsP (p : Ip4R) (size : Nat) (at_ : Nat) (l : List Ip4R) : Prop :=
  (l.flatMap (·.pay)) = p.pay.drop at_ ∧ l ≠ [] ∧ ∀ (i : Nat) (x : Ip4R), l[i]? = some x →
    (encI x).2 = 0 ∧ x.off = p.off + (at_ + ((l.take i).flatMap (·.pay)).length : Nat) ∧ x.id = p.id ∧ x.pay.length ≤ size ∧ x.more = (decide (i + 1 < l.length) || p.more)
theorem parts_ok {p : Ip4R} {s : List UInt8} (h : encI p = (s, 0)) {size : Nat} (hs : 8 ≤ size) (hs8 : size % 8 = 0) : ∀ (f at_ : Nat) (l : List Ip4R), p.pay.length < at_ + f * 8 → at_ % 8 = 0 → at_ ≤ p.pay.length → 0 < f → partsI p size f at_ = some l → PartsP p size at_ l
  | 0, _, _, _, _, _, hf, _ => absurd hf (by omega)
  | f + 1, a, l, hfa, ha8, hal, _, hp => by
    obtain ⟨hb, -⟩ := encI_ok h
    have hoff : 0 ≤ p.off ∧ p.off % 8 = 0 := by
      unfold badI at hb
      simp only [not_or] at hb
      obtain ⟨-, -, -, -, ⟨g1, g2, g3⟩, -⟩ := hb
      omega
    rw [partsI] at hp
    split at hp
    · cases hp
    · rename_i h1
      split at hp
      · rename_i h2
        obtain rfl := Option.some.inj hp
        refine ⟨by simp [partI], by simp, fun i x hx => ?_⟩
        match i with
        | 0 =>
          simp at hx
          subst hx
          exact ⟨part_ok h (by rw [List.length_drop]; omega) (by omega) (by omega) (by omega), by simp [partI], rfl, by show (p.pay.drop a).length ≤ size; rw [List.length_drop]; omega, by simp [partI]⟩
        | i + 1 => simp at hx
      · rename_i h2
        cases e : partsI p size f (a + size) with
        | none => rw [e] at hp; cases hp
        | some r =>
          rw [e] at hp
          obtain rfl := Option.some.inj hp
          have hf0 : 0 < f := by
            rcases Nat.eq_zero_or_pos f with rfl | h
            · omega
            · exact h
          obtain ⟨i1, i2, i3⟩ := parts_ok h hs hs8 f (a + size) r (by omega) (by omega) (by omega) hf0 e
          refine ⟨?_, by simp, fun i x hx => ?_⟩
          · rw [List.flatMap_cons, i1]
            show (p.pay.drop a).take size ++ p.pay.drop (a + size) = _
            rw [← List.drop_drop, List.take_append_drop]
          · match i with
            | 0 =>
              simp at hx
              subst hx
              have hr : 0 < r.length := List.length_pos_iff.2 i2
              exact ⟨part_ok h (by rw [List.length_take, List.length_drop]; omega) (by omega) (by omega) (by omega), by simp [partI], rfl, by show ((p.pay.drop a).take size).length ≤ size; rw [List.length_take]; omega, by simp [partI]; omega⟩
            | i + 1 =>
              rw [List.getElem?_cons_succ] at hx
              obtain ⟨j1, j2, j3, j4, j5⟩ := i3 i x hx
              refine ⟨j1, ?_, j3, j4, ?_⟩
              · rw [j2, List.take_succ_cons, List.flatMap_cons, List.length_append]
                have : (partI p ((p.pay.drop a).take size) (p.off + a) true a).pay.length = size := by show ((p.pay.drop a).take size).length = size; rw [List.length_take, List.length_drop]; omega
                rw [this]
                congr 1
                omega
              · rw [j5, List.length_cons]
                congr 1
                simp
theorem split_ok {p : Ip4R} {size : Int} {l : List Ip4R} (h : splitI p size = (l, 0)) : PartsP p size.toNat 0 l := by
  unfold splitI at h
  split at h
  · simp at h
  · rename_i h1
    split at h
    · rename_i h2
      simp only [Prod.mk.injEq] at h
      exact absurd h.2 h2
    · rename_i h2
      obtain ⟨s, hs⟩ : ∃ s, encI p = (s, 0) := ⟨_, Prod.ext rfl (by omega)⟩
      split at h
      · rename_i h3
        obtain rfl := (Prod.mk.injEq .. ▸ h : _ ∧ _).1.symm
        obtain ⟨hb, -⟩ := encI_ok hs
        have hoff : 0 ≤ p.off ∧ p.off ≤ 65528 ∧ p.off % 8 = 0 := by
          unfold badI at hb
          simp only [not_or] at hb
          obtain ⟨-, -, -, -, ⟨g1, g2, g3⟩, -⟩ := hb
          omega
        refine ⟨by simp [partI], by simp, fun i x hx => ?_⟩
        match i with
        | 0 =>
          simp at hx
          subst hx
          exact ⟨part_ok hs (Nat.le_refl _) hoff.1 hoff.2.1 hoff.2.2, by simp [partI], rfl, by show p.pay.length ≤ _; omega, by simp [partI]⟩
        | i + 1 => simp at hx
      · rename_i h3
        split at h
        · simp at h
        · cases e : partsI p size.toNat (p.pay.length + 1) 0 with
          | none => rw [e] at h; simp at h
          | some r =>
            rw [e] at h
            obtain rfl := (Prod.mk.injEq .. ▸ h : _ ∧ _).1.symm
            exact parts_ok hs (by omega) (by omega) _ 0 _ (by omega) (by omega) (by omega) (by omega) e
theorem split_bad {p : Ip4R} {size : Int} (h : (splitI p size).2 ≠ 0) : (splitI p size).1 = [] := by
  unfold splitI at h ⊢
  split
  · rfl
  · split
    · rfl
    · split
      · rename_i h1 h2 h3
        rw [if_neg h1, if_neg h2, if_pos h3] at h
        exact absurd rfl h
      · split
        · rfl
        · rename_i h1 h2 h3 h4
          rw [if_neg h1, if_neg h2, if_neg h3, if_neg h4] at h
          cases e : partsI p size.toNat (p.pay.length + 1) 0 with
          | none => rfl
          | some r => rw [e] at h; exact absurd rfl h
end Go.Proofs.Ytjjldolafnfpoaa
