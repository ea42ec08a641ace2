/- Contracts of the functions, part 6: SetPMin, PfxBlk, SetPOf, SetSub, SetPOps, SetPUni, SetSame, SetPVal, Awk07, SetRef0. -/
import Derived.Deep.LoopGhost
import Derived.Shelf.Spec.SlicesGrow
import Derived.Deep.QuietTactic
import Derived.Laws.StructEq
import Derived.Deep.RegionHeld3
import Derived.Test.YtmcelgnifpfjpaaAPr3
import Derived.Test.YtmcelgnifpfjpaaAPr4
import Derived.Test.YtmcelgnifpfjpaaAPr5
/- Contract of the program of layer 7: Minus. -/
namespace Go.Proofs.Ytmcelgnifpfjpaa
open Go.ChangeShapes Go.WideShapes Go.ChangeAt Go.RowKit
set_option linter.unusedVariables false

theorem mi_start {w w2 w3 w5 : World} {bs : Nat} {As : Option Addr} {ns n5 cs : Nat} {I I5 : List Rg} {A2 : Option Addr} {n2 c2 : Nat} {R : List Rg} {o : Obj} (ho : o = .cells #[.slice A2 n2 c2] 22) (h2 : Below w.heap.size w w2) (hbs : w.heap.size ≤ bs) (sb : bs < w2.heap.size) (so : OwnR w2 w.heap.size As ns cs I)
    (hn : ∀ j, (Value.slice As ns cs).ownBlock = some j → j ≠ bs) (h3 : Below w2.heap.size w2 w3) (ob : OwnR w3 w2.heap.size A2 n2 c2 R) (h5 : (w3.alloc o).grownBy w5 (some bs)) (s5 : SBR w5 bs As n5 cs) (hI : n5 ≤ ns) (hI5 : I5 = I.take n5) (x1 : Bool) (x2 x3 : Nat) (x4 : Bool) (x5 x6 : Nat) :
    ∃ t, MI w (w5.alloc (.cells #[.bool x1, .int .u64 x2, .int .u64 x3, .bool x4, .int .u64 x5, .int .u64 x6] 43)) t bs As n5 cs I5 none 0 0 [] w3.heap.size A2 n2 c2 R w5.heap.size x1 x2 x3 x4 x5 x6 := by
  have hB4 : Below w2.heap.size w2 (w3.alloc o) := h3.alloc h3.size _
  have hz : (w3.alloc o).heap.size = w3.heap.size + 1 := by simp
  have hw5 := h5.size
  have hfb : FBR (w3.alloc o) w3.heap.size A2 n2 c2 := by rw [ho]; exact heap_alloc_new w3 _
  have hsz := h3.size
  have nf : some w3.heap.size ≠ some bs := fun e => by have := Option.some.inj e; omega
  have o4 : OwnR (w3.alloc o) w3.heap.size none 0 0 [] := OwnR.nil _ _
  have os4 := (so.kept hB4).2
  have hr : OwnR w5 w2.heap.size A2 n2 c2 R := ⟨ob.1, own_only (ob.al o).2 h5 (fun c hc e => by have := (ob.2.lt c hc).1; have := Option.some.inj e; omega)⟩
  have hown : (Value.slice As n5 cs).ownBlock = (Value.slice As ns cs).ownBlock := by cases As <;> rfl
  have hcut := own_cut (E := ER) (m := n5) (own_only os4 h5 (fun c hc e => hn c hc (Option.some.inj e))) so.1 hI
  have hB5 : Below w.heap.size w w5 := (h2.trans (hB4.mono h2.size)).grown h5 (by have := h2.size; omega) (fun k hk => by cases hk; exact hbs)
  have hc := own_cap ob.2
  refine ⟨fun y => if y = bs then 1 else if y = w3.heap.size then 4 else if y = w5.heap.size then 6 else if y < w2.heap.size then 2 else 5, hB5.alloc hB5.size _, hbs, by have := h2.size; omega, hB5.size, s5.kept (below_alloc6 _ _), OwnR.al ⟨by rw [hI5, List.length_take, ← so.1]; omega, by rw [hI5]; exact hcut⟩ _, (OwnR.nil w5 w.heap.size).al _, (hfb.only h5 nf).kept (below_alloc6 _ _), (hr.al _).row, ⟨ob.1, hc.1, hc.2⟩, rb_new w5 x1 x2 x3 x4 x5 x6, ?_, fun j hj => ?_, fun j hj => by simp [Value.ownBlock] at hj, ?_, fun a e => ?_, ?_⟩
  · simp
  · rw [hown] at hj
    have h6 := (so.2.lt j hj)
    simp only [if_neg (hn j hj), if_neg (show ¬ j = w3.heap.size by omega), if_neg (show ¬ j = w5.heap.size by omega), if_pos h6.2]
  · simp only [if_neg (show ¬ w3.heap.size = bs by omega)]
    simp
  · have h6 := ob.2.lt a.block (by rw [e]; rfl)
    refine ⟨by simp; omega, ?_⟩
    simp only [if_neg (show ¬ a.block = bs by omega), if_neg (show ¬ a.block = w3.heap.size by omega), if_neg (show ¬ a.block = w5.heap.size by omega), if_neg (show ¬ a.block < w2.heap.size by omega)]
  · simp only [if_neg (show ¬ w5.heap.size = bs by omega), if_neg (show ¬ w5.heap.size = w3.heap.size by omega)]
    simp
/-- take, whether or not the stack has an element: S, its first one on top. -/
theorem takeR_all (b base : Nat) (A : Option Addr) (n c : Nat) (S : List Rg) (w : World) (hb : SBR w b A n c) (ho : OwnR w base A n c S.reverse) (hn : n ≤ 1000000) (hne : ∀ j, (Value.slice A n c).ownBlock = some j → j ≠ b) :
    Calls Try.prog 51 #[.pointer (some ⟨b, 0, none⟩)] w fun e w' => ∃ (v1 : Bool) (h1 l1 : Nat) (v2 : Bool) (h2 l2 : Nat) (d : Bool), e = .returned (.tuple #[.agg #[.bool v1, .int .u64 h1, .int .u64 l1, .bool v2, .int .u64 h2, .int .u64 l2], .bool d]) ∧ SBR w' b A (n - 1) c ∧ w.grownBy w' (some b) ∧ (d = false → S = []) ∧ (d = true → ∃ L, S = ⟨⟨v1, h1, l1⟩, ⟨v2, h2, l2⟩⟩ :: L) := by
  cases S with
  | nil =>
    obtain rfl : n = 0 := ho.1
    refine (takeR_none b A c w hb).mono ?_
    rintro e w' ⟨rfl, h⟩
    exact ⟨false, 0, 0, false, 0, 0, false, rfl, hb.kept h, grown_below h _, fun _ => rfl, fun e => Bool.noConfusion e⟩
  | cons x L =>
    refine (takeR_any b base A n c L.reverse x w hb (by simpa using ho) hn hne).mono ?_
    rintro e w' ⟨rfl, h1, h2⟩
    exact ⟨x.lo.v, x.lo.h, x.lo.l, x.hi.v, x.hi.h, x.hi.l, true, rfl, h1, h2, fun e => Bool.noConfusion e, fun _ => ⟨L, rfl⟩⟩
theorem take_rev {n : Nat} {S : List Rg} (h : n = S.reverse.length) : S.reverse.take (n - 1) = S.tail.reverse := by
  cases S with
  | nil => simp
  | cons x L =>
    rw [List.reverse_cons, List.tail_cons, show n - 1 = L.reverse.length by rw [h]; simp, List.take_left]
theorem minI_took {f : Int → Bool} {N : Nat} {F S R : List Rg} {x : Rg} {d : Bool} (h : MinI f N F S R) (h0 : d = false → S = []) (h1 : d = true → ∃ L, S = x :: L) : (d = false → S.tail = [] ∧ MinI f N F [] R) ∧ (d = true → MinI f N F (x :: S.tail) R ∧ muS (x :: S.tail) R ≤ muS S R) :=
  ⟨fun e => by have := h0 e; subst this; exact ⟨rfl, h⟩, fun e => by obtain ⟨L, rfl⟩ := h1 e; exact ⟨h, Nat.le_refl _⟩⟩
theorem MI.took2 {w W : World} {t : Nat → Nat} {bs : Nat} {As : Option Addr} {ns cs : Nat} {Ao : Option Addr} {no co : Nat} {F : List Rg} {bf : Nat} {Af : Option Addr} {nf cf : Nat} {R : List Rg} {gr : Nat} {v1 : Bool} {h1 l1 : Nat} {v2 : Bool} {h2 l2 : Nat} {W' : World} {S : List Rg} (h : MI w W t bs As ns cs S.reverse Ao no co F bf Af nf cf R gr v1 h1 l1 v2 h2 l2) (hs : SBR W' bs As (ns - 1) cs) (hg : W.grownBy W' (some bs)) : MI w W' t bs As (ns - 1) cs S.tail.reverse Ao no co F bf Af nf cf R gr v1 h1 l1 v2 h2 l2 := by
  cases S with
  | nil =>
    have h0 : ns = 0 := h.sr.1
    subst h0
    have ns2 : ∀ j, (Value.slice As 0 cs).ownBlock = some j → j ≠ bs := fun j hj e => by have a := h.t2 j hj; rw [e, h.t1] at a; omega
    have no2 : ∀ j, (Value.slice Ao no co).ownBlock = some j → j ≠ bs := fun j hj e => by have a := h.t3 j hj; rw [e, h.t1] at a; omega
    have nf2 : bf ≠ bs := fun e => by have a := h.t4; rw [e, h.t1] at a; omega
    have nr2 : ∀ a, Af = some a → a.block ≠ bs := fun a e0 e => by have a := (h.t5 a e0).2; rw [e, h.t1] at a; omega
    have ng : gr ≠ bs := fun e => by have a := h.t6; rw [e, h.t1] at a; omega
    exact ⟨h.B.grown hg h.B.size (fun k hk => by cases hk; exact h.bge), h.bge, h.fge, h.gge, hs, ⟨h.sr.1, own_only h.sr.2 hg (fun c hc e => ns2 c hc (Option.some.inj e))⟩, ⟨h.or.1, own_only h.or.2 hg (fun c hc e => no2 c hc (Option.some.inj e))⟩, h.fb.only hg (fun e => nf2 (Option.some.inj e)), h.fr.only hg (fun a e0 e => nr2 a e0 (Option.some.inj e)), h.fn, h.rb.grown hg (fun e => ng (Option.some.inj e)), h.t1, h.t2, h.t3, h.t4, fun a e => ⟨Nat.lt_of_lt_of_le (h.t5 a e).1 hg.size, (h.t5 a e).2⟩, h.t6⟩
  | cons x L => exact MI.took (x := x) (I := L.reverse) (by simpa using h) hs hg
theorem rngV_def (x : Rg) : rngV x = .agg #[.bool x.lo.v, .int .u64 x.lo.h, .int .u64 x.lo.l, .bool x.hi.v, .int .u64 x.hi.h, .int .u64 x.hi.l] := rfl
set_option maxHeartbeats 40000000 in
set_option maxRecDepth 20000 in
theorem pminus_any (A1 A2 : Option Addr) (c1 c2 : Nat) (a b : List Rg) (w : World) (h1 : RowL ER w A1 a) (h2 : RowL ER w A2 b) (f1 : ∀ r ∈ a, r.fits) (f2 : ∀ r ∈ b, r.fits) (hl1 : a.length ≤ 10000) (hl2 : b.length ≤ 10000) :
    Calls Try.prog 23 #[.slice A1 a.length c1, .slice A2 b.length c2] w (SetO w w.heap.size (fun m => anyS (spnL a) m && !anyS (spnL b) m) (a.length + b.length)) := by
  have HN1 := Lib.hid (fun W (hb : Below w.heap.size w W) => pnormal_any A1 c1 a W (h1.kept hb) f1 (by omega))
  have HN2 := Lib.hid (fun W (hb : Below w.heap.size w W) => pnormal_any A2 c2 b W (h2.kept hb) f2 (by omega))
  obtain ⟨na, hna⟩ : ∃ n, n = a.length := ⟨_, rfl⟩
  obtain ⟨nb, hnb⟩ : ∃ n, n = b.length := ⟨_, rfl⟩
  rw [← hna] at HN1 hl1
  rw [← hnb] at HN2 hl2
  rw [← hna, ← hnb]
  obtain ⟨f, hf⟩ : ∃ f : Int → Bool, f = (fun m => anyS (spnL a) m && !anyS (spnL b) m) := ⟨_, rfl⟩
  have HFD := Lib.hid (show ∀ m, f m = (anyS (spnL a) m && !anyS (spnL b) m) from fun m => by rw [hf])
  rw [← hf]
  clear h1 h2 f1 f2 hna hnb hf
  obtain ⟨W0, hW0⟩ : ∃ W, W = w.alloc (.cells #[.slice none 0 0] 55) := ⟨_, rfl⟩
  obtain ⟨bs, hbs⟩ : ∃ b, b = w.heap.size := ⟨_, rfl⟩
  have HB0 := Lib.hid (show Below w.heap.size w W0 from by rw [hW0]; exact below_alloc6 _ _)
  have HS0 := Lib.hid (show SBR W0 bs none 0 0 from by rw [hW0, hbs]; exact heap_alloc_new w _)
  have HZ0 := Lib.hid (show W0.heap.size = bs + 1 ∧ w.heap.size ≤ bs from by rw [hW0, hbs]; exact ⟨by simp, Nat.le_refl _⟩)
  go_enter Try.func23, Try.ntmps23
  go_wp2_with fail
  rw [← hW0, ← hbs]
  clear hW0 hbs
  refine (HN1.out W0 HB0.out).mono ?_
  rintro e w1 ⟨L1, B1, n1, d1, g1, g2, g3, rfl, g5, hb⟩
  have HL1 := Lib.hid (And.intro g1 (And.intro g2 g3))
  have HS1 := Lib.hid (HS0.out.kept hb)
  have HB1 := Lib.hid (HB0.out.trans (hb.mono HB0.out.size))
  have HM1 := Lib.hid g5.1
  have HPU := Lib.hid (putR_any bs w.heap.size none B1 0 0 n1 d1 [] L1 w1 HS1.out (.inr trivial) (OwnR.nil w1 w.heap.size) g5.row g5.1 (by omega) HB1.out.size (fun j hj => by simp [Value.ownBlock] at hj) (fun a ha => by
    have h6 := g5.2.lt a.block (by rw [ha]; rfl)
    have := HZ0.out.1
    exact ⟨by omega, by simp [Value.ownBlock]⟩))
  rw [show (Value.slice none 0 0).ownBlock = none from rfl] at HPU
  clear g1 g2 g3 g5 hb HN1 HS0
  have hn1 : n1 ≤ 10000 := by have := HL1.out.2.2; omega
  go_wp2_with fail
  refine HPU.out.mono ?_
  rintro e w2 ⟨rfl, As, cs, p1, p2, p3, p4⟩
  rw [Nat.zero_add, List.nil_append] at *
  have HS2 := Lib.hid p1
  have HO2 := Lib.hid p2
  have HB2 := Lib.hid (show Below w.heap.size w w2 from HB1.out.trans ⟨p3.os, p3.tape, p3.output, p3.size, fun y hy => p3.block y (Nat.lt_of_lt_of_le hy HB1.out.size) (fun e => by have := HZ0.out.2; omega) (fun e => by cases e)⟩)
  have HP4 := Lib.hid (show ∀ j, (Value.slice As n1 cs).ownBlock = some j → j ≠ bs from fun j hj => (p4 j hj).1)
  clear p1 p2 p3 p4 HPU HS1 HB1
  go_wp2_with fail
  refine (HN2.out w2 HB2.out).mono ?_
  rintro e w3 ⟨L2, B2, n2, d2, g1, g2, g3, rfl, g5, hb⟩
  have HL2 := Lib.hid (And.intro g1 (And.intro g2 g3))
  have HO3 := Lib.hid g5
  have HB3 := Lib.hid hb
  have hn2 : n2 ≤ 10000 := by omega
  clear g1 g2 g3 g5 hb HN2
  go_wp2_with fail
  refine (pfollowerR_any B2 n2 d2 w3).mono ?_
  rintro e w4 ⟨rfl, hw4⟩
  have HS4 := Lib.hid (show SBR w4 bs As n1 cs from by rw [hw4]; exact (HS2.out.kept HB3.out).kept (below_alloc6 _ _))
  have HO4 := Lib.hid (show OwnR w4 w.heap.size As n1 cs L1.reverse from by rw [hw4]; exact (HO2.out.kept HB3.out).al _)
  have HST := Lib.hid (fun (w5 : World) (h5 : w4.grownBy w5 (some bs)) (n5 : Nat) (s5 : SBR w5 bs As n5 cs) (hI : n5 ≤ n1) => mi_start (I5 := L1.reverse.take n5) rfl HB2.out HZ0.out.2 HS2.out.lt HO2.out HP4.out HB3.out HO3.out (by rw [hw4] at h5; exact h5) s5 hI rfl)
  have HMI := Lib.hid (show MinI f (na + nb) [] L1 L2 from by
    have h := minI_start (f := f) (S := L1) (R := L2) HL1.out.1 HL2.out.1 (fun m => by rw [HFD.out m, HL1.out.2.1 m, HL2.out.2.1 m])
    refine ⟨h.good, h.gR, h.any, Nat.le_trans h.len ?_⟩
    have h3 := HL1.out.2.2
    have h4 := HL2.out.2.2
    rw [← HM1.out, ← HO3.out.1]
    omega)
  obtain ⟨bf, hbf⟩ : ∃ b, b = w3.heap.size := ⟨_, rfl⟩
  rw [← hbf] at HST ⊢
  obtain ⟨N, hN⟩ : ∃ N, N = na + nb := ⟨_, rfl⟩
  have hN9 : N ≤ 20000 := by omega
  have HNN := Lib.hid hN
  rw [← hN] at HMI
  clear hw4 hbf HS2 HO2 HB2 HB3 HL2 HO3 hN
  have HTK := Lib.hid (takeR_all bs w.heap.size As n1 cs L1 w4 HS4.out HO4.out (by omega) HP4.out)
  clear HL1 HB0 HM1
  go_wp2_with fail
  refine HTK.out.mono ?_
  rintro e w5 ⟨v1, h1, l1, v2, h2, l2, d, rfl, q1, q2, q3, q4⟩
  have HGI := Lib.hid (HST.out w5 q2 (n1 - 1) q1 (Nat.sub_le _ _) v1 h1 l1 v2 h2 l2)
  rw [take_rev HO4.out.1] at HGI
  have HMD := Lib.hid (minI_took HMI.out q3 q4)
  clear q1 q2 q3 q4 HTK HST HMI HS4 HO4
  obtain ⟨gr, hgr⟩ : ∃ g, g = w5.heap.size := ⟨_, rfl⟩
  go_wp2_with fail
  obtain ⟨W3, hW3⟩ : ∃ W, W = w5.alloc (.cells #[.bool v1, .int .u64 h1, .int .u64 l1, .bool v2, .int .u64 h2, .int .u64 l2] 43) := ⟨_, rfl⟩
  rw [← hW3, ← hgr]
  rw [← hW3, ← hgr] at HGI
  obtain ⟨t, hGI⟩ := HGI.out
  have HGI := Lib.hid hGI
  clear hGI hW3 hgr
  have HS1 := HMD.out.1
  have HS2 := HMD.out.2
  have HS1 := Lib.hid HS1
  have HS2 := Lib.hid HS2
  clear HMD
  go_loopg [7, 8, 9] (muS L1 L2) (fun gk s7 s8 s9 wr => ∃ t : Nat → Nat, ∃ As Ao Af : Option Addr, ∃ ns cs no co nf cf gr : Nat, ∃ S F R : List Rg, ∃ v1 : Bool, ∃ h1 l1 : Nat, ∃ v2 : Bool, ∃ h2 l2 : Nat, ∃ d : Bool, nf ≤ 100000 ∧ s7 = .slice Ao no co ∧ s8 = .pointer (some ⟨gr, 0, none⟩) ∧ s9 = .bool d ∧ Hid (MI w wr t bs As ns cs S.reverse Ao no co F bf Af nf cf R gr v1 h1 l1 v2 h2 l2) ∧ Hid (d = false → S = [] ∧ MinI f N F [] R) ∧ Hid (d = true → MinI f N F (⟨⟨v1, h1, l1⟩, ⟨v2, h2, l2⟩⟩ :: S) R ∧ muS (⟨⟨v1, h1, l1⟩, ⟨v2, h2, l2⟩⟩ :: S) R ≤ gk))
  case atStart => exact ⟨t, As, none, B2, n1 - 1, cs, 0, 0, n2, d2, gr, L1.tail, [], L2, v1, h1, l1, v2, h2, l2, d, by omega, rfl, rfl, rfl, HGI, HS1, HS2⟩
  case round =>
    clear HGI HS1 HS2
    obtain ⟨t, As, Ao, Af, ns, cs, no, co, nf, cf, gr, S, F, R, v1, h1, l1, v2, h2, l2, d, hnf, rfl, rfl, rfl, HGI, HF0, HF1⟩ := hrel
    cases d with
    | false =>
      have HE := Lib.hid (show SetO w w.heap.size f (na + nb) (.returned (.slice Ao no co)) wr from by
        have h := minI_end (HF0.out rfl).2
        exact ⟨F, Ao, no, co, h.1, h.2.1, by rw [HGI.out.or.1]; exact Nat.le_trans h.2.2 (Nat.le_of_eq HNN.out), rfl, HGI.out.or, HGI.out.B⟩)
      clear HF0 HF1 HGI
      go_wp2_with fail
      go_ret
      exact HE.out
    | true =>
      obtain ⟨hmi, hmu⟩ := HF1.out rfl
      have hx := hmi.good.1 ⟨⟨v1, h1, l1⟩, ⟨v2, h2, l2⟩⟩ (by simp)
      have hxs := someR_iff.1 hx.1
      have hlen := hmi.len
      have hns : ns = S.length := by have := HGI.out.sr.1; rwa [List.length_reverse] at this
      have hno : no = F.length := HGI.out.or.1
      have hmx : muS (⟨⟨v1, h1, l1⟩, ⟨v2, h2, l2⟩⟩ :: S) R = S.length + 1 + (dropR R (kA ⟨v1, h1, l1⟩)).length := rfl
      have hns2 : ns ≤ 20000 := by omega
      have hno2 : no ≤ 20000 := by omega
      have HFC := Lib.hid (show Calls Try.prog 67 #[.agg #[.bool v1, .int .u64 h1, .int .u64 l1], .pointer (some ⟨bf, 0, none⟩)] wr (FolR wr Af bf R (kA ⟨v1, h1, l1⟩)) from by
        have h := HGI.out
        have hR6 : R.length ≤ 1000000 := by rw [← h.fn.1]; omega
        exact pfolR_any Af cf bf R v1 h1 l1 wr (by have h9 := h.fb; rwa [h.fn.1] at h9) h.fr (fun a e e2 => by have h9 := (h.t5 a e).2; rw [e2, h.t4] at h9; omega) (fun r hr => (hmi.gR.1 r hr).2) hx.2.1 hR6 (by rw [← h.fn.1]; exact h.fn.2.1) h.fn.2.2)
      have HNF0 := Lib.hid (show (dropR R (kA ⟨v1, h1, l1⟩)).length ≤ 100000 from by have h1 := dropR_len (kA ⟨v1, h1, l1⟩) R; have h2 := HGI.out.fn.1; omega)
      clear HF0 HF1 hlen hmx
      have HSM := Lib.hid hmi
      cases hR : dropR R (kA ⟨v1, h1, l1⟩) with
      | nil =>
        have HNX := Lib.hid (show MinI f N (F ++ [⟨⟨v1, h1, l1⟩, ⟨v2, h2, l2⟩⟩]) S [] ∧ muS S [] < gk from by
          have h := minI_whole hmi hR.symm (fun y t e => by cases e)
          exact ⟨h.1, Nat.lt_of_lt_of_le h.2 hmu⟩)
        have HRR := Lib.hid hR
        have HNF := HNF0
        rw [hR] at HNF
        clear HNF0
        clear hmi hmu hx hxs hns hno hR
        have HB := Lib.hid HGI.out.B
        have HR := Lib.hid HGI.out.rb
        have y1_0 : wr.cell? ⟨gr, 0, none⟩ = some (.bool v1) := (HR.out.c 0).trans rfl
        have y1_1 : wr.cell? ⟨gr, 1, none⟩ = some (.int .u64 h1) := (HR.out.c 1).trans rfl
        have y1_2 : wr.cell? ⟨gr, 2, none⟩ = some (.int .u64 l1) := (HR.out.c 2).trans rfl
        have y1_3 : wr.cell? ⟨gr, 3, none⟩ = some (.bool v2) := (HR.out.c 3).trans rfl
        have y1_4 : wr.cell? ⟨gr, 4, none⟩ = some (.int .u64 h2) := (HR.out.c 4).trans rfl
        have y1_5 : wr.cell? ⟨gr, 5, none⟩ = some (.int .u64 l2) := (HR.out.c 5).trans rfl
        have yl1 := HR.out.lt
        go_wp2_with fail
        clear y1_0 y1_1 y1_2 y1_3 y1_4 y1_5 yl1
        refine HFC.out.mono ?_
        rintro e w4 hfp
        obtain ⟨he, Af4, cf4, hG4⟩ := HGI.out.fol hfp
        rw [HRR.out] at he hG4
        simp only [folV, rngV] at he
        subst he
        have HG4 := Lib.hid hG4
        have HB4 := Lib.hid HG4.out.B
        have HR4 := Lib.hid HG4.out.rb
        have HJ := Lib.hid (fun j hj => (HG4.out.or.2.lt j hj).2)
        clear hfp hG4 HFC HGI HB HR HRR HSM
        have y1_0 : w4.cell? ⟨gr, 0, none⟩ = some (.bool v1) := (HR4.out.c 0).trans rfl
        have y1_1 : w4.cell? ⟨gr, 1, none⟩ = some (.int .u64 h1) := (HR4.out.c 1).trans rfl
        have y1_2 : w4.cell? ⟨gr, 2, none⟩ = some (.int .u64 l1) := (HR4.out.c 2).trans rfl
        have y1_3 : w4.cell? ⟨gr, 3, none⟩ = some (.bool v2) := (HR4.out.c 3).trans rfl
        have y1_4 : w4.cell? ⟨gr, 4, none⟩ = some (.int .u64 h2) := (HR4.out.c 4).trans rfl
        have y1_5 : w4.cell? ⟨gr, 5, none⟩ = some (.int .u64 l2) := (HR4.out.c 5).trans rfl
        have yl1 := HR4.out.lt
        clear y1_0 y1_1 y1_2 y1_3 y1_4 y1_5 yl1
        have HG4_1 := Lib.hid (show MI w (w4.alloc (.cells #[.bool false, .int .u64 0, .int .u64 0, .bool false, .int .u64 0, .int .u64 0] 43)) t bs As ns cs S.reverse Ao no co F bf Af4 (([] : List Rg).length) cf4 [] gr v1 h1 l1 v2 h2 l2 from HG4.out.al _)
        have HR4_1 := Lib.hid (show RB (w4.alloc (.cells #[.bool false, .int .u64 0, .int .u64 0, .bool false, .int .u64 0, .int .u64 0] 43)) gr v1 h1 l1 v2 h2 l2 from HR4.out.al _)
        have HB4_1 := Lib.hid (show Below w.heap.size w (w4.alloc (.cells #[.bool false, .int .u64 0, .int .u64 0, .bool false, .int .u64 0, .int .u64 0] 43)) from HB4.out.alloc HB4.out.size _)
        clear HG4 HR4 HB4
        have y1_0 : (w4.alloc (.cells #[.bool false, .int .u64 0, .int .u64 0, .bool false, .int .u64 0, .int .u64 0] 43)).cell? ⟨gr, 0, none⟩ = some (.bool v1) := (HR4_1.out.c 0).trans rfl
        have y1_1 : (w4.alloc (.cells #[.bool false, .int .u64 0, .int .u64 0, .bool false, .int .u64 0, .int .u64 0] 43)).cell? ⟨gr, 1, none⟩ = some (.int .u64 h1) := (HR4_1.out.c 1).trans rfl
        have y1_2 : (w4.alloc (.cells #[.bool false, .int .u64 0, .int .u64 0, .bool false, .int .u64 0, .int .u64 0] 43)).cell? ⟨gr, 2, none⟩ = some (.int .u64 l1) := (HR4_1.out.c 2).trans rfl
        have y1_3 : (w4.alloc (.cells #[.bool false, .int .u64 0, .int .u64 0, .bool false, .int .u64 0, .int .u64 0] 43)).cell? ⟨gr, 3, none⟩ = some (.bool v2) := (HR4_1.out.c 3).trans rfl
        have y1_4 : (w4.alloc (.cells #[.bool false, .int .u64 0, .int .u64 0, .bool false, .int .u64 0, .int .u64 0] 43)).cell? ⟨gr, 4, none⟩ = some (.int .u64 h2) := (HR4_1.out.c 4).trans rfl
        have y1_5 : (w4.alloc (.cells #[.bool false, .int .u64 0, .int .u64 0, .bool false, .int .u64 0, .int .u64 0] 43)).cell? ⟨gr, 5, none⟩ = some (.int .u64 l2) := (HR4_1.out.c 5).trans rfl
        have yl1 := HR4_1.out.lt
        have HJC : True := trivial
        clear HJ
        have hsza := HB4_1.out.size
        go_wp2_with (at_builtin; refine wpList_push (E := ER) rgTy (by rfl) _ _ (by rfl) w.heap.size _ no F [⟨⟨v1, h1, l1⟩, ⟨v2, h2, l2⟩⟩] (by rfl) (HG4_1.out.or.al _).2 _ 1 1 #[.bool v1, .int .u64 h1, .int .u64 l1, .bool v2, .int .u64 h2, .int .u64 l2] (0, 0) (by rfl) (heap2 _ _ _) rfl rfl (by omega) (by omega) (by decide) ?hb ?_)
        case hb => (have h9 := HB4_1.out.size; simp at h9 ⊢; omega)
        intro g2 cap2 wz hown hgrow hat hlt2
        have hat : (Value.slice Ao no co).ownBlock = some g2 ∨ g2 = (w4.alloc (.cells #[.bool false, .int .u64 0, .int .u64 0, .bool false, .int .u64 0, .int .u64 0] 43)).heap.size + 1 := by rcases hat with h9 | h9; exact .inl h9; exact .inr (by simp; omega)
        obtain ⟨tz, hGz⟩ := HG4_1.out.found hown hgrow hat
        clear y1_0 y1_1 y1_2 y1_3 y1_4 y1_5 yl1
        have HGZ := Lib.hid hGz
        clear hGz hown hgrow hat hlt2 hsza HJC HG4_1 HR4_1 HB4_1
        have HBz := Lib.hid HGZ.out.B
        have HRz := Lib.hid HGZ.out.rb
        have y1_0 : wz.cell? ⟨gr, 0, none⟩ = some (.bool v1) := (HRz.out.c 0).trans rfl
        have y1_1 : wz.cell? ⟨gr, 1, none⟩ = some (.int .u64 h1) := (HRz.out.c 1).trans rfl
        have y1_2 : wz.cell? ⟨gr, 2, none⟩ = some (.int .u64 l1) := (HRz.out.c 2).trans rfl
        have y1_3 : wz.cell? ⟨gr, 3, none⟩ = some (.bool v2) := (HRz.out.c 3).trans rfl
        have y1_4 : wz.cell? ⟨gr, 4, none⟩ = some (.int .u64 h2) := (HRz.out.c 4).trans rfl
        have y1_5 : wz.cell? ⟨gr, 5, none⟩ = some (.int .u64 l2) := (HRz.out.c 5).trans rfl
        have yl1 := HRz.out.lt
        go_wp2_with fail
        clear y1_0 y1_1 y1_2 y1_3 y1_4 y1_5 yl1
        obtain ⟨t9, hG9⟩ := HGZ.out.newr v1 h1 l1 v2 h2 l2
        obtain ⟨Wn, hWn⟩ : ∃ W, W = wz.alloc (.cells #[.bool v1, .int .u64 h1, .int .u64 l1, .bool v2, .int .u64 h2, .int .u64 l2] 43) := ⟨_, rfl⟩
        obtain ⟨gn, hgn⟩ : ∃ g, g = wz.heap.size := ⟨_, rfl⟩
        rw [← hWn, ← hgn] at hG9
        rw [← hWn, ← hgn]
        have HGN := Lib.hid hG9
        clear hG9 hWn hgn HGZ HRz HBz
        have HTK := Lib.hid (takeR_all bs w.heap.size As ns cs S Wn HGN.out.sb HGN.out.sr (by omega) (fun j hj e => by have a := HGN.out.t2 j hj; rw [e, HGN.out.t1] at a; omega))
        refine HTK.out.mono ?_
        rintro e w8 ⟨x1, x2, x3, x4, x5, x6, dd, rfl, k1, k2, k3, k4⟩
        have HG8 := Lib.hid (HGN.out.took2 k1 k2)
        have HMD := minI_took HNX.out.1 k3 k4
        have HMD1 := Lib.hid HMD.1
        have HMD2 := Lib.hid HMD.2
        have HMU := Lib.hid HNX.out.2
        clear HMD k1 k2 k3 k4 HTK HGN HNX
        have HP9 := Lib.hid HG8.out.rb
        have s0 : w8.cell? ⟨gn, 0, none⟩ = some (.bool v1) := (HP9.out.c 0).trans rfl
        have sf0 := HP9.out.f 0
        have s1 : w8.cell? ⟨gn, 1, none⟩ = some (.int .u64 h1) := (HP9.out.c 1).trans rfl
        have sf1 := HP9.out.f 1
        have s2 : w8.cell? ⟨gn, 2, none⟩ = some (.int .u64 l1) := (HP9.out.c 2).trans rfl
        have sf2 := HP9.out.f 2
        have s3 : w8.cell? ⟨gn, 3, none⟩ = some (.bool v2) := (HP9.out.c 3).trans rfl
        have sf3 := HP9.out.f 3
        have s4 : w8.cell? ⟨gn, 4, none⟩ = some (.int .u64 h2) := (HP9.out.c 4).trans rfl
        have sf4 := HP9.out.f 4
        have s5 : w8.cell? ⟨gn, 5, none⟩ = some (.int .u64 l2) := (HP9.out.c 5).trans rfl
        have sf5 := HP9.out.f 5
        have sl := HP9.out.lt
        obtain ⟨W9, hW9⟩ : ∃ W, W = rset w8 gn x1 x2 x3 x4 x5 x6 := ⟨_, rfl⟩
        have HG9 := Lib.hid (HG8.out.setr x1 x2 x3 x4 x5 x6)
        rw [← hW9] at HG9
        unfold rset at hW9
        go_wp2_with fail
        rw [← hW9]
        clear hW9 s0 s1 s2 s3 s4 s5 sf0 sf1 sf2 sf3 sf4 sf5 sl HP9 HG8
        go_roundg (muS (S) ([]))
        case measure => exact HMU.out
        case rel => exact ⟨t9, As, (some ⟨g2, 0, none⟩), Af4, ns - 1, cs, (no + 1), cap2, (([] : List Rg).length), cf4, gn, (S).tail, (F ++ [⟨⟨v1, h1, l1⟩, ⟨v2, h2, l2⟩⟩]), [], x1, x2, x3, x4, x5, x6, dd, HNF.out, rfl, rfl, rfl, HG9, HMD1, HMD2⟩
      | cons y t2 =>
        have hgy := (dropR_good hmi.gR (kA ⟨v1, h1, l1⟩)).1 y (by rw [hR]; simp)
        have hyx := dropR_head _ R hR
        obtain ⟨⟨u1, p1, q1⟩, ⟨u2, p2, q2⟩⟩ := y
        have hys := someR_iff.1 hgy.1
        have HT1 := Lib.hid (fun W => pbef_key hx.2.2 hgy.2.1 W)
        have HT2 := Lib.hid (fun W => pbef_key hx.2.1 hgy.2.1 W)
        have HT3 := Lib.hid (fun W => pbef_key hgy.2.2 hx.2.2 W)
        simp only at HT1 HT2 HT3 hys hxs hyx
        have HRR := Lib.hid hR
        have HNF := HNF0
        rw [hR] at HNF
        clear HNF0
        by_cases t1 : kA ⟨v2, h2, l2⟩ < kA ⟨u1, p1, q1⟩
        · rw [decide_eq_true t1] at HT1
          have HNX := Lib.hid (show MinI f N (F ++ [⟨⟨v1, h1, l1⟩, ⟨v2, h2, l2⟩⟩]) S (⟨⟨u1, p1, q1⟩, ⟨u2, p2, q2⟩⟩ :: t2) ∧ muS S (⟨⟨u1, p1, q1⟩, ⟨u2, p2, q2⟩⟩ :: t2) < gk from by
            have h := minI_whole hmi hR.symm (fun y t e => by obtain ⟨rfl, _⟩ := List.cons.inj e; exact t1)
            exact ⟨h.1, Nat.lt_of_lt_of_le h.2 hmu⟩)
          clear hmi hmu hx hxs hns hno hR hgy hyx hys t1
          have HB := Lib.hid HGI.out.B
          have HR := Lib.hid HGI.out.rb
          have y1_0 : wr.cell? ⟨gr, 0, none⟩ = some (.bool v1) := (HR.out.c 0).trans rfl
          have y1_1 : wr.cell? ⟨gr, 1, none⟩ = some (.int .u64 h1) := (HR.out.c 1).trans rfl
          have y1_2 : wr.cell? ⟨gr, 2, none⟩ = some (.int .u64 l1) := (HR.out.c 2).trans rfl
          have y1_3 : wr.cell? ⟨gr, 3, none⟩ = some (.bool v2) := (HR.out.c 3).trans rfl
          have y1_4 : wr.cell? ⟨gr, 4, none⟩ = some (.int .u64 h2) := (HR.out.c 4).trans rfl
          have y1_5 : wr.cell? ⟨gr, 5, none⟩ = some (.int .u64 l2) := (HR.out.c 5).trans rfl
          have yl1 := HR.out.lt
          go_wp2_with fail
          clear y1_0 y1_1 y1_2 y1_3 y1_4 y1_5 yl1
          refine HFC.out.mono ?_
          rintro e w4 hfp
          obtain ⟨he, Af4, cf4, hG4⟩ := HGI.out.fol hfp
          rw [HRR.out] at he hG4
          simp only [folV, rngV] at he
          subst he
          have HG4 := Lib.hid hG4
          have HB4 := Lib.hid HG4.out.B
          have HR4 := Lib.hid HG4.out.rb
          have HJ := Lib.hid (fun j hj => (HG4.out.or.2.lt j hj).2)
          clear hfp hG4 HFC HGI HB HR HRR HSM
          have y1_0 : w4.cell? ⟨gr, 0, none⟩ = some (.bool v1) := (HR4.out.c 0).trans rfl
          have y1_1 : w4.cell? ⟨gr, 1, none⟩ = some (.int .u64 h1) := (HR4.out.c 1).trans rfl
          have y1_2 : w4.cell? ⟨gr, 2, none⟩ = some (.int .u64 l1) := (HR4.out.c 2).trans rfl
          have y1_3 : w4.cell? ⟨gr, 3, none⟩ = some (.bool v2) := (HR4.out.c 3).trans rfl
          have y1_4 : w4.cell? ⟨gr, 4, none⟩ = some (.int .u64 h2) := (HR4.out.c 4).trans rfl
          have y1_5 : w4.cell? ⟨gr, 5, none⟩ = some (.int .u64 l2) := (HR4.out.c 5).trans rfl
          have yl1 := HR4.out.lt
          go_wp2_with fail
          clear y1_0 y1_1 y1_2 y1_3 y1_4 y1_5 yl1
          obtain ⟨W12, hW12⟩ : ∃ W, W = w4.alloc (.cells #[.bool u1, .int .u64 p1, .int .u64 q1, .bool u2, .int .u64 p2, .int .u64 q2] 43) := ⟨_, rfl⟩
          obtain ⟨gc, hgc⟩ : ∃ g, g = w4.heap.size := ⟨_, rfl⟩
          have HG4_1 := Lib.hid (show MI w W12 t bs As ns cs S.reverse Ao no co F bf Af4 ((⟨⟨u1, p1, q1⟩, ⟨u2, p2, q2⟩⟩ :: t2).length) cf4 (⟨⟨u1, p1, q1⟩, ⟨u2, p2, q2⟩⟩ :: t2) gr v1 h1 l1 v2 h2 l2 from by rw [hW12]; exact HG4.out.al _)
          have HR4_1 := Lib.hid (show RB W12 gr v1 h1 l1 v2 h2 l2 from by rw [hW12]; exact HR4.out.al _)
          have Lgc := Lib.hid (show gr < gc ∧ w.heap.size ≤ gc from by rw [hgc]; exact ⟨HR4.out.lt, HB4.out.size⟩)
          have HC := Lib.hid (show RB W12 gc u1 p1 q1 u2 p2 q2 from by rw [hW12, hgc]; exact rb_new w4 u1 p1 q1 u2 p2 q2)
          have HSZgc := Lib.hid (show W12.heap.size = gc + 1 from by rw [hW12, hgc]; simp)
          have HUPgc := Lib.hid (show w4.heap.size ≤ W12.heap.size from by rw [hW12]; simp)
          have HB4_1 := Lib.hid (show Below w.heap.size w W12 by rw [hW12]; exact HB4.out.alloc HB4.out.size _)
          clear HG4 HR4 HB4
          have y1_0 : W12.cell? ⟨gr, 0, none⟩ = some (.bool v1) := (HR4_1.out.c 0).trans rfl
          have y1_1 : W12.cell? ⟨gr, 1, none⟩ = some (.int .u64 h1) := (HR4_1.out.c 1).trans rfl
          have y1_2 : W12.cell? ⟨gr, 2, none⟩ = some (.int .u64 l1) := (HR4_1.out.c 2).trans rfl
          have y1_3 : W12.cell? ⟨gr, 3, none⟩ = some (.bool v2) := (HR4_1.out.c 3).trans rfl
          have y1_4 : W12.cell? ⟨gr, 4, none⟩ = some (.int .u64 h2) := (HR4_1.out.c 4).trans rfl
          have y1_5 : W12.cell? ⟨gr, 5, none⟩ = some (.int .u64 l2) := (HR4_1.out.c 5).trans rfl
          have yl1 := HR4_1.out.lt
          have y2_0 : W12.cell? ⟨gc, 0, none⟩ = some (.bool u1) := (HC.out.c 0).trans rfl
          have y2_1 : W12.cell? ⟨gc, 1, none⟩ = some (.int .u64 p1) := (HC.out.c 1).trans rfl
          have y2_2 : W12.cell? ⟨gc, 2, none⟩ = some (.int .u64 q1) := (HC.out.c 2).trans rfl
          have y2_3 : W12.cell? ⟨gc, 3, none⟩ = some (.bool u2) := (HC.out.c 3).trans rfl
          have y2_4 : W12.cell? ⟨gc, 4, none⟩ = some (.int .u64 p2) := (HC.out.c 4).trans rfl
          have y2_5 : W12.cell? ⟨gc, 5, none⟩ = some (.int .u64 q2) := (HC.out.c 5).trans rfl
          have yl2 := HC.out.lt
          have HJC := Lib.hid (show ∀ j, (Value.slice Ao no co).ownBlock = some j → j < gc from fun j hj => by rw [hgc]; exact HJ.out j hj)
          rw [← hW12, ← hgc]
          clear hW12 hgc HJ
          clear y1_0 y1_1 y1_2 y1_3 y1_4 y1_5 yl1 y2_0 y2_1 y2_2 y2_3 y2_4 y2_5 yl2
          refine (HT1.out _).mono ?_
          rintro e w12 ⟨rfl, hb⟩
          have HG4_2 := Lib.hid (show MI w w12 t bs As ns cs S.reverse Ao no co F bf Af4 ((⟨⟨u1, p1, q1⟩, ⟨u2, p2, q2⟩⟩ :: t2).length) cf4 (⟨⟨u1, p1, q1⟩, ⟨u2, p2, q2⟩⟩ :: t2) gr v1 h1 l1 v2 h2 l2 from HG4_1.out.kept hb)
          have HR4_2 := Lib.hid (show RB w12 gr v1 h1 l1 v2 h2 l2 from HR4_1.out.kept hb HR4_1.out.lt)
          have HC_2 := Lib.hid (show RB w12 gc u1 p1 q1 u2 p2 q2 from HC.out.kept hb HC.out.lt)
          have HB4_2 := Lib.hid (HB4_1.out.trans (hb.mono HB4_1.out.size))
          clear hb HG4_1 HR4_1 HC HB4_1
          have y1_0 : w12.cell? ⟨gr, 0, none⟩ = some (.bool v1) := (HR4_2.out.c 0).trans rfl
          have y1_1 : w12.cell? ⟨gr, 1, none⟩ = some (.int .u64 h1) := (HR4_2.out.c 1).trans rfl
          have y1_2 : w12.cell? ⟨gr, 2, none⟩ = some (.int .u64 l1) := (HR4_2.out.c 2).trans rfl
          have y1_3 : w12.cell? ⟨gr, 3, none⟩ = some (.bool v2) := (HR4_2.out.c 3).trans rfl
          have y1_4 : w12.cell? ⟨gr, 4, none⟩ = some (.int .u64 h2) := (HR4_2.out.c 4).trans rfl
          have y1_5 : w12.cell? ⟨gr, 5, none⟩ = some (.int .u64 l2) := (HR4_2.out.c 5).trans rfl
          have yl1 := HR4_2.out.lt
          have y2_0 : w12.cell? ⟨gc, 0, none⟩ = some (.bool u1) := (HC_2.out.c 0).trans rfl
          have y2_1 : w12.cell? ⟨gc, 1, none⟩ = some (.int .u64 p1) := (HC_2.out.c 1).trans rfl
          have y2_2 : w12.cell? ⟨gc, 2, none⟩ = some (.int .u64 q1) := (HC_2.out.c 2).trans rfl
          have y2_3 : w12.cell? ⟨gc, 3, none⟩ = some (.bool u2) := (HC_2.out.c 3).trans rfl
          have y2_4 : w12.cell? ⟨gc, 4, none⟩ = some (.int .u64 p2) := (HC_2.out.c 4).trans rfl
          have y2_5 : w12.cell? ⟨gc, 5, none⟩ = some (.int .u64 q2) := (HC_2.out.c 5).trans rfl
          have yl2 := HC_2.out.lt
          have hsza := HB4_2.out.size
          go_wp2_with (at_builtin; refine wpList_push (E := ER) rgTy (by rfl) _ _ (by rfl) w.heap.size _ no F [⟨⟨v1, h1, l1⟩, ⟨v2, h2, l2⟩⟩] (by rfl) (HG4_2.out.or.al _).2 _ 1 1 #[.bool v1, .int .u64 h1, .int .u64 l1, .bool v2, .int .u64 h2, .int .u64 l2] (0, 0) (by rfl) (heap_alloc_new _ _) rfl rfl (by omega) (by omega) (by decide) ?hb ?_)
          case hb => simp; omega
          intro g2 cap2 wz hown hgrow hat hlt2
          obtain ⟨tz, hGz⟩ := HG4_2.out.found hown hgrow hat
          clear y1_0 y1_1 y1_2 y1_3 y1_4 y1_5 yl1 y2_0 y2_1 y2_2 y2_3 y2_4 y2_5 yl2
          have HGZ := Lib.hid hGz
          clear hGz hown hgrow hat hlt2 hsza HJC HG4_2 HR4_2 HC_2 HB4_2
          have HBz := Lib.hid HGZ.out.B
          have HRz := Lib.hid HGZ.out.rb
          have y1_0 : wz.cell? ⟨gr, 0, none⟩ = some (.bool v1) := (HRz.out.c 0).trans rfl
          have y1_1 : wz.cell? ⟨gr, 1, none⟩ = some (.int .u64 h1) := (HRz.out.c 1).trans rfl
          have y1_2 : wz.cell? ⟨gr, 2, none⟩ = some (.int .u64 l1) := (HRz.out.c 2).trans rfl
          have y1_3 : wz.cell? ⟨gr, 3, none⟩ = some (.bool v2) := (HRz.out.c 3).trans rfl
          have y1_4 : wz.cell? ⟨gr, 4, none⟩ = some (.int .u64 h2) := (HRz.out.c 4).trans rfl
          have y1_5 : wz.cell? ⟨gr, 5, none⟩ = some (.int .u64 l2) := (HRz.out.c 5).trans rfl
          have yl1 := HRz.out.lt
          go_wp2_with fail
          clear y1_0 y1_1 y1_2 y1_3 y1_4 y1_5 yl1
          obtain ⟨t9, hG9⟩ := HGZ.out.newr v1 h1 l1 v2 h2 l2
          obtain ⟨Wn, hWn⟩ : ∃ W, W = wz.alloc (.cells #[.bool v1, .int .u64 h1, .int .u64 l1, .bool v2, .int .u64 h2, .int .u64 l2] 43) := ⟨_, rfl⟩
          obtain ⟨gn, hgn⟩ : ∃ g, g = wz.heap.size := ⟨_, rfl⟩
          rw [← hWn, ← hgn] at hG9
          rw [← hWn, ← hgn]
          have HGN := Lib.hid hG9
          clear hG9 hWn hgn HGZ HRz HBz
          have HTK := Lib.hid (takeR_all bs w.heap.size As ns cs S Wn HGN.out.sb HGN.out.sr (by omega) (fun j hj e => by have a := HGN.out.t2 j hj; rw [e, HGN.out.t1] at a; omega))
          refine HTK.out.mono ?_
          rintro e w8 ⟨x1, x2, x3, x4, x5, x6, dd, rfl, k1, k2, k3, k4⟩
          have HG8 := Lib.hid (HGN.out.took2 k1 k2)
          have HMD := minI_took HNX.out.1 k3 k4
          have HMD1 := Lib.hid HMD.1
          have HMD2 := Lib.hid HMD.2
          have HMU := Lib.hid HNX.out.2
          clear HMD k1 k2 k3 k4 HTK HGN HNX
          have HP9 := Lib.hid HG8.out.rb
          have s0 : w8.cell? ⟨gn, 0, none⟩ = some (.bool v1) := (HP9.out.c 0).trans rfl
          have sf0 := HP9.out.f 0
          have s1 : w8.cell? ⟨gn, 1, none⟩ = some (.int .u64 h1) := (HP9.out.c 1).trans rfl
          have sf1 := HP9.out.f 1
          have s2 : w8.cell? ⟨gn, 2, none⟩ = some (.int .u64 l1) := (HP9.out.c 2).trans rfl
          have sf2 := HP9.out.f 2
          have s3 : w8.cell? ⟨gn, 3, none⟩ = some (.bool v2) := (HP9.out.c 3).trans rfl
          have sf3 := HP9.out.f 3
          have s4 : w8.cell? ⟨gn, 4, none⟩ = some (.int .u64 h2) := (HP9.out.c 4).trans rfl
          have sf4 := HP9.out.f 4
          have s5 : w8.cell? ⟨gn, 5, none⟩ = some (.int .u64 l2) := (HP9.out.c 5).trans rfl
          have sf5 := HP9.out.f 5
          have sl := HP9.out.lt
          obtain ⟨W9, hW9⟩ : ∃ W, W = rset w8 gn x1 x2 x3 x4 x5 x6 := ⟨_, rfl⟩
          have HG9 := Lib.hid (HG8.out.setr x1 x2 x3 x4 x5 x6)
          rw [← hW9] at HG9
          unfold rset at hW9
          go_wp2_with fail
          rw [← hW9]
          clear hW9 s0 s1 s2 s3 s4 s5 sf0 sf1 sf2 sf3 sf4 sf5 sl HP9 HG8
          go_roundg (muS (S) ((⟨⟨u1, p1, q1⟩, ⟨u2, p2, q2⟩⟩ :: t2)))
          case measure => exact HMU.out
          case rel => exact ⟨t9, As, (some ⟨g2, 0, none⟩), Af4, ns - 1, cs, (no + 1), cap2, ((⟨⟨u1, p1, q1⟩, ⟨u2, p2, q2⟩⟩ :: t2).length), cf4, gn, (S).tail, (F ++ [⟨⟨v1, h1, l1⟩, ⟨v2, h2, l2⟩⟩]), (⟨⟨u1, p1, q1⟩, ⟨u2, p2, q2⟩⟩ :: t2), x1, x2, x3, x4, x5, x6, dd, HNF.out, rfl, rfl, rfl, HG9, HMD1, HMD2⟩
        · rw [decide_eq_false t1] at HT1
          have hle : kA ⟨u1, p1, q1⟩ ≤ kA ⟨v2, h2, l2⟩ := by omega
          have hv1 : kA ⟨v1, h1, l1⟩ < kA ⟨u1, p1, q1⟩ → v1 = u1 := fun c => (between_v hx.2.1 hgy.2.1 hx.2.2 hxs.2.2.1 (by simp only; omega) hle).symm
          have hv2 : kA ⟨u2, p2, q2⟩ < kA ⟨v2, h2, l2⟩ → u2 = v2 := fun c => (between_v hx.2.1 hgy.2.2 hx.2.2 hxs.2.2.1 (by simp only; omega) (by simp only; omega)).trans hxs.2.2.1
          by_cases t2' : kA ⟨v1, h1, l1⟩ < kA ⟨u1, p1, q1⟩
          · rw [decide_eq_true t2'] at HT2
            obtain ⟨⟨e1, e2, e3⟩, pe, pv, pf, pva, pk⟩ := prv_piece hx.2.1 hgy.2.1 hxs.1 hys.1 (hv1 t2') t2'
            simp only at pe pv
            have HPV := Lib.hid (show ∀ W, Calls Try.prog 52 #[.agg #[.bool u1, .int .u64 p1, .int .u64 q1]] W fun e w' => e = .returned (.tuple #[.agg #[.bool e1, .int .u64 e2, .int .u64 e3], .bool true]) ∧ Below W.heap.size W w' from fun W => by
              have h := qprev_any u1 p1 q1 W hgy.2.1.1 hgy.2.1.2
              rw [pe] at h
              exact h)
            by_cases t3 : kA ⟨u2, p2, q2⟩ < kA ⟨v2, h2, l2⟩
            · rw [decide_eq_true t3] at HT3
              obtain ⟨⟨n1, n2, n3⟩, nn, nv, nf9, nva, nk⟩ := nxt_piece hx.2.2 hgy.2.2 hxs.2.1 hys.2.1 (hv2 t3) t3
              simp only at nn nv
              have HNT := Lib.hid (show ∀ W, Calls Try.prog 53 #[.agg #[.bool u2, .int .u64 p2, .int .u64 q2]] W fun e w' => e = .returned (.tuple #[.agg #[.bool n1, .int .u64 n2, .int .u64 n3], .bool true]) ∧ Below W.heap.size W w' from fun W => by
                have h := qnext_any u2 p2 q2 W hgy.2.2.1 hgy.2.2.2 hys.2.1
                rw [nn] at h
                exact h)
              have HNX := Lib.hid (show MinI f N (F ++ [⟨⟨v1, h1, l1⟩, ⟨e1, e2, e3⟩⟩]) (⟨⟨n1, n2, n3⟩, ⟨v2, h2, l2⟩⟩ :: S) (⟨⟨u1, p1, q1⟩, ⟨u2, p2, q2⟩⟩ :: t2) ∧ muS (⟨⟨n1, n2, n3⟩, ⟨v2, h2, l2⟩⟩ :: S) (⟨⟨u1, p1, q1⟩, ⟨u2, p2, q2⟩⟩ :: t2) < gk from by
                have h := minI_cut (P := [⟨⟨v1, h1, l1⟩, ⟨e1, e2, e3⟩⟩]) (Q := [⟨⟨n1, n2, n3⟩, ⟨v2, h2, l2⟩⟩]) hmi hR hle ⟨fun _ => ⟨⟨e1, e2, e3⟩, pf, pva, pv, pk, rfl⟩, fun c => absurd t2' c⟩ ⟨fun _ => ⟨⟨n1, n2, n3⟩, nf9, nva, nv, nk, rfl⟩, fun c => absurd t3 c⟩
                exact ⟨h.1, Nat.lt_of_lt_of_le h.2 hmu⟩)
              clear nn nv nf9 nva nk
              clear hmi hmu hx hxs hns hno hR hgy hyx hys t1 t2' hle hv1 hv2 t3 pe pv pf pva pk
              have HB := Lib.hid HGI.out.B
              have HR := Lib.hid HGI.out.rb
              have y1_0 : wr.cell? ⟨gr, 0, none⟩ = some (.bool v1) := (HR.out.c 0).trans rfl
              have y1_1 : wr.cell? ⟨gr, 1, none⟩ = some (.int .u64 h1) := (HR.out.c 1).trans rfl
              have y1_2 : wr.cell? ⟨gr, 2, none⟩ = some (.int .u64 l1) := (HR.out.c 2).trans rfl
              have y1_3 : wr.cell? ⟨gr, 3, none⟩ = some (.bool v2) := (HR.out.c 3).trans rfl
              have y1_4 : wr.cell? ⟨gr, 4, none⟩ = some (.int .u64 h2) := (HR.out.c 4).trans rfl
              have y1_5 : wr.cell? ⟨gr, 5, none⟩ = some (.int .u64 l2) := (HR.out.c 5).trans rfl
              have yl1 := HR.out.lt
              go_wp2_with fail
              clear y1_0 y1_1 y1_2 y1_3 y1_4 y1_5 yl1
              refine HFC.out.mono ?_
              rintro e w4 hfp
              obtain ⟨he, Af4, cf4, hG4⟩ := HGI.out.fol hfp
              rw [HRR.out] at he hG4
              simp only [folV, rngV] at he
              subst he
              have HG4 := Lib.hid hG4
              have HB4 := Lib.hid HG4.out.B
              have HR4 := Lib.hid HG4.out.rb
              have HJ := Lib.hid (fun j hj => (HG4.out.or.2.lt j hj).2)
              clear hfp hG4 HFC HGI HB HR HRR HSM
              have y1_0 : w4.cell? ⟨gr, 0, none⟩ = some (.bool v1) := (HR4.out.c 0).trans rfl
              have y1_1 : w4.cell? ⟨gr, 1, none⟩ = some (.int .u64 h1) := (HR4.out.c 1).trans rfl
              have y1_2 : w4.cell? ⟨gr, 2, none⟩ = some (.int .u64 l1) := (HR4.out.c 2).trans rfl
              have y1_3 : w4.cell? ⟨gr, 3, none⟩ = some (.bool v2) := (HR4.out.c 3).trans rfl
              have y1_4 : w4.cell? ⟨gr, 4, none⟩ = some (.int .u64 h2) := (HR4.out.c 4).trans rfl
              have y1_5 : w4.cell? ⟨gr, 5, none⟩ = some (.int .u64 l2) := (HR4.out.c 5).trans rfl
              have yl1 := HR4.out.lt
              go_wp2_with fail
              clear y1_0 y1_1 y1_2 y1_3 y1_4 y1_5 yl1
              obtain ⟨W12, hW12⟩ : ∃ W, W = w4.alloc (.cells #[.bool u1, .int .u64 p1, .int .u64 q1, .bool u2, .int .u64 p2, .int .u64 q2] 43) := ⟨_, rfl⟩
              obtain ⟨gc, hgc⟩ : ∃ g, g = w4.heap.size := ⟨_, rfl⟩
              have HG4_1 := Lib.hid (show MI w W12 t bs As ns cs S.reverse Ao no co F bf Af4 ((⟨⟨u1, p1, q1⟩, ⟨u2, p2, q2⟩⟩ :: t2).length) cf4 (⟨⟨u1, p1, q1⟩, ⟨u2, p2, q2⟩⟩ :: t2) gr v1 h1 l1 v2 h2 l2 from by rw [hW12]; exact HG4.out.al _)
              have HR4_1 := Lib.hid (show RB W12 gr v1 h1 l1 v2 h2 l2 from by rw [hW12]; exact HR4.out.al _)
              have Lgc := Lib.hid (show gr < gc ∧ w.heap.size ≤ gc from by rw [hgc]; exact ⟨HR4.out.lt, HB4.out.size⟩)
              have HC := Lib.hid (show RB W12 gc u1 p1 q1 u2 p2 q2 from by rw [hW12, hgc]; exact rb_new w4 u1 p1 q1 u2 p2 q2)
              have HSZgc := Lib.hid (show W12.heap.size = gc + 1 from by rw [hW12, hgc]; simp)
              have HUPgc := Lib.hid (show w4.heap.size ≤ W12.heap.size from by rw [hW12]; simp)
              have HB4_1 := Lib.hid (show Below w.heap.size w W12 by rw [hW12]; exact HB4.out.alloc HB4.out.size _)
              clear HG4 HR4 HB4
              have y1_0 : W12.cell? ⟨gr, 0, none⟩ = some (.bool v1) := (HR4_1.out.c 0).trans rfl
              have y1_1 : W12.cell? ⟨gr, 1, none⟩ = some (.int .u64 h1) := (HR4_1.out.c 1).trans rfl
              have y1_2 : W12.cell? ⟨gr, 2, none⟩ = some (.int .u64 l1) := (HR4_1.out.c 2).trans rfl
              have y1_3 : W12.cell? ⟨gr, 3, none⟩ = some (.bool v2) := (HR4_1.out.c 3).trans rfl
              have y1_4 : W12.cell? ⟨gr, 4, none⟩ = some (.int .u64 h2) := (HR4_1.out.c 4).trans rfl
              have y1_5 : W12.cell? ⟨gr, 5, none⟩ = some (.int .u64 l2) := (HR4_1.out.c 5).trans rfl
              have yl1 := HR4_1.out.lt
              have y2_0 : W12.cell? ⟨gc, 0, none⟩ = some (.bool u1) := (HC.out.c 0).trans rfl
              have y2_1 : W12.cell? ⟨gc, 1, none⟩ = some (.int .u64 p1) := (HC.out.c 1).trans rfl
              have y2_2 : W12.cell? ⟨gc, 2, none⟩ = some (.int .u64 q1) := (HC.out.c 2).trans rfl
              have y2_3 : W12.cell? ⟨gc, 3, none⟩ = some (.bool u2) := (HC.out.c 3).trans rfl
              have y2_4 : W12.cell? ⟨gc, 4, none⟩ = some (.int .u64 p2) := (HC.out.c 4).trans rfl
              have y2_5 : W12.cell? ⟨gc, 5, none⟩ = some (.int .u64 q2) := (HC.out.c 5).trans rfl
              have yl2 := HC.out.lt
              have HJC := Lib.hid (show ∀ j, (Value.slice Ao no co).ownBlock = some j → j < gc from fun j hj => by rw [hgc]; exact HJ.out j hj)
              rw [← hW12, ← hgc]
              clear hW12 hgc HJ
              clear y1_0 y1_1 y1_2 y1_3 y1_4 y1_5 yl1 y2_0 y2_1 y2_2 y2_3 y2_4 y2_5 yl2
              refine (HT1.out _).mono ?_
              rintro e w12 ⟨rfl, hb⟩
              have HG4_2 := Lib.hid (show MI w w12 t bs As ns cs S.reverse Ao no co F bf Af4 ((⟨⟨u1, p1, q1⟩, ⟨u2, p2, q2⟩⟩ :: t2).length) cf4 (⟨⟨u1, p1, q1⟩, ⟨u2, p2, q2⟩⟩ :: t2) gr v1 h1 l1 v2 h2 l2 from HG4_1.out.kept hb)
              have HR4_2 := Lib.hid (show RB w12 gr v1 h1 l1 v2 h2 l2 from HR4_1.out.kept hb HR4_1.out.lt)
              have HC_2 := Lib.hid (show RB w12 gc u1 p1 q1 u2 p2 q2 from HC.out.kept hb HC.out.lt)
              have HB4_2 := Lib.hid (HB4_1.out.trans (hb.mono HB4_1.out.size))
              clear hb HG4_1 HR4_1 HC HB4_1
              have y1_0 : w12.cell? ⟨gr, 0, none⟩ = some (.bool v1) := (HR4_2.out.c 0).trans rfl
              have y1_1 : w12.cell? ⟨gr, 1, none⟩ = some (.int .u64 h1) := (HR4_2.out.c 1).trans rfl
              have y1_2 : w12.cell? ⟨gr, 2, none⟩ = some (.int .u64 l1) := (HR4_2.out.c 2).trans rfl
              have y1_3 : w12.cell? ⟨gr, 3, none⟩ = some (.bool v2) := (HR4_2.out.c 3).trans rfl
              have y1_4 : w12.cell? ⟨gr, 4, none⟩ = some (.int .u64 h2) := (HR4_2.out.c 4).trans rfl
              have y1_5 : w12.cell? ⟨gr, 5, none⟩ = some (.int .u64 l2) := (HR4_2.out.c 5).trans rfl
              have yl1 := HR4_2.out.lt
              have y2_0 : w12.cell? ⟨gc, 0, none⟩ = some (.bool u1) := (HC_2.out.c 0).trans rfl
              have y2_1 : w12.cell? ⟨gc, 1, none⟩ = some (.int .u64 p1) := (HC_2.out.c 1).trans rfl
              have y2_2 : w12.cell? ⟨gc, 2, none⟩ = some (.int .u64 q1) := (HC_2.out.c 2).trans rfl
              have y2_3 : w12.cell? ⟨gc, 3, none⟩ = some (.bool u2) := (HC_2.out.c 3).trans rfl
              have y2_4 : w12.cell? ⟨gc, 4, none⟩ = some (.int .u64 p2) := (HC_2.out.c 4).trans rfl
              have y2_5 : w12.cell? ⟨gc, 5, none⟩ = some (.int .u64 q2) := (HC_2.out.c 5).trans rfl
              have yl2 := HC_2.out.lt
              go_wp2_with fail
              clear y1_0 y1_1 y1_2 y1_3 y1_4 y1_5 yl1 y2_0 y2_1 y2_2 y2_3 y2_4 y2_5 yl2
              refine (HT2.out _).mono ?_
              rintro e w13 ⟨rfl, hb⟩
              have HG4_3 := Lib.hid (show MI w w13 t bs As ns cs S.reverse Ao no co F bf Af4 ((⟨⟨u1, p1, q1⟩, ⟨u2, p2, q2⟩⟩ :: t2).length) cf4 (⟨⟨u1, p1, q1⟩, ⟨u2, p2, q2⟩⟩ :: t2) gr v1 h1 l1 v2 h2 l2 from HG4_2.out.kept hb)
              have HR4_3 := Lib.hid (show RB w13 gr v1 h1 l1 v2 h2 l2 from HR4_2.out.kept hb HR4_2.out.lt)
              have HC_3 := Lib.hid (show RB w13 gc u1 p1 q1 u2 p2 q2 from HC_2.out.kept hb HC_2.out.lt)
              have HB4_3 := Lib.hid (HB4_2.out.trans (hb.mono HB4_2.out.size))
              clear hb HG4_2 HR4_2 HC_2 HB4_2
              have y1_0 : w13.cell? ⟨gr, 0, none⟩ = some (.bool v1) := (HR4_3.out.c 0).trans rfl
              have y1_1 : w13.cell? ⟨gr, 1, none⟩ = some (.int .u64 h1) := (HR4_3.out.c 1).trans rfl
              have y1_2 : w13.cell? ⟨gr, 2, none⟩ = some (.int .u64 l1) := (HR4_3.out.c 2).trans rfl
              have y1_3 : w13.cell? ⟨gr, 3, none⟩ = some (.bool v2) := (HR4_3.out.c 3).trans rfl
              have y1_4 : w13.cell? ⟨gr, 4, none⟩ = some (.int .u64 h2) := (HR4_3.out.c 4).trans rfl
              have y1_5 : w13.cell? ⟨gr, 5, none⟩ = some (.int .u64 l2) := (HR4_3.out.c 5).trans rfl
              have yl1 := HR4_3.out.lt
              have y2_0 : w13.cell? ⟨gc, 0, none⟩ = some (.bool u1) := (HC_3.out.c 0).trans rfl
              have y2_1 : w13.cell? ⟨gc, 1, none⟩ = some (.int .u64 p1) := (HC_3.out.c 1).trans rfl
              have y2_2 : w13.cell? ⟨gc, 2, none⟩ = some (.int .u64 q1) := (HC_3.out.c 2).trans rfl
              have y2_3 : w13.cell? ⟨gc, 3, none⟩ = some (.bool u2) := (HC_3.out.c 3).trans rfl
              have y2_4 : w13.cell? ⟨gc, 4, none⟩ = some (.int .u64 p2) := (HC_3.out.c 4).trans rfl
              have y2_5 : w13.cell? ⟨gc, 5, none⟩ = some (.int .u64 q2) := (HC_3.out.c 5).trans rfl
              have yl2 := HC_3.out.lt
              go_wp2_with fail
              clear y1_0 y1_1 y1_2 y1_3 y1_4 y1_5 yl1 y2_0 y2_1 y2_2 y2_3 y2_4 y2_5 yl2
              refine (HPV.out _).mono ?_
              rintro e w14 ⟨rfl, hb⟩
              have HG4_4 := Lib.hid (show MI w w14 t bs As ns cs S.reverse Ao no co F bf Af4 ((⟨⟨u1, p1, q1⟩, ⟨u2, p2, q2⟩⟩ :: t2).length) cf4 (⟨⟨u1, p1, q1⟩, ⟨u2, p2, q2⟩⟩ :: t2) gr v1 h1 l1 v2 h2 l2 from HG4_3.out.kept hb)
              have HR4_4 := Lib.hid (show RB w14 gr v1 h1 l1 v2 h2 l2 from HR4_3.out.kept hb HR4_3.out.lt)
              have HC_4 := Lib.hid (show RB w14 gc u1 p1 q1 u2 p2 q2 from HC_3.out.kept hb HC_3.out.lt)
              have HB4_4 := Lib.hid (HB4_3.out.trans (hb.mono HB4_3.out.size))
              clear hb HG4_3 HR4_3 HC_3 HB4_3
              have y1_0 : w14.cell? ⟨gr, 0, none⟩ = some (.bool v1) := (HR4_4.out.c 0).trans rfl
              have y1_1 : w14.cell? ⟨gr, 1, none⟩ = some (.int .u64 h1) := (HR4_4.out.c 1).trans rfl
              have y1_2 : w14.cell? ⟨gr, 2, none⟩ = some (.int .u64 l1) := (HR4_4.out.c 2).trans rfl
              have y1_3 : w14.cell? ⟨gr, 3, none⟩ = some (.bool v2) := (HR4_4.out.c 3).trans rfl
              have y1_4 : w14.cell? ⟨gr, 4, none⟩ = some (.int .u64 h2) := (HR4_4.out.c 4).trans rfl
              have y1_5 : w14.cell? ⟨gr, 5, none⟩ = some (.int .u64 l2) := (HR4_4.out.c 5).trans rfl
              have yl1 := HR4_4.out.lt
              have y2_0 : w14.cell? ⟨gc, 0, none⟩ = some (.bool u1) := (HC_4.out.c 0).trans rfl
              have y2_1 : w14.cell? ⟨gc, 1, none⟩ = some (.int .u64 p1) := (HC_4.out.c 1).trans rfl
              have y2_2 : w14.cell? ⟨gc, 2, none⟩ = some (.int .u64 q1) := (HC_4.out.c 2).trans rfl
              have y2_3 : w14.cell? ⟨gc, 3, none⟩ = some (.bool u2) := (HC_4.out.c 3).trans rfl
              have y2_4 : w14.cell? ⟨gc, 4, none⟩ = some (.int .u64 p2) := (HC_4.out.c 4).trans rfl
              have y2_5 : w14.cell? ⟨gc, 5, none⟩ = some (.int .u64 q2) := (HC_4.out.c 5).trans rfl
              have yl2 := HC_4.out.lt
              clear y1_0 y1_1 y1_2 y1_3 y1_4 y1_5 yl1 y2_0 y2_1 y2_2 y2_3 y2_4 y2_5 yl2
              have HG4_5 := Lib.hid (show MI w (w14.alloc (.cells #[.bool e1, .int .u64 e2, .int .u64 e3] 25)) t bs As ns cs S.reverse Ao no co F bf Af4 ((⟨⟨u1, p1, q1⟩, ⟨u2, p2, q2⟩⟩ :: t2).length) cf4 (⟨⟨u1, p1, q1⟩, ⟨u2, p2, q2⟩⟩ :: t2) gr v1 h1 l1 v2 h2 l2 from HG4_4.out.al _)
              have HR4_5 := Lib.hid (show RB (w14.alloc (.cells #[.bool e1, .int .u64 e2, .int .u64 e3] 25)) gr v1 h1 l1 v2 h2 l2 from HR4_4.out.al _)
              have HC_5 := Lib.hid (show RB (w14.alloc (.cells #[.bool e1, .int .u64 e2, .int .u64 e3] 25)) gc u1 p1 q1 u2 p2 q2 from HC_4.out.al _)
              have HE := Lib.hid (show AB (w14.alloc (.cells #[.bool e1, .int .u64 e2, .int .u64 e3] 25)) w14.heap.size e1 e2 e3 from ab_new w14 e1 e2 e3)
              have HB4_5 := Lib.hid (show Below w.heap.size w (w14.alloc (.cells #[.bool e1, .int .u64 e2, .int .u64 e3] 25)) from HB4_4.out.alloc HB4_4.out.size _)
              clear HG4_4 HR4_4 HC_4 HB4_4
              have y1_0 : (w14.alloc (.cells #[.bool e1, .int .u64 e2, .int .u64 e3] 25)).cell? ⟨gr, 0, none⟩ = some (.bool v1) := (HR4_5.out.c 0).trans rfl
              have y1_1 : (w14.alloc (.cells #[.bool e1, .int .u64 e2, .int .u64 e3] 25)).cell? ⟨gr, 1, none⟩ = some (.int .u64 h1) := (HR4_5.out.c 1).trans rfl
              have y1_2 : (w14.alloc (.cells #[.bool e1, .int .u64 e2, .int .u64 e3] 25)).cell? ⟨gr, 2, none⟩ = some (.int .u64 l1) := (HR4_5.out.c 2).trans rfl
              have y1_3 : (w14.alloc (.cells #[.bool e1, .int .u64 e2, .int .u64 e3] 25)).cell? ⟨gr, 3, none⟩ = some (.bool v2) := (HR4_5.out.c 3).trans rfl
              have y1_4 : (w14.alloc (.cells #[.bool e1, .int .u64 e2, .int .u64 e3] 25)).cell? ⟨gr, 4, none⟩ = some (.int .u64 h2) := (HR4_5.out.c 4).trans rfl
              have y1_5 : (w14.alloc (.cells #[.bool e1, .int .u64 e2, .int .u64 e3] 25)).cell? ⟨gr, 5, none⟩ = some (.int .u64 l2) := (HR4_5.out.c 5).trans rfl
              have yl1 := HR4_5.out.lt
              have y2_0 : (w14.alloc (.cells #[.bool e1, .int .u64 e2, .int .u64 e3] 25)).cell? ⟨gc, 0, none⟩ = some (.bool u1) := (HC_5.out.c 0).trans rfl
              have y2_1 : (w14.alloc (.cells #[.bool e1, .int .u64 e2, .int .u64 e3] 25)).cell? ⟨gc, 1, none⟩ = some (.int .u64 p1) := (HC_5.out.c 1).trans rfl
              have y2_2 : (w14.alloc (.cells #[.bool e1, .int .u64 e2, .int .u64 e3] 25)).cell? ⟨gc, 2, none⟩ = some (.int .u64 q1) := (HC_5.out.c 2).trans rfl
              have y2_3 : (w14.alloc (.cells #[.bool e1, .int .u64 e2, .int .u64 e3] 25)).cell? ⟨gc, 3, none⟩ = some (.bool u2) := (HC_5.out.c 3).trans rfl
              have y2_4 : (w14.alloc (.cells #[.bool e1, .int .u64 e2, .int .u64 e3] 25)).cell? ⟨gc, 4, none⟩ = some (.int .u64 p2) := (HC_5.out.c 4).trans rfl
              have y2_5 : (w14.alloc (.cells #[.bool e1, .int .u64 e2, .int .u64 e3] 25)).cell? ⟨gc, 5, none⟩ = some (.int .u64 q2) := (HC_5.out.c 5).trans rfl
              have yl2 := HC_5.out.lt
              have y3_0 : (w14.alloc (.cells #[.bool e1, .int .u64 e2, .int .u64 e3] 25)).cell? ⟨w14.heap.size, 0, none⟩ = some (.bool e1) := HE.out.c0
              have y3_1 : (w14.alloc (.cells #[.bool e1, .int .u64 e2, .int .u64 e3] 25)).cell? ⟨w14.heap.size, 1, none⟩ = some (.int .u64 e2) := HE.out.c1
              have y3_2 : (w14.alloc (.cells #[.bool e1, .int .u64 e2, .int .u64 e3] 25)).cell? ⟨w14.heap.size, 2, none⟩ = some (.int .u64 e3) := HE.out.c2
              have yl3 := HE.out.lt
              have hsza := HB4_5.out.size
              go_wp2_with (at_builtin; refine wpList_push (E := ER) rgTy (by rfl) _ _ (by rfl) w.heap.size _ no F [⟨⟨v1, h1, l1⟩, ⟨e1, e2, e3⟩⟩] (by rfl) (HG4_5.out.or.al _).2 _ 1 1 #[.bool v1, .int .u64 h1, .int .u64 l1, .bool e1, .int .u64 e2, .int .u64 e3] (0, 0) (by rfl) (heap2 _ _ _) rfl rfl (by omega) (by omega) (by decide) ?hb ?_)
              case hb => (have h9 := HB4_5.out.size; simp at h9 ⊢; omega)
              intro g2 cap2 wz hown hgrow hat hlt2
              have hat : (Value.slice Ao no co).ownBlock = some g2 ∨ g2 = (w14.alloc (.cells #[.bool e1, .int .u64 e2, .int .u64 e3] 25)).heap.size + 1 := by rcases hat with h9 | h9; exact .inl h9; exact .inr (by simp; omega)
              obtain ⟨tz, hGz⟩ := HG4_5.out.found hown hgrow hat
              clear y1_0 y1_1 y1_2 y1_3 y1_4 y1_5 yl1 y2_0 y2_1 y2_2 y2_3 y2_4 y2_5 yl2 y3_0 y3_1 y3_2 yl3
              have HGZ := Lib.hid hGz
              have HCz := Lib.hid (show RB wz gc u1 p1 q1 u2 p2 q2 from (HC_5.out.al _).grown hgrow (fun e => Nat.lt_irrefl _ (HJC.out gc e.symm)))
              clear hGz hown hgrow hat hlt2 hsza HJC HG4_5 HR4_5 HC_5 HE HB4_5
              have HBz := Lib.hid HGZ.out.B
              have HRz := Lib.hid HGZ.out.rb
              have y1_0 : wz.cell? ⟨gr, 0, none⟩ = some (.bool v1) := (HRz.out.c 0).trans rfl
              have y1_1 : wz.cell? ⟨gr, 1, none⟩ = some (.int .u64 h1) := (HRz.out.c 1).trans rfl
              have y1_2 : wz.cell? ⟨gr, 2, none⟩ = some (.int .u64 l1) := (HRz.out.c 2).trans rfl
              have y1_3 : wz.cell? ⟨gr, 3, none⟩ = some (.bool v2) := (HRz.out.c 3).trans rfl
              have y1_4 : wz.cell? ⟨gr, 4, none⟩ = some (.int .u64 h2) := (HRz.out.c 4).trans rfl
              have y1_5 : wz.cell? ⟨gr, 5, none⟩ = some (.int .u64 l2) := (HRz.out.c 5).trans rfl
              have yl1 := HRz.out.lt
              have y2_0 : wz.cell? ⟨gc, 0, none⟩ = some (.bool u1) := (HCz.out.c 0).trans rfl
              have y2_1 : wz.cell? ⟨gc, 1, none⟩ = some (.int .u64 p1) := (HCz.out.c 1).trans rfl
              have y2_2 : wz.cell? ⟨gc, 2, none⟩ = some (.int .u64 q1) := (HCz.out.c 2).trans rfl
              have y2_3 : wz.cell? ⟨gc, 3, none⟩ = some (.bool u2) := (HCz.out.c 3).trans rfl
              have y2_4 : wz.cell? ⟨gc, 4, none⟩ = some (.int .u64 p2) := (HCz.out.c 4).trans rfl
              have y2_5 : wz.cell? ⟨gc, 5, none⟩ = some (.int .u64 q2) := (HCz.out.c 5).trans rfl
              have yl2 := HCz.out.lt
              go_wp2_with fail
              clear y1_0 y1_1 y1_2 y1_3 y1_4 y1_5 yl1 y2_0 y2_1 y2_2 y2_3 y2_4 y2_5 yl2
              refine (HT3.out _).mono ?_
              rintro e w16 ⟨rfl, hb⟩
              have HGZ_6 := Lib.hid (show MI w w16 tz bs As ns cs S.reverse (some ⟨g2, 0, none⟩) (no + 1) cap2 (F ++ [⟨⟨v1, h1, l1⟩, ⟨e1, e2, e3⟩⟩]) bf Af4 ((⟨⟨u1, p1, q1⟩, ⟨u2, p2, q2⟩⟩ :: t2).length) cf4 (⟨⟨u1, p1, q1⟩, ⟨u2, p2, q2⟩⟩ :: t2) gr v1 h1 l1 v2 h2 l2 from HGZ.out.kept hb)
              have HRz_6 := Lib.hid (show RB w16 gr v1 h1 l1 v2 h2 l2 from HRz.out.kept hb HRz.out.lt)
              have HCz_6 := Lib.hid (show RB w16 gc u1 p1 q1 u2 p2 q2 from HCz.out.kept hb HCz.out.lt)
              have HBz_6 := Lib.hid (HBz.out.trans (hb.mono HBz.out.size))
              clear hb HGZ HRz HCz HBz
              have y1_0 : w16.cell? ⟨gr, 0, none⟩ = some (.bool v1) := (HRz_6.out.c 0).trans rfl
              have y1_1 : w16.cell? ⟨gr, 1, none⟩ = some (.int .u64 h1) := (HRz_6.out.c 1).trans rfl
              have y1_2 : w16.cell? ⟨gr, 2, none⟩ = some (.int .u64 l1) := (HRz_6.out.c 2).trans rfl
              have y1_3 : w16.cell? ⟨gr, 3, none⟩ = some (.bool v2) := (HRz_6.out.c 3).trans rfl
              have y1_4 : w16.cell? ⟨gr, 4, none⟩ = some (.int .u64 h2) := (HRz_6.out.c 4).trans rfl
              have y1_5 : w16.cell? ⟨gr, 5, none⟩ = some (.int .u64 l2) := (HRz_6.out.c 5).trans rfl
              have yl1 := HRz_6.out.lt
              have y2_0 : w16.cell? ⟨gc, 0, none⟩ = some (.bool u1) := (HCz_6.out.c 0).trans rfl
              have y2_1 : w16.cell? ⟨gc, 1, none⟩ = some (.int .u64 p1) := (HCz_6.out.c 1).trans rfl
              have y2_2 : w16.cell? ⟨gc, 2, none⟩ = some (.int .u64 q1) := (HCz_6.out.c 2).trans rfl
              have y2_3 : w16.cell? ⟨gc, 3, none⟩ = some (.bool u2) := (HCz_6.out.c 3).trans rfl
              have y2_4 : w16.cell? ⟨gc, 4, none⟩ = some (.int .u64 p2) := (HCz_6.out.c 4).trans rfl
              have y2_5 : w16.cell? ⟨gc, 5, none⟩ = some (.int .u64 q2) := (HCz_6.out.c 5).trans rfl
              have yl2 := HCz_6.out.lt
              go_wp2_with fail
              clear y1_0 y1_1 y1_2 y1_3 y1_4 y1_5 yl1 y2_0 y2_1 y2_2 y2_3 y2_4 y2_5 yl2
              refine (HNT.out _).mono ?_
              rintro e w17 ⟨rfl, hb⟩
              have HGZ_7 := Lib.hid (show MI w w17 tz bs As ns cs S.reverse (some ⟨g2, 0, none⟩) (no + 1) cap2 (F ++ [⟨⟨v1, h1, l1⟩, ⟨e1, e2, e3⟩⟩]) bf Af4 ((⟨⟨u1, p1, q1⟩, ⟨u2, p2, q2⟩⟩ :: t2).length) cf4 (⟨⟨u1, p1, q1⟩, ⟨u2, p2, q2⟩⟩ :: t2) gr v1 h1 l1 v2 h2 l2 from HGZ_6.out.kept hb)
              have HRz_7 := Lib.hid (show RB w17 gr v1 h1 l1 v2 h2 l2 from HRz_6.out.kept hb HRz_6.out.lt)
              have HCz_7 := Lib.hid (show RB w17 gc u1 p1 q1 u2 p2 q2 from HCz_6.out.kept hb HCz_6.out.lt)
              have HBz_7 := Lib.hid (HBz_6.out.trans (hb.mono HBz_6.out.size))
              clear hb HGZ_6 HRz_6 HCz_6 HBz_6
              have y1_0 : w17.cell? ⟨gr, 0, none⟩ = some (.bool v1) := (HRz_7.out.c 0).trans rfl
              have y1_1 : w17.cell? ⟨gr, 1, none⟩ = some (.int .u64 h1) := (HRz_7.out.c 1).trans rfl
              have y1_2 : w17.cell? ⟨gr, 2, none⟩ = some (.int .u64 l1) := (HRz_7.out.c 2).trans rfl
              have y1_3 : w17.cell? ⟨gr, 3, none⟩ = some (.bool v2) := (HRz_7.out.c 3).trans rfl
              have y1_4 : w17.cell? ⟨gr, 4, none⟩ = some (.int .u64 h2) := (HRz_7.out.c 4).trans rfl
              have y1_5 : w17.cell? ⟨gr, 5, none⟩ = some (.int .u64 l2) := (HRz_7.out.c 5).trans rfl
              have yl1 := HRz_7.out.lt
              have y2_0 : w17.cell? ⟨gc, 0, none⟩ = some (.bool u1) := (HCz_7.out.c 0).trans rfl
              have y2_1 : w17.cell? ⟨gc, 1, none⟩ = some (.int .u64 p1) := (HCz_7.out.c 1).trans rfl
              have y2_2 : w17.cell? ⟨gc, 2, none⟩ = some (.int .u64 q1) := (HCz_7.out.c 2).trans rfl
              have y2_3 : w17.cell? ⟨gc, 3, none⟩ = some (.bool u2) := (HCz_7.out.c 3).trans rfl
              have y2_4 : w17.cell? ⟨gc, 4, none⟩ = some (.int .u64 p2) := (HCz_7.out.c 4).trans rfl
              have y2_5 : w17.cell? ⟨gc, 5, none⟩ = some (.int .u64 q2) := (HCz_7.out.c 5).trans rfl
              have yl2 := HCz_7.out.lt
              go_wp2_with fail
              clear y1_0 y1_1 y1_2 y1_3 y1_4 y1_5 yl1 y2_0 y2_1 y2_2 y2_3 y2_4 y2_5 yl2
              obtain ⟨W19, hW19⟩ : ∃ W, W = w17.alloc (.cells #[.bool n1, .int .u64 n2, .int .u64 n3] 25) := ⟨_, rfl⟩
              obtain ⟨gb, hgb⟩ : ∃ g, g = w17.heap.size := ⟨_, rfl⟩
              have HGZ_8 := Lib.hid (show MI w W19 tz bs As ns cs S.reverse (some ⟨g2, 0, none⟩) (no + 1) cap2 (F ++ [⟨⟨v1, h1, l1⟩, ⟨e1, e2, e3⟩⟩]) bf Af4 ((⟨⟨u1, p1, q1⟩, ⟨u2, p2, q2⟩⟩ :: t2).length) cf4 (⟨⟨u1, p1, q1⟩, ⟨u2, p2, q2⟩⟩ :: t2) gr v1 h1 l1 v2 h2 l2 from by rw [hW19]; exact HGZ_7.out.al _)
              have HRz_8 := Lib.hid (show RB W19 gr v1 h1 l1 v2 h2 l2 from by rw [hW19]; exact HRz_7.out.al _)
              have HCz_8 := Lib.hid (show RB W19 gc u1 p1 q1 u2 p2 q2 from by rw [hW19]; exact HCz_7.out.al _)
              have Lgb := Lib.hid (show gr < gb ∧ gc < gb ∧ w.heap.size ≤ gb from by rw [hgb]; exact ⟨HRz_7.out.lt, HCz_7.out.lt, HBz_7.out.size⟩)
              have HN := Lib.hid (show AB W19 gb n1 n2 n3 from by rw [hW19, hgb]; exact ab_new w17 n1 n2 n3)
              have HSZgb := Lib.hid (show W19.heap.size = gb + 1 from by rw [hW19, hgb]; simp)
              have HUPgb := Lib.hid (show w17.heap.size ≤ W19.heap.size from by rw [hW19]; simp)
              have HBz_8 := Lib.hid (show Below w.heap.size w W19 by rw [hW19]; exact HBz_7.out.alloc HBz_7.out.size _)
              clear HGZ_7 HRz_7 HCz_7 HBz_7
              rw [← hW19, ← hgb]
              clear hW19 hgb
              have y1_0 : W19.cell? ⟨gr, 0, none⟩ = some (.bool v1) := (HRz_8.out.c 0).trans rfl
              have y1_1 : W19.cell? ⟨gr, 1, none⟩ = some (.int .u64 h1) := (HRz_8.out.c 1).trans rfl
              have y1_2 : W19.cell? ⟨gr, 2, none⟩ = some (.int .u64 l1) := (HRz_8.out.c 2).trans rfl
              have y1_3 : W19.cell? ⟨gr, 3, none⟩ = some (.bool v2) := (HRz_8.out.c 3).trans rfl
              have y1_4 : W19.cell? ⟨gr, 4, none⟩ = some (.int .u64 h2) := (HRz_8.out.c 4).trans rfl
              have y1_5 : W19.cell? ⟨gr, 5, none⟩ = some (.int .u64 l2) := (HRz_8.out.c 5).trans rfl
              have yl1 := HRz_8.out.lt
              have y2_0 : W19.cell? ⟨gc, 0, none⟩ = some (.bool u1) := (HCz_8.out.c 0).trans rfl
              have y2_1 : W19.cell? ⟨gc, 1, none⟩ = some (.int .u64 p1) := (HCz_8.out.c 1).trans rfl
              have y2_2 : W19.cell? ⟨gc, 2, none⟩ = some (.int .u64 q1) := (HCz_8.out.c 2).trans rfl
              have y2_3 : W19.cell? ⟨gc, 3, none⟩ = some (.bool u2) := (HCz_8.out.c 3).trans rfl
              have y2_4 : W19.cell? ⟨gc, 4, none⟩ = some (.int .u64 p2) := (HCz_8.out.c 4).trans rfl
              have y2_5 : W19.cell? ⟨gc, 5, none⟩ = some (.int .u64 q2) := (HCz_8.out.c 5).trans rfl
              have yl2 := HCz_8.out.lt
              have y3_0 : W19.cell? ⟨gb, 0, none⟩ = some (.bool n1) := HN.out.c0
              have y3_1 : W19.cell? ⟨gb, 1, none⟩ = some (.int .u64 n2) := HN.out.c1
              have y3_2 : W19.cell? ⟨gb, 2, none⟩ = some (.int .u64 n3) := HN.out.c2
              have yl3 := HN.out.lt
              clear y1_0 y1_1 y1_2 y1_3 y1_4 y1_5 yl1 y2_0 y2_1 y2_2 y2_3 y2_4 y2_5 yl2 y3_0 y3_1 y3_2 yl3
              obtain ⟨Wa, hWa⟩ : ∃ W, W = W19.alloc (.cells #[.bool n1, .int .u64 n2, .int .u64 n3, .bool v2, .int .u64 h2, .int .u64 l2] 43) := ⟨_, rfl⟩
              obtain ⟨ga, hga⟩ : ∃ g, g = gb + 1 := ⟨_, rfl⟩
              have hgs : W19.heap.size = ga := by rw [hga]; exact HSZgb.out
              have HGa := Lib.hid (show MI w Wa tz bs As ns cs S.reverse (some ⟨g2, 0, none⟩) (no + 1) cap2 (F ++ [⟨⟨v1, h1, l1⟩, ⟨e1, e2, e3⟩⟩]) bf Af4 ((⟨⟨u1, p1, q1⟩, ⟨u2, p2, q2⟩⟩ :: t2).length) cf4 (⟨⟨u1, p1, q1⟩, ⟨u2, p2, q2⟩⟩ :: t2) gr v1 h1 l1 v2 h2 l2 from by rw [hWa]; exact HGZ_8.out.al _)
              have HRW := Lib.hid (show RowL ER Wa (some ⟨ga, 0, none⟩) [⟨⟨n1, n2, n3⟩, ⟨v2, h2, l2⟩⟩] from by
                have hh := heap_alloc_new W19 (.cells #[.bool n1, .int .u64 n2, .int .u64 n3, .bool v2, .int .u64 h2, .int .u64 l2] 43)
                rw [← hWa, hgs] at hh
                exact rowl_block hh rfl)
              have HPU := Lib.hid (putR_any bs w.heap.size As (some ⟨ga, 0, none⟩) ns cs 1 1 S.reverse [⟨⟨n1, n2, n3⟩, ⟨v2, h2, l2⟩⟩] Wa HGa.out.sb (.inr trivial) HGa.out.sr HRW.out rfl (by omega) HGa.out.B.size (fun j hj e => by have a := HGa.out.t2 j hj; rw [e, HGa.out.t1] at a; omega) (fun a ha => by
                obtain rfl := Option.some.inj ha
                have h1 := HGZ_8.out.sb.lt
                exact ⟨by show ga ≠ bs; omega, fun e => by have h2 := (HGZ_8.out.sr.2.lt _ e.symm).2; simp only at h2; omega⟩))
              rw [← hWa, ← hga]
              clear hWa hga hgs HRW HSZgb HGZ_8 HRz_8 HCz_8 HN HBz_8
              refine HPU.out.mono ?_
              rintro e wy ⟨rfl, Az, cz, z1, z2, z3, z4⟩
              obtain ⟨ty, hGy⟩ := HGa.out.put z1 z2 z3 z4
              have hfa : S.reverse ++ [⟨⟨n1, n2, n3⟩, ⟨v2, h2, l2⟩⟩].reverse = (⟨⟨n1, n2, n3⟩, ⟨v2, h2, l2⟩⟩ :: S).reverse := by simp
              rw [hfa] at hGy
              have HGY := Lib.hid hGy
              clear z1 z2 z3 z4 hGy hfa HPU HGa
              have HBy := Lib.hid HGY.out.B
              have HRy := Lib.hid HGY.out.rb
              have y1_0 : wy.cell? ⟨gr, 0, none⟩ = some (.bool v1) := (HRy.out.c 0).trans rfl
              have y1_1 : wy.cell? ⟨gr, 1, none⟩ = some (.int .u64 h1) := (HRy.out.c 1).trans rfl
              have y1_2 : wy.cell? ⟨gr, 2, none⟩ = some (.int .u64 l1) := (HRy.out.c 2).trans rfl
              have y1_3 : wy.cell? ⟨gr, 3, none⟩ = some (.bool v2) := (HRy.out.c 3).trans rfl
              have y1_4 : wy.cell? ⟨gr, 4, none⟩ = some (.int .u64 h2) := (HRy.out.c 4).trans rfl
              have y1_5 : wy.cell? ⟨gr, 5, none⟩ = some (.int .u64 l2) := (HRy.out.c 5).trans rfl
              have yl1 := HRy.out.lt
              go_wp2_with fail
              clear y1_0 y1_1 y1_2 y1_3 y1_4 y1_5 yl1
              obtain ⟨t9, hG9⟩ := HGY.out.newr v1 h1 l1 v2 h2 l2
              obtain ⟨Wn, hWn⟩ : ∃ W, W = wy.alloc (.cells #[.bool v1, .int .u64 h1, .int .u64 l1, .bool v2, .int .u64 h2, .int .u64 l2] 43) := ⟨_, rfl⟩
              obtain ⟨gn, hgn⟩ : ∃ g, g = wy.heap.size := ⟨_, rfl⟩
              rw [← hWn, ← hgn] at hG9
              rw [← hWn, ← hgn]
              have HGN := Lib.hid hG9
              clear hG9 hWn hgn HGY HRy HBy
              have HTK := Lib.hid (takeR_all bs w.heap.size Az (ns + 1) cz (⟨⟨n1, n2, n3⟩, ⟨v2, h2, l2⟩⟩ :: S) Wn HGN.out.sb HGN.out.sr (by omega) (fun j hj e => by have a := HGN.out.t2 j hj; rw [e, HGN.out.t1] at a; omega))
              refine HTK.out.mono ?_
              rintro e w8 ⟨x1, x2, x3, x4, x5, x6, dd, rfl, k1, k2, k3, k4⟩
              have HG8 := Lib.hid (HGN.out.took2 k1 k2)
              have HMD := minI_took HNX.out.1 k3 k4
              have HMD1 := Lib.hid HMD.1
              have HMD2 := Lib.hid HMD.2
              have HMU := Lib.hid HNX.out.2
              clear HMD k1 k2 k3 k4 HTK HGN HNX
              have HP9 := Lib.hid HG8.out.rb
              have s0 : w8.cell? ⟨gn, 0, none⟩ = some (.bool v1) := (HP9.out.c 0).trans rfl
              have sf0 := HP9.out.f 0
              have s1 : w8.cell? ⟨gn, 1, none⟩ = some (.int .u64 h1) := (HP9.out.c 1).trans rfl
              have sf1 := HP9.out.f 1
              have s2 : w8.cell? ⟨gn, 2, none⟩ = some (.int .u64 l1) := (HP9.out.c 2).trans rfl
              have sf2 := HP9.out.f 2
              have s3 : w8.cell? ⟨gn, 3, none⟩ = some (.bool v2) := (HP9.out.c 3).trans rfl
              have sf3 := HP9.out.f 3
              have s4 : w8.cell? ⟨gn, 4, none⟩ = some (.int .u64 h2) := (HP9.out.c 4).trans rfl
              have sf4 := HP9.out.f 4
              have s5 : w8.cell? ⟨gn, 5, none⟩ = some (.int .u64 l2) := (HP9.out.c 5).trans rfl
              have sf5 := HP9.out.f 5
              have sl := HP9.out.lt
              obtain ⟨W9, hW9⟩ : ∃ W, W = rset w8 gn x1 x2 x3 x4 x5 x6 := ⟨_, rfl⟩
              have HG9 := Lib.hid (HG8.out.setr x1 x2 x3 x4 x5 x6)
              rw [← hW9] at HG9
              unfold rset at hW9
              go_wp2_with fail
              rw [← hW9]
              clear hW9 s0 s1 s2 s3 s4 s5 sf0 sf1 sf2 sf3 sf4 sf5 sl HP9 HG8
              go_roundg (muS ((⟨⟨n1, n2, n3⟩, ⟨v2, h2, l2⟩⟩ :: S)) ((⟨⟨u1, p1, q1⟩, ⟨u2, p2, q2⟩⟩ :: t2)))
              case measure => exact HMU.out
              case rel => exact ⟨t9, Az, (some ⟨g2, 0, none⟩), Af4, (ns + 1) - 1, cz, (no + 1), cap2, ((⟨⟨u1, p1, q1⟩, ⟨u2, p2, q2⟩⟩ :: t2).length), cf4, gn, ((⟨⟨n1, n2, n3⟩, ⟨v2, h2, l2⟩⟩ :: S)).tail, (F ++ [⟨⟨v1, h1, l1⟩, ⟨e1, e2, e3⟩⟩]), (⟨⟨u1, p1, q1⟩, ⟨u2, p2, q2⟩⟩ :: t2), x1, x2, x3, x4, x5, x6, dd, HNF.out, rfl, rfl, rfl, HG9, HMD1, HMD2⟩
            · rw [decide_eq_false t3] at HT3
              have HNX := Lib.hid (show MinI f N (F ++ [⟨⟨v1, h1, l1⟩, ⟨e1, e2, e3⟩⟩]) S (⟨⟨u1, p1, q1⟩, ⟨u2, p2, q2⟩⟩ :: t2) ∧ muS S (⟨⟨u1, p1, q1⟩, ⟨u2, p2, q2⟩⟩ :: t2) < gk from by
                have h := minI_cut (P := [⟨⟨v1, h1, l1⟩, ⟨e1, e2, e3⟩⟩]) (Q := []) hmi hR hle ⟨fun _ => ⟨⟨e1, e2, e3⟩, pf, pva, pv, pk, rfl⟩, fun c => absurd t2' c⟩ ⟨fun c => absurd c t3, fun _ => rfl⟩
                exact ⟨h.1, Nat.lt_of_lt_of_le h.2 hmu⟩)
              clear hmi hmu hx hxs hns hno hR hgy hyx hys t1 t2' hle hv1 hv2 t3 pe pv pf pva pk
              have HB := Lib.hid HGI.out.B
              have HR := Lib.hid HGI.out.rb
              have y1_0 : wr.cell? ⟨gr, 0, none⟩ = some (.bool v1) := (HR.out.c 0).trans rfl
              have y1_1 : wr.cell? ⟨gr, 1, none⟩ = some (.int .u64 h1) := (HR.out.c 1).trans rfl
              have y1_2 : wr.cell? ⟨gr, 2, none⟩ = some (.int .u64 l1) := (HR.out.c 2).trans rfl
              have y1_3 : wr.cell? ⟨gr, 3, none⟩ = some (.bool v2) := (HR.out.c 3).trans rfl
              have y1_4 : wr.cell? ⟨gr, 4, none⟩ = some (.int .u64 h2) := (HR.out.c 4).trans rfl
              have y1_5 : wr.cell? ⟨gr, 5, none⟩ = some (.int .u64 l2) := (HR.out.c 5).trans rfl
              have yl1 := HR.out.lt
              go_wp2_with fail
              clear y1_0 y1_1 y1_2 y1_3 y1_4 y1_5 yl1
              refine HFC.out.mono ?_
              rintro e w4 hfp
              obtain ⟨he, Af4, cf4, hG4⟩ := HGI.out.fol hfp
              rw [HRR.out] at he hG4
              simp only [folV, rngV] at he
              subst he
              have HG4 := Lib.hid hG4
              have HB4 := Lib.hid HG4.out.B
              have HR4 := Lib.hid HG4.out.rb
              have HJ := Lib.hid (fun j hj => (HG4.out.or.2.lt j hj).2)
              clear hfp hG4 HFC HGI HB HR HRR HSM
              have y1_0 : w4.cell? ⟨gr, 0, none⟩ = some (.bool v1) := (HR4.out.c 0).trans rfl
              have y1_1 : w4.cell? ⟨gr, 1, none⟩ = some (.int .u64 h1) := (HR4.out.c 1).trans rfl
              have y1_2 : w4.cell? ⟨gr, 2, none⟩ = some (.int .u64 l1) := (HR4.out.c 2).trans rfl
              have y1_3 : w4.cell? ⟨gr, 3, none⟩ = some (.bool v2) := (HR4.out.c 3).trans rfl
              have y1_4 : w4.cell? ⟨gr, 4, none⟩ = some (.int .u64 h2) := (HR4.out.c 4).trans rfl
              have y1_5 : w4.cell? ⟨gr, 5, none⟩ = some (.int .u64 l2) := (HR4.out.c 5).trans rfl
              have yl1 := HR4.out.lt
              go_wp2_with fail
              clear y1_0 y1_1 y1_2 y1_3 y1_4 y1_5 yl1
              obtain ⟨W12, hW12⟩ : ∃ W, W = w4.alloc (.cells #[.bool u1, .int .u64 p1, .int .u64 q1, .bool u2, .int .u64 p2, .int .u64 q2] 43) := ⟨_, rfl⟩
              obtain ⟨gc, hgc⟩ : ∃ g, g = w4.heap.size := ⟨_, rfl⟩
              have HG4_1 := Lib.hid (show MI w W12 t bs As ns cs S.reverse Ao no co F bf Af4 ((⟨⟨u1, p1, q1⟩, ⟨u2, p2, q2⟩⟩ :: t2).length) cf4 (⟨⟨u1, p1, q1⟩, ⟨u2, p2, q2⟩⟩ :: t2) gr v1 h1 l1 v2 h2 l2 from by rw [hW12]; exact HG4.out.al _)
              have HR4_1 := Lib.hid (show RB W12 gr v1 h1 l1 v2 h2 l2 from by rw [hW12]; exact HR4.out.al _)
              have Lgc := Lib.hid (show gr < gc ∧ w.heap.size ≤ gc from by rw [hgc]; exact ⟨HR4.out.lt, HB4.out.size⟩)
              have HC := Lib.hid (show RB W12 gc u1 p1 q1 u2 p2 q2 from by rw [hW12, hgc]; exact rb_new w4 u1 p1 q1 u2 p2 q2)
              have HSZgc := Lib.hid (show W12.heap.size = gc + 1 from by rw [hW12, hgc]; simp)
              have HUPgc := Lib.hid (show w4.heap.size ≤ W12.heap.size from by rw [hW12]; simp)
              have HB4_1 := Lib.hid (show Below w.heap.size w W12 by rw [hW12]; exact HB4.out.alloc HB4.out.size _)
              clear HG4 HR4 HB4
              have y1_0 : W12.cell? ⟨gr, 0, none⟩ = some (.bool v1) := (HR4_1.out.c 0).trans rfl
              have y1_1 : W12.cell? ⟨gr, 1, none⟩ = some (.int .u64 h1) := (HR4_1.out.c 1).trans rfl
              have y1_2 : W12.cell? ⟨gr, 2, none⟩ = some (.int .u64 l1) := (HR4_1.out.c 2).trans rfl
              have y1_3 : W12.cell? ⟨gr, 3, none⟩ = some (.bool v2) := (HR4_1.out.c 3).trans rfl
              have y1_4 : W12.cell? ⟨gr, 4, none⟩ = some (.int .u64 h2) := (HR4_1.out.c 4).trans rfl
              have y1_5 : W12.cell? ⟨gr, 5, none⟩ = some (.int .u64 l2) := (HR4_1.out.c 5).trans rfl
              have yl1 := HR4_1.out.lt
              have y2_0 : W12.cell? ⟨gc, 0, none⟩ = some (.bool u1) := (HC.out.c 0).trans rfl
              have y2_1 : W12.cell? ⟨gc, 1, none⟩ = some (.int .u64 p1) := (HC.out.c 1).trans rfl
              have y2_2 : W12.cell? ⟨gc, 2, none⟩ = some (.int .u64 q1) := (HC.out.c 2).trans rfl
              have y2_3 : W12.cell? ⟨gc, 3, none⟩ = some (.bool u2) := (HC.out.c 3).trans rfl
              have y2_4 : W12.cell? ⟨gc, 4, none⟩ = some (.int .u64 p2) := (HC.out.c 4).trans rfl
              have y2_5 : W12.cell? ⟨gc, 5, none⟩ = some (.int .u64 q2) := (HC.out.c 5).trans rfl
              have yl2 := HC.out.lt
              have HJC := Lib.hid (show ∀ j, (Value.slice Ao no co).ownBlock = some j → j < gc from fun j hj => by rw [hgc]; exact HJ.out j hj)
              rw [← hW12, ← hgc]
              clear hW12 hgc HJ
              clear y1_0 y1_1 y1_2 y1_3 y1_4 y1_5 yl1 y2_0 y2_1 y2_2 y2_3 y2_4 y2_5 yl2
              refine (HT1.out _).mono ?_
              rintro e w12 ⟨rfl, hb⟩
              have HG4_2 := Lib.hid (show MI w w12 t bs As ns cs S.reverse Ao no co F bf Af4 ((⟨⟨u1, p1, q1⟩, ⟨u2, p2, q2⟩⟩ :: t2).length) cf4 (⟨⟨u1, p1, q1⟩, ⟨u2, p2, q2⟩⟩ :: t2) gr v1 h1 l1 v2 h2 l2 from HG4_1.out.kept hb)
              have HR4_2 := Lib.hid (show RB w12 gr v1 h1 l1 v2 h2 l2 from HR4_1.out.kept hb HR4_1.out.lt)
              have HC_2 := Lib.hid (show RB w12 gc u1 p1 q1 u2 p2 q2 from HC.out.kept hb HC.out.lt)
              have HB4_2 := Lib.hid (HB4_1.out.trans (hb.mono HB4_1.out.size))
              clear hb HG4_1 HR4_1 HC HB4_1
              have y1_0 : w12.cell? ⟨gr, 0, none⟩ = some (.bool v1) := (HR4_2.out.c 0).trans rfl
              have y1_1 : w12.cell? ⟨gr, 1, none⟩ = some (.int .u64 h1) := (HR4_2.out.c 1).trans rfl
              have y1_2 : w12.cell? ⟨gr, 2, none⟩ = some (.int .u64 l1) := (HR4_2.out.c 2).trans rfl
              have y1_3 : w12.cell? ⟨gr, 3, none⟩ = some (.bool v2) := (HR4_2.out.c 3).trans rfl
              have y1_4 : w12.cell? ⟨gr, 4, none⟩ = some (.int .u64 h2) := (HR4_2.out.c 4).trans rfl
              have y1_5 : w12.cell? ⟨gr, 5, none⟩ = some (.int .u64 l2) := (HR4_2.out.c 5).trans rfl
              have yl1 := HR4_2.out.lt
              have y2_0 : w12.cell? ⟨gc, 0, none⟩ = some (.bool u1) := (HC_2.out.c 0).trans rfl
              have y2_1 : w12.cell? ⟨gc, 1, none⟩ = some (.int .u64 p1) := (HC_2.out.c 1).trans rfl
              have y2_2 : w12.cell? ⟨gc, 2, none⟩ = some (.int .u64 q1) := (HC_2.out.c 2).trans rfl
              have y2_3 : w12.cell? ⟨gc, 3, none⟩ = some (.bool u2) := (HC_2.out.c 3).trans rfl
              have y2_4 : w12.cell? ⟨gc, 4, none⟩ = some (.int .u64 p2) := (HC_2.out.c 4).trans rfl
              have y2_5 : w12.cell? ⟨gc, 5, none⟩ = some (.int .u64 q2) := (HC_2.out.c 5).trans rfl
              have yl2 := HC_2.out.lt
              go_wp2_with fail
              clear y1_0 y1_1 y1_2 y1_3 y1_4 y1_5 yl1 y2_0 y2_1 y2_2 y2_3 y2_4 y2_5 yl2
              refine (HT2.out _).mono ?_
              rintro e w13 ⟨rfl, hb⟩
              have HG4_3 := Lib.hid (show MI w w13 t bs As ns cs S.reverse Ao no co F bf Af4 ((⟨⟨u1, p1, q1⟩, ⟨u2, p2, q2⟩⟩ :: t2).length) cf4 (⟨⟨u1, p1, q1⟩, ⟨u2, p2, q2⟩⟩ :: t2) gr v1 h1 l1 v2 h2 l2 from HG4_2.out.kept hb)
              have HR4_3 := Lib.hid (show RB w13 gr v1 h1 l1 v2 h2 l2 from HR4_2.out.kept hb HR4_2.out.lt)
              have HC_3 := Lib.hid (show RB w13 gc u1 p1 q1 u2 p2 q2 from HC_2.out.kept hb HC_2.out.lt)
              have HB4_3 := Lib.hid (HB4_2.out.trans (hb.mono HB4_2.out.size))
              clear hb HG4_2 HR4_2 HC_2 HB4_2
              have y1_0 : w13.cell? ⟨gr, 0, none⟩ = some (.bool v1) := (HR4_3.out.c 0).trans rfl
              have y1_1 : w13.cell? ⟨gr, 1, none⟩ = some (.int .u64 h1) := (HR4_3.out.c 1).trans rfl
              have y1_2 : w13.cell? ⟨gr, 2, none⟩ = some (.int .u64 l1) := (HR4_3.out.c 2).trans rfl
              have y1_3 : w13.cell? ⟨gr, 3, none⟩ = some (.bool v2) := (HR4_3.out.c 3).trans rfl
              have y1_4 : w13.cell? ⟨gr, 4, none⟩ = some (.int .u64 h2) := (HR4_3.out.c 4).trans rfl
              have y1_5 : w13.cell? ⟨gr, 5, none⟩ = some (.int .u64 l2) := (HR4_3.out.c 5).trans rfl
              have yl1 := HR4_3.out.lt
              have y2_0 : w13.cell? ⟨gc, 0, none⟩ = some (.bool u1) := (HC_3.out.c 0).trans rfl
              have y2_1 : w13.cell? ⟨gc, 1, none⟩ = some (.int .u64 p1) := (HC_3.out.c 1).trans rfl
              have y2_2 : w13.cell? ⟨gc, 2, none⟩ = some (.int .u64 q1) := (HC_3.out.c 2).trans rfl
              have y2_3 : w13.cell? ⟨gc, 3, none⟩ = some (.bool u2) := (HC_3.out.c 3).trans rfl
              have y2_4 : w13.cell? ⟨gc, 4, none⟩ = some (.int .u64 p2) := (HC_3.out.c 4).trans rfl
              have y2_5 : w13.cell? ⟨gc, 5, none⟩ = some (.int .u64 q2) := (HC_3.out.c 5).trans rfl
              have yl2 := HC_3.out.lt
              go_wp2_with fail
              clear y1_0 y1_1 y1_2 y1_3 y1_4 y1_5 yl1 y2_0 y2_1 y2_2 y2_3 y2_4 y2_5 yl2
              refine (HPV.out _).mono ?_
              rintro e w14 ⟨rfl, hb⟩
              have HG4_4 := Lib.hid (show MI w w14 t bs As ns cs S.reverse Ao no co F bf Af4 ((⟨⟨u1, p1, q1⟩, ⟨u2, p2, q2⟩⟩ :: t2).length) cf4 (⟨⟨u1, p1, q1⟩, ⟨u2, p2, q2⟩⟩ :: t2) gr v1 h1 l1 v2 h2 l2 from HG4_3.out.kept hb)
              have HR4_4 := Lib.hid (show RB w14 gr v1 h1 l1 v2 h2 l2 from HR4_3.out.kept hb HR4_3.out.lt)
              have HC_4 := Lib.hid (show RB w14 gc u1 p1 q1 u2 p2 q2 from HC_3.out.kept hb HC_3.out.lt)
              have HB4_4 := Lib.hid (HB4_3.out.trans (hb.mono HB4_3.out.size))
              clear hb HG4_3 HR4_3 HC_3 HB4_3
              have y1_0 : w14.cell? ⟨gr, 0, none⟩ = some (.bool v1) := (HR4_4.out.c 0).trans rfl
              have y1_1 : w14.cell? ⟨gr, 1, none⟩ = some (.int .u64 h1) := (HR4_4.out.c 1).trans rfl
              have y1_2 : w14.cell? ⟨gr, 2, none⟩ = some (.int .u64 l1) := (HR4_4.out.c 2).trans rfl
              have y1_3 : w14.cell? ⟨gr, 3, none⟩ = some (.bool v2) := (HR4_4.out.c 3).trans rfl
              have y1_4 : w14.cell? ⟨gr, 4, none⟩ = some (.int .u64 h2) := (HR4_4.out.c 4).trans rfl
              have y1_5 : w14.cell? ⟨gr, 5, none⟩ = some (.int .u64 l2) := (HR4_4.out.c 5).trans rfl
              have yl1 := HR4_4.out.lt
              have y2_0 : w14.cell? ⟨gc, 0, none⟩ = some (.bool u1) := (HC_4.out.c 0).trans rfl
              have y2_1 : w14.cell? ⟨gc, 1, none⟩ = some (.int .u64 p1) := (HC_4.out.c 1).trans rfl
              have y2_2 : w14.cell? ⟨gc, 2, none⟩ = some (.int .u64 q1) := (HC_4.out.c 2).trans rfl
              have y2_3 : w14.cell? ⟨gc, 3, none⟩ = some (.bool u2) := (HC_4.out.c 3).trans rfl
              have y2_4 : w14.cell? ⟨gc, 4, none⟩ = some (.int .u64 p2) := (HC_4.out.c 4).trans rfl
              have y2_5 : w14.cell? ⟨gc, 5, none⟩ = some (.int .u64 q2) := (HC_4.out.c 5).trans rfl
              have yl2 := HC_4.out.lt
              clear y1_0 y1_1 y1_2 y1_3 y1_4 y1_5 yl1 y2_0 y2_1 y2_2 y2_3 y2_4 y2_5 yl2
              have HG4_5 := Lib.hid (show MI w (w14.alloc (.cells #[.bool e1, .int .u64 e2, .int .u64 e3] 25)) t bs As ns cs S.reverse Ao no co F bf Af4 ((⟨⟨u1, p1, q1⟩, ⟨u2, p2, q2⟩⟩ :: t2).length) cf4 (⟨⟨u1, p1, q1⟩, ⟨u2, p2, q2⟩⟩ :: t2) gr v1 h1 l1 v2 h2 l2 from HG4_4.out.al _)
              have HR4_5 := Lib.hid (show RB (w14.alloc (.cells #[.bool e1, .int .u64 e2, .int .u64 e3] 25)) gr v1 h1 l1 v2 h2 l2 from HR4_4.out.al _)
              have HC_5 := Lib.hid (show RB (w14.alloc (.cells #[.bool e1, .int .u64 e2, .int .u64 e3] 25)) gc u1 p1 q1 u2 p2 q2 from HC_4.out.al _)
              have HE := Lib.hid (show AB (w14.alloc (.cells #[.bool e1, .int .u64 e2, .int .u64 e3] 25)) w14.heap.size e1 e2 e3 from ab_new w14 e1 e2 e3)
              have HB4_5 := Lib.hid (show Below w.heap.size w (w14.alloc (.cells #[.bool e1, .int .u64 e2, .int .u64 e3] 25)) from HB4_4.out.alloc HB4_4.out.size _)
              clear HG4_4 HR4_4 HC_4 HB4_4
              have y1_0 : (w14.alloc (.cells #[.bool e1, .int .u64 e2, .int .u64 e3] 25)).cell? ⟨gr, 0, none⟩ = some (.bool v1) := (HR4_5.out.c 0).trans rfl
              have y1_1 : (w14.alloc (.cells #[.bool e1, .int .u64 e2, .int .u64 e3] 25)).cell? ⟨gr, 1, none⟩ = some (.int .u64 h1) := (HR4_5.out.c 1).trans rfl
              have y1_2 : (w14.alloc (.cells #[.bool e1, .int .u64 e2, .int .u64 e3] 25)).cell? ⟨gr, 2, none⟩ = some (.int .u64 l1) := (HR4_5.out.c 2).trans rfl
              have y1_3 : (w14.alloc (.cells #[.bool e1, .int .u64 e2, .int .u64 e3] 25)).cell? ⟨gr, 3, none⟩ = some (.bool v2) := (HR4_5.out.c 3).trans rfl
              have y1_4 : (w14.alloc (.cells #[.bool e1, .int .u64 e2, .int .u64 e3] 25)).cell? ⟨gr, 4, none⟩ = some (.int .u64 h2) := (HR4_5.out.c 4).trans rfl
              have y1_5 : (w14.alloc (.cells #[.bool e1, .int .u64 e2, .int .u64 e3] 25)).cell? ⟨gr, 5, none⟩ = some (.int .u64 l2) := (HR4_5.out.c 5).trans rfl
              have yl1 := HR4_5.out.lt
              have y2_0 : (w14.alloc (.cells #[.bool e1, .int .u64 e2, .int .u64 e3] 25)).cell? ⟨gc, 0, none⟩ = some (.bool u1) := (HC_5.out.c 0).trans rfl
              have y2_1 : (w14.alloc (.cells #[.bool e1, .int .u64 e2, .int .u64 e3] 25)).cell? ⟨gc, 1, none⟩ = some (.int .u64 p1) := (HC_5.out.c 1).trans rfl
              have y2_2 : (w14.alloc (.cells #[.bool e1, .int .u64 e2, .int .u64 e3] 25)).cell? ⟨gc, 2, none⟩ = some (.int .u64 q1) := (HC_5.out.c 2).trans rfl
              have y2_3 : (w14.alloc (.cells #[.bool e1, .int .u64 e2, .int .u64 e3] 25)).cell? ⟨gc, 3, none⟩ = some (.bool u2) := (HC_5.out.c 3).trans rfl
              have y2_4 : (w14.alloc (.cells #[.bool e1, .int .u64 e2, .int .u64 e3] 25)).cell? ⟨gc, 4, none⟩ = some (.int .u64 p2) := (HC_5.out.c 4).trans rfl
              have y2_5 : (w14.alloc (.cells #[.bool e1, .int .u64 e2, .int .u64 e3] 25)).cell? ⟨gc, 5, none⟩ = some (.int .u64 q2) := (HC_5.out.c 5).trans rfl
              have yl2 := HC_5.out.lt
              have y3_0 : (w14.alloc (.cells #[.bool e1, .int .u64 e2, .int .u64 e3] 25)).cell? ⟨w14.heap.size, 0, none⟩ = some (.bool e1) := HE.out.c0
              have y3_1 : (w14.alloc (.cells #[.bool e1, .int .u64 e2, .int .u64 e3] 25)).cell? ⟨w14.heap.size, 1, none⟩ = some (.int .u64 e2) := HE.out.c1
              have y3_2 : (w14.alloc (.cells #[.bool e1, .int .u64 e2, .int .u64 e3] 25)).cell? ⟨w14.heap.size, 2, none⟩ = some (.int .u64 e3) := HE.out.c2
              have yl3 := HE.out.lt
              have hsza := HB4_5.out.size
              go_wp2_with (at_builtin; refine wpList_push (E := ER) rgTy (by rfl) _ _ (by rfl) w.heap.size _ no F [⟨⟨v1, h1, l1⟩, ⟨e1, e2, e3⟩⟩] (by rfl) (HG4_5.out.or.al _).2 _ 1 1 #[.bool v1, .int .u64 h1, .int .u64 l1, .bool e1, .int .u64 e2, .int .u64 e3] (0, 0) (by rfl) (heap2 _ _ _) rfl rfl (by omega) (by omega) (by decide) ?hb ?_)
              case hb => (have h9 := HB4_5.out.size; simp at h9 ⊢; omega)
              intro g2 cap2 wz hown hgrow hat hlt2
              have hat : (Value.slice Ao no co).ownBlock = some g2 ∨ g2 = (w14.alloc (.cells #[.bool e1, .int .u64 e2, .int .u64 e3] 25)).heap.size + 1 := by rcases hat with h9 | h9; exact .inl h9; exact .inr (by simp; omega)
              obtain ⟨tz, hGz⟩ := HG4_5.out.found hown hgrow hat
              clear y1_0 y1_1 y1_2 y1_3 y1_4 y1_5 yl1 y2_0 y2_1 y2_2 y2_3 y2_4 y2_5 yl2 y3_0 y3_1 y3_2 yl3
              have HGZ := Lib.hid hGz
              have HCz := Lib.hid (show RB wz gc u1 p1 q1 u2 p2 q2 from (HC_5.out.al _).grown hgrow (fun e => Nat.lt_irrefl _ (HJC.out gc e.symm)))
              clear hGz hown hgrow hat hlt2 hsza HJC HG4_5 HR4_5 HC_5 HE HB4_5
              have HBz := Lib.hid HGZ.out.B
              have HRz := Lib.hid HGZ.out.rb
              have y1_0 : wz.cell? ⟨gr, 0, none⟩ = some (.bool v1) := (HRz.out.c 0).trans rfl
              have y1_1 : wz.cell? ⟨gr, 1, none⟩ = some (.int .u64 h1) := (HRz.out.c 1).trans rfl
              have y1_2 : wz.cell? ⟨gr, 2, none⟩ = some (.int .u64 l1) := (HRz.out.c 2).trans rfl
              have y1_3 : wz.cell? ⟨gr, 3, none⟩ = some (.bool v2) := (HRz.out.c 3).trans rfl
              have y1_4 : wz.cell? ⟨gr, 4, none⟩ = some (.int .u64 h2) := (HRz.out.c 4).trans rfl
              have y1_5 : wz.cell? ⟨gr, 5, none⟩ = some (.int .u64 l2) := (HRz.out.c 5).trans rfl
              have yl1 := HRz.out.lt
              have y2_0 : wz.cell? ⟨gc, 0, none⟩ = some (.bool u1) := (HCz.out.c 0).trans rfl
              have y2_1 : wz.cell? ⟨gc, 1, none⟩ = some (.int .u64 p1) := (HCz.out.c 1).trans rfl
              have y2_2 : wz.cell? ⟨gc, 2, none⟩ = some (.int .u64 q1) := (HCz.out.c 2).trans rfl
              have y2_3 : wz.cell? ⟨gc, 3, none⟩ = some (.bool u2) := (HCz.out.c 3).trans rfl
              have y2_4 : wz.cell? ⟨gc, 4, none⟩ = some (.int .u64 p2) := (HCz.out.c 4).trans rfl
              have y2_5 : wz.cell? ⟨gc, 5, none⟩ = some (.int .u64 q2) := (HCz.out.c 5).trans rfl
              have yl2 := HCz.out.lt
              go_wp2_with fail
              clear y1_0 y1_1 y1_2 y1_3 y1_4 y1_5 yl1 y2_0 y2_1 y2_2 y2_3 y2_4 y2_5 yl2
              refine (HT3.out _).mono ?_
              rintro e w16 ⟨rfl, hb⟩
              have HGZ_6 := Lib.hid (show MI w w16 tz bs As ns cs S.reverse (some ⟨g2, 0, none⟩) (no + 1) cap2 (F ++ [⟨⟨v1, h1, l1⟩, ⟨e1, e2, e3⟩⟩]) bf Af4 ((⟨⟨u1, p1, q1⟩, ⟨u2, p2, q2⟩⟩ :: t2).length) cf4 (⟨⟨u1, p1, q1⟩, ⟨u2, p2, q2⟩⟩ :: t2) gr v1 h1 l1 v2 h2 l2 from HGZ.out.kept hb)
              have HRz_6 := Lib.hid (show RB w16 gr v1 h1 l1 v2 h2 l2 from HRz.out.kept hb HRz.out.lt)
              have HCz_6 := Lib.hid (show RB w16 gc u1 p1 q1 u2 p2 q2 from HCz.out.kept hb HCz.out.lt)
              have HBz_6 := Lib.hid (HBz.out.trans (hb.mono HBz.out.size))
              clear hb HGZ HRz HCz HBz
              have y1_0 : w16.cell? ⟨gr, 0, none⟩ = some (.bool v1) := (HRz_6.out.c 0).trans rfl
              have y1_1 : w16.cell? ⟨gr, 1, none⟩ = some (.int .u64 h1) := (HRz_6.out.c 1).trans rfl
              have y1_2 : w16.cell? ⟨gr, 2, none⟩ = some (.int .u64 l1) := (HRz_6.out.c 2).trans rfl
              have y1_3 : w16.cell? ⟨gr, 3, none⟩ = some (.bool v2) := (HRz_6.out.c 3).trans rfl
              have y1_4 : w16.cell? ⟨gr, 4, none⟩ = some (.int .u64 h2) := (HRz_6.out.c 4).trans rfl
              have y1_5 : w16.cell? ⟨gr, 5, none⟩ = some (.int .u64 l2) := (HRz_6.out.c 5).trans rfl
              have yl1 := HRz_6.out.lt
              have y2_0 : w16.cell? ⟨gc, 0, none⟩ = some (.bool u1) := (HCz_6.out.c 0).trans rfl
              have y2_1 : w16.cell? ⟨gc, 1, none⟩ = some (.int .u64 p1) := (HCz_6.out.c 1).trans rfl
              have y2_2 : w16.cell? ⟨gc, 2, none⟩ = some (.int .u64 q1) := (HCz_6.out.c 2).trans rfl
              have y2_3 : w16.cell? ⟨gc, 3, none⟩ = some (.bool u2) := (HCz_6.out.c 3).trans rfl
              have y2_4 : w16.cell? ⟨gc, 4, none⟩ = some (.int .u64 p2) := (HCz_6.out.c 4).trans rfl
              have y2_5 : w16.cell? ⟨gc, 5, none⟩ = some (.int .u64 q2) := (HCz_6.out.c 5).trans rfl
              have yl2 := HCz_6.out.lt
              go_wp2_with fail
              clear y1_0 y1_1 y1_2 y1_3 y1_4 y1_5 yl1 y2_0 y2_1 y2_2 y2_3 y2_4 y2_5 yl2
              obtain ⟨t9, hG9⟩ := HGZ_6.out.newr v1 h1 l1 v2 h2 l2
              obtain ⟨Wn, hWn⟩ : ∃ W, W = w16.alloc (.cells #[.bool v1, .int .u64 h1, .int .u64 l1, .bool v2, .int .u64 h2, .int .u64 l2] 43) := ⟨_, rfl⟩
              obtain ⟨gn, hgn⟩ : ∃ g, g = w16.heap.size := ⟨_, rfl⟩
              rw [← hWn, ← hgn] at hG9
              rw [← hWn, ← hgn]
              have HGN := Lib.hid hG9
              clear hG9 hWn hgn HGZ_6 HRz_6 HCz_6 HBz_6
              have HTK := Lib.hid (takeR_all bs w.heap.size As ns cs S Wn HGN.out.sb HGN.out.sr (by omega) (fun j hj e => by have a := HGN.out.t2 j hj; rw [e, HGN.out.t1] at a; omega))
              refine HTK.out.mono ?_
              rintro e w8 ⟨x1, x2, x3, x4, x5, x6, dd, rfl, k1, k2, k3, k4⟩
              have HG8 := Lib.hid (HGN.out.took2 k1 k2)
              have HMD := minI_took HNX.out.1 k3 k4
              have HMD1 := Lib.hid HMD.1
              have HMD2 := Lib.hid HMD.2
              have HMU := Lib.hid HNX.out.2
              clear HMD k1 k2 k3 k4 HTK HGN HNX
              have HP9 := Lib.hid HG8.out.rb
              have s0 : w8.cell? ⟨gn, 0, none⟩ = some (.bool v1) := (HP9.out.c 0).trans rfl
              have sf0 := HP9.out.f 0
              have s1 : w8.cell? ⟨gn, 1, none⟩ = some (.int .u64 h1) := (HP9.out.c 1).trans rfl
              have sf1 := HP9.out.f 1
              have s2 : w8.cell? ⟨gn, 2, none⟩ = some (.int .u64 l1) := (HP9.out.c 2).trans rfl
              have sf2 := HP9.out.f 2
              have s3 : w8.cell? ⟨gn, 3, none⟩ = some (.bool v2) := (HP9.out.c 3).trans rfl
              have sf3 := HP9.out.f 3
              have s4 : w8.cell? ⟨gn, 4, none⟩ = some (.int .u64 h2) := (HP9.out.c 4).trans rfl
              have sf4 := HP9.out.f 4
              have s5 : w8.cell? ⟨gn, 5, none⟩ = some (.int .u64 l2) := (HP9.out.c 5).trans rfl
              have sf5 := HP9.out.f 5
              have sl := HP9.out.lt
              obtain ⟨W9, hW9⟩ : ∃ W, W = rset w8 gn x1 x2 x3 x4 x5 x6 := ⟨_, rfl⟩
              have HG9 := Lib.hid (HG8.out.setr x1 x2 x3 x4 x5 x6)
              rw [← hW9] at HG9
              unfold rset at hW9
              go_wp2_with fail
              rw [← hW9]
              clear hW9 s0 s1 s2 s3 s4 s5 sf0 sf1 sf2 sf3 sf4 sf5 sl HP9 HG8
              go_roundg (muS (S) ((⟨⟨u1, p1, q1⟩, ⟨u2, p2, q2⟩⟩ :: t2)))
              case measure => exact HMU.out
              case rel => exact ⟨t9, As, (some ⟨g2, 0, none⟩), Af4, ns - 1, cs, (no + 1), cap2, ((⟨⟨u1, p1, q1⟩, ⟨u2, p2, q2⟩⟩ :: t2).length), cf4, gn, (S).tail, (F ++ [⟨⟨v1, h1, l1⟩, ⟨e1, e2, e3⟩⟩]), (⟨⟨u1, p1, q1⟩, ⟨u2, p2, q2⟩⟩ :: t2), x1, x2, x3, x4, x5, x6, dd, HNF.out, rfl, rfl, rfl, HG9, HMD1, HMD2⟩
          · rw [decide_eq_false t2'] at HT2
            by_cases t3 : kA ⟨u2, p2, q2⟩ < kA ⟨v2, h2, l2⟩
            · rw [decide_eq_true t3] at HT3
              obtain ⟨⟨n1, n2, n3⟩, nn, nv, nf9, nva, nk⟩ := nxt_piece hx.2.2 hgy.2.2 hxs.2.1 hys.2.1 (hv2 t3) t3
              simp only at nn nv
              have HNT := Lib.hid (show ∀ W, Calls Try.prog 53 #[.agg #[.bool u2, .int .u64 p2, .int .u64 q2]] W fun e w' => e = .returned (.tuple #[.agg #[.bool n1, .int .u64 n2, .int .u64 n3], .bool true]) ∧ Below W.heap.size W w' from fun W => by
                have h := qnext_any u2 p2 q2 W hgy.2.2.1 hgy.2.2.2 hys.2.1
                rw [nn] at h
                exact h)
              have HNX := Lib.hid (show MinI f N F (⟨⟨n1, n2, n3⟩, ⟨v2, h2, l2⟩⟩ :: S) (⟨⟨u1, p1, q1⟩, ⟨u2, p2, q2⟩⟩ :: t2) ∧ muS (⟨⟨n1, n2, n3⟩, ⟨v2, h2, l2⟩⟩ :: S) (⟨⟨u1, p1, q1⟩, ⟨u2, p2, q2⟩⟩ :: t2) < gk from by
                have h := minI_cut (P := []) (Q := [⟨⟨n1, n2, n3⟩, ⟨v2, h2, l2⟩⟩]) hmi hR hle ⟨fun c => absurd c t2', fun _ => rfl⟩ ⟨fun _ => ⟨⟨n1, n2, n3⟩, nf9, nva, nv, nk, rfl⟩, fun c => absurd t3 c⟩
                rw [List.append_nil] at h
                exact ⟨h.1, Nat.lt_of_lt_of_le h.2 hmu⟩)
              clear nn nv nf9 nva nk
              clear hmi hmu hx hxs hns hno hR hgy hyx hys t1 t2' hle hv1 hv2 t3
              have HB := Lib.hid HGI.out.B
              have HR := Lib.hid HGI.out.rb
              have y1_0 : wr.cell? ⟨gr, 0, none⟩ = some (.bool v1) := (HR.out.c 0).trans rfl
              have y1_1 : wr.cell? ⟨gr, 1, none⟩ = some (.int .u64 h1) := (HR.out.c 1).trans rfl
              have y1_2 : wr.cell? ⟨gr, 2, none⟩ = some (.int .u64 l1) := (HR.out.c 2).trans rfl
              have y1_3 : wr.cell? ⟨gr, 3, none⟩ = some (.bool v2) := (HR.out.c 3).trans rfl
              have y1_4 : wr.cell? ⟨gr, 4, none⟩ = some (.int .u64 h2) := (HR.out.c 4).trans rfl
              have y1_5 : wr.cell? ⟨gr, 5, none⟩ = some (.int .u64 l2) := (HR.out.c 5).trans rfl
              have yl1 := HR.out.lt
              go_wp2_with fail
              clear y1_0 y1_1 y1_2 y1_3 y1_4 y1_5 yl1
              refine HFC.out.mono ?_
              rintro e w4 hfp
              obtain ⟨he, Af4, cf4, hG4⟩ := HGI.out.fol hfp
              rw [HRR.out] at he hG4
              simp only [folV, rngV] at he
              subst he
              have HG4 := Lib.hid hG4
              have HB4 := Lib.hid HG4.out.B
              have HR4 := Lib.hid HG4.out.rb
              have HJ := Lib.hid (fun j hj => (HG4.out.or.2.lt j hj).2)
              clear hfp hG4 HFC HGI HB HR HRR HSM
              have y1_0 : w4.cell? ⟨gr, 0, none⟩ = some (.bool v1) := (HR4.out.c 0).trans rfl
              have y1_1 : w4.cell? ⟨gr, 1, none⟩ = some (.int .u64 h1) := (HR4.out.c 1).trans rfl
              have y1_2 : w4.cell? ⟨gr, 2, none⟩ = some (.int .u64 l1) := (HR4.out.c 2).trans rfl
              have y1_3 : w4.cell? ⟨gr, 3, none⟩ = some (.bool v2) := (HR4.out.c 3).trans rfl
              have y1_4 : w4.cell? ⟨gr, 4, none⟩ = some (.int .u64 h2) := (HR4.out.c 4).trans rfl
              have y1_5 : w4.cell? ⟨gr, 5, none⟩ = some (.int .u64 l2) := (HR4.out.c 5).trans rfl
              have yl1 := HR4.out.lt
              go_wp2_with fail
              clear y1_0 y1_1 y1_2 y1_3 y1_4 y1_5 yl1
              obtain ⟨W12, hW12⟩ : ∃ W, W = w4.alloc (.cells #[.bool u1, .int .u64 p1, .int .u64 q1, .bool u2, .int .u64 p2, .int .u64 q2] 43) := ⟨_, rfl⟩
              obtain ⟨gc, hgc⟩ : ∃ g, g = w4.heap.size := ⟨_, rfl⟩
              have HG4_1 := Lib.hid (show MI w W12 t bs As ns cs S.reverse Ao no co F bf Af4 ((⟨⟨u1, p1, q1⟩, ⟨u2, p2, q2⟩⟩ :: t2).length) cf4 (⟨⟨u1, p1, q1⟩, ⟨u2, p2, q2⟩⟩ :: t2) gr v1 h1 l1 v2 h2 l2 from by rw [hW12]; exact HG4.out.al _)
              have HR4_1 := Lib.hid (show RB W12 gr v1 h1 l1 v2 h2 l2 from by rw [hW12]; exact HR4.out.al _)
              have Lgc := Lib.hid (show gr < gc ∧ w.heap.size ≤ gc from by rw [hgc]; exact ⟨HR4.out.lt, HB4.out.size⟩)
              have HC := Lib.hid (show RB W12 gc u1 p1 q1 u2 p2 q2 from by rw [hW12, hgc]; exact rb_new w4 u1 p1 q1 u2 p2 q2)
              have HSZgc := Lib.hid (show W12.heap.size = gc + 1 from by rw [hW12, hgc]; simp)
              have HUPgc := Lib.hid (show w4.heap.size ≤ W12.heap.size from by rw [hW12]; simp)
              have HB4_1 := Lib.hid (show Below w.heap.size w W12 by rw [hW12]; exact HB4.out.alloc HB4.out.size _)
              clear HG4 HR4 HB4
              have y1_0 : W12.cell? ⟨gr, 0, none⟩ = some (.bool v1) := (HR4_1.out.c 0).trans rfl
              have y1_1 : W12.cell? ⟨gr, 1, none⟩ = some (.int .u64 h1) := (HR4_1.out.c 1).trans rfl
              have y1_2 : W12.cell? ⟨gr, 2, none⟩ = some (.int .u64 l1) := (HR4_1.out.c 2).trans rfl
              have y1_3 : W12.cell? ⟨gr, 3, none⟩ = some (.bool v2) := (HR4_1.out.c 3).trans rfl
              have y1_4 : W12.cell? ⟨gr, 4, none⟩ = some (.int .u64 h2) := (HR4_1.out.c 4).trans rfl
              have y1_5 : W12.cell? ⟨gr, 5, none⟩ = some (.int .u64 l2) := (HR4_1.out.c 5).trans rfl
              have yl1 := HR4_1.out.lt
              have y2_0 : W12.cell? ⟨gc, 0, none⟩ = some (.bool u1) := (HC.out.c 0).trans rfl
              have y2_1 : W12.cell? ⟨gc, 1, none⟩ = some (.int .u64 p1) := (HC.out.c 1).trans rfl
              have y2_2 : W12.cell? ⟨gc, 2, none⟩ = some (.int .u64 q1) := (HC.out.c 2).trans rfl
              have y2_3 : W12.cell? ⟨gc, 3, none⟩ = some (.bool u2) := (HC.out.c 3).trans rfl
              have y2_4 : W12.cell? ⟨gc, 4, none⟩ = some (.int .u64 p2) := (HC.out.c 4).trans rfl
              have y2_5 : W12.cell? ⟨gc, 5, none⟩ = some (.int .u64 q2) := (HC.out.c 5).trans rfl
              have yl2 := HC.out.lt
              have HJC := Lib.hid (show ∀ j, (Value.slice Ao no co).ownBlock = some j → j < gc from fun j hj => by rw [hgc]; exact HJ.out j hj)
              rw [← hW12, ← hgc]
              clear hW12 hgc HJ
              clear y1_0 y1_1 y1_2 y1_3 y1_4 y1_5 yl1 y2_0 y2_1 y2_2 y2_3 y2_4 y2_5 yl2
              refine (HT1.out _).mono ?_
              rintro e w12 ⟨rfl, hb⟩
              have HG4_2 := Lib.hid (show MI w w12 t bs As ns cs S.reverse Ao no co F bf Af4 ((⟨⟨u1, p1, q1⟩, ⟨u2, p2, q2⟩⟩ :: t2).length) cf4 (⟨⟨u1, p1, q1⟩, ⟨u2, p2, q2⟩⟩ :: t2) gr v1 h1 l1 v2 h2 l2 from HG4_1.out.kept hb)
              have HR4_2 := Lib.hid (show RB w12 gr v1 h1 l1 v2 h2 l2 from HR4_1.out.kept hb HR4_1.out.lt)
              have HC_2 := Lib.hid (show RB w12 gc u1 p1 q1 u2 p2 q2 from HC.out.kept hb HC.out.lt)
              have HB4_2 := Lib.hid (HB4_1.out.trans (hb.mono HB4_1.out.size))
              clear hb HG4_1 HR4_1 HC HB4_1
              have y1_0 : w12.cell? ⟨gr, 0, none⟩ = some (.bool v1) := (HR4_2.out.c 0).trans rfl
              have y1_1 : w12.cell? ⟨gr, 1, none⟩ = some (.int .u64 h1) := (HR4_2.out.c 1).trans rfl
              have y1_2 : w12.cell? ⟨gr, 2, none⟩ = some (.int .u64 l1) := (HR4_2.out.c 2).trans rfl
              have y1_3 : w12.cell? ⟨gr, 3, none⟩ = some (.bool v2) := (HR4_2.out.c 3).trans rfl
              have y1_4 : w12.cell? ⟨gr, 4, none⟩ = some (.int .u64 h2) := (HR4_2.out.c 4).trans rfl
              have y1_5 : w12.cell? ⟨gr, 5, none⟩ = some (.int .u64 l2) := (HR4_2.out.c 5).trans rfl
              have yl1 := HR4_2.out.lt
              have y2_0 : w12.cell? ⟨gc, 0, none⟩ = some (.bool u1) := (HC_2.out.c 0).trans rfl
              have y2_1 : w12.cell? ⟨gc, 1, none⟩ = some (.int .u64 p1) := (HC_2.out.c 1).trans rfl
              have y2_2 : w12.cell? ⟨gc, 2, none⟩ = some (.int .u64 q1) := (HC_2.out.c 2).trans rfl
              have y2_3 : w12.cell? ⟨gc, 3, none⟩ = some (.bool u2) := (HC_2.out.c 3).trans rfl
              have y2_4 : w12.cell? ⟨gc, 4, none⟩ = some (.int .u64 p2) := (HC_2.out.c 4).trans rfl
              have y2_5 : w12.cell? ⟨gc, 5, none⟩ = some (.int .u64 q2) := (HC_2.out.c 5).trans rfl
              have yl2 := HC_2.out.lt
              go_wp2_with fail
              clear y1_0 y1_1 y1_2 y1_3 y1_4 y1_5 yl1 y2_0 y2_1 y2_2 y2_3 y2_4 y2_5 yl2
              refine (HT2.out _).mono ?_
              rintro e w13 ⟨rfl, hb⟩
              have HG4_3 := Lib.hid (show MI w w13 t bs As ns cs S.reverse Ao no co F bf Af4 ((⟨⟨u1, p1, q1⟩, ⟨u2, p2, q2⟩⟩ :: t2).length) cf4 (⟨⟨u1, p1, q1⟩, ⟨u2, p2, q2⟩⟩ :: t2) gr v1 h1 l1 v2 h2 l2 from HG4_2.out.kept hb)
              have HR4_3 := Lib.hid (show RB w13 gr v1 h1 l1 v2 h2 l2 from HR4_2.out.kept hb HR4_2.out.lt)
              have HC_3 := Lib.hid (show RB w13 gc u1 p1 q1 u2 p2 q2 from HC_2.out.kept hb HC_2.out.lt)
              have HB4_3 := Lib.hid (HB4_2.out.trans (hb.mono HB4_2.out.size))
              clear hb HG4_2 HR4_2 HC_2 HB4_2
              have y1_0 : w13.cell? ⟨gr, 0, none⟩ = some (.bool v1) := (HR4_3.out.c 0).trans rfl
              have y1_1 : w13.cell? ⟨gr, 1, none⟩ = some (.int .u64 h1) := (HR4_3.out.c 1).trans rfl
              have y1_2 : w13.cell? ⟨gr, 2, none⟩ = some (.int .u64 l1) := (HR4_3.out.c 2).trans rfl
              have y1_3 : w13.cell? ⟨gr, 3, none⟩ = some (.bool v2) := (HR4_3.out.c 3).trans rfl
              have y1_4 : w13.cell? ⟨gr, 4, none⟩ = some (.int .u64 h2) := (HR4_3.out.c 4).trans rfl
              have y1_5 : w13.cell? ⟨gr, 5, none⟩ = some (.int .u64 l2) := (HR4_3.out.c 5).trans rfl
              have yl1 := HR4_3.out.lt
              have y2_0 : w13.cell? ⟨gc, 0, none⟩ = some (.bool u1) := (HC_3.out.c 0).trans rfl
              have y2_1 : w13.cell? ⟨gc, 1, none⟩ = some (.int .u64 p1) := (HC_3.out.c 1).trans rfl
              have y2_2 : w13.cell? ⟨gc, 2, none⟩ = some (.int .u64 q1) := (HC_3.out.c 2).trans rfl
              have y2_3 : w13.cell? ⟨gc, 3, none⟩ = some (.bool u2) := (HC_3.out.c 3).trans rfl
              have y2_4 : w13.cell? ⟨gc, 4, none⟩ = some (.int .u64 p2) := (HC_3.out.c 4).trans rfl
              have y2_5 : w13.cell? ⟨gc, 5, none⟩ = some (.int .u64 q2) := (HC_3.out.c 5).trans rfl
              have yl2 := HC_3.out.lt
              go_wp2_with fail
              clear y1_0 y1_1 y1_2 y1_3 y1_4 y1_5 yl1 y2_0 y2_1 y2_2 y2_3 y2_4 y2_5 yl2
              refine (HT3.out _).mono ?_
              rintro e w14 ⟨rfl, hb⟩
              have HG4_4 := Lib.hid (show MI w w14 t bs As ns cs S.reverse Ao no co F bf Af4 ((⟨⟨u1, p1, q1⟩, ⟨u2, p2, q2⟩⟩ :: t2).length) cf4 (⟨⟨u1, p1, q1⟩, ⟨u2, p2, q2⟩⟩ :: t2) gr v1 h1 l1 v2 h2 l2 from HG4_3.out.kept hb)
              have HR4_4 := Lib.hid (show RB w14 gr v1 h1 l1 v2 h2 l2 from HR4_3.out.kept hb HR4_3.out.lt)
              have HC_4 := Lib.hid (show RB w14 gc u1 p1 q1 u2 p2 q2 from HC_3.out.kept hb HC_3.out.lt)
              have HB4_4 := Lib.hid (HB4_3.out.trans (hb.mono HB4_3.out.size))
              clear hb HG4_3 HR4_3 HC_3 HB4_3
              have y1_0 : w14.cell? ⟨gr, 0, none⟩ = some (.bool v1) := (HR4_4.out.c 0).trans rfl
              have y1_1 : w14.cell? ⟨gr, 1, none⟩ = some (.int .u64 h1) := (HR4_4.out.c 1).trans rfl
              have y1_2 : w14.cell? ⟨gr, 2, none⟩ = some (.int .u64 l1) := (HR4_4.out.c 2).trans rfl
              have y1_3 : w14.cell? ⟨gr, 3, none⟩ = some (.bool v2) := (HR4_4.out.c 3).trans rfl
              have y1_4 : w14.cell? ⟨gr, 4, none⟩ = some (.int .u64 h2) := (HR4_4.out.c 4).trans rfl
              have y1_5 : w14.cell? ⟨gr, 5, none⟩ = some (.int .u64 l2) := (HR4_4.out.c 5).trans rfl
              have yl1 := HR4_4.out.lt
              have y2_0 : w14.cell? ⟨gc, 0, none⟩ = some (.bool u1) := (HC_4.out.c 0).trans rfl
              have y2_1 : w14.cell? ⟨gc, 1, none⟩ = some (.int .u64 p1) := (HC_4.out.c 1).trans rfl
              have y2_2 : w14.cell? ⟨gc, 2, none⟩ = some (.int .u64 q1) := (HC_4.out.c 2).trans rfl
              have y2_3 : w14.cell? ⟨gc, 3, none⟩ = some (.bool u2) := (HC_4.out.c 3).trans rfl
              have y2_4 : w14.cell? ⟨gc, 4, none⟩ = some (.int .u64 p2) := (HC_4.out.c 4).trans rfl
              have y2_5 : w14.cell? ⟨gc, 5, none⟩ = some (.int .u64 q2) := (HC_4.out.c 5).trans rfl
              have yl2 := HC_4.out.lt
              go_wp2_with fail
              clear y1_0 y1_1 y1_2 y1_3 y1_4 y1_5 yl1 y2_0 y2_1 y2_2 y2_3 y2_4 y2_5 yl2
              refine (HNT.out _).mono ?_
              rintro e w15 ⟨rfl, hb⟩
              have HG4_5 := Lib.hid (show MI w w15 t bs As ns cs S.reverse Ao no co F bf Af4 ((⟨⟨u1, p1, q1⟩, ⟨u2, p2, q2⟩⟩ :: t2).length) cf4 (⟨⟨u1, p1, q1⟩, ⟨u2, p2, q2⟩⟩ :: t2) gr v1 h1 l1 v2 h2 l2 from HG4_4.out.kept hb)
              have HR4_5 := Lib.hid (show RB w15 gr v1 h1 l1 v2 h2 l2 from HR4_4.out.kept hb HR4_4.out.lt)
              have HC_5 := Lib.hid (show RB w15 gc u1 p1 q1 u2 p2 q2 from HC_4.out.kept hb HC_4.out.lt)
              have HB4_5 := Lib.hid (HB4_4.out.trans (hb.mono HB4_4.out.size))
              clear hb HG4_4 HR4_4 HC_4 HB4_4
              have y1_0 : w15.cell? ⟨gr, 0, none⟩ = some (.bool v1) := (HR4_5.out.c 0).trans rfl
              have y1_1 : w15.cell? ⟨gr, 1, none⟩ = some (.int .u64 h1) := (HR4_5.out.c 1).trans rfl
              have y1_2 : w15.cell? ⟨gr, 2, none⟩ = some (.int .u64 l1) := (HR4_5.out.c 2).trans rfl
              have y1_3 : w15.cell? ⟨gr, 3, none⟩ = some (.bool v2) := (HR4_5.out.c 3).trans rfl
              have y1_4 : w15.cell? ⟨gr, 4, none⟩ = some (.int .u64 h2) := (HR4_5.out.c 4).trans rfl
              have y1_5 : w15.cell? ⟨gr, 5, none⟩ = some (.int .u64 l2) := (HR4_5.out.c 5).trans rfl
              have yl1 := HR4_5.out.lt
              have y2_0 : w15.cell? ⟨gc, 0, none⟩ = some (.bool u1) := (HC_5.out.c 0).trans rfl
              have y2_1 : w15.cell? ⟨gc, 1, none⟩ = some (.int .u64 p1) := (HC_5.out.c 1).trans rfl
              have y2_2 : w15.cell? ⟨gc, 2, none⟩ = some (.int .u64 q1) := (HC_5.out.c 2).trans rfl
              have y2_3 : w15.cell? ⟨gc, 3, none⟩ = some (.bool u2) := (HC_5.out.c 3).trans rfl
              have y2_4 : w15.cell? ⟨gc, 4, none⟩ = some (.int .u64 p2) := (HC_5.out.c 4).trans rfl
              have y2_5 : w15.cell? ⟨gc, 5, none⟩ = some (.int .u64 q2) := (HC_5.out.c 5).trans rfl
              have yl2 := HC_5.out.lt
              go_wp2_with fail
              clear y1_0 y1_1 y1_2 y1_3 y1_4 y1_5 yl1 y2_0 y2_1 y2_2 y2_3 y2_4 y2_5 yl2
              obtain ⟨W17, hW17⟩ : ∃ W, W = w15.alloc (.cells #[.bool n1, .int .u64 n2, .int .u64 n3] 25) := ⟨_, rfl⟩
              obtain ⟨gb, hgb⟩ : ∃ g, g = w15.heap.size := ⟨_, rfl⟩
              have HG4_6 := Lib.hid (show MI w W17 t bs As ns cs S.reverse Ao no co F bf Af4 ((⟨⟨u1, p1, q1⟩, ⟨u2, p2, q2⟩⟩ :: t2).length) cf4 (⟨⟨u1, p1, q1⟩, ⟨u2, p2, q2⟩⟩ :: t2) gr v1 h1 l1 v2 h2 l2 from by rw [hW17]; exact HG4_5.out.al _)
              have HR4_6 := Lib.hid (show RB W17 gr v1 h1 l1 v2 h2 l2 from by rw [hW17]; exact HR4_5.out.al _)
              have HC_6 := Lib.hid (show RB W17 gc u1 p1 q1 u2 p2 q2 from by rw [hW17]; exact HC_5.out.al _)
              have Lgb := Lib.hid (show gr < gb ∧ gc < gb ∧ w.heap.size ≤ gb from by rw [hgb]; exact ⟨HR4_5.out.lt, HC_5.out.lt, HB4_5.out.size⟩)
              have HN := Lib.hid (show AB W17 gb n1 n2 n3 from by rw [hW17, hgb]; exact ab_new w15 n1 n2 n3)
              have HSZgb := Lib.hid (show W17.heap.size = gb + 1 from by rw [hW17, hgb]; simp)
              have HUPgb := Lib.hid (show w15.heap.size ≤ W17.heap.size from by rw [hW17]; simp)
              have HB4_6 := Lib.hid (show Below w.heap.size w W17 by rw [hW17]; exact HB4_5.out.alloc HB4_5.out.size _)
              clear HG4_5 HR4_5 HC_5 HB4_5
              rw [← hW17, ← hgb]
              clear hW17 hgb
              have y1_0 : W17.cell? ⟨gr, 0, none⟩ = some (.bool v1) := (HR4_6.out.c 0).trans rfl
              have y1_1 : W17.cell? ⟨gr, 1, none⟩ = some (.int .u64 h1) := (HR4_6.out.c 1).trans rfl
              have y1_2 : W17.cell? ⟨gr, 2, none⟩ = some (.int .u64 l1) := (HR4_6.out.c 2).trans rfl
              have y1_3 : W17.cell? ⟨gr, 3, none⟩ = some (.bool v2) := (HR4_6.out.c 3).trans rfl
              have y1_4 : W17.cell? ⟨gr, 4, none⟩ = some (.int .u64 h2) := (HR4_6.out.c 4).trans rfl
              have y1_5 : W17.cell? ⟨gr, 5, none⟩ = some (.int .u64 l2) := (HR4_6.out.c 5).trans rfl
              have yl1 := HR4_6.out.lt
              have y2_0 : W17.cell? ⟨gc, 0, none⟩ = some (.bool u1) := (HC_6.out.c 0).trans rfl
              have y2_1 : W17.cell? ⟨gc, 1, none⟩ = some (.int .u64 p1) := (HC_6.out.c 1).trans rfl
              have y2_2 : W17.cell? ⟨gc, 2, none⟩ = some (.int .u64 q1) := (HC_6.out.c 2).trans rfl
              have y2_3 : W17.cell? ⟨gc, 3, none⟩ = some (.bool u2) := (HC_6.out.c 3).trans rfl
              have y2_4 : W17.cell? ⟨gc, 4, none⟩ = some (.int .u64 p2) := (HC_6.out.c 4).trans rfl
              have y2_5 : W17.cell? ⟨gc, 5, none⟩ = some (.int .u64 q2) := (HC_6.out.c 5).trans rfl
              have yl2 := HC_6.out.lt
              have y3_0 : W17.cell? ⟨gb, 0, none⟩ = some (.bool n1) := HN.out.c0
              have y3_1 : W17.cell? ⟨gb, 1, none⟩ = some (.int .u64 n2) := HN.out.c1
              have y3_2 : W17.cell? ⟨gb, 2, none⟩ = some (.int .u64 n3) := HN.out.c2
              have yl3 := HN.out.lt
              clear y1_0 y1_1 y1_2 y1_3 y1_4 y1_5 yl1 y2_0 y2_1 y2_2 y2_3 y2_4 y2_5 yl2 y3_0 y3_1 y3_2 yl3
              obtain ⟨Wa, hWa⟩ : ∃ W, W = W17.alloc (.cells #[.bool n1, .int .u64 n2, .int .u64 n3, .bool v2, .int .u64 h2, .int .u64 l2] 43) := ⟨_, rfl⟩
              obtain ⟨ga, hga⟩ : ∃ g, g = gb + 1 := ⟨_, rfl⟩
              have hgs : W17.heap.size = ga := by rw [hga]; exact HSZgb.out
              have HGa := Lib.hid (show MI w Wa t bs As ns cs S.reverse Ao no co F bf Af4 ((⟨⟨u1, p1, q1⟩, ⟨u2, p2, q2⟩⟩ :: t2).length) cf4 (⟨⟨u1, p1, q1⟩, ⟨u2, p2, q2⟩⟩ :: t2) gr v1 h1 l1 v2 h2 l2 from by rw [hWa]; exact HG4_6.out.al _)
              have HRW := Lib.hid (show RowL ER Wa (some ⟨ga, 0, none⟩) [⟨⟨n1, n2, n3⟩, ⟨v2, h2, l2⟩⟩] from by
                have hh := heap_alloc_new W17 (.cells #[.bool n1, .int .u64 n2, .int .u64 n3, .bool v2, .int .u64 h2, .int .u64 l2] 43)
                rw [← hWa, hgs] at hh
                exact rowl_block hh rfl)
              have HPU := Lib.hid (putR_any bs w.heap.size As (some ⟨ga, 0, none⟩) ns cs 1 1 S.reverse [⟨⟨n1, n2, n3⟩, ⟨v2, h2, l2⟩⟩] Wa HGa.out.sb (.inr trivial) HGa.out.sr HRW.out rfl (by omega) HGa.out.B.size (fun j hj e => by have a := HGa.out.t2 j hj; rw [e, HGa.out.t1] at a; omega) (fun a ha => by
                obtain rfl := Option.some.inj ha
                have h1 := HG4_6.out.sb.lt
                exact ⟨by show ga ≠ bs; omega, fun e => by have h2 := (HG4_6.out.sr.2.lt _ e.symm).2; simp only at h2; omega⟩))
              rw [← hWa, ← hga]
              clear hWa hga hgs HRW HSZgb HG4_6 HR4_6 HC_6 HN HB4_6
              refine HPU.out.mono ?_
              rintro e wy ⟨rfl, Az, cz, z1, z2, z3, z4⟩
              obtain ⟨ty, hGy⟩ := HGa.out.put z1 z2 z3 z4
              have hfa : S.reverse ++ [⟨⟨n1, n2, n3⟩, ⟨v2, h2, l2⟩⟩].reverse = (⟨⟨n1, n2, n3⟩, ⟨v2, h2, l2⟩⟩ :: S).reverse := by simp
              rw [hfa] at hGy
              have HGY := Lib.hid hGy
              clear z1 z2 z3 z4 hGy hfa HPU HGa
              have HBy := Lib.hid HGY.out.B
              have HRy := Lib.hid HGY.out.rb
              have y1_0 : wy.cell? ⟨gr, 0, none⟩ = some (.bool v1) := (HRy.out.c 0).trans rfl
              have y1_1 : wy.cell? ⟨gr, 1, none⟩ = some (.int .u64 h1) := (HRy.out.c 1).trans rfl
              have y1_2 : wy.cell? ⟨gr, 2, none⟩ = some (.int .u64 l1) := (HRy.out.c 2).trans rfl
              have y1_3 : wy.cell? ⟨gr, 3, none⟩ = some (.bool v2) := (HRy.out.c 3).trans rfl
              have y1_4 : wy.cell? ⟨gr, 4, none⟩ = some (.int .u64 h2) := (HRy.out.c 4).trans rfl
              have y1_5 : wy.cell? ⟨gr, 5, none⟩ = some (.int .u64 l2) := (HRy.out.c 5).trans rfl
              have yl1 := HRy.out.lt
              go_wp2_with fail
              clear y1_0 y1_1 y1_2 y1_3 y1_4 y1_5 yl1
              obtain ⟨t9, hG9⟩ := HGY.out.newr v1 h1 l1 v2 h2 l2
              obtain ⟨Wn, hWn⟩ : ∃ W, W = wy.alloc (.cells #[.bool v1, .int .u64 h1, .int .u64 l1, .bool v2, .int .u64 h2, .int .u64 l2] 43) := ⟨_, rfl⟩
              obtain ⟨gn, hgn⟩ : ∃ g, g = wy.heap.size := ⟨_, rfl⟩
              rw [← hWn, ← hgn] at hG9
              rw [← hWn, ← hgn]
              have HGN := Lib.hid hG9
              clear hG9 hWn hgn HGY HRy HBy
              have HTK := Lib.hid (takeR_all bs w.heap.size Az (ns + 1) cz (⟨⟨n1, n2, n3⟩, ⟨v2, h2, l2⟩⟩ :: S) Wn HGN.out.sb HGN.out.sr (by omega) (fun j hj e => by have a := HGN.out.t2 j hj; rw [e, HGN.out.t1] at a; omega))
              refine HTK.out.mono ?_
              rintro e w8 ⟨x1, x2, x3, x4, x5, x6, dd, rfl, k1, k2, k3, k4⟩
              have HG8 := Lib.hid (HGN.out.took2 k1 k2)
              have HMD := minI_took HNX.out.1 k3 k4
              have HMD1 := Lib.hid HMD.1
              have HMD2 := Lib.hid HMD.2
              have HMU := Lib.hid HNX.out.2
              clear HMD k1 k2 k3 k4 HTK HGN HNX
              have HP9 := Lib.hid HG8.out.rb
              have s0 : w8.cell? ⟨gn, 0, none⟩ = some (.bool v1) := (HP9.out.c 0).trans rfl
              have sf0 := HP9.out.f 0
              have s1 : w8.cell? ⟨gn, 1, none⟩ = some (.int .u64 h1) := (HP9.out.c 1).trans rfl
              have sf1 := HP9.out.f 1
              have s2 : w8.cell? ⟨gn, 2, none⟩ = some (.int .u64 l1) := (HP9.out.c 2).trans rfl
              have sf2 := HP9.out.f 2
              have s3 : w8.cell? ⟨gn, 3, none⟩ = some (.bool v2) := (HP9.out.c 3).trans rfl
              have sf3 := HP9.out.f 3
              have s4 : w8.cell? ⟨gn, 4, none⟩ = some (.int .u64 h2) := (HP9.out.c 4).trans rfl
              have sf4 := HP9.out.f 4
              have s5 : w8.cell? ⟨gn, 5, none⟩ = some (.int .u64 l2) := (HP9.out.c 5).trans rfl
              have sf5 := HP9.out.f 5
              have sl := HP9.out.lt
              obtain ⟨W9, hW9⟩ : ∃ W, W = rset w8 gn x1 x2 x3 x4 x5 x6 := ⟨_, rfl⟩
              have HG9 := Lib.hid (HG8.out.setr x1 x2 x3 x4 x5 x6)
              rw [← hW9] at HG9
              unfold rset at hW9
              go_wp2_with fail
              rw [← hW9]
              clear hW9 s0 s1 s2 s3 s4 s5 sf0 sf1 sf2 sf3 sf4 sf5 sl HP9 HG8
              go_roundg (muS ((⟨⟨n1, n2, n3⟩, ⟨v2, h2, l2⟩⟩ :: S)) ((⟨⟨u1, p1, q1⟩, ⟨u2, p2, q2⟩⟩ :: t2)))
              case measure => exact HMU.out
              case rel => exact ⟨t9, Az, Ao, Af4, (ns + 1) - 1, cz, no, co, ((⟨⟨u1, p1, q1⟩, ⟨u2, p2, q2⟩⟩ :: t2).length), cf4, gn, ((⟨⟨n1, n2, n3⟩, ⟨v2, h2, l2⟩⟩ :: S)).tail, F, (⟨⟨u1, p1, q1⟩, ⟨u2, p2, q2⟩⟩ :: t2), x1, x2, x3, x4, x5, x6, dd, HNF.out, rfl, rfl, rfl, HG9, HMD1, HMD2⟩
            · rw [decide_eq_false t3] at HT3
              have HNX := Lib.hid (show MinI f N F S (⟨⟨u1, p1, q1⟩, ⟨u2, p2, q2⟩⟩ :: t2) ∧ muS S (⟨⟨u1, p1, q1⟩, ⟨u2, p2, q2⟩⟩ :: t2) < gk from by
                have h := minI_cut (P := []) (Q := []) hmi hR hle ⟨fun c => absurd c t2', fun _ => rfl⟩ ⟨fun c => absurd c t3, fun _ => rfl⟩
                rw [List.append_nil] at h
                exact ⟨h.1, Nat.lt_of_lt_of_le h.2 hmu⟩)
              clear hmi hmu hx hxs hns hno hR hgy hyx hys t1 t2' hle hv1 hv2 t3
              have HB := Lib.hid HGI.out.B
              have HR := Lib.hid HGI.out.rb
              have y1_0 : wr.cell? ⟨gr, 0, none⟩ = some (.bool v1) := (HR.out.c 0).trans rfl
              have y1_1 : wr.cell? ⟨gr, 1, none⟩ = some (.int .u64 h1) := (HR.out.c 1).trans rfl
              have y1_2 : wr.cell? ⟨gr, 2, none⟩ = some (.int .u64 l1) := (HR.out.c 2).trans rfl
              have y1_3 : wr.cell? ⟨gr, 3, none⟩ = some (.bool v2) := (HR.out.c 3).trans rfl
              have y1_4 : wr.cell? ⟨gr, 4, none⟩ = some (.int .u64 h2) := (HR.out.c 4).trans rfl
              have y1_5 : wr.cell? ⟨gr, 5, none⟩ = some (.int .u64 l2) := (HR.out.c 5).trans rfl
              have yl1 := HR.out.lt
              go_wp2_with fail
              clear y1_0 y1_1 y1_2 y1_3 y1_4 y1_5 yl1
              refine HFC.out.mono ?_
              rintro e w4 hfp
              obtain ⟨he, Af4, cf4, hG4⟩ := HGI.out.fol hfp
              rw [HRR.out] at he hG4
              simp only [folV, rngV] at he
              subst he
              have HG4 := Lib.hid hG4
              have HB4 := Lib.hid HG4.out.B
              have HR4 := Lib.hid HG4.out.rb
              have HJ := Lib.hid (fun j hj => (HG4.out.or.2.lt j hj).2)
              clear hfp hG4 HFC HGI HB HR HRR HSM
              have y1_0 : w4.cell? ⟨gr, 0, none⟩ = some (.bool v1) := (HR4.out.c 0).trans rfl
              have y1_1 : w4.cell? ⟨gr, 1, none⟩ = some (.int .u64 h1) := (HR4.out.c 1).trans rfl
              have y1_2 : w4.cell? ⟨gr, 2, none⟩ = some (.int .u64 l1) := (HR4.out.c 2).trans rfl
              have y1_3 : w4.cell? ⟨gr, 3, none⟩ = some (.bool v2) := (HR4.out.c 3).trans rfl
              have y1_4 : w4.cell? ⟨gr, 4, none⟩ = some (.int .u64 h2) := (HR4.out.c 4).trans rfl
              have y1_5 : w4.cell? ⟨gr, 5, none⟩ = some (.int .u64 l2) := (HR4.out.c 5).trans rfl
              have yl1 := HR4.out.lt
              go_wp2_with fail
              clear y1_0 y1_1 y1_2 y1_3 y1_4 y1_5 yl1
              obtain ⟨W12, hW12⟩ : ∃ W, W = w4.alloc (.cells #[.bool u1, .int .u64 p1, .int .u64 q1, .bool u2, .int .u64 p2, .int .u64 q2] 43) := ⟨_, rfl⟩
              obtain ⟨gc, hgc⟩ : ∃ g, g = w4.heap.size := ⟨_, rfl⟩
              have HG4_1 := Lib.hid (show MI w W12 t bs As ns cs S.reverse Ao no co F bf Af4 ((⟨⟨u1, p1, q1⟩, ⟨u2, p2, q2⟩⟩ :: t2).length) cf4 (⟨⟨u1, p1, q1⟩, ⟨u2, p2, q2⟩⟩ :: t2) gr v1 h1 l1 v2 h2 l2 from by rw [hW12]; exact HG4.out.al _)
              have HR4_1 := Lib.hid (show RB W12 gr v1 h1 l1 v2 h2 l2 from by rw [hW12]; exact HR4.out.al _)
              have Lgc := Lib.hid (show gr < gc ∧ w.heap.size ≤ gc from by rw [hgc]; exact ⟨HR4.out.lt, HB4.out.size⟩)
              have HC := Lib.hid (show RB W12 gc u1 p1 q1 u2 p2 q2 from by rw [hW12, hgc]; exact rb_new w4 u1 p1 q1 u2 p2 q2)
              have HSZgc := Lib.hid (show W12.heap.size = gc + 1 from by rw [hW12, hgc]; simp)
              have HUPgc := Lib.hid (show w4.heap.size ≤ W12.heap.size from by rw [hW12]; simp)
              have HB4_1 := Lib.hid (show Below w.heap.size w W12 by rw [hW12]; exact HB4.out.alloc HB4.out.size _)
              clear HG4 HR4 HB4
              have y1_0 : W12.cell? ⟨gr, 0, none⟩ = some (.bool v1) := (HR4_1.out.c 0).trans rfl
              have y1_1 : W12.cell? ⟨gr, 1, none⟩ = some (.int .u64 h1) := (HR4_1.out.c 1).trans rfl
              have y1_2 : W12.cell? ⟨gr, 2, none⟩ = some (.int .u64 l1) := (HR4_1.out.c 2).trans rfl
              have y1_3 : W12.cell? ⟨gr, 3, none⟩ = some (.bool v2) := (HR4_1.out.c 3).trans rfl
              have y1_4 : W12.cell? ⟨gr, 4, none⟩ = some (.int .u64 h2) := (HR4_1.out.c 4).trans rfl
              have y1_5 : W12.cell? ⟨gr, 5, none⟩ = some (.int .u64 l2) := (HR4_1.out.c 5).trans rfl
              have yl1 := HR4_1.out.lt
              have y2_0 : W12.cell? ⟨gc, 0, none⟩ = some (.bool u1) := (HC.out.c 0).trans rfl
              have y2_1 : W12.cell? ⟨gc, 1, none⟩ = some (.int .u64 p1) := (HC.out.c 1).trans rfl
              have y2_2 : W12.cell? ⟨gc, 2, none⟩ = some (.int .u64 q1) := (HC.out.c 2).trans rfl
              have y2_3 : W12.cell? ⟨gc, 3, none⟩ = some (.bool u2) := (HC.out.c 3).trans rfl
              have y2_4 : W12.cell? ⟨gc, 4, none⟩ = some (.int .u64 p2) := (HC.out.c 4).trans rfl
              have y2_5 : W12.cell? ⟨gc, 5, none⟩ = some (.int .u64 q2) := (HC.out.c 5).trans rfl
              have yl2 := HC.out.lt
              have HJC := Lib.hid (show ∀ j, (Value.slice Ao no co).ownBlock = some j → j < gc from fun j hj => by rw [hgc]; exact HJ.out j hj)
              rw [← hW12, ← hgc]
              clear hW12 hgc HJ
              clear y1_0 y1_1 y1_2 y1_3 y1_4 y1_5 yl1 y2_0 y2_1 y2_2 y2_3 y2_4 y2_5 yl2
              refine (HT1.out _).mono ?_
              rintro e w12 ⟨rfl, hb⟩
              have HG4_2 := Lib.hid (show MI w w12 t bs As ns cs S.reverse Ao no co F bf Af4 ((⟨⟨u1, p1, q1⟩, ⟨u2, p2, q2⟩⟩ :: t2).length) cf4 (⟨⟨u1, p1, q1⟩, ⟨u2, p2, q2⟩⟩ :: t2) gr v1 h1 l1 v2 h2 l2 from HG4_1.out.kept hb)
              have HR4_2 := Lib.hid (show RB w12 gr v1 h1 l1 v2 h2 l2 from HR4_1.out.kept hb HR4_1.out.lt)
              have HC_2 := Lib.hid (show RB w12 gc u1 p1 q1 u2 p2 q2 from HC.out.kept hb HC.out.lt)
              have HB4_2 := Lib.hid (HB4_1.out.trans (hb.mono HB4_1.out.size))
              clear hb HG4_1 HR4_1 HC HB4_1
              have y1_0 : w12.cell? ⟨gr, 0, none⟩ = some (.bool v1) := (HR4_2.out.c 0).trans rfl
              have y1_1 : w12.cell? ⟨gr, 1, none⟩ = some (.int .u64 h1) := (HR4_2.out.c 1).trans rfl
              have y1_2 : w12.cell? ⟨gr, 2, none⟩ = some (.int .u64 l1) := (HR4_2.out.c 2).trans rfl
              have y1_3 : w12.cell? ⟨gr, 3, none⟩ = some (.bool v2) := (HR4_2.out.c 3).trans rfl
              have y1_4 : w12.cell? ⟨gr, 4, none⟩ = some (.int .u64 h2) := (HR4_2.out.c 4).trans rfl
              have y1_5 : w12.cell? ⟨gr, 5, none⟩ = some (.int .u64 l2) := (HR4_2.out.c 5).trans rfl
              have yl1 := HR4_2.out.lt
              have y2_0 : w12.cell? ⟨gc, 0, none⟩ = some (.bool u1) := (HC_2.out.c 0).trans rfl
              have y2_1 : w12.cell? ⟨gc, 1, none⟩ = some (.int .u64 p1) := (HC_2.out.c 1).trans rfl
              have y2_2 : w12.cell? ⟨gc, 2, none⟩ = some (.int .u64 q1) := (HC_2.out.c 2).trans rfl
              have y2_3 : w12.cell? ⟨gc, 3, none⟩ = some (.bool u2) := (HC_2.out.c 3).trans rfl
              have y2_4 : w12.cell? ⟨gc, 4, none⟩ = some (.int .u64 p2) := (HC_2.out.c 4).trans rfl
              have y2_5 : w12.cell? ⟨gc, 5, none⟩ = some (.int .u64 q2) := (HC_2.out.c 5).trans rfl
              have yl2 := HC_2.out.lt
              go_wp2_with fail
              clear y1_0 y1_1 y1_2 y1_3 y1_4 y1_5 yl1 y2_0 y2_1 y2_2 y2_3 y2_4 y2_5 yl2
              refine (HT2.out _).mono ?_
              rintro e w13 ⟨rfl, hb⟩
              have HG4_3 := Lib.hid (show MI w w13 t bs As ns cs S.reverse Ao no co F bf Af4 ((⟨⟨u1, p1, q1⟩, ⟨u2, p2, q2⟩⟩ :: t2).length) cf4 (⟨⟨u1, p1, q1⟩, ⟨u2, p2, q2⟩⟩ :: t2) gr v1 h1 l1 v2 h2 l2 from HG4_2.out.kept hb)
              have HR4_3 := Lib.hid (show RB w13 gr v1 h1 l1 v2 h2 l2 from HR4_2.out.kept hb HR4_2.out.lt)
              have HC_3 := Lib.hid (show RB w13 gc u1 p1 q1 u2 p2 q2 from HC_2.out.kept hb HC_2.out.lt)
              have HB4_3 := Lib.hid (HB4_2.out.trans (hb.mono HB4_2.out.size))
              clear hb HG4_2 HR4_2 HC_2 HB4_2
              have y1_0 : w13.cell? ⟨gr, 0, none⟩ = some (.bool v1) := (HR4_3.out.c 0).trans rfl
              have y1_1 : w13.cell? ⟨gr, 1, none⟩ = some (.int .u64 h1) := (HR4_3.out.c 1).trans rfl
              have y1_2 : w13.cell? ⟨gr, 2, none⟩ = some (.int .u64 l1) := (HR4_3.out.c 2).trans rfl
              have y1_3 : w13.cell? ⟨gr, 3, none⟩ = some (.bool v2) := (HR4_3.out.c 3).trans rfl
              have y1_4 : w13.cell? ⟨gr, 4, none⟩ = some (.int .u64 h2) := (HR4_3.out.c 4).trans rfl
              have y1_5 : w13.cell? ⟨gr, 5, none⟩ = some (.int .u64 l2) := (HR4_3.out.c 5).trans rfl
              have yl1 := HR4_3.out.lt
              have y2_0 : w13.cell? ⟨gc, 0, none⟩ = some (.bool u1) := (HC_3.out.c 0).trans rfl
              have y2_1 : w13.cell? ⟨gc, 1, none⟩ = some (.int .u64 p1) := (HC_3.out.c 1).trans rfl
              have y2_2 : w13.cell? ⟨gc, 2, none⟩ = some (.int .u64 q1) := (HC_3.out.c 2).trans rfl
              have y2_3 : w13.cell? ⟨gc, 3, none⟩ = some (.bool u2) := (HC_3.out.c 3).trans rfl
              have y2_4 : w13.cell? ⟨gc, 4, none⟩ = some (.int .u64 p2) := (HC_3.out.c 4).trans rfl
              have y2_5 : w13.cell? ⟨gc, 5, none⟩ = some (.int .u64 q2) := (HC_3.out.c 5).trans rfl
              have yl2 := HC_3.out.lt
              go_wp2_with fail
              clear y1_0 y1_1 y1_2 y1_3 y1_4 y1_5 yl1 y2_0 y2_1 y2_2 y2_3 y2_4 y2_5 yl2
              refine (HT3.out _).mono ?_
              rintro e w14 ⟨rfl, hb⟩
              have HG4_4 := Lib.hid (show MI w w14 t bs As ns cs S.reverse Ao no co F bf Af4 ((⟨⟨u1, p1, q1⟩, ⟨u2, p2, q2⟩⟩ :: t2).length) cf4 (⟨⟨u1, p1, q1⟩, ⟨u2, p2, q2⟩⟩ :: t2) gr v1 h1 l1 v2 h2 l2 from HG4_3.out.kept hb)
              have HR4_4 := Lib.hid (show RB w14 gr v1 h1 l1 v2 h2 l2 from HR4_3.out.kept hb HR4_3.out.lt)
              have HC_4 := Lib.hid (show RB w14 gc u1 p1 q1 u2 p2 q2 from HC_3.out.kept hb HC_3.out.lt)
              have HB4_4 := Lib.hid (HB4_3.out.trans (hb.mono HB4_3.out.size))
              clear hb HG4_3 HR4_3 HC_3 HB4_3
              have y1_0 : w14.cell? ⟨gr, 0, none⟩ = some (.bool v1) := (HR4_4.out.c 0).trans rfl
              have y1_1 : w14.cell? ⟨gr, 1, none⟩ = some (.int .u64 h1) := (HR4_4.out.c 1).trans rfl
              have y1_2 : w14.cell? ⟨gr, 2, none⟩ = some (.int .u64 l1) := (HR4_4.out.c 2).trans rfl
              have y1_3 : w14.cell? ⟨gr, 3, none⟩ = some (.bool v2) := (HR4_4.out.c 3).trans rfl
              have y1_4 : w14.cell? ⟨gr, 4, none⟩ = some (.int .u64 h2) := (HR4_4.out.c 4).trans rfl
              have y1_5 : w14.cell? ⟨gr, 5, none⟩ = some (.int .u64 l2) := (HR4_4.out.c 5).trans rfl
              have yl1 := HR4_4.out.lt
              have y2_0 : w14.cell? ⟨gc, 0, none⟩ = some (.bool u1) := (HC_4.out.c 0).trans rfl
              have y2_1 : w14.cell? ⟨gc, 1, none⟩ = some (.int .u64 p1) := (HC_4.out.c 1).trans rfl
              have y2_2 : w14.cell? ⟨gc, 2, none⟩ = some (.int .u64 q1) := (HC_4.out.c 2).trans rfl
              have y2_3 : w14.cell? ⟨gc, 3, none⟩ = some (.bool u2) := (HC_4.out.c 3).trans rfl
              have y2_4 : w14.cell? ⟨gc, 4, none⟩ = some (.int .u64 p2) := (HC_4.out.c 4).trans rfl
              have y2_5 : w14.cell? ⟨gc, 5, none⟩ = some (.int .u64 q2) := (HC_4.out.c 5).trans rfl
              have yl2 := HC_4.out.lt
              go_wp2_with fail
              clear y1_0 y1_1 y1_2 y1_3 y1_4 y1_5 yl1 y2_0 y2_1 y2_2 y2_3 y2_4 y2_5 yl2
              obtain ⟨t9, hG9⟩ := HG4_4.out.newr v1 h1 l1 v2 h2 l2
              obtain ⟨Wn, hWn⟩ : ∃ W, W = w14.alloc (.cells #[.bool v1, .int .u64 h1, .int .u64 l1, .bool v2, .int .u64 h2, .int .u64 l2] 43) := ⟨_, rfl⟩
              obtain ⟨gn, hgn⟩ : ∃ g, g = w14.heap.size := ⟨_, rfl⟩
              rw [← hWn, ← hgn] at hG9
              rw [← hWn, ← hgn]
              have HGN := Lib.hid hG9
              clear hG9 hWn hgn HG4_4 HR4_4 HC_4 HB4_4
              have HTK := Lib.hid (takeR_all bs w.heap.size As ns cs S Wn HGN.out.sb HGN.out.sr (by omega) (fun j hj e => by have a := HGN.out.t2 j hj; rw [e, HGN.out.t1] at a; omega))
              refine HTK.out.mono ?_
              rintro e w8 ⟨x1, x2, x3, x4, x5, x6, dd, rfl, k1, k2, k3, k4⟩
              have HG8 := Lib.hid (HGN.out.took2 k1 k2)
              have HMD := minI_took HNX.out.1 k3 k4
              have HMD1 := Lib.hid HMD.1
              have HMD2 := Lib.hid HMD.2
              have HMU := Lib.hid HNX.out.2
              clear HMD k1 k2 k3 k4 HTK HGN HNX
              have HP9 := Lib.hid HG8.out.rb
              have s0 : w8.cell? ⟨gn, 0, none⟩ = some (.bool v1) := (HP9.out.c 0).trans rfl
              have sf0 := HP9.out.f 0
              have s1 : w8.cell? ⟨gn, 1, none⟩ = some (.int .u64 h1) := (HP9.out.c 1).trans rfl
              have sf1 := HP9.out.f 1
              have s2 : w8.cell? ⟨gn, 2, none⟩ = some (.int .u64 l1) := (HP9.out.c 2).trans rfl
              have sf2 := HP9.out.f 2
              have s3 : w8.cell? ⟨gn, 3, none⟩ = some (.bool v2) := (HP9.out.c 3).trans rfl
              have sf3 := HP9.out.f 3
              have s4 : w8.cell? ⟨gn, 4, none⟩ = some (.int .u64 h2) := (HP9.out.c 4).trans rfl
              have sf4 := HP9.out.f 4
              have s5 : w8.cell? ⟨gn, 5, none⟩ = some (.int .u64 l2) := (HP9.out.c 5).trans rfl
              have sf5 := HP9.out.f 5
              have sl := HP9.out.lt
              obtain ⟨W9, hW9⟩ : ∃ W, W = rset w8 gn x1 x2 x3 x4 x5 x6 := ⟨_, rfl⟩
              have HG9 := Lib.hid (HG8.out.setr x1 x2 x3 x4 x5 x6)
              rw [← hW9] at HG9
              unfold rset at hW9
              go_wp2_with fail
              rw [← hW9]
              clear hW9 s0 s1 s2 s3 s4 s5 sf0 sf1 sf2 sf3 sf4 sf5 sl HP9 HG8
              go_roundg (muS (S) ((⟨⟨u1, p1, q1⟩, ⟨u2, p2, q2⟩⟩ :: t2)))
              case measure => exact HMU.out
              case rel => exact ⟨t9, As, Ao, Af4, ns - 1, cs, no, co, ((⟨⟨u1, p1, q1⟩, ⟨u2, p2, q2⟩⟩ :: t2).length), cf4, gn, (S).tail, F, (⟨⟨u1, p1, q1⟩, ⟨u2, p2, q2⟩⟩ :: t2), x1, x2, x3, x4, x5, x6, dd, HNF.out, rfl, rfl, rfl, HG9, HMD1, HMD2⟩
end Go.Proofs.Ytmcelgnifpfjpaa

/- Prefixes as ranges: plain facts. -/
namespace Go.Proofs.Ytmcelgnifpfjpaa
open Go.ChangeShapes Go.WideShapes Go.ChangeAt Go.RowKit
set_option linter.unusedVariables false

/-- Is a struct a prefix; the range that it stands for; the ranges of a list's prefixes. -/
def vP (p : Pf) : Bool := vldP p.v p.h p.l p.k
def blk (p : Pf) : Rg := ⟨⟨p.v, p.h, p.l⟩, ⟨p.v, lowO (frH p.v p.k.toNat) p.h, lowO (frL p.v p.k.toNat) p.l⟩⟩
def ofL (l : List Pf) : List Rg := (l.filter vP).map blk
theorem vP_block {p : Pf} (hf : p.fits) (hv : vP p = true) : ∃ n e, e ≤ width p.v ∧ 2 ^ e ∣ n ∧ n + 2 ^ e ≤ 2 ^ width p.v ∧ p = pf p.v (n, e) := by
  obtain ⟨v, h, l, k⟩ := p
  unfold vP at hv
  simp only at hv ⊢
  have hk0 : 0 ≤ k ∧ k ≤ (width v : Nat) := by
    unfold vldP cntB at hv
    rw [Bool.and_eq_true, Bool.and_eq_true, decide_eq_true_eq] at hv
    exact hv.2.1
  obtain ⟨b, rfl⟩ := Int.eq_ofNat_of_zero_le hk0.1
  obtain ⟨a1, a2, a3, a4⟩ := vldP_out hv
  have hz := low_cut v b (hi := h) hf.2
  unfold mkH at a3
  unfold mkL at a4
  simp only at hz
  rw [a3, a4] at hz
  have ha := nA_key (a := ⟨v, h, l⟩) hf a1
  have hn := adN_num (h := h) (l := l) hf.2
  have hp := Nat.two_pow_pos (width v - b)
  have hlt := fillN_lt (w := width v) (bits := b) a2 ha.2
  unfold fillN at hlt
  unfold nA at hlt
  simp only at hlt
  rw [← hz] at hlt
  refine ⟨numA h l, width v - b, by omega, ?_, by omega, ?_⟩
  · unfold cutN at hz
    exact ⟨_, by rw [Nat.mul_comm]; exact hz⟩
  · unfold pf
    simp only
    rw [hn.1, hn.2, show width v - (width v - b) = b by omega]
theorem blk_pf {v : Bool} {n e : Nat} (he : e ≤ width v) (hd : 2 ^ e ∣ n) (hn : n + 2 ^ e ≤ 2 ^ width v) : blk (pf v (n, e)) = ⟨adN v n, adN v (n + 2 ^ e - 1)⟩ ∧ vP (pf v (n, e)) = true := by
  have hb := pf_bounds he hd hn
  refine ⟨?_, hb.1⟩
  unfold blk pf
  simp only
  rw [Int.toNat_natCast, hb.2.1, hb.2.2]
  rfl
theorem blk_some {p : Pf} (hf : p.fits) (hv : vP p = true) : someR (blk p) = true ∧ (blk p).fits := by
  obtain ⟨n, e, he, hd, hn, hp⟩ := vP_block hf hv
  have hp2 := Nat.two_pow_pos e
  rw [hp, (blk_pf he hd hn).1]
  have a := adN_fits (v := p.v) (n := n) (by omega)
  have b := adN_fits (v := p.v) (n := n + 2 ^ e - 1) (by omega)
  exact ⟨someR_iff.2 ⟨a.2.1, b.2.1, rfl, by rw [a.2.2, b.2.2]; omega⟩, a.1, b.1⟩
theorem ofL_fits {l : List Pf} (hf : ∀ p ∈ l, p.fits) : ∀ r ∈ ofL l, r.fits := fun r hr => by
  obtain ⟨p, hp, rfl⟩ := List.mem_map.1 hr
  obtain ⟨h1, h2⟩ := List.mem_filter.1 hp
  exact (blk_some (hf p h1) h2).2
theorem ofL_take {l : List Pf} {k : Nat} {p : Pf} (hp : l[k]? = some p) : ofL (l.take (k + 1)) = ofL (l.take k) ++ if vP p = true then [blk p] else [] := by
  obtain ⟨hk, e⟩ := List.getElem?_eq_some_iff.1 hp
  unfold ofL
  rw [List.take_succ_eq_append_getElem hk, e, List.filter_append, List.map_append]
  congr 1
  rw [List.filter_cons]
  cases vP p <;> simp
theorem ofL_len (l : List Pf) : (ofL l).length ≤ l.length := by
  unfold ofL
  rw [List.length_map]
  exact List.length_filter_le _ _
end Go.Proofs.Ytmcelgnifpfjpaa

/- Contracts of the program of layer 7: Of, All. -/
namespace Go.Proofs.Ytmcelgnifpfjpaa
open Go.ChangeShapes Go.WideShapes Go.ChangeAt Go.RowKit
set_option linter.unusedVariables false

theorem pbounds_blk {v : Bool} {h l : Nat} {b : Int} {zh zl : Nat} (hf : (⟨v, h, l, b⟩ : Pf).fits) (hv : vP ⟨v, h, l, b⟩ = true) (hz : blk ⟨v, h, l, b⟩ = ⟨⟨v, h, l⟩, ⟨v, zh, zl⟩⟩) (W : World) :
    Calls Try.prog 60 #[.agg #[.bool v, .int .u64 h, .int .u64 l, .int .i64 b]] W fun e w' => e = .returned (.agg #[.bool v, .int .u64 h, .int .u64 l, .bool v, .int .u64 zh, .int .u64 zl]) ∧ Below W.heap.size W w' := by
  have hb : 0 ≤ b := by
    unfold vP vldP cntB at hv
    rw [Bool.and_eq_true, Bool.and_eq_true, decide_eq_true_eq] at hv
    exact hv.2.1.1
  obtain ⟨k, rfl⟩ := Int.eq_ofNat_of_zero_le hb
  have h1 := qbounds_any v h l k W hf.1 hf.2 hv
  unfold blk at hz
  simp only [Rg.mk.injEq, Ad.mk.injEq, true_and, Int.toNat_natCast] at hz
  rw [hz.1, hz.2] at h1
  exact h1
set_option maxHeartbeats 4000000 in
set_option maxRecDepth 20000 in
theorem pof_any (A : Option Addr) (cap : Nat) (l : List Pf) (w : World) (h : RowL EP w A l) (hf : ∀ p ∈ l, p.fits) (hl : l.length ≤ 10000) :
    Calls Try.prog 29 #[.slice A l.length cap] w (SetO w w.heap.size (fun m => anyS (spnL (ofL l)) m) l.length) := by
  obtain ⟨N, hN⟩ : ∃ n, n = l.length := ⟨_, rfl⟩
  have hn6 : N ≤ 10000 := by omega
  rw [← hN]
  have H := Lib.hid h
  have HF := Lib.hid hf
  have HN := Lib.hid hN
  have HB0 := Lib.hid (Below.refl w.heap.size w)
  have HO0 := Lib.hid (OwnR.nil w w.heap.size)
  clear h hf hl hN
  go_enter Try.func29, Try.ntmps29
  go_wp2_with fail
  go_loopw [3, 8] (fun s3 s8 wr => ∃ k n c' : Nat, ∃ A' : Option Addr, ∃ out : List Rg, k ≤ N ∧ n ≤ k ∧ s8 = .int .i64 k ∧ s3 = .slice A' n c' ∧ Hid (out = ofL (l.take k)) ∧ Hid (Below w.heap.size w wr) ∧ Hid (OwnR wr w.heap.size A' n c' out)) (fun _ s8 _ => N - (intOf s8).toNat)
  case atStart => exact ⟨0, 0, 0, none, [], by omega, by omega, rfl, rfl, Lib.hid rfl, HB0, HO0⟩
  case round =>
    clear HB0 HO0
    obtain ⟨k, n, c', A', out, hk, hnk, rfl, rfl, HA, HB, HO⟩ := hrel
    by_cases hlt : k < N
    · have hkl : k < l.length := by rw [← HN.out]; exact hlt
      obtain ⟨g, o, rfl, hg⟩ := H.out.shape (by omega)
      obtain ⟨⟨v1, h1, l1, b1⟩, hget⟩ : ∃ s, l[k]? = some s := ⟨l[k], List.getElem?_eq_getElem hkl⟩
      obtain ⟨c0, c1, c2, c3⟩ := pf_at H.out hget HB.out
      have hki : (k : Int) < (N : Int) := by omega
      have hki0 : (0 : Int) ≤ (k : Int) := by omega
      have hxf := HF.out _ (List.mem_of_getElem? hget)
      have HS := Lib.hid (fun W => qvalidp_any v1 h1 l1 b1 W hxf.1 hxf.2)
      rw [show vldP v1 h1 l1 b1 = vP ⟨v1, h1, l1, b1⟩ from rfl] at HS
      have HT := Lib.hid (ofL_take hget)
      rcases Bool.eq_false_or_eq_true (vP ⟨v1, h1, l1, b1⟩) with hs | hs
      · rw [hs] at HS
        obtain ⟨zh, zl, hz⟩ : ∃ zh zl, blk ⟨v1, h1, l1, b1⟩ = ⟨⟨v1, h1, l1⟩, ⟨v1, zh, zl⟩⟩ := ⟨_, _, rfl⟩
        have HBD := Lib.hid (fun W => pbounds_blk hxf hs hz W)
        have HA2 := Lib.hid (show out ++ [⟨⟨v1, h1, l1⟩, ⟨v1, zh, zl⟩⟩] = ofL (l.take (k + 1)) from by rw [HT.out, HA.out, if_pos hs, hz])
        have hszw := HB.out.size
        clear hs hget hg hkl hxf HT HA hz
        go_wp2_with fail
        clear c0 c1 c2 c3
        obtain ⟨W12, hW12⟩ : ∃ W, W = wr.alloc (.cells #[.bool v1, .int .u64 h1, .int .u64 l1, .int .i64 b1] 37) := ⟨_, rfl⟩
        obtain ⟨gx, hgx⟩ : ∃ g, g = wr.heap.size := ⟨_, rfl⟩
        have HO_1 := Lib.hid (show OwnR W12 w.heap.size A' n c' out from by rw [hW12]; exact HO.out.al _)
        have Lgx := Lib.hid (show w.heap.size ≤ gx from by rw [hgx]; exact HB.out.size)
        have HX := Lib.hid (show PB W12 gx v1 h1 l1 b1 from by rw [hW12, hgx]; exact pb_new wr v1 h1 l1 b1)
        have HSZgx := Lib.hid (show W12.heap.size = gx + 1 from by rw [hW12, hgx]; simp)
        have HUPgx := Lib.hid (show wr.heap.size ≤ W12.heap.size from by rw [hW12]; simp)
        have HB_1 := Lib.hid (show Below w.heap.size w W12 by rw [hW12]; exact HB.out.alloc HB.out.size _)
        clear HO HB
        rw [← hW12, ← hgx]
        clear hW12 hgx
        have y1_0 : W12.cell? ⟨gx, 0, none⟩ = some (.bool v1) := HX.out.c0
        have y1_1 : W12.cell? ⟨gx, 1, none⟩ = some (.int .u64 h1) := HX.out.c1
        have y1_2 : W12.cell? ⟨gx, 2, none⟩ = some (.int .u64 l1) := HX.out.c2
        have y1_3 : W12.cell? ⟨gx, 3, none⟩ = some (.int .i64 b1) := HX.out.c3
        have yl1 := HX.out.lt
        clear y1_0 y1_1 y1_2 y1_3 yl1
        refine (HS.out _).mono ?_
        rintro e w12 ⟨rfl, hb⟩
        have HO_2 := Lib.hid (show OwnR w12 w.heap.size A' n c' out from HO_1.out.kept hb)
        have HX_2 := Lib.hid (show PB w12 gx v1 h1 l1 b1 from HX.out.kept hb HX.out.lt)
        have HB_2 := Lib.hid (HB_1.out.trans (hb.mono HB_1.out.size))
        clear hb HO_1 HX HB_1
        have y1_0 : w12.cell? ⟨gx, 0, none⟩ = some (.bool v1) := HX_2.out.c0
        have y1_1 : w12.cell? ⟨gx, 1, none⟩ = some (.int .u64 h1) := HX_2.out.c1
        have y1_2 : w12.cell? ⟨gx, 2, none⟩ = some (.int .u64 l1) := HX_2.out.c2
        have y1_3 : w12.cell? ⟨gx, 3, none⟩ = some (.int .i64 b1) := HX_2.out.c3
        have yl1 := HX_2.out.lt
        go_wp2_with fail
        clear y1_0 y1_1 y1_2 y1_3 yl1
        refine (HBD.out _).mono ?_
        rintro e w13 ⟨rfl, hb⟩
        have HO_3 := Lib.hid (show OwnR w13 w.heap.size A' n c' out from HO_2.out.kept hb)
        have HX_3 := Lib.hid (show PB w13 gx v1 h1 l1 b1 from HX_2.out.kept hb HX_2.out.lt)
        have HB_3 := Lib.hid (HB_2.out.trans (hb.mono HB_2.out.size))
        clear hb HO_2 HX_2 HB_2
        have y1_0 : w13.cell? ⟨gx, 0, none⟩ = some (.bool v1) := HX_3.out.c0
        have y1_1 : w13.cell? ⟨gx, 1, none⟩ = some (.int .u64 h1) := HX_3.out.c1
        have y1_2 : w13.cell? ⟨gx, 2, none⟩ = some (.int .u64 l1) := HX_3.out.c2
        have y1_3 : w13.cell? ⟨gx, 3, none⟩ = some (.int .i64 b1) := HX_3.out.c3
        have yl1 := HX_3.out.lt
        have hsza := HB_3.out.size
        go_wp2_with (at_builtin; refine wpList_push (E := ER) rgTy (by rfl) _ _ (by rfl) (w.heap.size) _ n out [⟨⟨v1, h1, l1⟩, ⟨v1, zh, zl⟩⟩] (by rfl) (HO_3.out.al _).2 _ 1 1 #[.bool v1, .int .u64 h1, .int .u64 l1, .bool v1, .int .u64 zh, .int .u64 zl] (0, 0) (by rfl) (heap_alloc_new _ _) rfl rfl (by omega) (by omega) (by decide) ?hb ?_)
        case hb => simp; omega
        intro g2 cap2 wz hown hgrow hat hlt2
        have HO9 := Lib.hid (HO_3.out.push rfl hown)
        have HB9 := Lib.hid (HO_3.out.below HB_3.out HB_3.out.size HB_3.out.size (Nat.le_refl _) hgrow)
        clear hown hgrow hat hlt2
        clear y1_0 y1_1 y1_2 y1_3 yl1
        go_wp2_with fail
        go_roundw
        case rel => exact ⟨k + 1, n + 1, cap2, some ⟨g2, 0, none⟩, out ++ [⟨⟨v1, h1, l1⟩, ⟨v1, zh, zl⟩⟩], by omega, by omega, by go_num, rfl, HA2, HB9, HO9⟩
        case measure => simp [intOf]; omega
      · rw [hs] at HS
        have HA2 := Lib.hid (show out = ofL (l.take (k + 1)) from by rw [HT.out, HA.out, if_neg (by rw [hs]; decide), List.append_nil])
        clear hs hget hg hkl hxf HT HA
        go_wp2_with fail
        clear c0 c1 c2 c3
        obtain ⟨W12, hW12⟩ : ∃ W, W = wr.alloc (.cells #[.bool v1, .int .u64 h1, .int .u64 l1, .int .i64 b1] 37) := ⟨_, rfl⟩
        obtain ⟨gx, hgx⟩ : ∃ g, g = wr.heap.size := ⟨_, rfl⟩
        have HO_1 := Lib.hid (show OwnR W12 w.heap.size A' n c' out from by rw [hW12]; exact HO.out.al _)
        have Lgx := Lib.hid (show w.heap.size ≤ gx from by rw [hgx]; exact HB.out.size)
        have HX := Lib.hid (show PB W12 gx v1 h1 l1 b1 from by rw [hW12, hgx]; exact pb_new wr v1 h1 l1 b1)
        have HSZgx := Lib.hid (show W12.heap.size = gx + 1 from by rw [hW12, hgx]; simp)
        have HUPgx := Lib.hid (show wr.heap.size ≤ W12.heap.size from by rw [hW12]; simp)
        have HB_1 := Lib.hid (show Below w.heap.size w W12 by rw [hW12]; exact HB.out.alloc HB.out.size _)
        clear HO HB
        rw [← hW12, ← hgx]
        clear hW12 hgx
        have y1_0 : W12.cell? ⟨gx, 0, none⟩ = some (.bool v1) := HX.out.c0
        have y1_1 : W12.cell? ⟨gx, 1, none⟩ = some (.int .u64 h1) := HX.out.c1
        have y1_2 : W12.cell? ⟨gx, 2, none⟩ = some (.int .u64 l1) := HX.out.c2
        have y1_3 : W12.cell? ⟨gx, 3, none⟩ = some (.int .i64 b1) := HX.out.c3
        have yl1 := HX.out.lt
        clear y1_0 y1_1 y1_2 y1_3 yl1
        refine (HS.out _).mono ?_
        rintro e w12 ⟨rfl, hb⟩
        have HO_2 := Lib.hid (show OwnR w12 w.heap.size A' n c' out from HO_1.out.kept hb)
        have HX_2 := Lib.hid (show PB w12 gx v1 h1 l1 b1 from HX.out.kept hb HX.out.lt)
        have HB_2 := Lib.hid (HB_1.out.trans (hb.mono HB_1.out.size))
        clear hb HO_1 HX HB_1
        have y1_0 : w12.cell? ⟨gx, 0, none⟩ = some (.bool v1) := HX_2.out.c0
        have y1_1 : w12.cell? ⟨gx, 1, none⟩ = some (.int .u64 h1) := HX_2.out.c1
        have y1_2 : w12.cell? ⟨gx, 2, none⟩ = some (.int .u64 l1) := HX_2.out.c2
        have y1_3 : w12.cell? ⟨gx, 3, none⟩ = some (.int .i64 b1) := HX_2.out.c3
        have yl1 := HX_2.out.lt
        go_wp2_with fail
        clear y1_0 y1_1 y1_2 y1_3 yl1
        go_roundw
        case rel => exact ⟨k + 1, n, c', A', out, by omega, by omega, by go_num, rfl, HA2, HB_2, HO_2⟩
        case measure => simp [intOf]; omega
    · have hkn : k = l.length := by have := HN.out; omega
      have hout : out = ofL l := by rw [HA.out, hkn, List.take_length]
      have HG0 := Lib.hid (show ∀ r ∈ out, r.fits from by rw [hout]; exact ofL_fits HF.out)
      have HC := Lib.hid (pnormal_own w.heap.size A' n c' out wr HO.out HG0.out (by omega))
      rw [hout] at HC
      have HNN := Lib.hid (show n ≤ N by omega)
      have hd : decide ((k : Int) < (N : Int)) = false := by simp; omega
      clear hkn hout HA HG0
      go_wp2_with fail
      refine HC.out.mono ?_
      rintro e w5 ⟨L, A5, n5, c5, g1, g2, g3, rfl, g5, hb⟩
      have HE := Lib.hid (show SetO w w.heap.size (fun m => anyS (spnL (ofL l)) m) N (.returned (.slice A5 n5 c5)) w5 from ⟨L, A5, n5, c5, g1, g2, Nat.le_trans g3 HNN.out, rfl, ⟨g5.1, own_mono g5.2 HB.out.size⟩, HB.out.trans (hb.mono HB.out.size)⟩)
      clear g1 g2 g3 g5 hb
      go_wp2_with fail
      go_ret
      exact HE.out
/-- The two prefixes of everything. -/
def allP : List Pf := [⟨false, 0, 0, 0⟩, ⟨true, 0, 0, 0⟩]
theorem allP_any (m : Int) : anyS (spnL (ofL allP)) m = isU m := by
  have e : spnL (ofL allP) = [⟨0, 4294967295⟩, ⟨340282366920938463463374607431768211456, top7⟩] := by kernel_rfl
  rw [e]
  simp [anyS, inS, isU]
set_option maxRecDepth 20000 in
theorem pall_any (w : World) : Calls Try.prog 17 #[] w (SetO w w.heap.size (fun m => isU m) 2) := by
  have hh := heap_alloc_new w (.cells #[.bool false, .int .u64 0, .int .u64 0, .int .i64 0, .bool true, .int .u64 0, .int .u64 0, .int .i64 0] 37)
  have HC := Lib.hid (pof_any (some ⟨w.heap.size, 0, none⟩) 2 allP (w.alloc (.cells #[.bool false, .int .u64 0, .int .u64 0, .int .i64 0, .bool true, .int .u64 0, .int .u64 0, .int .i64 0] 37)) (rowl_block hh rfl) (fun p hp => by
    simp only [allP, List.mem_cons, List.not_mem_nil, or_false] at hp
    rcases hp with rfl | rfl <;> exact ⟨by decide, by decide⟩) (by decide))
  have HB := Lib.hid (below_alloc6 w (.cells #[.bool false, .int .u64 0, .int .u64 0, .int .i64 0, .bool true, .int .u64 0, .int .u64 0, .int .i64 0] 37))
  rw [show allP.length = 2 from rfl] at HC
  clear hh
  go_enter Try.func17, Try.ntmps17
  go_wp2_with fail
  refine HC.out.mono ?_
  rintro e w5 ⟨L, A5, n5, c5, g1, g2, g3, rfl, g5, hb⟩
  have HE := Lib.hid (show SetO w w.heap.size (fun m => isU m) 2 (.returned (.slice A5 n5 c5)) w5 from ⟨L, A5, n5, c5, g1, fun m => (g2 m).trans (allP_any m), g3, rfl, ⟨g5.1, own_mono g5.2 HB.out.size⟩, HB.out.trans (hb.mono HB.out.size)⟩)
  clear g1 g2 g3 g5 hb
  go_wp2_with fail
  go_ret
  exact HE.out
end Go.Proofs.Ytmcelgnifpfjpaa

/- What Subset answers. -/
namespace Go.Proofs.Ytmcelgnifpfjpaa
open Go.ChangeShapes Go.WideShapes Go.ChangeAt Go.RowKit
set_option linter.unusedVariables false

/-- Whether the set of the numbers with f is empty. -/
def SubO (w : World) (f : Int → Bool) (e : Ending) (w' : World) : Prop := ∃ L : List Rg, GoodL L ∧ (∀ m, anyS (L.map spn) m = f m) ∧ e = .returned (.bool (L.length == 0)) ∧ Below w.heap.size w w'
theorem SubO.known {w : World} {f : Int → Bool} {e : Ending} {w' : World} (h : SubO w f e w') {K : List Rg} (hK : GoodL K) (hf : ∀ m, f m = anyS (K.map spn) m) : e = .returned (.bool (K.length == 0)) ∧ Below w.heap.size w w' := by
  obtain ⟨L, h1, h2, h3, h4⟩ := h
  obtain rfl := good_uniq h1 hK (fun m => (h2 m).trans (hf m))
  exact ⟨h3, h4⟩
end Go.Proofs.Ytmcelgnifpfjpaa

/- Contracts of the program of layer 7: Intersect, Subset, Eval. -/
namespace Go.Proofs.Ytmcelgnifpfjpaa
open Go.ChangeShapes Go.WideShapes Go.ChangeAt Go.RowKit
set_option linter.unusedVariables false

theorem pminus_n (A1 A2 : Option Addr) (n1 n2 c1 c2 : Nat) (a b : List Rg) (w : World) (h1 : RowL ER w A1 a) (h2 : RowL ER w A2 b) (f1 : ∀ r ∈ a, r.fits) (f2 : ∀ r ∈ b, r.fits) (e1 : n1 = a.length) (e2 : n2 = b.length) (hl1 : n1 ≤ 10000) (hl2 : n2 ≤ 10000) :
    Calls Try.prog 23 #[.slice A1 n1 c1, .slice A2 n2 c2] w (SetO w w.heap.size (fun m => anyS (spnL a) m && !anyS (spnL b) m) (n1 + n2)) := by
  subst e1; subst e2
  exact pminus_any A1 A2 c1 c2 a b w h1 h2 f1 f2 hl1 hl2
/-- A set's result, spoken of an earlier world, with another word for its numbers. -/
theorem SetO.back {w w1 : World} {f g : Int → Bool} {b b' : Nat} {e : Ending} {w' : World} (hb : Below w.heap.size w w1) (h : SetO w1 w1.heap.size f b e w') (hf : ∀ m, f m = g m) (hbb : b ≤ b') : SetO w w.heap.size g b' e w' := by
  obtain ⟨L, A, n, c, h1, h2, h3, h4, h5, h6⟩ := h
  exact ⟨L, A, n, c, h1, fun m => (h2 m).trans (hf m), Nat.le_trans h3 hbb, h4, ⟨h5.1, own_mono h5.2 hb.size⟩, hb.trans (h6.mono hb.size)⟩
theorem pinter_any (A1 A2 : Option Addr) (c1 c2 : Nat) (a b : List Rg) (w : World) (h1 : RowL ER w A1 a) (h2 : RowL ER w A2 b) (f1 : ∀ r ∈ a, r.fits) (f2 : ∀ r ∈ b, r.fits) (hl1 : a.length ≤ 1000) (hl2 : b.length ≤ 1000) :
    Calls Try.prog 21 #[.slice A1 a.length c1, .slice A2 b.length c2] w (SetO w w.heap.size (fun m => anyS (spnL a) m && anyS (spnL b) m) 3000) := by
  have HC := Lib.hid (pminus_any A1 A2 c1 c2 a b w h1 h2 f1 f2 (by omega) (by omega))
  have HI := Lib.hid (fun (W : World) (A : Option Addr) (n c : Nat) (L : List Rg) (hb : Below w.heap.size w W) (ho : OwnR W w.heap.size A n c L) (hL : GoodL L) (hn : n ≤ 2000) => pminus_n A1 A a.length n c1 c a L W (h1.kept hb) ho.row f1 (okL_fits hL) rfl ho.1 (by omega) (by omega))
  obtain ⟨N, hN⟩ : ∃ n, n = a.length := ⟨_, rfl⟩
  obtain ⟨M, hM⟩ : ∃ n, n = b.length := ⟨_, rfl⟩
  rw [← hN, ← hM] at HC
  rw [← hN] at HI
  rw [← hN, ← hM]
  have hN1 : N ≤ 1000 := by omega
  have hM1 : M ≤ 1000 := by omega
  clear h1 h2 f1 f2 hl1 hl2 hN hM
  go_enter Try.func21, Try.ntmps21
  go_wp2_with fail
  refine HC.out.mono ?_
  rintro e w1 ⟨L, A5, n5, c5, g1, g2, g3, rfl, g5, hb⟩
  have HK := Lib.hid (HI.out w1 A5 n5 c5 L hb g5 g1 (by omega))
  have HG := Lib.hid (show ∀ m, anyS (spnL L) m = (anyS (spnL a) m && !anyS (spnL b) m) from fun m => by rw [spnL_good g1]; exact g2 m)
  have HB := Lib.hid hb
  have hn5 : N + n5 ≤ 3000 := by omega
  clear g1 g2 g3 g5 hb HC HI
  go_wp2_with fail
  refine HK.out.mono ?_
  intro e w2 hs
  have HE := Lib.hid (hs.back (g := fun m => anyS (spnL a) m && anyS (spnL b) m) (b' := 3000) HB.out (fun m => by
    show (anyS (spnL a) m && !anyS (spnL L) m) = (anyS (spnL a) m && anyS (spnL b) m)
    rw [HG.out m]
    cases anyS (spnL a) m <;> cases anyS (spnL b) m <;> rfl) hn5)
  obtain ⟨K, A6, n6, c6, g1, g2, g3, rfl, g5, hb⟩ := hs
  clear g1 g2 g3 g5 hb HK
  go_wp2_with fail
  go_ret
  exact HE.out

/-- The answer of Subset: whether the difference, as a set, is empty. -/
theorem psubset_any (A1 A2 : Option Addr) (c1 c2 : Nat) (a b : List Rg) (w : World) (h1 : RowL ER w A1 a) (h2 : RowL ER w A2 b) (f1 : ∀ r ∈ a, r.fits) (f2 : ∀ r ∈ b, r.fits) (hl1 : a.length ≤ 100) (hl2 : b.length ≤ 100) :
    Calls Try.prog 25 #[.slice A1 a.length c1, .slice A2 b.length c2] w (SubO w (fun m => anyS (spnL a) m && !anyS (spnL b) m)) := by
  have HC := Lib.hid (pminus_any A1 A2 c1 c2 a b w h1 h2 f1 f2 (by omega) (by omega))
  obtain ⟨N, hN⟩ : ∃ n, n = a.length := ⟨_, rfl⟩
  obtain ⟨M, hM⟩ : ∃ n, n = b.length := ⟨_, rfl⟩
  rw [← hN, ← hM] at HC ⊢
  clear h1 h2 f1 f2 hl1 hl2 hN hM
  go_enter Try.func25, Try.ntmps25
  go_wp2_with fail
  refine HC.out.mono ?_
  rintro e w1 ⟨L, A5, n5, c5, g1, g2, g3, rfl, g5, hb⟩
  have HE := Lib.hid (show SubO w (fun m => anyS (spnL a) m && !anyS (spnL b) m) (.returned (.bool (n5 == 0))) w1 from ⟨L, g1, g2, by rw [g5.1], hb⟩)
  clear g1 g2 g3 g5 hb HC
  cases n5 with
  | zero =>
    go_wp2_with fail
    go_ret
    exact HE.out
  | succ k =>
    have hd : decide (((k + 1 : Nat) : Int) = 0) = false := by simp; omega
    have hd2 : (((k + 1 : Nat) : Int) == 0) = false := by simp; omega
    have he : (k + 1 == 0) = false := by simp
    rw [he] at HE
    go_wp2_with fail
    go_ret
    exact HE.out

/-- The numbers that Eval keeps. -/
def evF (a b : List Pf) (m : Int) : Bool := (if a.length = 0 then isU m else anyS (spnL (ofL a)) m) && !anyS (spnL (ofL b)) m
set_option maxHeartbeats 1000000 in
theorem peval_any (A1 A2 : Option Addr) (c1 c2 : Nat) (a b : List Pf) (w : World) (h1 : RowL EP w A1 a) (h2 : RowL EP w A2 b) (f1 : ∀ p ∈ a, p.fits) (f2 : ∀ p ∈ b, p.fits) (hl1 : a.length ≤ 1000) (hl2 : b.length ≤ 1000) :
    Calls Try.prog 31 #[.slice A1 a.length c1, .slice A2 b.length c2] w (SetO w w.heap.size (evF a b) 3000) := by
  have HA := Lib.hid (fun W (hb : Below w.heap.size w W) => pof_any A1 c1 a W (h1.kept hb) f1 (by omega))
  have HB := Lib.hid (fun W (hb : Below w.heap.size w W) => pof_any A2 c2 b W (h2.kept hb) f2 (by omega))
  have HM := Lib.hid (fun (W : World) (B1 B2 : Option Addr) (n1 n2 d1 d2 b1 b2 : Nat) (K L : List Rg) (k1 : OwnR W b1 B1 n1 d1 K) (k2 : OwnR W b2 B2 n2 d2 L) (g1 : GoodL K) (g2 : GoodL L) (l1 : n1 ≤ 1000) (l2 : n2 ≤ 1000) => pminus_n B1 B2 n1 n2 d1 d2 K L W k1.row k2.row (okL_fits g1) (okL_fits g2) k1.1 k2.1 (by omega) (by omega))
  have HEV := Lib.hid (show ∀ (K L : List Rg), GoodL K → GoodL L → (∀ m, anyS (K.map spn) m = (if a.length = 0 then isU m else anyS (spnL (ofL a)) m)) → (∀ m, anyS (L.map spn) m = anyS (spnL (ofL b)) m) → ∀ m, (anyS (spnL K) m && !anyS (spnL L) m) = evF a b m from fun K L g1 g2 k1 k2 m => by rw [spnL_good g1, spnL_good g2, k1, k2]; rfl)
  obtain ⟨N, hN⟩ : ∃ n, n = a.length := ⟨_, rfl⟩
  obtain ⟨M, hM⟩ : ∃ n, n = b.length := ⟨_, rfl⟩
  rw [← hN] at HA HEV
  rw [← hM] at HB
  rw [← hN, ← hM]
  have hN1 : N ≤ 1000 := by omega
  have hM1 : M ≤ 1000 := by omega
  clear h1 h2 f1 f2 hl1 hl2 hN hM
  go_enter Try.func31, Try.ntmps31
  go_wp2_with fail
  refine (pall_any w).mono ?_
  rintro e w1 ⟨K, A5, n5, c5, g1, g2, g3, rfl, g5, hb⟩
  have HK := Lib.hid (And.intro g1 g2)
  have HO := Lib.hid g5
  have HB1 := Lib.hid hb
  have hn5 : n5 ≤ 1000 := by omega
  clear g1 g2 g3 g5 hb
  have go : ∀ (w2 : World) (B1 : Option Addr) (n1 d1 : Nat) (K : List Rg), Below w.heap.size w w2 → OwnR w2 w.heap.size B1 n1 d1 K → GoodL K → n1 ≤ 1000 → (∀ m, anyS (K.map spn) m = (if N = 0 then isU m else anyS (spnL (ofL a)) m)) →
      Calls Try.prog 29 #[.slice A2 M c2] w2 fun e w3 => ∃ B2 n2 d2, e = .returned (.slice B2 n2 d2) ∧ Calls Try.prog 23 #[.slice B1 n1 d1, .slice B2 n2 d2] w3 fun e w4 => ∃ B3 n3 d3, e = .returned (.slice B3 n3 d3) ∧ SetO w w.heap.size (evF a b) 3000 e w4 := fun w2 B1 n1 d1 K b2 o2 k1 k2 k3 => by
    refine (HB.out w2 b2).mono ?_
    rintro e w3 ⟨L, B2, n2, d2, g1, g2, g3, rfl, g5, hb⟩
    refine ⟨B2, n2, d2, rfl, (HM.out w3 B1 B2 n1 n2 d1 d2 _ _ K L (o2.kept hb) g5 k1 g1 k2 (by omega)).mono ?_⟩
    intro e w4 hs
    have he := hs.back (g := evF a b) (b' := 3000) (b2.trans (hb.mono b2.size)) (fun m => HEV.out K L k1 g1 k3 g2 m) (by omega)
    obtain ⟨_, B3, n3, d3, _, _, _, rfl, _, _⟩ := hs
    exact ⟨B3, n3, d3, rfl, he⟩
  have GO := Lib.hid go
  clear go HB HM HEV
  cases N with
  | zero =>
    have HC := Lib.hid (GO.out w1 A5 n5 c5 K HB1.out HO.out HK.out.1 hn5 (fun m => by rw [HK.out.2 m, if_pos rfl]))
    clear GO HA HO HK HB1
    go_wp2_with fail
    refine HC.out.mono ?_
    rintro e w3 ⟨B2, n2, d2, rfl, hc⟩
    have HC := Lib.hid hc
    clear hc
    go_wp2_with fail
    refine HC.out.mono ?_
    rintro e w4 ⟨B3, n3, d3, rfl, hs⟩
    have HE := Lib.hid hs
    clear hs HC
    go_wp2_with fail
    go_ret
    exact HE.out
  | succ k =>
    have hd : decide (((k + 1 : Nat) : Int) > 0) = true := decide_eq_true (by omega)
    have hp : (0 : Int) < ((k + 1 : Nat) : Int) := by omega
    obtain ⟨N, hN⟩ : ∃ N, N = k + 1 := ⟨_, rfl⟩
    rw [← hN] at hd hp HA hN1 GO ⊢
    have HN0 := Lib.hid (show ¬ N = 0 by omega)
    clear hN
    go_wp2_with fail
    refine (HA.out w1 HB1.out).mono ?_
    rintro e w2 ⟨L, B1, n1, d1, g1, g2, g3, rfl, g5, hb⟩
    have HC := Lib.hid (GO.out w2 B1 n1 d1 L (HB1.out.trans (hb.mono HB1.out.size)) ⟨g5.1, own_mono g5.2 HB1.out.size⟩ g1 (by omega) (fun m => by rw [if_neg HN0.out]; exact g2 m))
    clear GO HA HO HK HB1 g1 g2 g3 g5 hb
    go_wp2_with fail
    refine HC.out.mono ?_
    rintro e w3 ⟨B2, n2, d2, rfl, hc⟩
    have HC := Lib.hid hc
    clear hc
    go_wp2_with fail
    refine HC.out.mono ?_
    rintro e w4 ⟨B3, n3, d3, rfl, hs⟩
    have HE := Lib.hid hs
    clear hs HC
    go_wp2_with fail
    go_ret
    exact HE.out
end Go.Proofs.Ytmcelgnifpfjpaa

/- Contracts of the program of layer 7: Union, and slices.Concat of two slices of ranges. -/
namespace Go.Proofs.Ytmcelgnifpfjpaa
open Go.ChangeShapes Go.WideShapes Go.ChangeAt Go.RowKit
set_option linter.unusedVariables false

/-- Grow of the nil slice: room, and no element. -/
theorem growR_any (q : Nat) (w : World) (hq : q ≤ 1000000) :
    Calls Try.prog 66 #[.slice none 0 0, .int .i64 q] w fun e w' => ∃ A c, e = .returned (.slice A 0 c) ∧ OwnR w' w.heap.size A 0 c [] ∧ Below w.heap.size w w' := by
  by_cases h0 : q = 0
  · subst h0
    refine (Any8.slices_Grow_room layRg none 0 0 0 w (Nat.le_refl _) (by omega) (by omega) (by omega)).mono ?_
    rintro e w' ⟨rfl, rfl⟩
    exact ⟨none, 0, rfl, OwnR.nil _ _, Below.refl _ _⟩
  · obtain ⟨i0, z, h1, h2, h3, h4, h5⟩ := rgTy.info
    have hs0 : 0 < i0.size := by rw [h3]; show 0 < 6; omega
    have hs6 : i0.size = 6 := h3
    have hz6 : z.cells.size = 6 := h5
    refine (Any8.slices_Grow_grow layRg i0 z h1 h2 hs0 none 0 0 q [] w (Nat.le_refl _) (by omega) (by rw [h4]; omega) (by omega) (by simp) (fun _ => rfl) (fun a e => by cases e)).mono ?_
    rintro e w' ⟨rfl, rfl⟩
    have hge := grownCap_ge w (0 + q) 0 (layRg_ren.t 25)
    have hle := grownCap_le_maxLen w (0 + q) 0 (layRg_ren.t 25) (by unfold maxLen; omega)
    refine ⟨_, _, rfl, ⟨rfl, ?_⟩, (below_drew7 (Below.refl w.heap.size w)).trans ((below_alloc6 w.drew _).mono (Nat.le_refl _))⟩
    refine ⟨rfl, .inr ⟨w.heap.size, _, _, rfl, Nat.le_refl _, heap_alloc_new w.drew _, Nat.zero_le _, hle, ?_, by simp [Enc.cells]⟩⟩
    rw [Array.size_append, Array.size_append, size_zeroCells, size_zeroCells, hz6]
    rw [Nat.zero_add] at hge
    simp
    omega
set_option maxHeartbeats 4000000 in
set_option maxRecDepth 20000 in
theorem pconcat_any (g : Nat) (A1 A2 : Option Addr) (c1 c2 : Nat) (a b : List Rg) (w : World) (hc : Cells w g 22 #[.slice A1 a.length c1, .slice A2 b.length c2]) (h1 : RowL ER w A1 a) (h2 : RowL ER w A2 b) (n1 : A1 = none → c1 = 0) (n2 : A2 = none → c2 = 0) (hl1 : a.length ≤ 10000) (hl2 : b.length ≤ 10000) :
    Calls Try.prog 48 #[.slice (some ⟨g, 0, none⟩) 2 2] w fun e w' => ∃ A n c, e = .returned (.slice A n c) ∧ n = a.length + b.length ∧ OwnR w' w.heap.size A n c (a ++ b) ∧ Below w.heap.size w w' := by
  obtain ⟨la, hla⟩ : ∃ n, n = a.length := ⟨_, rfl⟩
  obtain ⟨lb, hlb⟩ : ∃ n, n = b.length := ⟨_, rfl⟩
  rw [← hla, ← hlb] at hc
  rw [← hla, ← hlb]
  have H1 := Lib.hid h1
  have H2 := Lib.hid h2
  have N1 := Lib.hid n1
  have N2 := Lib.hid n2
  have HLA := Lib.hid hla
  have HLB := Lib.hid hlb
  have b1 : la ≤ 10000 := by omega
  have b2 : lb ≤ 10000 := by omega
  have HC := Lib.hid hc
  have z0 : w.cell? ⟨g, 0, none⟩ = some (.slice A1 la c1) := (hc.cell 0).trans rfl
  have z1 : w.cell? ⟨g, 1, none⟩ = some (.slice A2 lb c2) := (hc.cell 1).trans rfl
  have zl := hc.lt
  have HGR := Lib.hid (growR_any (la + lb) w (by omega))
  obtain ⟨q, hq⟩ : ∃ q, q = la + lb := ⟨_, rfl⟩
  rw [← hq] at HGR ⊢
  have HQ := Lib.hid hq
  have hqi : (la : Int) + (lb : Int) = (q : Int) := by omega
  have hw1 : IntKind.i64.wrap ((la : Int) + (lb : Int)) = (q : Int) := by rw [hqi]; exact IntWalk.i64_in _ (by omega)
  have hw0 : IntKind.i64.wrap ((0 : Int) + (la : Int)) = (la : Int) := by rw [Int.zero_add]; exact IntWalk.i64_in _ (by omega)
  have dl : decide ((la : Int) < 0) = false := by simp
  have dq : decide ((q : Int) < 0) = false := by simp
  clear h1 h2 n1 n2 hla hlb hc hl1 hl2 hq
  go_enter Try.func48, Try.ntmps48
  go_wp2_with fail
  go_loopw [3, 11] (fun s3 s11 wr => wr = w ∧ ((s11 = .int .i64 0 ∧ s3 = .int .i64 0) ∨ (s11 = .int .i64 1 ∧ s3 = .int .i64 la) ∨ (s11 = .int .i64 2 ∧ s3 = .int .i64 q))) (fun _ s11 _ => 2 - (intOf s11).toNat)
  case atStart => exact ⟨rfl, .inl ⟨rfl, rfl⟩⟩
  case round =>
    obtain ⟨hwr, hrel⟩ := hrel
    have hwr := hwr.symm
    subst hwr
    rcases hrel with ⟨rfl, rfl⟩ | ⟨rfl, rfl⟩ | ⟨rfl, rfl⟩
    · go_wp2_with fail
      go_roundw
      case rel => exact ⟨by trivial, .inr (.inl ⟨rfl, rfl⟩)⟩
      case measure => simp [intOf]
    · go_wp2_with fail
      go_roundw
      case rel => exact ⟨by trivial, .inr (.inr ⟨rfl, rfl⟩)⟩
      case measure => simp [intOf]
    · go_wp2_with fail
      refine HGR.out.mono ?_
      rintro e w2 ⟨A, c, rfl, ho, hb⟩
      have HO := Lib.hid ho
      have HB := Lib.hid hb
      clear ho hb HGR z0 z1 zl
      go_wp2_with fail
      go_loopw [6, 27] (fun s6 s27 wr => ∃ A : Option Addr, ∃ n c : Nat, ∃ xs : List Rg, s6 = .slice A n c ∧ Hid (OwnR wr w.heap.size A n c xs) ∧ Hid (Below w.heap.size w wr) ∧ ((s27 = .int .i64 0 ∧ n = 0 ∧ Hid (xs = [])) ∨ (s27 = .int .i64 1 ∧ n = la ∧ Hid (xs = a)) ∨ (s27 = .int .i64 2 ∧ n = q ∧ Hid (xs = a ++ b)))) (fun _ s27 _ => 2 - (intOf s27).toNat)
      case atStart => exact ⟨A, 0, c, [], rfl, HO, HB, .inl ⟨rfl, rfl, Lib.hid rfl⟩⟩
      case round =>
        clear HO HB
        obtain ⟨A, n, c, xs, rfl, HO, HB, hrel⟩ := hrel
        have z0 : wr.cell? ⟨g, 0, none⟩ = some (.slice A1 la c1) := (HB.out.cell (p := ⟨g, 0, none⟩) HC.out.lt).trans ((HC.out.cell 0).trans rfl)
        have z1 : wr.cell? ⟨g, 1, none⟩ = some (.slice A2 lb c2) := (HB.out.cell (p := ⟨g, 1, none⟩) HC.out.lt).trans ((HC.out.cell 1).trans rfl)
        have zl : g < wr.heap.size := Nat.lt_of_lt_of_le HC.out.lt HB.out.size
        have HR1 := Lib.hid (H1.out.kept HB.out)
        have HR2 := Lib.hid (H2.out.kept HB.out)
        rcases hrel with ⟨rfl, hn, HX⟩ | ⟨rfl, hn, HX⟩ | ⟨rfl, hn, HX⟩
        all_goals (have hn := hn.symm; subst hn)
        · go_wp2_with (at_builtin; refine wpList_cat (E := ER) rgTy (by rfl) _ _ (by rfl) w.heap.size _ 0 xs a (by rfl) HO.out.2 A1 la c1 (by rfl) HLA.out N1.out HR1.out (by omega) (by decide) HB.out.size ?_)
          intro A' c' w9 hown hgrow
          have HB9 := Lib.hid (show Below w.heap.size w w9 from HB.out.grown hgrow HB.out.size (fun j hj => (HO.out.2.lt j hj).1))
          have HO9 := Lib.hid (show OwnR w9 w.heap.size A' la c' a from ⟨HLA.out, by have h := hown; rw [HX.out, List.nil_append] at h; exact h⟩)
          clear hown hgrow HO HB HX HR1 HR2 z0 z1 zl
          try rw [Nat.zero_add]
          go_wp2_with fail
          go_roundw
          case rel => exact ⟨A', la, c', a, rfl, HO9, HB9, .inr (.inl ⟨rfl, rfl, Lib.hid rfl⟩)⟩
          case measure => simp [intOf]
        · go_wp2_with (at_builtin; refine wpList_cat (E := ER) rgTy (by rfl) _ _ (by rfl) w.heap.size _ la xs b (by rfl) HO.out.2 A2 lb c2 (by rfl) HLB.out N2.out HR2.out (by omega) (by decide) HB.out.size ?_)
          intro A' c' w9 hown hgrow
          have HB9 := Lib.hid (show Below w.heap.size w w9 from HB.out.grown hgrow HB.out.size (fun j hj => (HO.out.2.lt j hj).1))
          have HO9 := Lib.hid (show OwnR w9 w.heap.size A' q c' (a ++ b) from ⟨by rw [HQ.out, HLA.out, HLB.out]; simp, by have h := hown; rw [HX.out, ← HQ.out] at h; exact h⟩)
          clear hown hgrow HO HB HX HR1 HR2 z0 z1 zl
          rw [← HQ.out]
          go_wp2_with fail
          go_roundw
          case rel => exact ⟨A', q, c', a ++ b, rfl, HO9, HB9, .inr (.inr ⟨rfl, rfl, Lib.hid rfl⟩)⟩
          case measure => simp [intOf]
        · go_wp2_with fail
          go_ret
          exact ⟨A, q, c, rfl, rfl, by rw [← HX.out]; exact HO.out, HB.out⟩
set_option maxHeartbeats 1000000 in
theorem punion_any (A1 A2 : Option Addr) (c1 c2 : Nat) (a b : List Rg) (w : World) (h1 : RowL ER w A1 a) (h2 : RowL ER w A2 b) (n1 : A1 = none → c1 = 0) (n2 : A2 = none → c2 = 0) (f1 : ∀ r ∈ a, r.fits) (f2 : ∀ r ∈ b, r.fits) (hl1 : a.length ≤ 10000) (hl2 : b.length ≤ 10000) :
    Calls Try.prog 19 #[.slice A1 a.length c1, .slice A2 b.length c2] w (SetO w w.heap.size (fun m => anyS (spnL a) m || anyS (spnL b) m) (a.length + b.length)) := by
  have hb0 := below_alloc6 w (.cells #[.slice A1 a.length c1, .slice A2 b.length c2] 22)
  have HC := Lib.hid (pconcat_any w.heap.size A1 A2 c1 c2 a b (w.alloc (.cells #[.slice A1 a.length c1, .slice A2 b.length c2] 22)) (heap_alloc_new w _) (h1.kept hb0) (h2.kept hb0) n1 n2 hl1 hl2)
  have HB := Lib.hid hb0
  have HF := Lib.hid (show ∀ r ∈ a ++ b, r.fits from fun r hr => by rcases List.mem_append.1 hr with hr | hr; exact f1 r hr; exact f2 r hr)
  obtain ⟨N, hN⟩ : ∃ n, n = a.length := ⟨_, rfl⟩
  obtain ⟨M, hM⟩ : ∃ n, n = b.length := ⟨_, rfl⟩
  rw [← hN, ← hM] at HC HB
  rw [← hN, ← hM]
  have hN1 : N ≤ 10000 := by omega
  have hM1 : M ≤ 10000 := by omega
  clear h1 h2 n1 n2 f1 f2 hl1 hl2 hN hM hb0
  go_enter Try.func19, Try.ntmps19
  go_wp2_with fail
  refine HC.out.mono ?_
  rintro e w1 ⟨A, n, c, rfl, hn, ho, hb⟩
  have HK := Lib.hid (pnormal_own _ A n c (a ++ b) w1 ho HF.out (by omega))
  have HB1 := Lib.hid (HB.out.trans (hb.mono HB.out.size))
  have HN := Lib.hid (Nat.le_of_eq hn)
  clear ho hb HC HB hn
  go_wp2_with fail
  refine HK.out.mono ?_
  intro e w2 hs
  have HE := Lib.hid (hs.back (g := fun m => anyS (spnL a) m || anyS (spnL b) m) (b' := N + M) HB1.out (fun m => by simp only [spnL_append, anyS_append]) HN.out)
  obtain ⟨K, A6, n6, c6, g1, g2, g3, rfl, g5, hb⟩ := hs
  clear g1 g2 g3 g5 hb HK
  go_wp2_with fail
  go_ret
  exact HE.out
end Go.Proofs.Ytmcelgnifpfjpaa

/- Same: two slices that read as sets are equal exactly where the sets are. -/
namespace Go.Proofs.Ytmcelgnifpfjpaa
open Go.ChangeShapes Go.WideShapes Go.ChangeAt Go.RowKit
set_option linter.unusedVariables false

theorem rg_guard : Try.prog.eqGuardType Try.prog.depth 43 = false := by kernel_rfl
set_option maxRecDepth 20000 in
theorem rg_neq (v1 : Bool) (h1 l1 : Int) (v2 : Bool) (h2 l2 : Int) (W : World) :
    (binOp .neq 43 (.agg #[.bool v1, .int .u64 h1, .int .u64 l1, .bool v2, .int .u64 h2, .int .u64 l2]) (.agg #[.bool v1, .int .u64 h1, .int .u64 l1, .bool v2, .int .u64 h2, .int .u64 l2])).run Try.prog W = .ok (.bool false) W := by
  have u3 := Try.underlying23
  have a3 := Try.isAgg23
  have z3 := Try.sizeOf23
  have u9 := Try.underlying4
  have a9 := Try.isAgg4
  have z9 := Try.sizeOf4
  have u8 := Try.underlying25
  have a8 := Try.isAgg25
  have z8 := Try.sizeOf25
  have hS : Try.prog.underlying 43 = some (.struct (Try.prog.fieldsOf 43)) := by kernel_rfl
  have hp : Try.prog.stoodInHeld 43 = false := by kernel_rfl
  have hS2 : Try.prog.underlying 25 = some (.struct (Try.prog.fieldsOf 25)) := by kernel_rfl
  have hp2 : Try.prog.stoodInHeld 25 = false := by kernel_rfl
  rw [run_neq_struct, show (10000 : Nat) = 9999 + 1 from rfl, run_equalIn_agg W 9999 43 _ _ hS hp]
  simp only [Program.fieldsOf, Try.underlying43]
  go_simp
set_option maxRecDepth 20000 in
theorem same7_any (A1 A2 : Option Addr) (c1 c2 : Nat) (l : List Rg) (w : World) (h1 : RowL ER w A1 l) (h2 : RowL ER w A2 l) (hl : l.length ≤ 1000000) :
    Calls Try.prog 10 #[.slice A1 l.length c1, .slice A2 l.length c2] w fun e w' => e = .returned (.bool true) ∧ Below w.heap.size w w' := by
  have hm := rg_guard
  obtain ⟨n, hn⟩ : ∃ n, n = l.length := ⟨_, rfl⟩
  rw [← hn]
  have HN := Lib.hid hn
  have H1 := Lib.hid h1
  have H2 := Lib.hid h2
  have hn6 : n ≤ 1000000 := by omega
  clear h1 h2 hl hn
  go_enter Try.func10, Try.ntmps10
  go_wp2_with fail
  go_loopw [5] (fun i wr => ∃ k : Nat, k ≤ n ∧ i = .int .i64 k ∧ Hid (RowL ER wr A1 l) ∧ Hid (RowL ER wr A2 l) ∧ Below w.heap.size w wr) (fun i _ => n - (intOf i).toNat)
  case atStart => exact ⟨0, Nat.zero_le _, rfl, H1, H2, Below.refl _ _⟩
  case round =>
    clear H1 H2
    obtain ⟨k, hk, rfl, T1, T2, hB⟩ := hrel
    by_cases hlt : k < n
    · have hkl : k < l.length := by rw [← HN.out]; exact hlt
      obtain ⟨⟨⟨v1, p1, l1⟩, ⟨v2, p2, l2⟩⟩, hget⟩ : ∃ s, l[k]? = some s := ⟨l[k], List.getElem?_eq_getElem hkl⟩
      obtain ⟨g1, o1, rfl, hg1⟩ := T1.out.shape (by omega)
      obtain ⟨g2, o2, rfl, hg2⟩ := T2.out.shape (by omega)
      obtain ⟨a0, a1, a2, a3, a4, a5⟩ := rg_at T1.out hget (Below.refl _ _)
      obtain ⟨b0, b1, b2, b3, b4, b5⟩ := rg_at T2.out hget (Below.refl _ _)
      have q1 := fun W => rg_neq v1 p1 l1 v2 p2 l2 W
      have hki : (k : Int) < (n : Int) := by omega
      have hki0 : (0 : Int) ≤ (k : Int) := by omega
      clear hget hkl
      go_wp2_with fail
      go_quiet (fail)
      have hB2 := Lib.hid (below_drewN7 hB nq)
      have T12 := Lib.hid (T1.out.drewN nq)
      have T22 := Lib.hid (T2.out.drewN nq)
      clear hB T1 T2 a0 a1 a2 a3 a4 a5 b0 b1 b2 b3 b4 b5 q1
      generalize wr.drewN nq = w2 at *
      go_wp2_with fail
      go_roundw
      case rel => exact ⟨k + 1, by omega, by go_num, T12, T22, hB2.out⟩
      case measure => simp [intOf]; omega
    · obtain rfl : k = n := by omega
      have hd : decide ((k : Int) < (k : Int)) = false := by simp
      go_wp2_with fail
      go_ret
      exact ⟨rfl, hB⟩
/-- Two rows that hold the same. -/
theorem same7_own (b1 b2 : Nat) (A1 A2 : Option Addr) (n1 n2 c1 c2 : Nat) (l1 l2 : List Rg) (w : World) (h1 : OwnR w b1 A1 n1 c1 l1) (h2 : OwnR w b2 A2 n2 c2 l2) (e : l1 = l2) (hl : n1 ≤ 1000000) :
    Calls Try.prog 10 #[.slice A1 n1 c1, .slice A2 n2 c2] w fun e w' => e = .returned (.bool true) ∧ Below w.heap.size w w' := by
  subst e
  rw [h1.1, h2.1]
  exact same7_any A1 A2 c1 c2 l1 w h1.row h2.row (by rw [← h1.1]; exact hl)
end Go.Proofs.Ytmcelgnifpfjpaa

/- Contract of the program of layer 7: Valid. -/
namespace Go.Proofs.Ytmcelgnifpfjpaa
open Go.ChangeShapes Go.WideShapes Go.ChangeAt Go.RowKit
set_option linter.unusedVariables false

/-- Valid goes on, or not. -/
theorem valid_step {l : List Rg} {k : Nat} {r : Rg} (hf : ∀ r ∈ l, r.fits) (hs : l[k]? = some r) (h0 : GoodL (l.take k)) (hr : someR r = true) (h : nxt 0 ((l.take k).map spn) ≤ kA r.lo) : GoodL (l.take (k + 1)) :=
  good_go hs h0 hr (hf r (List.mem_of_getElem? hs)) h
set_option maxHeartbeats 1000000 in
set_option maxRecDepth 20000 in
theorem pvalid_any (A : Option Addr) (cap : Nat) (l : List Rg) (w : World) (h : RowL ER w A l) (hf : ∀ r ∈ l, r.fits) (hl : l.length ≤ 1000000) :
    Calls Try.prog 13 #[.slice A l.length cap] w fun e w' => e = .returned (.bool (okR l)) ∧ Below w.heap.size w w' := by
  obtain ⟨n, hn⟩ : ∃ n, n = l.length := ⟨_, rfl⟩
  have hn6 : n ≤ 1000000 := by omega
  obtain ⟨B, hB⟩ : ∃ B, B = okR l := ⟨_, rfl⟩
  rw [← hn, ← hB]
  have H := Lib.hid h
  have HF := Lib.hid hf
  have HR := Lib.hid hB
  have HN := Lib.hid hn
  have HW := Lib.hid (Below.refl w.heap.size w)
  clear h hB hn hl hf
  go_enter Try.func13, Try.ntmps13
  go_wp2_with fail
  go_loopw [7] (fun i wr => ∃ k : Nat, k ≤ n ∧ i = .int .i64 k ∧ Hid (GoodL (l.take k)) ∧ Hid (Below w.heap.size w wr)) (fun i wr => n - (intOf i).toNat)
  case atStart => exact ⟨0, by omega, rfl, Lib.hid good_nil, HW⟩
  case round =>
    obtain ⟨k, hk, rfl, HK, HB⟩ := hrel
    clear HW
    by_cases hlt : k < n
    · have hkl : k < l.length := by rw [← HN.out]; exact hlt
      obtain ⟨g, o, rfl, hg⟩ := H.out.shape (by omega)
      obtain ⟨⟨⟨v1, h1, l1⟩, ⟨v2, h2, l2⟩⟩, hget⟩ : ∃ s, l[k]? = some s := ⟨l[k], List.getElem?_eq_getElem hkl⟩
      obtain ⟨c0, c1, c2, c3, c4, c5⟩ := rg_at H.out hget HB.out
      have hfit := HF.out _ (List.mem_of_getElem? hget)
      have HH := Lib.hid (fun W => phas_any v1 h1 l1 v2 h2 l2 W hfit.1 hfit.2)
      have hki : (k : Int) < (n : Int) := by omega
      have hki0 : (0 : Int) ≤ (k : Int) := by omega
      have HX := Lib.hid (rb_new wr v1 h1 l1 v2 h2 l2)
      have HB1 := Lib.hid (HB.out.alloc HB.out.size (.cells #[.bool v1, .int .u64 h1, .int .u64 l1, .bool v2, .int .u64 h2, .int .u64 l2] 43))
      have HG := Lib.hid hget
      cases hs : someR ⟨⟨v1, h1, l1⟩, ⟨v2, h2, l2⟩⟩ with
      | false =>
        obtain rfl : B = false := HR.out.trans (okR_none (List.mem_of_getElem? hget) hs)
        rw [hs] at HH
        clear hs hget hfit hg
        go_wp2_with fail
        generalize wr.alloc (.cells #[.bool v1, .int .u64 h1, .int .u64 l1, .bool v2, .int .u64 h2, .int .u64 l2] 43) = W1 at *
        refine wp_region_pick (fun w' => Below W1.heap.size W1 w') (by kernel_rfl) (by kernel_rfl) (Below.refl _ _) ⟨rfl, rfl, rfl, Nat.le_refl _, fun _ _ => rfl⟩ (fun p hp hq => ?_)
        have pp0 : ∀ u, (p u).cell? ⟨wr.heap.size, 0, none⟩ = some (.bool v1) := fun u => ((HX.out.kept (hp u) HX.out.lt).c 0).trans rfl
        have pp1 : ∀ u, (p u).cell? ⟨wr.heap.size, 1, none⟩ = some (.int .u64 h1) := fun u => ((HX.out.kept (hp u) HX.out.lt).c 1).trans rfl
        have pp2 : ∀ u, (p u).cell? ⟨wr.heap.size, 2, none⟩ = some (.int .u64 l1) := fun u => ((HX.out.kept (hp u) HX.out.lt).c 2).trans rfl
        have pp3 : ∀ u, (p u).cell? ⟨wr.heap.size, 3, none⟩ = some (.bool v2) := fun u => ((HX.out.kept (hp u) HX.out.lt).c 3).trans rfl
        have pp4 : ∀ u, (p u).cell? ⟨wr.heap.size, 4, none⟩ = some (.int .u64 h2) := fun u => ((HX.out.kept (hp u) HX.out.lt).c 4).trans rfl
        have pp5 : ∀ u, (p u).cell? ⟨wr.heap.size, 5, none⟩ = some (.int .u64 l2) := fun u => ((HX.out.kept (hp u) HX.out.lt).c 5).trans rfl
        have HP := Lib.hid hp
        have HQ := Lib.hid hq
        clear hp hq
        repeat (go_big_quiet_step ((first | with_reducible exact Calls.pick_of HQ.out (fun W' hb => (HP.out _).trans (hb.mono (HP.out _).size)) (HH.out _))))
        refine wpQuiet_nil ?_
        rintro _ ⟨u, rfl⟩
        have hbp := HP.out u
        generalize p u = w2 at *
        clear HP HQ pp0 pp1 pp2 pp3 pp4 pp5
        have HB2 := Lib.hid (HB1.out.trans (hbp.mono HB1.out.size))
        go_wp2_with fail
        go_ret
        exact ⟨rfl, HB2.out⟩
      | true =>
        rw [hs] at HH
        have hsp := someR_span hs hfit
        have hsv := someR_iff.1 hs
        by_cases h4 : 0 < k
        · obtain ⟨j, rfl⟩ : ∃ j, k = j + 1 := ⟨k - 1, by omega⟩
          obtain ⟨⟨⟨v3, h3, l3⟩, ⟨v4, h4', l4⟩⟩, htg⟩ : ∃ t, l[j]? = some t := ⟨l[j], List.getElem?_eq_getElem (by omega)⟩
          obtain ⟨_, _, _, t3, t4, t5⟩ := rg_at H.out htg HB.out
          have htfit := HF.out _ (List.mem_of_getElem? htg)
          have hts := (HK.out.1 _ (List.mem_of_getElem? (show (l.take (j + 1))[j]? = some _ by rw [List.getElem?_take_of_lt (by omega)]; exact htg))).1
          have htv := someR_iff.1 hts
          have HA := Lib.hid (fun W => papart_any v4 h4' l4 v1 h1 l1 W htfit.2 hfit.1 htv.2.1 hsv.1)
          have hnx : nxt 0 ((l.take (j + 1)).map spn) = kA ⟨v4, h4', l4⟩ + 2 := nxt_takeR htg
          have hd4 : decide ((0 : Int) < ((j + 1 : Nat) : Int)) = true := decide_eq_true (by omega)
          have hd4b : decide (0 < j + 1) = true := by simp
          have hw1 : IntKind.i64.wrap (((j + 1 : Nat) : Int) - 1) = (j : Int) := by rw [show ((j + 1 : Nat) : Int) - 1 = (j : Int) by omega]; exact IntWalk.i64_in _ (by omega)
          have hj0 : (0 : Int) ≤ (j : Int) := by omega
          have hjn : (j : Int) < (n : Int) := by omega
          have hg1 : g < (wr.alloc (.cells #[.bool v1, .int .u64 h1, .int .u64 l1, .bool v2, .int .u64 h2, .int .u64 l2] 43)).heap.size := Nat.lt_of_lt_of_le hg (HB1.out.size)
          have s3 := ((below_alloc6 wr (.cells #[.bool v1, .int .u64 h1, .int .u64 l1, .bool v2, .int .u64 h2, .int .u64 l2] 43)).cell (p := ⟨g, o + j * 6 + 3, none⟩) (Nat.lt_of_lt_of_le hg HB.out.size)).trans t3
          have s4 := ((below_alloc6 wr (.cells #[.bool v1, .int .u64 h1, .int .u64 l1, .bool v2, .int .u64 h2, .int .u64 l2] 43)).cell (p := ⟨g, o + j * 6 + 4, none⟩) (Nat.lt_of_lt_of_le hg HB.out.size)).trans t4
          have s5 := ((below_alloc6 wr (.cells #[.bool v1, .int .u64 h1, .int .u64 l1, .bool v2, .int .u64 h2, .int .u64 l2] 43)).cell (p := ⟨g, o + j * 6 + 5, none⟩) (Nat.lt_of_lt_of_le hg HB.out.size)).trans t5
          cases ha : decide (kA ⟨v4, h4', l4⟩ + 1 < kA ⟨v1, h1, l1⟩) with
          | false =>
            rw [ha] at HA
            obtain rfl : B = false := HR.out.trans (okR_fall hget (by rw [hnx]; have := of_decide_eq_false ha; show ¬ _ ≤ kA (⟨v1, h1, l1⟩ : Ad); omega))
            generalize hkj : j + 1 = k at *
            clear hs hget hfit hg htg htfit hts htv hsp hsv hnx ha hkj h4 hk hkl t3 t4 t5
            go_wp2_with fail
            generalize wr.alloc (.cells #[.bool v1, .int .u64 h1, .int .u64 l1, .bool v2, .int .u64 h2, .int .u64 l2] 43) = W1 at *
            refine wp_region_pick (fun w' => Below W1.heap.size W1 w') (by kernel_rfl) (by kernel_rfl) (Below.refl _ _) ⟨rfl, rfl, rfl, Nat.le_refl _, fun _ _ => rfl⟩ (fun p hp hq => ?_)
            have pp0 : ∀ u, (p u).cell? ⟨wr.heap.size, 0, none⟩ = some (.bool v1) := fun u => ((HX.out.kept (hp u) HX.out.lt).c 0).trans rfl
            have pp1 : ∀ u, (p u).cell? ⟨wr.heap.size, 1, none⟩ = some (.int .u64 h1) := fun u => ((HX.out.kept (hp u) HX.out.lt).c 1).trans rfl
            have pp2 : ∀ u, (p u).cell? ⟨wr.heap.size, 2, none⟩ = some (.int .u64 l1) := fun u => ((HX.out.kept (hp u) HX.out.lt).c 2).trans rfl
            have pp3 : ∀ u, (p u).cell? ⟨wr.heap.size, 3, none⟩ = some (.bool v2) := fun u => ((HX.out.kept (hp u) HX.out.lt).c 3).trans rfl
            have pp4 : ∀ u, (p u).cell? ⟨wr.heap.size, 4, none⟩ = some (.int .u64 h2) := fun u => ((HX.out.kept (hp u) HX.out.lt).c 4).trans rfl
            have pp5 : ∀ u, (p u).cell? ⟨wr.heap.size, 5, none⟩ = some (.int .u64 l2) := fun u => ((HX.out.kept (hp u) HX.out.lt).c 5).trans rfl
            have pp6 : ∀ u, (p u).cell? ⟨g, o + j * 6 + 3, none⟩ = some (.bool v4) := fun u => ((hp u).cell (p := ⟨g, o + j * 6 + 3, none⟩) hg1).trans s3
            have pp7 : ∀ u, (p u).cell? ⟨g, o + j * 6 + 4, none⟩ = some (.int .u64 h4') := fun u => ((hp u).cell (p := ⟨g, o + j * 6 + 4, none⟩) hg1).trans s4
            have pp8 : ∀ u, (p u).cell? ⟨g, o + j * 6 + 5, none⟩ = some (.int .u64 l4) := fun u => ((hp u).cell (p := ⟨g, o + j * 6 + 5, none⟩) hg1).trans s5
            have HP := Lib.hid hp
            have HQ := Lib.hid hq
            clear hp hq
            repeat (go_big_quiet_step ((first | with_reducible exact Calls.pick_of HQ.out (fun W' hb => (HP.out _).trans (hb.mono (HP.out _).size)) (HH.out _) | with_reducible exact Calls.pick_of HQ.out (fun W' hb => (HP.out _).trans (hb.mono (HP.out _).size)) (HA.out _))))
            refine wpQuiet_nil ?_
            rintro _ ⟨u, rfl⟩
            have hbp := HP.out u
            generalize p u = w2 at *
            clear HP HQ pp0 pp1 pp2 pp3 pp4 pp5 pp6 pp7 pp8
            have HB2 := Lib.hid (HB1.out.trans (hbp.mono HB1.out.size))
            go_wp2_with fail
            go_ret
            exact ⟨rfl, HB2.out⟩
          | true =>
            rw [ha] at HA
            have HK2 := Lib.hid (valid_step HF.out hget HK.out hs (by rw [hnx]; have := of_decide_eq_true ha; show _ ≤ kA (⟨v1, h1, l1⟩ : Ad); omega))
            generalize hkj : j + 1 = k at *
            clear hs hget hfit hg htg htfit hts htv hsp hsv hnx ha hkj h4 hkl t3 t4 t5 HK
            go_wp2_with fail
            generalize wr.alloc (.cells #[.bool v1, .int .u64 h1, .int .u64 l1, .bool v2, .int .u64 h2, .int .u64 l2] 43) = W1 at *
            refine wp_region_pick (fun w' => Below W1.heap.size W1 w') (by kernel_rfl) (by kernel_rfl) (Below.refl _ _) ⟨rfl, rfl, rfl, Nat.le_refl _, fun _ _ => rfl⟩ (fun p hp hq => ?_)
            have pp0 : ∀ u, (p u).cell? ⟨wr.heap.size, 0, none⟩ = some (.bool v1) := fun u => ((HX.out.kept (hp u) HX.out.lt).c 0).trans rfl
            have pp1 : ∀ u, (p u).cell? ⟨wr.heap.size, 1, none⟩ = some (.int .u64 h1) := fun u => ((HX.out.kept (hp u) HX.out.lt).c 1).trans rfl
            have pp2 : ∀ u, (p u).cell? ⟨wr.heap.size, 2, none⟩ = some (.int .u64 l1) := fun u => ((HX.out.kept (hp u) HX.out.lt).c 2).trans rfl
            have pp3 : ∀ u, (p u).cell? ⟨wr.heap.size, 3, none⟩ = some (.bool v2) := fun u => ((HX.out.kept (hp u) HX.out.lt).c 3).trans rfl
            have pp4 : ∀ u, (p u).cell? ⟨wr.heap.size, 4, none⟩ = some (.int .u64 h2) := fun u => ((HX.out.kept (hp u) HX.out.lt).c 4).trans rfl
            have pp5 : ∀ u, (p u).cell? ⟨wr.heap.size, 5, none⟩ = some (.int .u64 l2) := fun u => ((HX.out.kept (hp u) HX.out.lt).c 5).trans rfl
            have pp6 : ∀ u, (p u).cell? ⟨g, o + j * 6 + 3, none⟩ = some (.bool v4) := fun u => ((hp u).cell (p := ⟨g, o + j * 6 + 3, none⟩) hg1).trans s3
            have pp7 : ∀ u, (p u).cell? ⟨g, o + j * 6 + 4, none⟩ = some (.int .u64 h4') := fun u => ((hp u).cell (p := ⟨g, o + j * 6 + 4, none⟩) hg1).trans s4
            have pp8 : ∀ u, (p u).cell? ⟨g, o + j * 6 + 5, none⟩ = some (.int .u64 l4) := fun u => ((hp u).cell (p := ⟨g, o + j * 6 + 5, none⟩) hg1).trans s5
            have HP := Lib.hid hp
            have HQ := Lib.hid hq
            clear hp hq
            repeat (go_big_quiet_step ((first | with_reducible exact Calls.pick_of HQ.out (fun W' hb => (HP.out _).trans (hb.mono (HP.out _).size)) (HH.out _) | with_reducible exact Calls.pick_of HQ.out (fun W' hb => (HP.out _).trans (hb.mono (HP.out _).size)) (HA.out _))))
            refine wpQuiet_nil ?_
            rintro _ ⟨u, rfl⟩
            have hbp := HP.out u
            generalize p u = w2 at *
            clear HP HQ pp0 pp1 pp2 pp3 pp4 pp5 pp6 pp7 pp8
            have HB2 := Lib.hid (HB1.out.trans (hbp.mono HB1.out.size))
            clear hbp HB1 HB
            go_wp2_with fail
            go_round
            case rel => exact ⟨k + 1, by omega, by go_num, HK2, HB2⟩
            case measure => simp [intOf]; omega
        · have hk0 : k = 0 := by omega
          have HK2 := Lib.hid (valid_step HF.out hget HK.out hs (by rw [hk0]; exact hsp.1))
          have d4 : decide ((0 : Int) < (k : Int)) = false := by simp; omega
          have d4b : decide (0 < k) = false := by simp; omega
          clear hs hget hfit hg hsp hsv hk0 hkl HK
          go_wp2_with fail
          generalize wr.alloc (.cells #[.bool v1, .int .u64 h1, .int .u64 l1, .bool v2, .int .u64 h2, .int .u64 l2] 43) = W1 at *
          refine wp_region_pick (fun w' => Below W1.heap.size W1 w') (by kernel_rfl) (by kernel_rfl) (Below.refl _ _) ⟨rfl, rfl, rfl, Nat.le_refl _, fun _ _ => rfl⟩ (fun p hp hq => ?_)
          have pp0 : ∀ u, (p u).cell? ⟨wr.heap.size, 0, none⟩ = some (.bool v1) := fun u => ((HX.out.kept (hp u) HX.out.lt).c 0).trans rfl
          have pp1 : ∀ u, (p u).cell? ⟨wr.heap.size, 1, none⟩ = some (.int .u64 h1) := fun u => ((HX.out.kept (hp u) HX.out.lt).c 1).trans rfl
          have pp2 : ∀ u, (p u).cell? ⟨wr.heap.size, 2, none⟩ = some (.int .u64 l1) := fun u => ((HX.out.kept (hp u) HX.out.lt).c 2).trans rfl
          have pp3 : ∀ u, (p u).cell? ⟨wr.heap.size, 3, none⟩ = some (.bool v2) := fun u => ((HX.out.kept (hp u) HX.out.lt).c 3).trans rfl
          have pp4 : ∀ u, (p u).cell? ⟨wr.heap.size, 4, none⟩ = some (.int .u64 h2) := fun u => ((HX.out.kept (hp u) HX.out.lt).c 4).trans rfl
          have pp5 : ∀ u, (p u).cell? ⟨wr.heap.size, 5, none⟩ = some (.int .u64 l2) := fun u => ((HX.out.kept (hp u) HX.out.lt).c 5).trans rfl
          have HP := Lib.hid hp
          have HQ := Lib.hid hq
          clear hp hq
          repeat (go_big_quiet_step ((first | with_reducible exact Calls.pick_of HQ.out (fun W' hb => (HP.out _).trans (hb.mono (HP.out _).size)) (HH.out _))))
          refine wpQuiet_nil ?_
          rintro _ ⟨u, rfl⟩
          have hbp := HP.out u
          generalize p u = w2 at *
          clear HP HQ pp0 pp1 pp2 pp3 pp4 pp5
          have HB2 := Lib.hid (HB1.out.trans (hbp.mono HB1.out.size))
          clear hbp HB1 HB
          go_wp2_with fail
          go_round
          case rel => exact ⟨k + 1, by omega, by go_num, HK2, HB2⟩
          case measure => simp [intOf]; omega
    · have hkn : k = l.length := by have := HN.out; omega
      obtain rfl : B = true := by
        have := HK.out
        rw [hkn, List.take_length] at this
        exact HR.out.trans ((okR_iff HF.out).2 this)
      obtain rfl : k = n := by omega
      clear hkn
      have hd : decide ((k : Int) < (k : Int)) = false := by simp
      go_wp2_with fail
      go_ret
      exact ⟨rfl, HB.out⟩
end Go.Proofs.Ytmcelgnifpfjpaa

/- The laws' own functions of layer 7: ip, few, awake. -/
namespace Go.Proofs.Ytmcelgnifpfjpaa
open Go.ChangeShapes Go.WideShapes Go.ChangeAt Go.RowKit
set_option linter.unusedVariables false

theorem ip_any (n : Nat) (w : World) (hn : n < 1000) :
    Calls Try.prog 33 #[.int .u64 n] w fun e w' => e = .returned (.agg #[.bool false, .int .u64 0, .int .u64 ((167772160 + n : Nat) : Int)]) ∧ Below w.heap.size w w' := by
  have e1 : (167772160 : Int) + (n : Int) = ((167772160 + n : Nat) : Int) := by omega
  have hw : IntKind.u64.wrap ((167772160 : Int) + (n : Int)) = ((167772160 + n : Nat) : Int) := by rw [e1]; exact IntWalk.u64_in _ (by omega)
  obtain ⟨q, hq⟩ : ∃ q, q = 167772160 + n := ⟨_, rfl⟩
  rw [← hq] at hw e1 ⊢
  clear hq
  go_enter Try.func33, Try.ntmps33
  go_wp2_with fail
  exact bodyPost_ret (res_addr1 rfl _ _ rfl (ab_new w false 0 q)) rfl ⟨rfl, below_alloc6 _ _⟩
theorem few_any (A1 A2 : Option Addr) (n1 c1 n2 c2 : Nat) (w : World) :
    Calls Try.prog 8 #[.slice A1 n1 c1, .slice A2 n2 c2] w fun e w' => e = .returned (.bool (decide (n1 ≤ 16) && decide (n2 ≤ 16))) ∧ w' = w := by
  by_cases h1 : n1 ≤ 16
  · have d1 : decide ((n1 : Int) ≤ 16) = true := decide_eq_true (by omega)
    have e2 : decide ((n2 : Int) ≤ 16) = decide (n2 ≤ 16) := by rw [decide_eq_decide]; omega
    rw [decide_eq_true h1, Bool.true_and]
    rw [← e2]
    clear e2
    have h1i : (n1 : Int) ≤ 16 := by omega
    go_enter Try.func8, Try.ntmps8
    go_wp2_with fail
    go_ret
    exact ⟨rfl, rfl⟩
  · have d1 : decide ((n1 : Int) ≤ 16) = false := decide_eq_false (by omega)
    rw [decide_eq_false h1, Bool.false_and]
    go_enter Try.func8, Try.ntmps8
    go_wp2_with fail
    go_ret
    exact ⟨rfl, rfl⟩
def ipA (n : Nat) : Ad := ⟨false, 0, 167772160 + n⟩
def exL : List Rg := [⟨ipA 2, ipA 3⟩, ⟨ipA 1, ipA 1⟩]
theorem exL_any (m : Int) : anyS (spnL exL) m = anyS (([⟨ipA 1, ipA 3⟩] : List Rg).map spn) m := by
  have h : spnL exL = [⟨167772162, 167772163⟩, ⟨167772161, 167772161⟩] := by kernel_rfl
  have h2 : (([⟨ipA 1, ipA 3⟩] : List Rg).map spn) = [⟨167772161, 167772163⟩] := by kernel_rfl
  rw [h, h2, Bool.eq_iff_iff]
  simp [anyS, inS]
  omega
theorem ex3_good : GoodL [⟨ipA 1, ipA 3⟩] := (okR_iff (fun r hr => by simp at hr; subst hr; exact ⟨⟨by decide, by decide⟩, by decide, by decide⟩)).1 (by decide +kernel)
theorem ex4_good : GoodL [⟨ipA 1, ipA 4⟩] := (okR_iff (fun r hr => by simp at hr; subst hr; exact ⟨⟨by decide, by decide⟩, by decide, by decide⟩)).1 (by decide +kernel)
theorem exP : prefL [⟨ipA 1, ipA 4⟩] = [⟨false, 0, 167772161, 32⟩, ⟨false, 0, 167772162, 31⟩, ⟨false, 0, 167772164, 32⟩] := by kernel_rfl
end Go.Proofs.Ytmcelgnifpfjpaa

/- Contracts of the reference of layer 7: Fine, Before. -/
namespace Go.Proofs.Ytmcelgnifpfjpaa
open Go.ChangeShapes Go.WideShapes Go.ChangeAt Go.RowKit
set_option linter.unusedVariables false

set_option maxRecDepth 20000 in
theorem rfine_any (v6 : Bool) (hi lo : Nat) (w : World) :
    Calls Try.prog 47 #[.agg #[.bool v6, .int .u64 hi, .int .u64 lo]] w fun e w' => e = .returned (.bool (vldA v6 hi lo)) ∧ Below w.heap.size w w' := by
  have HB := Lib.hid (below_alloc6 w (.cells #[.bool v6, .int .u64 hi, .int .u64 lo] 25))
  obtain ⟨R, hR⟩ : ∃ R, R = vldA v6 hi lo := ⟨_, rfl⟩
  rw [← hR]
  unfold vldA at hR
  cases v6 with
  | true =>
    obtain rfl : R = true := by rw [hR]; rfl
    clear hR
    go_enter Try.func47, Try.ntmps47
    go_wp2_with fail
    go_ret
    exact ⟨rfl, HB.out⟩
  | false =>
    by_cases h0 : hi = 0
    · have d0 : ((hi : Int) == 0) = true := by simp; omega
      by_cases h1 : lo < 4294967296
      · obtain rfl : R = true := by rw [hR, h0]; simpa using h1
        have d1 : decide ((lo : Int) < 4294967296) = true := by simp; omega
        clear hR h0
        go_enter Try.func47, Try.ntmps47
        go_wp2_with fail
        go_ret
        exact ⟨rfl, HB.out⟩
      · obtain rfl : R = false := by rw [hR, h0]; simpa using h1
        have d1 : decide ((lo : Int) < 4294967296) = false := by simp; omega
        clear hR h0
        go_enter Try.func47, Try.ntmps47
        go_wp2_with fail
        go_ret
        exact ⟨rfl, HB.out⟩
    · obtain rfl : R = false := by rw [hR]; simp [h0]
      have d0 : ((hi : Int) == 0) = false := by simp; omega
      clear hR
      go_enter Try.func47, Try.ntmps47
      go_wp2_with fail
      go_ret
      exact ⟨rfl, HB.out⟩
set_option maxHeartbeats 1000000 in
set_option maxRecDepth 20000 in
theorem rbef_any (b1 : Bool) (h1 l1 : Nat) (b2 : Bool) (h2 l2 : Nat) (w : World) :
    Calls Try.prog 42 #[.agg #[.bool b1, .int .u64 h1, .int .u64 l1], .agg #[.bool b2, .int .u64 h2, .int .u64 l2]] w fun e w' => e = .returned (.bool (befB b1 b2 (decide ((h1 : Int) < (h2 : Int))) ((h1 : Int) == (h2 : Int)) (decide ((l1 : Int) < (l2 : Int))))) ∧ Below w.heap.size w w' := by
  have HB := Lib.hid ((below_alloc6 w (.cells #[.bool b1, .int .u64 h1, .int .u64 l1] 25)).trans ((below_alloc6 (w.alloc (.cells #[.bool b1, .int .u64 h1, .int .u64 l1] 25)) (.cells #[.bool b2, .int .u64 h2, .int .u64 l2] 25)).mono (by simp)))
  obtain ⟨p, dp⟩ : ∃ p, decide ((h1 : Int) < (h2 : Int)) = p := ⟨_, rfl⟩
  obtain ⟨q, dq⟩ : ∃ p, ((h1 : Int) == (h2 : Int)) = p := ⟨_, rfl⟩
  obtain ⟨r, dr⟩ : ∃ p, decide ((l1 : Int) < (l2 : Int)) = p := ⟨_, rfl⟩
  rw [dp, dq, dr]
  have dp2 : decide (h1 < h2) = p := by rw [← dp]; simp
  have dr2 : decide (l1 < l2) = r := by rw [← dr]; simp
  cases b1 <;> cases b2
  case false.true =>
    clear dp dq dr dp2 dr2
    go_enter Try.func42, Try.ntmps42
    go_wp2_with fail
    go_ret
    exact ⟨rfl, HB.out⟩
  case true.false =>
    clear dp dq dr dp2 dr2
    go_enter Try.func42, Try.ntmps42
    go_wp2_with fail
    go_ret
    exact ⟨rfl, HB.out⟩
  all_goals
    cases q
    all_goals
      cases p <;> cases r
      all_goals
        go_enter Try.func42, Try.ntmps42
        go_wp2_with fail
        go_ret
        exact ⟨rfl, HB.out⟩
end Go.Proofs.Ytmcelgnifpfjpaa
