/- Contracts of the functions, part 5: SetFol, SetCompM, SetMinM, SetMIM, SetGreat, SetRow, PfxRaw, SetPPre. -/
import Derived.Laws.OwnMore
import Derived.Deep.LoopGhost
import Derived.Test.YtmcelgnifpfjpaaAPr2
import Derived.Test.YtmcelgnifpfjpaaAPr3
import Derived.Test.YtmcelgnifpfjpaaAPr4
/- Contracts of the program of layer 7: follower and the closure that it makes. -/
namespace Go.Proofs.Ytmcelgnifpfjpaa
open Go.ChangeShapes Go.WideShapes Go.ChangeAt Go.RowKit
set_option linter.unusedVariables false

/-- The box of a follower: what is left of the set. -/
def FBR (w : World) (b : Nat) (A : Option Addr) (n cap : Nat) : Prop := Cells w b 22 #[.slice A n cap]
theorem FBR.c {w : World} {b n cap : Nat} {A : Option Addr} (h : FBR w b A n cap) : w.cell? ⟨b, 0, none⟩ = some (.slice A n cap) := (Cells.cell h 0).trans rfl
theorem FBR.f {w : World} {b n cap : Nat} {A : Option Addr} (h : FBR w b A n cap) : w.frozen? ⟨b, 0, none⟩ = false := Cells.frozen h 0
theorem FBR.lt {w : World} {b n cap : Nat} {A : Option Addr} (h : FBR w b A n cap) : b < w.heap.size := Cells.lt h
theorem FBR.set {w : World} {b n cap : Nat} {A : Option Addr} (h : FBR w b A n cap) (A' : Option Addr) (n' cap' : Nat) : FBR (w.setCell ⟨b, 0, none⟩ (.slice A' n' cap')) b A' n' cap' := Cells.set h 0 _
theorem FBR.only {w w' : World} {b n cap : Nat} {A : Option Addr} {row : Option Nat} (h : FBR w b A n cap) (hg : w.grownBy w' row) (hne : some b ≠ row) : FBR w' b A n cap := Cells.only h hg hne
theorem FBR.kept {w w' : World} {b n cap : Nat} {A : Option Addr} (h : FBR w b A n cap) (hb : Below w.heap.size w w') : FBR w' b A n cap := (hb.block _ h.lt).trans h
/-- What is left of a set behind the numbers below k. -/
def dropR : List Rg → Int → List Rg
  | [], _ => []
  | x :: r, k => if kA x.hi < k then dropR r k else x :: r
def lenR (w : World) (b : Nat) : Nat := match (w.cell? ⟨b, 0, none⟩).getD undef with
  | .slice _ n _ => n
  | _ => 0
theorem FBR.lenR {w : World} {b n cap : Nat} {A : Option Addr} (h : FBR w b A n cap) : lenR w b = n := by
  unfold Go.Proofs.Ytmcelgnifpfjpaa.lenR
  rw [h.c]; rfl
theorem grown_refl (w : World) (row : Option Nat) : w.grownBy w row := ⟨rfl, rfl, rfl, Nat.le_refl _, fun _ _ _ => rfl⟩
theorem grown_store {w W : World} {row : Option Nat} {g i : Nat} (h : w.grownBy W row) (hg : w.heap.size ≤ g) (u : Value) : w.grownBy (W.setCell ⟨g, i, none⟩ u) row :=
  ⟨h.os, h.tape, h.output, by simpa using h.size, fun k hk hne => (heap_setCell_other W ⟨g, i, none⟩ k u (fun e => by simp at e; omega)).trans (h.block k hk hne)⟩
theorem rset_grown (W : World) (g : Nat) (v1 : Bool) (h1 l1 : Nat) (v2 : Bool) (h2 l2 : Nat) : W.grownBy (rset W g v1 h1 l1 v2 h2 l2) (some g) := by
  unfold rset
  exact grown_trans (grown_trans (grown_trans (grown_trans (grown_trans (grown_set _) (grown_set _)) (grown_set _)) (grown_set _)) (grown_set _)) (grown_set _)
theorem grown_rset {w W : World} {row : Option Nat} {g : Nat} (h : w.grownBy W row) (hg : w.heap.size ≤ g) (v1 : Bool) (h1 l1 : Nat) (v2 : Bool) (h2 l2 : Nat) : w.grownBy (rset W g v1 h1 l1 v2 h2 l2) row := by
  unfold rset
  exact grown_store (grown_store (grown_store (grown_store (grown_store (grown_store h hg _) hg _) hg _) hg _) hg _) hg _
theorem AB.grown {w w' : World} {g : Nat} {v : Bool} {h l : Nat} {row : Option Nat} (hp : AB w g v h l) (hg : w.grownBy w' row) (hne : some g ≠ row) : AB w' g v h l := (hg.block g (AB.lt hp) hne).trans hp
def rngV (x : Rg) : Value := .agg #[.bool x.lo.v, .int .u64 x.lo.h, .int .u64 x.lo.l, .bool x.hi.v, .int .u64 x.hi.h, .int .u64 x.hi.l]
/-- What the closure answers: the first of the rest. -/
def folV : List Rg → Value
  | [] => .tuple #[rngV ⟨⟨false, 0, 0⟩, ⟨false, 0, 0⟩⟩, .bool false]
  | x :: _ => .tuple #[rngV x, .bool true]
theorem pfollowerR_any (A : Option Addr) (n cap : Nat) (w : World) :
    Calls Try.prog 50 #[.slice A n cap] w fun e w' => e = .returned (.func (.func 67) #[] #[.pointer (some ⟨w.heap.size, 0, none⟩)]) ∧ w' = w.alloc (.cells #[.slice A n cap] 22) := by
  go_enter Try.func50, Try.ntmps50
  go_wp2_with fail
  go_ret
  exact ⟨rfl, rfl⟩
/-- What the closure leaves: the box holds what is left. -/
def FolR (w : World) (A : Option Addr) (b : Nat) (R : List Rg) (k : Int) (e : Ending) (w' : World) : Prop :=
  ∃ A' cap, FBR w' b A' (dropR R k).length cap ∧ RowL ER w' A' (dropR R k) ∧ (∀ a, A' = some a → ∃ a0, A = some a0 ∧ a.block = a0.block) ∧ (dropR R k).length ≤ cap ∧ cap ≤ maxLen ∧ e = .returned (folV (dropR R k)) ∧ w.grownBy w' (some b)
set_option maxHeartbeats 4000000 in
set_option maxRecDepth 20000 in
theorem pfolR_any (A : Option Addr) (cap b : Nat) (R : List Rg) (va : Bool) (ha la : Nat) (w : World) (hb : FBR w b A R.length cap) (hS : RowL ER w A R) (hne : ∀ a, A = some a → a.block ≠ b) (hf : ∀ r ∈ R, r.fits) (fa : (⟨va, ha, la⟩ : Ad).fits) (hl : R.length ≤ 1000000) (hcap : R.length ≤ cap) (hc9 : cap ≤ maxLen) :
    Calls Try.prog 67 #[.agg #[.bool va, .int .u64 ha, .int .u64 la], .pointer (some ⟨b, 0, none⟩)] w (FolR w A b R (kA ⟨va, ha, la⟩)) := by
  obtain ⟨k, hk⟩ : ∃ k, k = kA ⟨va, ha, la⟩ := ⟨_, rfl⟩
  have hblt := hb.lt
  have HBW := Lib.hid (below2 w (.cells #[.bool va, .int .u64 ha, .int .u64 la] 25) (.cells #[.bool false, .int .u64 0, .int .u64 0, .bool false, .int .u64 0, .int .u64 0] 43))
  have HB := Lib.hid (hb.kept HBW.out)
  have HS := Lib.hid (hS.kept HBW.out)
  have HA := Lib.hid (ab_new w va ha la |>.kept (below_alloc6 _ (.cells #[.bool false, .int .u64 0, .int .u64 0, .bool false, .int .u64 0, .int .u64 0] 43)) (alloc_lt6 w _))
  have HR := Lib.hid (show RB ((w.alloc (.cells #[.bool va, .int .u64 ha, .int .u64 la] 25)).alloc (.cells #[.bool false, .int .u64 0, .int .u64 0, .bool false, .int .u64 0, .int .u64 0] 43)) (w.heap.size + 1) false 0 0 false 0 0 from by
    have h := rb_new (w.alloc (.cells #[.bool va, .int .u64 ha, .int .u64 la] 25)) false 0 0 false 0 0
    have hz : (w.alloc (.cells #[.bool va, .int .u64 ha, .int .u64 la] 25)).heap.size = w.heap.size + 1 := by simp
    rwa [hz] at h)
  have HG := Lib.hid (grown_below HBW.out (some b))
  have HNE := Lib.hid hne
  have HF := Lib.hid hf
  have HFA := Lib.hid fa
  have HK := Lib.hid hk
  have HAA := Lib.hid (show ∀ a, A = some a → ∃ a0, A = some a0 ∧ a.block = a0.block from fun a h => ⟨a, h, rfl⟩)
  obtain ⟨n0, hn0⟩ : ∃ n0, n0 = R.length := ⟨_, rfl⟩
  have HN := Lib.hid hn0
  have HRW := Lib.hid (show ∀ a, A = some a → 0 < n0 → a.block < w.heap.size from fun a e hp => by obtain ⟨g, o, e2, h2⟩ := hS.shape (by omega); rw [e] at e2; obtain rfl := Option.some.inj e2; exact h2)
  unfold maxLen at hc9
  rw [← hn0] at HB hl hcap
  rw [← hk]
  clear hb hS hn0 hne hf fa hk HBW
  go_enter Try.func67, Try.ntmps67
  go_wp2_with fail
  go_loopw [5] (fun _ wr => ∃ R' : List Rg, ∃ q cap' : Nat, ∃ A' : Option Addr, q ≤ cap' ∧ cap' ≤ 9223372036854775807 ∧ q ≤ 1000000 ∧ Hid (q = R'.length) ∧ Hid (FBR wr b A' q cap') ∧ Hid (RowL ER wr A' R') ∧ Hid (∀ a, A' = some a → ∃ a0, A = some a0 ∧ a.block = a0.block) ∧ Hid (dropR R' k = dropR R k) ∧ Hid (w.grownBy wr (some b)) ∧ Hid (AB wr w.heap.size va ha la) ∧ Hid (RB wr (w.heap.size + 1) false 0 0 false 0 0) ∧ Hid (∀ r ∈ R', r.fits)) (fun _ wr => lenR wr b)
  case atStart => exact ⟨R, n0, cap, A, hcap, by omega, hl, HN, HB, HS, HAA, Lib.hid rfl, HG, HA, HR, HF⟩
  case round =>
    clear HB HS HG hl hcap hc9 HA HR HAA HF
    obtain ⟨R', q, cap', A', hq, hc9, hq6, HQ, HB, HS, HAA, HD, HG, HA, HR, HF⟩ := hrel
    cases R' with
    | nil =>
      obtain rfl : q = 0 := HQ.out
      have HNI := Lib.hid (show dropR R k = [] by rw [← HD.out]; rfl)
      have HC9 := Lib.hid hc9
      clear HD HQ
      have b0 := HB.out.c
      have bl := HB.out.lt
      have al := HA.out.lt
      have a0 := HA.out.c0
      have a1 := HA.out.c1
      have a2 := HA.out.c2
      go_wp2_with fail
      refine wp_region_pick (fun w' => Below wr.heap.size wr w') (by kernel_rfl) (by kernel_rfl) (Below.refl _ _) ⟨rfl, rfl, rfl, Nat.le_refl _, fun _ _ => rfl⟩ (fun p hp hq => ?_)
      have pp0 : ∀ u, (p u).cell? ⟨b, 0, none⟩ = some (.slice A' 0 cap') := fun u => ((hp u).cell (p := ⟨b, 0, none⟩) bl).trans b0
      have pp1 : ∀ u, (p u).cell? ⟨w.heap.size, 0, none⟩ = some (.bool va) := fun u => ((hp u).cell (p := ⟨w.heap.size, 0, none⟩) al).trans a0
      have pp2 : ∀ u, (p u).cell? ⟨w.heap.size, 1, none⟩ = some (.int .u64 ha) := fun u => ((hp u).cell (p := ⟨w.heap.size, 1, none⟩) al).trans a1
      have pp3 : ∀ u, (p u).cell? ⟨w.heap.size, 2, none⟩ = some (.int .u64 la) := fun u => ((hp u).cell (p := ⟨w.heap.size, 2, none⟩) al).trans a2
      have HP := Lib.hid hp
      have HQ := Lib.hid hq
      clear hp hq
      repeat (go_big_quiet_step (fail))
      refine wpQuiet_nil ?_
      rintro _ ⟨u, rfl⟩
      have hbp := HP.out u
      generalize p u = wp at *
      clear HP HQ pp0 pp1 pp2 pp3
      clear b0 bl al a0 a1 a2
      have HB1 := Lib.hid (HB.out.kept hbp)
      have HS1 := Lib.hid (HS.out.kept hbp)
      have HG1 := Lib.hid (grown_trans HG.out (grown_below hbp (some b)))
      have HA1 := Lib.hid (HA.out.kept hbp HA.out.lt)
      have HR1 := Lib.hid (HR.out.kept hbp HR.out.lt)
      have hz1 := hbp.size
      have z0 : wp.cell? ⟨w.heap.size + 1, 0, none⟩ = some (.bool false) := (HR1.out.c 0).trans rfl
      have zf0 := HR1.out.f 0
      have z1 : wp.cell? ⟨w.heap.size + 1, 1, none⟩ = some (.int .u64 0) := (HR1.out.c 1).trans rfl
      have zf1 := HR1.out.f 1
      have z2 : wp.cell? ⟨w.heap.size + 1, 2, none⟩ = some (.int .u64 0) := (HR1.out.c 2).trans rfl
      have zf2 := HR1.out.f 2
      have z3 : wp.cell? ⟨w.heap.size + 1, 3, none⟩ = some (.bool false) := (HR1.out.c 3).trans rfl
      have zf3 := HR1.out.f 3
      have z4 : wp.cell? ⟨w.heap.size + 1, 4, none⟩ = some (.int .u64 0) := (HR1.out.c 4).trans rfl
      have zf4 := HR1.out.f 4
      have z5 : wp.cell? ⟨w.heap.size + 1, 5, none⟩ = some (.int .u64 0) := (HR1.out.c 5).trans rfl
      have zf5 := HR1.out.f 5
      have zl := HR1.out.lt
      have b0 := HB1.out.c
      have bl := HB1.out.lt
      obtain ⟨W9, hW9⟩ : ∃ W, W = rset wp (w.heap.size + 1) false 0 0 false 0 0 := ⟨_, rfl⟩
      have HR9 := Lib.hid (show RB W9 (w.heap.size + 1) false 0 0 false 0 0 from by rw [hW9]; exact HR1.out.set false 0 0 false 0 0)
      have HG9 := Lib.hid (show w.grownBy W9 (some b) from by rw [hW9]; exact grown_rset HG1.out (by omega) false 0 0 false 0 0)
      have HB9 := Lib.hid (show FBR W9 b A' 0 cap' from by rw [hW9]; exact HB1.out.only (rset_grown wp _ false 0 0 false 0 0) (fun e => by have := Option.some.inj e; omega))
      unfold rset at hW9
      have hW9 : W9 = ((((((wp.setCell ⟨w.heap.size + 1, 0, none⟩ (.bool false)).setCell ⟨w.heap.size + 1, 1, none⟩ (.int .u64 0)).setCell ⟨w.heap.size + 1, 2, none⟩ (.int .u64 0)).setCell ⟨w.heap.size + 1, 3, none⟩ (.bool false)).setCell ⟨w.heap.size + 1, 4, none⟩ (.int .u64 0)).setCell ⟨w.heap.size + 1, 5, none⟩ (.int .u64 0)) := hW9
      clear HR1 HG1 HB1 HB HS HG HA HR HS1 HA1
      go_wp2_with fail
      rw [← hW9]
      clear hW9 z0 z1 z2 z3 z4 z5 zf0 zf1 zf2 zf3 zf4 zf5
      refine bodyPost_ret (res_rng2 rfl _ _ rfl HR9.out) rfl ?_
      exact ⟨A', cap', by rw [HNI.out]; exact HB9.out, by rw [HNI.out]; exact RowL.nil _ _, HAA.out, by rw [HNI.out]; exact Nat.zero_le _, HC9.out, by rw [HNI.out]; rfl, HG9.out⟩
    | cons x r =>
      obtain ⟨g, o, rfl, hg⟩ := HS.out.shape (by simp)
      have hgb : g ≠ b := by
        obtain ⟨a0, h1, h2⟩ := HAA.out _ rfl
        have := HNE.out a0 h1
        simp only at h2
        omega
      obtain ⟨⟨v1, h1, l1⟩, ⟨v2, h2, l2⟩⟩ := x
      obtain ⟨c0, c1, c2, c3, c4, c5⟩ := rg_at HS.out (show (⟨⟨v1, h1, l1⟩, ⟨v2, h2, l2⟩⟩ :: r)[0]? = some ⟨⟨v1, h1, l1⟩, ⟨v2, h2, l2⟩⟩ from rfl) (Below.refl _ _)
      simp only [Nat.zero_mul, Nat.add_zero] at c0 c1 c2 c3 c4 c5
      have hxf := HF.out _ (List.mem_cons_self)
      have HT := Lib.hid (fun W => pbef_key hxf.2 HFA.out W)
      rw [← HK.out] at HT
      simp only at HT
      obtain ⟨q1, hq1⟩ : ∃ q1, q1 = r.length := ⟨_, rfl⟩
      obtain rfl : q = q1 + 1 := by rw [HQ.out, hq1]; rfl
      have hqi : (0 : Int) < ((q1 + 1 : Nat) : Int) := by omega
      have HGB := Lib.hid hgb
      clear hxf hgb
      rcases Bool.eq_false_or_eq_true (decide (kA ⟨v2, h2, l2⟩ < k)) with ta | ta
      · rw [ta] at HT
        have HQ1 := Lib.hid hq1
        have HDD := Lib.hid (show dropR r k = dropR R k by rw [← HD.out, dropR, if_pos (of_decide_eq_true ta)])
        clear ta HD HQ
        have b0 := HB.out.c
        have bl := HB.out.lt
        have al := HA.out.lt
        have a0 := HA.out.c0
        have a1 := HA.out.c1
        have a2 := HA.out.c2
        have hgl : g < wr.heap.size := hg
        go_wp2_with fail
        refine wp_region_pick (fun w' => Below wr.heap.size wr w') (by kernel_rfl) (by kernel_rfl) (Below.refl _ _) ⟨rfl, rfl, rfl, Nat.le_refl _, fun _ _ => rfl⟩ (fun p hp hq => ?_)
        have pp0 : ∀ u, (p u).cell? ⟨b, 0, none⟩ = some (.slice (some ⟨g, o, none⟩) (q1 + 1) cap') := fun u => ((hp u).cell (p := ⟨b, 0, none⟩) bl).trans b0
        have pp1 : ∀ u, (p u).cell? ⟨w.heap.size, 0, none⟩ = some (.bool va) := fun u => ((hp u).cell (p := ⟨w.heap.size, 0, none⟩) al).trans a0
        have pp2 : ∀ u, (p u).cell? ⟨w.heap.size, 1, none⟩ = some (.int .u64 ha) := fun u => ((hp u).cell (p := ⟨w.heap.size, 1, none⟩) al).trans a1
        have pp3 : ∀ u, (p u).cell? ⟨w.heap.size, 2, none⟩ = some (.int .u64 la) := fun u => ((hp u).cell (p := ⟨w.heap.size, 2, none⟩) al).trans a2
        have pp4 : ∀ u, (p u).cell? ⟨g, o, none⟩ = some (.bool v1) := fun u => ((hp u).cell (p := ⟨g, o, none⟩) hgl).trans c0
        have pp5 : ∀ u, (p u).cell? ⟨g, o + 1, none⟩ = some (.int .u64 h1) := fun u => ((hp u).cell (p := ⟨g, o + 1, none⟩) hgl).trans c1
        have pp6 : ∀ u, (p u).cell? ⟨g, o + 2, none⟩ = some (.int .u64 l1) := fun u => ((hp u).cell (p := ⟨g, o + 2, none⟩) hgl).trans c2
        have pp7 : ∀ u, (p u).cell? ⟨g, o + 3, none⟩ = some (.bool v2) := fun u => ((hp u).cell (p := ⟨g, o + 3, none⟩) hgl).trans c3
        have pp8 : ∀ u, (p u).cell? ⟨g, o + 4, none⟩ = some (.int .u64 h2) := fun u => ((hp u).cell (p := ⟨g, o + 4, none⟩) hgl).trans c4
        have pp9 : ∀ u, (p u).cell? ⟨g, o + 5, none⟩ = some (.int .u64 l2) := fun u => ((hp u).cell (p := ⟨g, o + 5, none⟩) hgl).trans c5
        have HP := Lib.hid hp
        have HQ := Lib.hid hq
        clear hp hq
        repeat (go_big_quiet_step ((first | with_reducible exact Calls.pick_of HQ.out (fun W' hb => (HP.out _).trans (hb.mono (HP.out _).size)) (HT.out _))))
        refine wpQuiet_nil ?_
        rintro _ ⟨u, rfl⟩
        have hbp := HP.out u
        generalize p u = wp at *
        clear HP HQ pp0 pp1 pp2 pp3 pp4 pp5 pp6 pp7 pp8 pp9
        clear b0 bl al a0 a1 a2 hgl c0 c1 c2 c3 c4 c5
        have HB1 := Lib.hid (HB.out.kept hbp)
        have HS1 := Lib.hid (HS.out.kept hbp)
        have HG1 := Lib.hid (grown_trans HG.out (grown_below hbp (some b)))
        have HA1 := Lib.hid (HA.out.kept hbp HA.out.lt)
        have HR1 := Lib.hid (HR.out.kept hbp HR.out.lt)
        have hz1 := hbp.size
        have b0 := HB1.out.c
        have bf := HB1.out.f
        have bl := HB1.out.lt
        obtain ⟨A2, hA2⟩ : ∃ A2, A2 = (if cap' = 1 then some (⟨g, o, none⟩ : Addr) else some ⟨g, o + 6, none⟩) := ⟨_, rfl⟩
        have HS2 := Lib.hid (show RowL ER (wp.setCell ⟨b, 0, none⟩ (.slice A2 q1 (cap' - 1))) A2 r from fun hp => by
          have : cap' ≠ 1 := by omega
          rw [if_neg this] at hA2
          rw [hA2]
          exact RowL.only HS1.out.tail (grown_set _) (fun a ha e => by obtain rfl := Option.some.inj ha; exact HGB.out (Option.some.inj e)) hp)
        have HA2 := Lib.hid (show ∀ a, A2 = some a → ∃ a0, A = some a0 ∧ a.block = a0.block from fun a e => by
          obtain ⟨a0, e1, e2⟩ := HAA.out _ rfl
          refine ⟨a0, e1, ?_⟩
          rw [hA2] at e
          split at e <;> (obtain rfl := Option.some.inj e; exact e2))
        have HB2 := Lib.hid (HB1.out.set A2 q1 (cap' - 1))
        have HG2 := Lib.hid (grown_trans HG1.out (grown_set (w := wp) (b := b) (i := 0) (.slice A2 q1 (cap' - 1))))
        have HAB2 := Lib.hid (HA1.out.grown (grown_set (w := wp) (b := b) (i := 0) (.slice A2 q1 (cap' - 1))) (fun e => by have := Option.some.inj e; omega))
        have HR2 := Lib.hid (HR1.out.grown (grown_set (w := wp) (b := b) (i := 0) (.slice A2 q1 (cap' - 1))) (fun e => by have := Option.some.inj e; omega))
        have HF2 := Lib.hid (show ∀ y ∈ r, y.fits from fun y hy => HF.out y (List.mem_cons_of_mem _ hy))
        have HL := Lib.hid (show lenR (wp.setCell ⟨b, 0, none⟩ (.slice A2 q1 (cap' - 1))) b < lenR wr b by rw [HB2.out.lenR, HB.out.lenR]; omega)
        have HCAP := Lib.hid (show q1 ≤ cap' - 1 ∧ cap' - 1 ≤ 9223372036854775807 ∧ q1 ≤ 1000000 by omega)
        clear HB HS HG HA HR HB1 HS1 HG1 HA1 HR1 HAA HF
        go_wp2_with fail
        rw [← hA2, ← hq1]
        exact ⟨⟨r, q1, cap' - 1, A2, HCAP.out.1, HCAP.out.2.1, HCAP.out.2.2, HQ1, HB2, HS2, HA2, HDD, HG2, HAB2, HR2, HF2⟩, HL.out⟩
      · rw [ta] at HT
        have HDD := Lib.hid (show dropR R k = ⟨⟨v1, h1, l1⟩, ⟨v2, h2, l2⟩⟩ :: r by rw [← HD.out, dropR, if_neg (of_decide_eq_false ta)])
        have HQL := Lib.hid (show q1 + 1 = (dropR R k).length by rw [HDD.out, hq1]; rfl)
        have HC9 := Lib.hid (And.intro hq hc9)
        clear ta HD HQ
        have b0 := HB.out.c
        have bl := HB.out.lt
        have al := HA.out.lt
        have a0 := HA.out.c0
        have a1 := HA.out.c1
        have a2 := HA.out.c2
        have hgl : g < wr.heap.size := hg
        go_wp2_with fail
        refine wp_region_pick (fun w' => Below wr.heap.size wr w') (by kernel_rfl) (by kernel_rfl) (Below.refl _ _) ⟨rfl, rfl, rfl, Nat.le_refl _, fun _ _ => rfl⟩ (fun p hp hq => ?_)
        have pp0 : ∀ u, (p u).cell? ⟨b, 0, none⟩ = some (.slice (some ⟨g, o, none⟩) (q1 + 1) cap') := fun u => ((hp u).cell (p := ⟨b, 0, none⟩) bl).trans b0
        have pp1 : ∀ u, (p u).cell? ⟨w.heap.size, 0, none⟩ = some (.bool va) := fun u => ((hp u).cell (p := ⟨w.heap.size, 0, none⟩) al).trans a0
        have pp2 : ∀ u, (p u).cell? ⟨w.heap.size, 1, none⟩ = some (.int .u64 ha) := fun u => ((hp u).cell (p := ⟨w.heap.size, 1, none⟩) al).trans a1
        have pp3 : ∀ u, (p u).cell? ⟨w.heap.size, 2, none⟩ = some (.int .u64 la) := fun u => ((hp u).cell (p := ⟨w.heap.size, 2, none⟩) al).trans a2
        have pp4 : ∀ u, (p u).cell? ⟨g, o, none⟩ = some (.bool v1) := fun u => ((hp u).cell (p := ⟨g, o, none⟩) hgl).trans c0
        have pp5 : ∀ u, (p u).cell? ⟨g, o + 1, none⟩ = some (.int .u64 h1) := fun u => ((hp u).cell (p := ⟨g, o + 1, none⟩) hgl).trans c1
        have pp6 : ∀ u, (p u).cell? ⟨g, o + 2, none⟩ = some (.int .u64 l1) := fun u => ((hp u).cell (p := ⟨g, o + 2, none⟩) hgl).trans c2
        have pp7 : ∀ u, (p u).cell? ⟨g, o + 3, none⟩ = some (.bool v2) := fun u => ((hp u).cell (p := ⟨g, o + 3, none⟩) hgl).trans c3
        have pp8 : ∀ u, (p u).cell? ⟨g, o + 4, none⟩ = some (.int .u64 h2) := fun u => ((hp u).cell (p := ⟨g, o + 4, none⟩) hgl).trans c4
        have pp9 : ∀ u, (p u).cell? ⟨g, o + 5, none⟩ = some (.int .u64 l2) := fun u => ((hp u).cell (p := ⟨g, o + 5, none⟩) hgl).trans c5
        have HP := Lib.hid hp
        have HQ := Lib.hid hq
        clear hp hq
        repeat (go_big_quiet_step ((first | with_reducible exact Calls.pick_of HQ.out (fun W' hb => (HP.out _).trans (hb.mono (HP.out _).size)) (HT.out _))))
        refine wpQuiet_nil ?_
        rintro _ ⟨u, rfl⟩
        have hbp := HP.out u
        generalize p u = wp at *
        clear HP HQ pp0 pp1 pp2 pp3 pp4 pp5 pp6 pp7 pp8 pp9
        clear b0 bl al a0 a1 a2 hgl c0 c1 c2 c3 c4 c5
        have HB1 := Lib.hid (HB.out.kept hbp)
        have HS1 := Lib.hid (HS.out.kept hbp)
        have HG1 := Lib.hid (grown_trans HG.out (grown_below hbp (some b)))
        have HA1 := Lib.hid (HA.out.kept hbp HA.out.lt)
        have HR1 := Lib.hid (HR.out.kept hbp HR.out.lt)
        have hz1 := hbp.size
        obtain ⟨k0, k1, k2, k3, k4, k5⟩ := rg_at HS1.out (show (⟨⟨v1, h1, l1⟩, ⟨v2, h2, l2⟩⟩ :: r)[0]? = some ⟨⟨v1, h1, l1⟩, ⟨v2, h2, l2⟩⟩ from rfl) (Below.refl _ _)
        simp only [Nat.zero_mul, Nat.add_zero] at k0 k1 k2 k3 k4 k5
        have hgl : g < wp.heap.size := Nat.lt_of_lt_of_le hg hz1
        have z0 : wp.cell? ⟨w.heap.size + 1, 0, none⟩ = some (.bool false) := (HR1.out.c 0).trans rfl
        have zf0 := HR1.out.f 0
        have z1 : wp.cell? ⟨w.heap.size + 1, 1, none⟩ = some (.int .u64 0) := (HR1.out.c 1).trans rfl
        have zf1 := HR1.out.f 1
        have z2 : wp.cell? ⟨w.heap.size + 1, 2, none⟩ = some (.int .u64 0) := (HR1.out.c 2).trans rfl
        have zf2 := HR1.out.f 2
        have z3 : wp.cell? ⟨w.heap.size + 1, 3, none⟩ = some (.bool false) := (HR1.out.c 3).trans rfl
        have zf3 := HR1.out.f 3
        have z4 : wp.cell? ⟨w.heap.size + 1, 4, none⟩ = some (.int .u64 0) := (HR1.out.c 4).trans rfl
        have zf4 := HR1.out.f 4
        have z5 : wp.cell? ⟨w.heap.size + 1, 5, none⟩ = some (.int .u64 0) := (HR1.out.c 5).trans rfl
        have zf5 := HR1.out.f 5
        have zl := HR1.out.lt
        have b0 := HB1.out.c
        have bl := HB1.out.lt
        obtain ⟨W9, hW9⟩ : ∃ W, W = rset wp (w.heap.size + 1) v1 h1 l1 v2 h2 l2 := ⟨_, rfl⟩
        have HR9 := Lib.hid (show RB W9 (w.heap.size + 1) v1 h1 l1 v2 h2 l2 from by rw [hW9]; exact HR1.out.set v1 h1 l1 v2 h2 l2)
        have HG9 := Lib.hid (show w.grownBy W9 (some b) from by rw [hW9]; exact grown_rset HG1.out (by omega) v1 h1 l1 v2 h2 l2)
        have HB9 := Lib.hid (show FBR W9 b (some ⟨g, o, none⟩) (q1 + 1) cap' from by rw [hW9]; exact HB1.out.only (rset_grown wp _ v1 h1 l1 v2 h2 l2) (fun e => by have := Option.some.inj e; omega))
        have HGX := Lib.hid (show g < w.heap.size from by obtain ⟨a0, e1, e2⟩ := HAA.out _ rfl; have h := HDD.out; have hn := HN.out; have h9 := HRW.out a0 e1 (by cases R with | nil => simp [dropR] at h | cons y t => rw [hn]; simp); simp only at e2; omega)
        have HS9 := Lib.hid (show RowL ER W9 (some ⟨g, o, none⟩) (⟨⟨v1, h1, l1⟩, ⟨v2, h2, l2⟩⟩ :: r) from by rw [hW9]; exact HS1.out.only (rset_grown wp _ v1 h1 l1 v2 h2 l2) (fun a e h => by obtain rfl := Option.some.inj e; have := Option.some.inj h; have := HGX.out; simp only at *; omega))
        clear HGX
        unfold rset at hW9
        clear HR1 HG1 HB1 HB HS HG HA HR HS1 HA1
        go_wp2_with fail
        rw [← hW9]
        clear hW9 z0 z1 z2 z3 z4 z5 zf0 zf1 zf2 zf3 zf4 zf5
        refine bodyPost_ret (res_rng2 rfl _ _ rfl HR9.out) rfl ?_
        exact ⟨some ⟨g, o, none⟩, cap', by rw [← HQL.out]; exact HB9.out, by rw [HDD.out]; exact HS9.out, HAA.out, by rw [← HQL.out]; exact HC9.out.1, HC9.out.2, by rw [HDD.out]; rfl, HG9.out⟩
end Go.Proofs.Ytmcelgnifpfjpaa

/- Plain mathematics of the reference's Complement of layer 7: no Go in sight. -/
namespace Go.Proofs.Ytmcelgnifpfjpaa
set_option linter.unusedVariables false

/-- The spans of one family. -/
def fam (v : Bool) (l : List Rg) : List Spn := (l.filter fun r => r.lo.v == v).map spn
def lastF (v : Bool) : Int := if v then top7 else 4294967295
def firstF (v : Bool) : Int := if v then 340282366920938463463374607431768211456 else 0
theorem fam_skip {s : List Rg} {i : Nat} {x : Rg} {v : Bool} (hx : s[i]? = some x) (hv : (x.lo.v == v) = false) : fam v (s.drop i) = fam v (s.drop (i + 1)) := by
  obtain ⟨hi, e⟩ := List.getElem?_eq_some_iff.1 hx
  unfold fam
  rw [List.drop_eq_getElem_cons hi, e, List.filter_cons, if_neg (by rw [hv]; decide)]
theorem fam_take {s : List Rg} {i : Nat} {x : Rg} {v : Bool} (hx : s[i]? = some x) (hv : (x.lo.v == v) = true) : fam v (s.drop i) = spn x :: fam v (s.drop (i + 1)) := by
  obtain ⟨hi, e⟩ := List.getElem?_eq_some_iff.1 hx
  unfold fam
  rw [List.drop_eq_getElem_cons hi, e, List.filter_cons, if_pos hv, List.map_cons]
/-- The complement under way in family v: i ranges of s are past; d: the family is over; a: where the next piece begins. -/
structure CompI (s : List Rg) (v : Bool) (T : List Spn) (i : Nat) (d : Bool) (a : Ad) (out : List Rg) : Prop where
  sum : out.map spn ++ comp (fam v (s.drop i)) (if d then lastF v + 1 else kA a) (lastF v) = T
  good : ∀ r ∈ out, someR r = true ∧ r.fits
  here : d = false → a.fits ∧ vA a = true ∧ a.v = v
  low : ∀ x ∈ s.drop i, x.lo.v = v → (if d then lastF v + 1 else kA a) ≤ kA x.lo
theorem kA_last {a : Ad} {v : Bool} (hf : a.fits) (hv : vA a = true) (e : a.v = v) : firstF v ≤ kA a ∧ kA a ≤ lastF v := by
  unfold firstF lastF
  cases v with
  | true => exact ⟨(kA_v6 hf e).1, (kA_v6 hf e).2⟩
  | false => exact ⟨(kA_v4 hv e).1, (kA_v4 hv e).2.1⟩
theorem compI_skip {s : List Rg} {v : Bool} {T : List Spn} {i : Nat} {d : Bool} {a : Ad} {out : List Rg} {x : Rg} (h : CompI s v T i d a out) (hx : s[i]? = some x) (hv : (x.lo.v == v) = false) : CompI s v T (i + 1) d a out :=
  ⟨by rw [← fam_skip hx hv]; exact h.sum, h.good, h.here, fun y hy => h.low y ((drop_two hx).2 y hy)⟩
theorem compI_open {s : List Rg} {v : Bool} {T : List Spn} {i : Nat} {d : Bool} {a : Ad} {out : List Rg} {x : Rg} (h : CompI s v T i d a out) (hs : GoodL s) (hx : s[i]? = some x) (hv : (x.lo.v == v) = true) : d = false := by
  cases d with
  | false => rfl
  | true =>
    exfalso
    have hm := good_mem hs hx
    have e : x.lo.v = v := by simpa using hv
    have h1 := h.low x (drop_two hx).1 e
    rw [if_pos rfl] at h1
    have h2 := kA_last hm.2.1 (someR_iff.1 hm.1).1 e
    omega
theorem comp_step {x : Spn} {r : List Spn} {F L : Int} (h1 : F ≤ x.lo) (h2 : x.lo ≤ x.hi) (h3 : x.hi ≤ L) : comp (x :: r) F L = (if F < x.lo then [⟨F, x.lo - 1⟩] else []) ++ comp r (x.hi + 1) L := by
  have e1 : min L (x.lo - 1) = x.lo - 1 := by omega
  have e2 : max F (x.hi + 1) = x.hi + 1 := by omega
  rw [comp, if_pos (by omega), e2]
  congr 1
  by_cases c : F < x.lo
  · rw [if_pos c, if_pos (by omega), e1]
  · rw [if_neg c, if_neg (by omega)]
/-- A range of the family is past: the piece ahead of it, if there is one, is out. -/
theorem compI_take {s : List Rg} {v : Bool} {T : List Spn} {i : Nat} {a : Ad} {out out' : List Rg} {x : Rg} (h : CompI s v T i false a out) (hs : GoodL s) (hx : s[i]? = some x) (hv : (x.lo.v == v) = true)
    (ho : (kA a < kA x.lo → ∃ c : Ad, c.fits ∧ vA c = true ∧ c.v = v ∧ kA c = kA x.lo - 1 ∧ out' = out ++ [⟨a, c⟩]) ∧ (¬ kA a < kA x.lo → out' = out)) {d : Bool} {b : Ad}
    (hd : (d = true → kA x.hi = lastF v) ∧ (d = false → b.fits ∧ vA b = true ∧ b.v = v ∧ kA b = kA x.hi + 1)) : CompI s v T (i + 1) d b out' := by
  have hm := good_mem hs hx
  have e : x.lo.v = v := by simpa using hv
  obtain ⟨g1, g2, g3, g4⟩ := someR_iff.1 hm.1
  obtain ⟨a1, a2, a3⟩ := h.here rfl
  have hlow := h.low x (drop_two hx).1 e
  rw [if_neg (by decide)] at hlow
  have hl := kA_last hm.2.2 g2 (g3.symm.trans e)
  have hF : (if d then lastF v + 1 else kA b) = kA x.hi + 1 := by
    cases d with
    | true => rw [if_pos rfl, hd.1 rfl]
    | false => rw [if_neg (by decide), (hd.2 rfl).2.2.2]
  have hsum := h.sum
  rw [if_neg (by decide), fam_take hx hv, comp_step (show kA a ≤ (spn x).lo from hlow) g4 hl.2] at hsum
  have hsum : out.map spn ++ ((if kA a < kA x.lo then [(⟨kA a, kA x.lo - 1⟩ : Spn)] else []) ++ comp (fam v (s.drop (i + 1))) (kA x.hi + 1) (lastF v)) = T := hsum
  by_cases c : kA a < kA x.lo
  · obtain ⟨c', c1, c2, c3, c4, rfl⟩ := ho.1 c
    rw [if_pos c] at hsum
    refine ⟨?_, fun r hr => ?_, fun ed => ⟨(hd.2 ed).1, (hd.2 ed).2.1, (hd.2 ed).2.2.1⟩, fun y hy ey => ?_⟩
    · rw [hF, List.map_append, List.append_assoc, ← hsum]
      simp only [List.map_cons, List.map_nil, spn, c4]
    · rw [List.mem_append, List.mem_singleton] at hr
      rcases hr with hr | rfl
      · exact h.good r hr
      · exact ⟨someR_iff.2 ⟨a2, c2, a3.trans c3.symm, by simp only; omega⟩, a1, c1⟩
    · rw [hF]; have := good_later hs hx y hy; omega
  · have := ho.2 c
    subst this
    rw [if_neg c, List.nil_append] at hsum
    refine ⟨?_, h.good, fun ed => ⟨(hd.2 ed).1, (hd.2 ed).2.1, (hd.2 ed).2.2.1⟩, fun y hy ey => ?_⟩
    · rw [hF]; exact hsum
    · rw [hF]; have := good_later hs hx y hy; omega
/-- The family's end. -/
theorem compI_end {s : List Rg} {v : Bool} {T : List Spn} {d : Bool} {a z : Ad} {out : List Rg} (h : CompI s v T s.length d a out) (z1 : z.fits) (z2 : vA z = true) (z3 : z.v = v) (z4 : kA z = lastF v) : (if d then out else out ++ [⟨a, z⟩]).map spn = T ∧ ∀ r ∈ (if d then out else out ++ [⟨a, z⟩]), someR r = true ∧ r.fits := by
  have hsum := h.sum
  rw [List.drop_length] at hsum
  cases d with
  | true =>
    simp only [if_true] at hsum ⊢
    refine ⟨?_, h.good⟩
    have e : comp (fam v []) (lastF v + 1) (lastF v) = [] := comp_none _ (by omega)
    rw [e, List.append_nil] at hsum
    exact hsum
  | false =>
    obtain ⟨a1, a2, a3⟩ := h.here rfl
    have hl := kA_last a1 a2 a3
    simp only [Bool.false_eq_true, if_false] at hsum ⊢
    have e : comp (fam v []) (kA a) (lastF v) = [⟨kA a, lastF v⟩] := by
      show comp [] _ _ = _
      rw [comp, if_pos hl.2]
    rw [e] at hsum
    refine ⟨?_, fun r hr => ?_⟩
    · rw [List.map_append, ← hsum]
      simp only [List.map_cons, List.map_nil, spn, z4]
    · rw [List.mem_append, List.mem_singleton] at hr
      rcases hr with hr | rfl
      · exact h.good r hr
      · exact ⟨someR_iff.2 ⟨a2, z2, a3.trans z3.symm, by simp only; omega⟩, a1, z1⟩
/-- What the whole is to be: both families' complements. -/
def compT (s : List Rg) (n : Nat) : List Spn := if n = 0 then [] else if n = 1 then comp (fam false s) 0 4294967295 else comp (fam false s) 0 4294967295 ++ comp (fam true s) 340282366920938463463374607431768211456 top7
theorem compI_start {s : List Rg} {v : Bool} {a : Ad} {out : List Rg} {k : Nat} (hs : GoodL s) (hk : (k = 0 ∧ v = false) ∨ (k = 1 ∧ v = true)) (ha : a.fits) (hv : vA a = true) (e : a.v = v) (ea : kA a = firstF v) (ho : out.map spn = compT s k) (hg : ∀ r ∈ out, someR r = true ∧ r.fits) : CompI s v (compT s (k + 1)) 0 false a out := by
  refine ⟨?_, hg, fun _ => ⟨ha, hv, e⟩, fun x hx ex => ?_⟩
  · rw [if_neg (by decide), ho, ea, List.drop_zero]
    rcases hk with ⟨rfl, rfl⟩ | ⟨rfl, rfl⟩
    · show [] ++ comp (fam false s) 0 4294967295 = _
      rfl
    · rfl
  · rw [if_neg (by decide), ea]
    have hm := hs.1 x (by simpa using hx)
    exact (kA_last hm.2.1 (someR_iff.1 hm.1).1 ex).1
theorem okL_sub {M : Int} : ∀ {l : List Spn} (f : Spn → Bool) {c : Int}, okL M c l → okL M c (l.filter f)
  | [], f, c, h => trivial
  | s :: r, f, c, ⟨h1, h2, h3, h4⟩ => by
    rw [List.filter_cons]
    split
    · exact ⟨h1, h2, h3, okL_sub f h4⟩
    · exact okL_mono (by omega) (okL_sub f h4)
theorem fam_any (s : List Rg) (v : Bool) (m : Int) : anyS (fam v s) m = s.any fun r => (r.lo.v == v) && inS (spn r) m := by
  unfold anyS fam
  rw [List.any_map, List.any_filter]
  rfl
theorem okL_append {M : Int} : ∀ (a b : List Spn) (c d : Int), okL M c a → okL M d b → (∀ s ∈ a, s.hi + 2 ≤ d) → c ≤ d → okL M c (a ++ b)
  | [], b, c, d, _, hb, _, h => okL_mono h hb
  | s :: a, b, c, d, ⟨h1, h2, h3, h4⟩, hb, hs, h => ⟨h1, h2, h3, okL_append a b _ d h4 hb (fun t ht => hs t (by simp [ht])) (hs s (by simp))⟩
theorem fam_ok {s : List Rg} (hs : GoodL s) (v : Bool) : okL top7 0 (fam v s) := by
  have : ∀ (l : List Rg) (c : Int), okL top7 c (l.map spn) → okL top7 c (fam v l) := by
    intro l
    induction l with
    | nil => intro c h; exact trivial
    | cons x r ih =>
      intro c h
      obtain ⟨h1, h2, h3, h4⟩ := h
      unfold fam
      rw [List.filter_cons]
      split
      · exact ⟨h1, h2, h3, ih _ h4⟩
      · exact okL_mono (by simp only [spn] at h1 h2 ⊢; omega) (ih _ h4)
  exact this s 0 hs.2
theorem comp_hi {M : Int} : ∀ (l : List Spn) (c lo hi : Int), okL M c l → ∀ t ∈ comp l lo hi, t.hi ≤ hi
  | [], _, lo, hi, _, t, ht => by
    rw [comp] at ht
    split at ht
    · rw [List.mem_singleton] at ht; subst ht; exact Int.le_refl _
    · simp at ht
  | s :: r, c, lo, hi, ⟨_, _, _, h4⟩, t, ht => by
    rw [comp] at ht
    split at ht
    · rw [List.mem_append] at ht
      rcases ht with ht | ht
      · split at ht
        · rw [List.mem_singleton] at ht; subst ht; simp only; omega
        · simp at ht
      · exact comp_hi r _ _ _ h4 t ht
    · simp at ht
theorem compT_good {s : List Rg} (hs : GoodL s) {out : List Rg} (ho : out.map spn = compT s 2) (hg : ∀ r ∈ out, someR r = true ∧ r.fits) : GoodL out ∧ ∀ m, anyS (out.map spn) m = (isU m && !anyS (s.map spn) m) := by
  have f0 := fam_ok hs false
  have f1 := fam_ok hs true
  have e : compT s 2 = comp (fam false s) 0 4294967295 ++ comp (fam true s) 340282366920938463463374607431768211456 top7 := rfl
  have k0 : okL top7 0 (comp (fam false s) 0 4294967295) := comp_ok _ 0 _ _ f0 (by unfold top7; omega)
  have k1 : okL top7 340282366920938463463374607431768211456 (comp (fam true s) 340282366920938463463374607431768211456 top7) := comp_ok _ 0 _ _ f1 (Int.le_refl _)
  refine ⟨⟨hg, ?_⟩, fun m => ?_⟩
  · rw [ho, e]
    exact okL_append _ _ 0 _ k0 k1 (fun t ht => by have := comp_hi _ 0 _ _ f0 t ht; omega) (by omega)
  · rw [ho, e, anyS_append, comp_any _ 0 _ _ _ f0, comp_any _ 0 _ _ _ f1]
    have hz : anyS (s.map spn) m = (anyS (fam false s) m || anyS (fam true s) m) := by
      rw [fam_any, fam_any]
      unfold anyS
      rw [List.any_map, Bool.eq_iff_iff, Bool.or_eq_true, List.any_eq_true, List.any_eq_true, List.any_eq_true]
      constructor
      · rintro ⟨r, hr, h⟩
        cases hv : r.lo.v with
        | true => exact .inr ⟨r, hr, by rw [hv]; simpa using h⟩
        | false => exact .inl ⟨r, hr, by rw [hv]; simpa using h⟩
      · rintro (⟨r, hr, h⟩ | ⟨r, hr, h⟩)
        · rw [Bool.and_eq_true] at h; exact ⟨r, hr, h.2⟩
        · rw [Bool.and_eq_true] at h; exact ⟨r, hr, h.2⟩
    have h0 : anyS (fam false s) m = true → 0 ≤ m ∧ m ≤ 4294967295 := fun h => by
      rw [fam_any, List.any_eq_true] at h
      obtain ⟨r, hr, h⟩ := h
      rw [Bool.and_eq_true, inS_iff] at h
      obtain ⟨g1, g2, g3, g4⟩ := someR_iff.1 (hs.1 r hr).1
      have e1 : r.lo.v = false := by simpa using h.1
      have b1 := kA_v4 g1 e1
      have b2 := kA_v4 g2 (g3.symm.trans e1)
      simp only [spn] at h
      omega
    have h1 : anyS (fam true s) m = true → 340282366920938463463374607431768211456 ≤ m ∧ m ≤ top7 := fun h => by
      rw [fam_any, List.any_eq_true] at h
      obtain ⟨r, hr, h⟩ := h
      rw [Bool.and_eq_true, inS_iff] at h
      have hm := hs.1 r hr
      obtain ⟨g1, g2, g3, g4⟩ := someR_iff.1 hm.1
      have e1 : r.lo.v = true := by simpa using h.1
      have b1 := kA_v6 hm.2.1 e1
      have b2 := kA_v6 hm.2.2 (g3.symm.trans e1)
      simp only [spn] at h
      omega
    rw [hz, Bool.eq_iff_iff]
    unfold isU
    generalize anyS (fam false s) m = p at *
    generalize anyS (fam true s) m = q at *
    cases p <;> cases q <;> simp only [Bool.or_true, Bool.or_false, Bool.not_true, Bool.not_false, Bool.and_true, Bool.and_false, Bool.or_eq_true, Bool.and_eq_true, decide_eq_true_eq, Bool.false_eq_true, false_or, iff_false, not_and, false_implies, true_implies] at * <;> omega
end Go.Proofs.Ytmcelgnifpfjpaa

/- Plain mathematics of the program's Minus of layer 7: no Go in sight. -/
namespace Go.Proofs.Ytmcelgnifpfjpaa
set_option linter.unusedVariables false

theorem dropR_any (k : Int) : ∀ (l : List Rg) (m : Int), k ≤ m → anyS ((dropR l k).map spn) m = anyS (l.map spn) m
  | [], m, h => rfl
  | x :: r, m, h => by
    rw [dropR]
    split
    · rename_i hx
      rw [dropR_any k r m h, List.map_cons, anyS_cons, show inS (spn x) m = false by unfold inS spn; simp; omega, Bool.false_or]
    · rfl
theorem dropR_ok {M : Int} (k : Int) : ∀ (l : List Rg) (c : Int), okL M c (l.map spn) → okL M c ((dropR l k).map spn)
  | [], _, h => h
  | x :: r, c, h => by
    rw [dropR]
    split
    · exact okL_mono (by have h1 := h.1; have h2 := h.2.1; simp only [spn] at *; omega) (dropR_ok k r _ h.2.2.2)
    · exact h
theorem dropR_sub (k : Int) : ∀ (l : List Rg), ∀ r ∈ dropR l k, r ∈ l
  | [], r, h => h
  | x :: t, r, h => by
    rw [dropR] at h
    split at h
    · exact List.mem_cons_of_mem _ (dropR_sub k t r h)
    · exact h
theorem dropR_len (k : Int) : ∀ (l : List Rg), (dropR l k).length ≤ l.length
  | [] => Nat.le_refl _
  | x :: t => by
    rw [dropR]
    split
    · exact Nat.le_succ_of_le (dropR_len k t)
    · exact Nat.le_refl _
theorem dropR_good {l : List Rg} (h : GoodL l) (k : Int) : GoodL (dropR l k) := ⟨fun r hr => h.1 r (dropR_sub k l r hr), dropR_ok k l 0 h.2⟩
theorem dropR_head (k : Int) : ∀ (l : List Rg) {y : Rg} {t : List Rg}, dropR l k = y :: t → ¬ kA y.hi < k
  | [], y, t, h => by simp [dropR] at h
  | x :: r, y, t, h => by
    rw [dropR] at h
    split at h
    · exact dropR_head k r h
    · rename_i hx
      obtain ⟨rfl, _⟩ := List.cons.inj h
      exact hx
theorem okL_before {M : Int} : ∀ (a : List Spn) {s : Spn} {b : List Spn} {c : Int}, okL M c (a ++ s :: b) → ∀ t ∈ a, t.hi + 2 ≤ s.lo
  | [], s, b, c, h, t, ht => by simp at ht
  | x :: a, s, b, c, h, t, ht => by
    rcases List.mem_cons.1 ht with rfl | ht
    · exact okL_all h.2.2.2 s (by simp)
    · exact okL_before a h.2.2.2 t ht
/-- A range gives way to pieces of it. -/
theorem good_sub {F T P : List Rg} {x : Rg} (h : GoodL (F ++ x :: T)) (hp : ∀ r ∈ P, someR r = true ∧ r.fits) (hok : okL top7 (kA x.lo) (P.map spn)) (hhi : ∀ r ∈ P, kA r.hi ≤ kA x.hi) : GoodL (F ++ (P ++ T)) := by
  have hk := h.2
  rw [List.map_append, List.map_cons] at hk
  have h1 := okL_front _ _ _ hk
  have h2 := okL_before _ hk
  have h3 := okL_cut _ hk
  have hx := h.1 x (by simp)
  have hxs := (someR_iff.1 hx.1).2.2.2
  refine ⟨fun r hr => ?_, ?_⟩
  · rcases List.mem_append.1 hr with hr | hr
    · exact h.1 r (by simp [hr])
    · rcases List.mem_append.1 hr with hr | hr
      · exact hp r hr
      · exact h.1 r (by simp [hr])
  · rw [List.map_append, List.map_append]
    refine okL_append _ _ 0 (kA x.lo) h1 (okL_append _ _ (kA x.lo) (kA x.hi + 2) hok h3 (fun s hs => ?_) (by omega)) (fun s hs => h2 s hs) (kA_pos _)
    obtain ⟨r, hr, rfl⟩ := List.mem_map.1 hs
    have := hhi r hr
    simp only [spn]
    omega
/-- What is still to do: the ranges that wait, and the cuts that are left for them. -/
def muS : List Rg → List Rg → Nat
  | [], _ => 0
  | x :: S, R => S.length + 1 + (dropR R (kA x.lo)).length
theorem muS_le (T R : List Rg) : muS T R ≤ T.length + R.length := by
  cases T with
  | nil => exact Nat.zero_le _
  | cons x S =>
    have := dropR_len (kA x.lo) R
    simp only [muS, List.length_cons]
    omega
/-- Minus under way: F is out, S waits, R are the cuts that are left; the set is f. -/
structure MinI (f : Int → Bool) (N : Nat) (F S R : List Rg) : Prop where
  good : GoodL (F ++ S)
  gR : GoodL R
  any : ∀ m, f m = (anyS (F.map spn) m || (anyS (S.map spn) m && !anyS (R.map spn) m))
  len : F.length + muS S R ≤ N
theorem minI_start {f : Int → Bool} {S R : List Rg} (hS : GoodL S) (hR : GoodL R) (hf : ∀ m, f m = (anyS (S.map spn) m && !anyS (R.map spn) m)) : MinI f (S.length + R.length) [] S R :=
  ⟨hS, hR, fun m => by rw [hf m]; rfl, by have := muS_le S R; simpa using this⟩
theorem minI_end {f : Int → Bool} {N : Nat} {F R : List Rg} (h : MinI f N F [] R) : GoodL F ∧ (∀ m, anyS (F.map spn) m = f m) ∧ F.length ≤ N :=
  ⟨by have := h.good; rwa [List.append_nil] at this, fun m => by rw [h.any m]; simp [anyS], by have := h.len; simpa [muS] using this⟩
theorem minI_ge {f : Int → Bool} {N : Nat} {F T R : List Rg} {x : Rg} (h : MinI f N F (x :: T) R) {m : Int} (hm : anyS ((x :: T).map spn) m = true) : kA x.lo ≤ m := by
  have hk := h.good.2
  rw [List.map_append, List.map_cons] at hk
  have h3 := okL_cut _ hk
  rw [List.map_cons, anyS_cons, Bool.or_eq_true, inS_iff] at hm
  have hx := (someR_iff.1 (h.good.1 x (by simp)).1).2.2.2
  rcases hm with hm | hm
  · exact hm.1
  · have := okL_ge h3 hm
    simp only [spn] at this
    omega
/-- One step: x gives way to the pieces P, which are out, and Q, which waits. -/
theorem minI_step {f : Int → Bool} {N : Nat} {F T R P Q : List Rg} {x : Rg} (h : MinI f N F (x :: T) R) (hp : ∀ r ∈ P ++ Q, someR r = true ∧ r.fits) (hok : okL top7 (kA x.lo) ((P ++ Q).map spn)) (hhi : ∀ r ∈ P ++ Q, kA r.hi ≤ kA x.hi)
    (heq : ∀ m, (inS (spn x) m && !anyS ((dropR R (kA x.lo)).map spn) m) = (anyS (P.map spn) m || (anyS (Q.map spn) m && !anyS ((dropR R (kA x.lo)).map spn) m))) (hlen : P.length + muS (Q ++ T) (dropR R (kA x.lo)) ≤ muS (x :: T) R) : MinI f N (F ++ P) (Q ++ T) (dropR R (kA x.lo)) := by
  refine ⟨?_, dropR_good h.gR _, fun m => ?_, ?_⟩
  · have := good_sub h.good hp hok hhi
    rw [List.append_assoc]
    rwa [List.append_assoc] at this
  · rw [h.any m]
    have e := heq m
    have hg : (anyS ((x :: T).map spn) m && !anyS (R.map spn) m) = (anyS ((x :: T).map spn) m && !anyS ((dropR R (kA x.lo)).map spn) m) := by
      cases ha : anyS ((x :: T).map spn) m with
      | false => rfl
      | true => rw [dropR_any _ R m (minI_ge h ha)]
    rw [hg, List.map_cons, anyS_cons, List.map_append, List.map_append, anyS_append, anyS_append]
    generalize anyS (List.map spn (dropR R (kA x.lo))) m = r at *
    generalize inS (spn x) m = a at *
    generalize anyS (List.map spn T) m = b at *
    generalize anyS (List.map spn F) m = c at *
    generalize anyS (List.map spn P) m = p at *
    generalize anyS (List.map spn Q) m = q at *
    revert e
    cases r <;> cases a <;> cases b <;> cases c <;> cases p <;> cases q <;> decide
  · have := h.len
    rw [List.length_append]
    omega
/-- Nothing is cut off x. -/
theorem minI_whole {f : Int → Bool} {N : Nat} {F T R R' : List Rg} {x : Rg} (h : MinI f N F (x :: T) R) (hR : R' = dropR R (kA x.lo)) (hn : ∀ y t, R' = y :: t → kA x.hi < kA y.lo) : MinI f N (F ++ [x]) T R' ∧ muS T R' < muS (x :: T) R := by
  have hx := h.good.1 x (by simp)
  have hxs := someR_iff.1 hx.1
  have hlen := muS_le T R'
  have hmu : muS (x :: T) R = T.length + 1 + R'.length := by rw [hR]; rfl
  refine ⟨?_, by omega⟩
  rw [hR]
  refine minI_step (P := [x]) (Q := []) h ?_ ?_ ?_ (fun m => ?_) ?_
  · intro r hr
    simp only [List.append_nil, List.mem_singleton] at hr
    subst hr
    exact hx
  · exact ⟨Int.le_refl _, hxs.2.2.2, kA_top hx.2.2, trivial⟩
  · intro r hr
    simp only [List.append_nil, List.mem_singleton] at hr
    subst hr
    exact Int.le_refl _
  · have hd : inS (spn x) m = true → anyS ((dropR R (kA x.lo)).map spn) m = false := fun hm => by
      have hg := (dropR_good h.gR (kA x.lo)).2
      rw [← hR] at hg ⊢
      cases R' with
      | nil => rfl
      | cons y t =>
        have h1 := hn y t rfl
        rw [inS_iff] at hm
        cases ha : anyS ((y :: t).map spn) m with
        | false => rfl
        | true =>
          have h2 : okL top7 (kA y.lo) ((y :: t).map spn) := ⟨Int.le_refl _, hg.2⟩
          have := okL_ge h2 ha
          simp only [spn] at hm
          omega
    rw [List.map_cons, List.map_nil, anyS_cons, show anyS ([] : List Spn) m = false from rfl, Bool.or_false]
    cases hi : inS (spn x) m with
    | false => rfl
    | true => rw [hd hi]; rfl
  · rw [← hR, List.nil_append, List.length_singleton]
    omega
/-- What a cut leaves of x. -/
theorem minI_cut {f : Int → Bool} {N : Nat} {F T R t P Q : List Rg} {x y : Rg} (h : MinI f N F (x :: T) R) (hR : dropR R (kA x.lo) = y :: t) (hyx : kA y.lo ≤ kA x.hi)
    (hP : (kA x.lo < kA y.lo → ∃ b : Ad, b.fits ∧ vA b = true ∧ b.v = y.lo.v ∧ kA b = kA y.lo - 1 ∧ P = [⟨x.lo, b⟩]) ∧ (¬ kA x.lo < kA y.lo → P = []))
    (hQ : (kA y.hi < kA x.hi → ∃ b : Ad, b.fits ∧ vA b = true ∧ b.v = y.hi.v ∧ kA b = kA y.hi + 1 ∧ Q = [⟨b, x.hi⟩]) ∧ (¬ kA y.hi < kA x.hi → Q = [])) : MinI f N (F ++ P) (Q ++ T) (y :: t) ∧ muS (Q ++ T) (y :: t) < muS (x :: T) R := by
  have hx := h.good.1 x (by simp)
  obtain ⟨x1, x2, x3, x4⟩ := someR_iff.1 hx.1
  have hyl := dropR_head _ R hR
  have hgR := dropR_good h.gR (kA x.lo)
  rw [hR] at hgR
  have hy := hgR.1 y (by simp)
  obtain ⟨y1, y2, y3, y4⟩ := someR_iff.1 hy.1
  have htop := kA_top hx.2.2
  have hmu : muS (x :: T) R = T.length + 1 + (y :: t).length := by rw [← hR]; rfl
  have hqmu : muS (Q ++ T) (y :: t) ≤ T.length + (y :: t).length := by
    by_cases c : kA y.hi < kA x.hi
    · obtain ⟨b, b1, b2, b3, b4, rfl⟩ := hQ.1 c
      have : dropR (y :: t) (kA b) = dropR t (kA b) := by rw [dropR, if_pos (by omega)]
      have h2 := dropR_len (kA b) t
      simp only [List.singleton_append, muS, this, List.length_cons]
      omega
    · rw [hQ.2 c, List.nil_append]
      exact muS_le T _
  have hPl : P.length ≤ 1 := by
    by_cases c : kA x.lo < kA y.lo
    · obtain ⟨b, b1, b2, b3, b4, rfl⟩ := hP.1 c
      simp
    · rw [hP.2 c]; simp
  have hPg : ∀ r ∈ P, (someR r = true ∧ r.fits) ∧ r.lo = x.lo ∧ kA r.hi = kA y.lo - 1 ∧ kA x.lo < kA y.lo := fun r hr => by
    by_cases c : kA x.lo < kA y.lo
    · obtain ⟨b, b1, b2, b3, b4, rfl⟩ := hP.1 c
      simp only [List.mem_singleton] at hr
      subst hr
      have hv := between_v hx.2.1 hy.2.1 hx.2.2 x3 (by omega) hyx
      exact ⟨⟨someR_iff.2 ⟨x1, b2, by simp only; rw [b3, hv], by simp only; omega⟩, hx.2.1, b1⟩, rfl, b4, c⟩
    · rw [hP.2 c] at hr; simp at hr
  have hQg : ∀ r ∈ Q, (someR r = true ∧ r.fits) ∧ kA r.lo = kA y.hi + 1 ∧ r.hi = x.hi ∧ kA y.hi < kA x.hi := fun r hr => by
    by_cases c : kA y.hi < kA x.hi
    · obtain ⟨b, b1, b2, b3, b4, rfl⟩ := hQ.1 c
      simp only [List.mem_singleton] at hr
      subst hr
      have hv := between_v hx.2.1 hy.2.2 hx.2.2 x3 (by omega) (by omega)
      exact ⟨⟨someR_iff.2 ⟨b2, x2, by simp only; rw [b3, hv, x3], by simp only; omega⟩, b1, hx.2.2⟩, b4, rfl, c⟩
    · rw [hQ.2 c] at hr; simp at hr
  refine ⟨?_, by omega⟩
  rw [← hR]
  refine minI_step h ?_ ?_ ?_ (fun m => ?_) ?_
  · intro r hr
    rcases List.mem_append.1 hr with hr | hr
    · exact (hPg r hr).1
    · exact (hQg r hr).1
  · rw [List.map_append]
    have hPok : okL top7 (kA x.lo) (P.map spn) := by
      by_cases c : kA x.lo < kA y.lo
      · obtain ⟨b, b1, b2, b3, b4, rfl⟩ := hP.1 c
        exact ⟨Int.le_refl _, by simp only [spn]; omega, by simp only [spn]; omega, trivial⟩
      · rw [hP.2 c]; trivial
    have hQok : okL top7 (kA y.hi + 1) (Q.map spn) := by
      by_cases c : kA y.hi < kA x.hi
      · obtain ⟨b, b1, b2, b3, b4, rfl⟩ := hQ.1 c
        exact ⟨by simp only [spn]; omega, by simp only [spn]; omega, by simp only [spn]; omega, trivial⟩
      · rw [hQ.2 c]; trivial
    refine okL_append _ _ (kA x.lo) (kA y.hi + 1) hPok hQok (fun s hs => ?_) (by omega)
    obtain ⟨r, hr, rfl⟩ := List.mem_map.1 hs
    have := (hPg r hr).2.2.1
    simp only [spn]
    omega
  · intro r hr
    rcases List.mem_append.1 hr with hr | hr
    · have := (hPg r hr).2.2.1
      omega
    · rw [(hQg r hr).2.2.1]
      exact Int.le_refl _
  · rw [hR, List.map_cons, anyS_cons]
    have ht : anyS (t.map spn) m = true → kA y.hi + 2 ≤ m := fun ha => okL_ge (M := top7) (by have := hgR.2; rw [List.map_cons] at this; exact this.2.2.2) ha
    have eP : anyS (P.map spn) m = (decide (kA x.lo ≤ m) && decide (m ≤ kA y.lo - 1)) := by
      by_cases c : kA x.lo < kA y.lo
      · obtain ⟨b, b1, b2, b3, b4, rfl⟩ := hP.1 c
        rw [List.map_cons, List.map_nil, anyS_cons, show anyS ([] : List Spn) m = false from rfl, Bool.or_false]
        unfold inS spn
        rw [b4]
      · rw [hP.2 c, Bool.eq_iff_iff, Bool.and_eq_true, decide_eq_true_eq, decide_eq_true_eq]
        simp [anyS]
        omega
    have eQ : anyS (Q.map spn) m = (decide (kA y.hi + 1 ≤ m) && decide (m ≤ kA x.hi)) := by
      by_cases c : kA y.hi < kA x.hi
      · obtain ⟨b, b1, b2, b3, b4, rfl⟩ := hQ.1 c
        rw [List.map_cons, List.map_nil, anyS_cons, show anyS ([] : List Spn) m = false from rfl, Bool.or_false]
        unfold inS spn
        rw [b4]
      · rw [hQ.2 c, Bool.eq_iff_iff, Bool.and_eq_true, decide_eq_true_eq, decide_eq_true_eq]
        simp [anyS]
        omega
    rw [eP, eQ]
    obtain ⟨T9, hT9⟩ : ∃ T9, T9 = anyS (t.map spn) m := ⟨_, rfl⟩
    rw [← hT9] at ht ⊢
    unfold inS spn
    simp only
    cases T9 with
    | true =>
      have := ht rfl
      rw [Bool.or_true, Bool.not_true, Bool.and_false, Bool.and_false, Bool.or_false, show decide (m ≤ kA y.lo - 1) = false by simp; omega, Bool.and_false]
    | false =>
      rw [Bool.or_false, Bool.eq_iff_iff]
      simp only [Bool.and_eq_true, Bool.or_eq_true, Bool.not_eq_true', Bool.and_eq_false_iff, decide_eq_true_eq, decide_eq_false_iff_not]
      omega
  · rw [hR]
    omega
/-- The address ahead of a cut's start, where a range begins before it. -/
theorem prv_piece {a b : Ad} (ha : a.fits) (hb : b.fits) (va : vA a = true) (vb : vA b = true) (hv : a.v = b.v) (h : kA a < kA b) : ∃ c : Ad, prvA b.v b.h b.l = some (c.v, c.h, c.l) ∧ c.v = b.v ∧ c.fits ∧ vA c = true ∧ kA c = kA b - 1 := by
  rcases prv_key hb vb with ⟨_, h1⟩ | h1
  · exfalso
    have := kA_pos a
    cases e : b.v with
    | true => have := kA_v6 ha (hv.trans e); have := kA_v6 hb e; omega
    | false => have := kA_v4 vb e; omega
  · exact h1
theorem nxt_piece {a b : Ad} (ha : a.fits) (hb : b.fits) (va : vA a = true) (vb : vA b = true) (hv : b.v = a.v) (h : kA b < kA a) : ∃ c : Ad, nxtA b.v b.h b.l = some (c.v, c.h, c.l) ∧ c.v = b.v ∧ c.fits ∧ vA c = true ∧ kA c = kA b + 1 := by
  rcases nxt_key hb vb with ⟨_, h1⟩ | h1
  · exfalso
    cases e : b.v with
    | true => have := kA_v6 hb e; have := kA_top ha; omega
    | false => have := kA_v4 va (hv.symm.trans e); have := kA_v4 vb e; have e7 : top7 = 680564733841876926926749214863536422911 := rfl; omega
  · exact h1
end Go.Proofs.Ytmcelgnifpfjpaa

/- The state of the program's Minus in memory, and how each step turns it. -/
namespace Go.Proofs.Ytmcelgnifpfjpaa
open Go.ChangeShapes Go.WideShapes Go.ChangeAt Go.RowKit
set_option linter.unusedVariables false

/-- The state: t tells the blocks apart. -/
structure MI (w W : World) (t : Nat → Nat) (bs : Nat) (As : Option Addr) (ns cs : Nat) (I : List Rg) (Ao : Option Addr) (no co : Nat) (F : List Rg) (bf : Nat) (Af : Option Addr) (nf cf : Nat) (R : List Rg) (gr : Nat) (v1 : Bool) (h1 l1 : Nat) (v2 : Bool) (h2 l2 : Nat) : Prop where
  B : Below w.heap.size w W
  bge : w.heap.size ≤ bs
  fge : w.heap.size ≤ bf
  gge : w.heap.size ≤ gr
  sb : SBR W bs As ns cs
  sr : OwnR W w.heap.size As ns cs I
  or : OwnR W w.heap.size Ao no co F
  fb : FBR W bf Af nf cf
  fr : RowL ER W Af R
  fn : nf = R.length ∧ nf ≤ cf ∧ cf ≤ maxLen
  rb : RB W gr v1 h1 l1 v2 h2 l2
  t1 : t bs = 1
  t2 : ∀ j, (Value.slice As ns cs).ownBlock = some j → t j = 2
  t3 : ∀ j, (Value.slice Ao no co).ownBlock = some j → t j = 3
  t4 : t bf = 4
  t5 : ∀ a, Af = some a → a.block < W.heap.size ∧ t a.block = 5
  t6 : t gr = 6
variable {w W : World} {t : Nat → Nat} {bs : Nat} {As : Option Addr} {ns cs : Nat} {I : List Rg} {Ao : Option Addr} {no co : Nat} {F : List Rg} {bf : Nat} {Af : Option Addr} {nf cf : Nat} {R : List Rg} {gr : Nat} {v1 : Bool} {h1 l1 : Nat} {v2 : Bool} {h2 l2 : Nat}
theorem MI.kept {W' : World} (h : MI w W t bs As ns cs I Ao no co F bf Af nf cf R gr v1 h1 l1 v2 h2 l2) (hb : Below W.heap.size W W') : MI w W' t bs As ns cs I Ao no co F bf Af nf cf R gr v1 h1 l1 v2 h2 l2 :=
  { h with B := h.B.trans (hb.mono h.B.size), sb := h.sb.kept hb, sr := h.sr.kept hb, or := h.or.kept hb, fb := h.fb.kept hb, fr := h.fr.kept hb, rb := h.rb.kept hb h.rb.lt, t5 := fun a e => ⟨Nat.lt_of_lt_of_le (h.t5 a e).1 hb.size, (h.t5 a e).2⟩ }
theorem MI.al (h : MI w W t bs As ns cs I Ao no co F bf Af nf cf R gr v1 h1 l1 v2 h2 l2) (o : Obj) : MI w (W.alloc o) t bs As ns cs I Ao no co F bf Af nf cf R gr v1 h1 l1 v2 h2 l2 := h.kept (below_alloc6 W o)
/-- A new box for the range at hand. -/
theorem MI.newr (h : MI w W t bs As ns cs I Ao no co F bf Af nf cf R gr v1 h1 l1 v2 h2 l2) (x1 : Bool) (x2 x3 : Nat) (x4 : Bool) (x5 x6 : Nat) : ∃ t', MI w (W.alloc (.cells #[.bool x1, .int .u64 x2, .int .u64 x3, .bool x4, .int .u64 x5, .int .u64 x6] 43)) t' bs As ns cs I Ao no co F bf Af nf cf R W.heap.size x1 x2 x3 x4 x5 x6 := by
  have h2 := h.al (.cells #[.bool x1, .int .u64 x2, .int .u64 x3, .bool x4, .int .u64 x5, .int .u64 x6] 43)
  refine ⟨fun y => if y < W.heap.size then t y else 6, h2.B, h.bge, h.fge, h.B.size, h2.sb, h2.sr, h2.or, h2.fb, h2.fr, h.fn, rb_new W x1 x2 x3 x4 x5 x6, ?_, fun j hj => ?_, fun j hj => ?_, ?_, fun a e => ⟨(h2.t5 a e).1, ?_⟩, ?_⟩
  · simp only [if_pos h.sb.lt]; exact h.t1
  · simp only [if_pos (h.sr.2.lt j hj).2]; exact h.t2 j hj
  · simp only [if_pos (h.or.2.lt j hj).2]; exact h.t3 j hj
  · simp only [if_pos h.fb.lt]; exact h.t4
  · simp only [if_pos (h.t5 a e).1]; exact (h.t5 a e).2
  · simp
/-- The top of the stack is taken. -/
theorem MI.took {W' : World} {x : Rg} (h : MI w W t bs As ns cs (I ++ [x]) Ao no co F bf Af nf cf R gr v1 h1 l1 v2 h2 l2) (hs : SBR W' bs As (ns - 1) cs) (hg : W.grownBy W' (some bs)) : MI w W' t bs As (ns - 1) cs I Ao no co F bf Af nf cf R gr v1 h1 l1 v2 h2 l2 := by
  have hI : ns = I.length + 1 := by have := h.sr.1; simpa using this
  have hown : (Value.slice As (ns - 1) cs).ownBlock = (Value.slice As ns cs).ownBlock := by cases As <;> rfl
  have ns2 : ∀ j, (Value.slice As ns cs).ownBlock = some j → j ≠ bs := fun j hj e => by have a := h.t2 j hj; rw [e, h.t1] at a; omega
  have no2 : ∀ j, (Value.slice Ao no co).ownBlock = some j → j ≠ bs := fun j hj e => by have a := h.t3 j hj; rw [e, h.t1] at a; omega
  have nf2 : bf ≠ bs := fun e => by have a := h.t4; rw [e, h.t1] at a; omega
  have nr2 : ∀ a, Af = some a → a.block ≠ bs := fun a e0 e => by have a := (h.t5 a e0).2; rw [e, h.t1] at a; omega
  have ng : gr ≠ bs := fun e => by have a := h.t6; rw [e, h.t1] at a; omega
  refine ⟨h.B.grown hg h.B.size (fun k hk => by cases hk; exact h.bge), h.bge, h.fge, h.gge, hs, ⟨by omega, ?_⟩, ⟨h.or.1, own_only h.or.2 hg (fun c hc e => no2 c hc (Option.some.inj e))⟩, h.fb.only hg (fun e => nf2 (Option.some.inj e)), h.fr.only hg (fun a e0 e => nr2 a e0 (Option.some.inj e)), h.fn, h.rb.grown hg (fun e => ng (Option.some.inj e)), h.t1, fun j hj => h.t2 j (hown ▸ hj), h.t3, h.t4, fun a e => ⟨Nat.lt_of_lt_of_le (h.t5 a e).1 hg.size, (h.t5 a e).2⟩, h.t6⟩
  have h3 := own_cut (E := ER) (m := ns - 1) (own_only h.sr.2 hg (fun c hc e => ns2 c hc (Option.some.inj e))) h.sr.1 (by omega)
  rwa [show (I ++ [x]).take (ns - 1) = I by rw [show ns - 1 = I.length by omega]; simp] at h3
/-- The cuts that end ahead of an address are past. -/
theorem MI.fol {W' : World} {k : Int} {e : Ending} (h : MI w W t bs As ns cs I Ao no co F bf Af nf cf R gr v1 h1 l1 v2 h2 l2) (hp : FolR W Af bf R k e W') : e = .returned (folV (dropR R k)) ∧ ∃ Af' cf', MI w W' t bs As ns cs I Ao no co F bf Af' (dropR R k).length cf' (dropR R k) gr v1 h1 l1 v2 h2 l2 := by
  obtain ⟨A', cap, p1, p2, p3, p4, p5, p6, hg⟩ := hp
  have ns2 : ∀ j, (Value.slice As ns cs).ownBlock = some j → j ≠ bf := fun j hj e => by have a := h.t2 j hj; rw [e, h.t4] at a; omega
  have no2 : ∀ j, (Value.slice Ao no co).ownBlock = some j → j ≠ bf := fun j hj e => by have a := h.t3 j hj; rw [e, h.t4] at a; omega
  have nb : bs ≠ bf := fun e => by have a := h.t1; rw [e, h.t4] at a; omega
  have ng : gr ≠ bf := fun e => by have a := h.t6; rw [e, h.t4] at a; omega
  refine ⟨p6, A', cap, h.B.grown hg h.B.size (fun k hk => by cases hk; exact h.fge), h.bge, h.fge, h.gge, (hg.block bs h.sb.lt (fun e => nb (Option.some.inj e))).trans h.sb, ⟨h.sr.1, own_only h.sr.2 hg (fun c hc e => ns2 c hc (Option.some.inj e))⟩, ⟨h.or.1, own_only h.or.2 hg (fun c hc e => no2 c hc (Option.some.inj e))⟩, p1, p2, ⟨rfl, p4, p5⟩, h.rb.grown hg (fun e => ng (Option.some.inj e)), h.t1, h.t2, h.t3, h.t4, fun a e => ?_, h.t6⟩
  obtain ⟨a0, e1, e2⟩ := p3 a e
  rw [e2]
  exact ⟨Nat.lt_of_lt_of_le (h.t5 a0 e1).1 hg.size, (h.t5 a0 e1).2⟩
/-- A range is out. -/
theorem MI.found {wz : World} {g2 cap2 : Nat} {o : Obj} {x : Rg} (h : MI w W t bs As ns cs I Ao no co F bf Af nf cf R gr v1 h1 l1 v2 h2 l2) (hown : wz.ownsRow w.heap.size 43 6 (.slice (some ⟨g2, 0, none⟩) (no + 1) cap2) (no + 1) (ER.cells (F ++ [x]))) (hg : (W.alloc o).grownBy wz (Value.slice Ao no co).ownBlock) (hat : (Value.slice Ao no co).ownBlock = some g2 ∨ g2 = W.heap.size + 1) : ∃ t', MI w wz t' bs As ns cs I (some ⟨g2, 0, none⟩) (no + 1) cap2 (F ++ [x]) bf Af nf cf R gr v1 h1 l1 v2 h2 l2 := by
  have ha := h.al o
  have hz : (W.alloc o).heap.size = W.heap.size + 1 := by simp
  have no1 : some bs ≠ (Value.slice Ao no co).ownBlock := fun e => by have a := h.t3 bs e.symm; rw [h.t1] at a; omega
  have no2 : ∀ j, (Value.slice As ns cs).ownBlock = some j → some j ≠ (Value.slice Ao no co).ownBlock := fun j hj e => by have a := h.t2 j hj; have b := h.t3 j e.symm; omega
  have no4 : some bf ≠ (Value.slice Ao no co).ownBlock := fun e => by have a := h.t3 bf e.symm; rw [h.t4] at a; omega
  have no5 : ∀ a, Af = some a → some a.block ≠ (Value.slice Ao no co).ownBlock := fun a e0 e => by have a := (h.t5 a e0).2; have b := h.t3 _ e.symm; omega
  have no6 : some gr ≠ (Value.slice Ao no co).ownBlock := fun e => by have a := h.t3 gr e.symm; rw [h.t6] at a; omega
  refine ⟨fun y => if y < W.heap.size then t y else 3, h.or.below h.B h.B.size h.B.size (Nat.le_refl _) hg, h.bge, h.fge, h.gge, (hg.block bs ha.sb.lt no1).trans ha.sb, ⟨h.sr.1, own_only ha.sr.2 hg no2⟩, ⟨by rw [List.length_append, ← h.or.1]; rfl, hown⟩, ha.fb.only hg no4, ha.fr.only hg no5, h.fn, ha.rb.grown hg no6, ?_, fun j hj => ?_, fun j hj => ?_, ?_, fun a e => ⟨?_, ?_⟩, ?_⟩
  · simp only [if_pos h.sb.lt]; exact h.t1
  · simp only [if_pos (h.sr.2.lt j hj).2]; exact h.t2 j hj
  · rw [own_g hj]
    rcases hat with hat | hat
    · simp only [if_pos (h.or.2.lt g2 hat).2]; exact h.t3 g2 hat
    · simp only [if_neg (show ¬ g2 < W.heap.size by omega)]
  · simp only [if_pos h.fb.lt]; exact h.t4
  · exact Nat.lt_of_lt_of_le (ha.t5 a e).1 hg.size
  · simp only [if_pos (h.t5 a e).1]; exact (h.t5 a e).2
  · simp only [if_pos h.rb.lt]; exact h.t6
/-- Ranges were put onto the stack. -/
theorem MI.put {W' : World} {A' : Option Addr} {n' c' : Nat} {J : List Rg} (h : MI w W t bs As ns cs I Ao no co F bf Af nf cf R gr v1 h1 l1 v2 h2 l2) (hs : SBR W' bs A' n' c') (ho : OwnR W' w.heap.size A' n' c' J) (hk : Kept2 W W' bs (Value.slice As ns cs).ownBlock) (hn : ∀ j, (Value.slice A' n' c').ownBlock = some j → j ≠ bs ∧ ((Value.slice As ns cs).ownBlock = some j ∨ W.heap.size ≤ j)) : ∃ t', MI w W' t' bs A' n' c' J Ao no co F bf Af nf cf R gr v1 h1 l1 v2 h2 l2 := by
  have no1 : ∀ j, (Value.slice Ao no co).ownBlock = some j → j ≠ bs ∧ some j ≠ (Value.slice As ns cs).ownBlock := fun j hj => ⟨fun e => by have a := h.t3 j hj; rw [e, h.t1] at a; omega, fun e => by have a := h.t3 j hj; have b := h.t2 j e.symm; omega⟩
  have no4 : bf ≠ bs ∧ some bf ≠ (Value.slice As ns cs).ownBlock := ⟨fun e => by have a := h.t4; rw [e, h.t1] at a; omega, fun e => by have a := h.t2 bf e.symm; rw [h.t4] at a; omega⟩
  have no5 : ∀ a, Af = some a → a.block ≠ bs ∧ some a.block ≠ (Value.slice As ns cs).ownBlock := fun a e0 => ⟨fun e => by have a := (h.t5 a e0).2; rw [e, h.t1] at a; omega, fun e => by have a := (h.t5 a e0).2; have b := h.t2 _ e.symm; omega⟩
  have no6 : gr ≠ bs ∧ some gr ≠ (Value.slice As ns cs).ownBlock := ⟨fun e => by have a := h.t6; rw [e, h.t1] at a; omega, fun e => by have a := h.t2 gr e.symm; rw [h.t6] at a; omega⟩
  refine ⟨fun y => if y < W.heap.size then t y else 2, ?_, h.bge, h.fge, h.gge, hs, ho, ?_, (hk.block bf h.fb.lt no4.1 no4.2).trans h.fb, ?_, h.fn, (hk.block gr h.rb.lt no6.1 no6.2).trans h.rb, ?_, fun j hj => ?_, fun j hj => ?_, ?_, fun a e => ⟨?_, ?_⟩, ?_⟩
  · refine h.B.trans ⟨hk.os, hk.tape, hk.output, hk.size, fun y hy => hk.block y (Nat.lt_of_lt_of_le hy h.B.size) (fun e => by have := h.bge; omega) (fun e => by have := (h.sr.2.lt y e.symm).1; omega)⟩
  · refine ⟨h.or.1, h.or.2.1, ?_⟩
    rcases h.or.2.2 with hh | ⟨g, cap, cur, hv, hb, hh, rest⟩
    · exact .inl hh
    · have := no1 g (by rw [hv]; rfl)
      exact .inr ⟨g, cap, cur, hv, hb, (hk.block g (Array.getElem?_eq_some_iff.1 hh).1 this.1 this.2).trans hh, rest⟩
  · intro hp
    obtain ⟨g, o, e, hg, hc⟩ := h.fr hp
    have hne := no5 _ e
    refine ⟨g, o, e, Nat.lt_of_lt_of_le hg hk.size, fun i x hx j v hv => ?_⟩
    rw [World.cell?_of_block (w := W) (w' := W') (a := ⟨g, o + i * ER.k + j, none⟩) (hk.block g hg hne.1 hne.2)]
    exact hc i x hx j v hv
  · simp only [if_pos h.sb.lt]; exact h.t1
  · rcases (hn j hj).2 with h3 | h3
    · simp only [if_pos (h.sr.2.lt j h3).2]; exact h.t2 j h3
    · simp only [if_neg (show ¬ j < W.heap.size by omega)]
  · simp only [if_pos (h.or.2.lt j hj).2]; exact h.t3 j hj
  · simp only [if_pos h.fb.lt]; exact h.t4
  · exact Nat.lt_of_lt_of_le (h.t5 a e).1 hk.size
  · simp only [if_pos (h.t5 a e).1]; exact (h.t5 a e).2
  · simp only [if_pos h.rb.lt]; exact h.t6
/-- The range at hand is stored anew. -/
theorem MI.setr (h : MI w W t bs As ns cs I Ao no co F bf Af nf cf R gr v1 h1 l1 v2 h2 l2) (x1 : Bool) (x2 x3 : Nat) (x4 : Bool) (x5 x6 : Nat) : MI w (rset W gr x1 x2 x3 x4 x5 x6) t bs As ns cs I Ao no co F bf Af nf cf R gr x1 x2 x3 x4 x5 x6 := by
  have hg := rset_grown W gr x1 x2 x3 x4 x5 x6
  have n1 : some bs ≠ some gr := fun e => by have a := h.t1; rw [Option.some.inj e, h.t6] at a; omega
  have n2 : ∀ j, (Value.slice As ns cs).ownBlock = some j → some j ≠ some gr := fun j hj e => by have a := h.t2 j hj; rw [Option.some.inj e, h.t6] at a; omega
  have n3 : ∀ j, (Value.slice Ao no co).ownBlock = some j → some j ≠ some gr := fun j hj e => by have a := h.t3 j hj; rw [Option.some.inj e, h.t6] at a; omega
  have n4 : some bf ≠ some gr := fun e => by have a := h.t4; rw [Option.some.inj e, h.t6] at a; omega
  have n5 : ∀ a, Af = some a → some a.block ≠ some gr := fun a e0 e => by have a := (h.t5 a e0).2; rw [Option.some.inj e, h.t6] at a; omega
  exact ⟨h.B.grown hg h.B.size (fun k hk => by cases hk; exact h.gge), h.bge, h.fge, h.gge, (hg.block bs h.sb.lt n1).trans h.sb, ⟨h.sr.1, own_only h.sr.2 hg n2⟩, ⟨h.or.1, own_only h.or.2 hg n3⟩, h.fb.only hg n4, h.fr.only hg n5, h.fn, h.rb.set x1 x2 x3 x4 x5 x6, h.t1, h.t2, h.t3, h.t4, fun a e => ⟨Nat.lt_of_lt_of_le (h.t5 a e).1 hg.size, (h.t5 a e).2⟩, h.t6⟩
end Go.Proofs.Ytmcelgnifpfjpaa

/- Contract of the program of layer 7: greatestIn. -/
namespace Go.Proofs.Ytmcelgnifpfjpaa
open Go.ChangeShapes Go.WideShapes Go.ChangeAt Go.RowKit
set_option linter.unusedVariables false

theorem pb_al {w : World} {g : Nat} {v : Bool} {h l : Nat} {k : Int} (hp : PB w g v h l k) (o : Obj) : PB (w.alloc o) g v h l k := hp.al o
theorem key_adN {v : Bool} {n m : Nat} (h1 : n < 2 ^ width v) (h2 : m < 2 ^ width v) : decide (kA (adN v n) < kA (adN v m)) = decide (n < m) := by
  rw [decide_eq_decide, (adN_fits h1).2.2, (adN_fits h2).2.2]
  omega
set_option maxHeartbeats 40000000 in
set_option maxRecDepth 20000 in
theorem pgreat_any (v1 : Bool) (h1 l1 h2 l2 : Nat) (w : World) (hf : (⟨⟨v1, h1, l1⟩, ⟨v1, h2, l2⟩⟩ : Rg).fits) (hs : someR ⟨⟨v1, h1, l1⟩, ⟨v1, h2, l2⟩⟩ = true) :
    Calls Try.prog 55 #[.agg #[.bool v1, .int .u64 h1, .int .u64 l1, .bool v1, .int .u64 h2, .int .u64 l2]] w fun e w' => ∃ A n c, e = .returned (.slice A n c) ∧ OwnP w' w.heap.size A n c ((dec (numA h1 l1) (numA h2 l2) (width v1) 0).map (pf v1)) ∧ n ≤ 258 ∧ Below w.heap.size w w' := by
  have hsv := someR_iff.1 hs
  have k1 := nA_key hf.1 hsv.1
  have k2 := nA_key hf.2 hsv.2.1
  have e1 : adN v1 (numA h1 l1) = ⟨v1, h1, l1⟩ := adN_nA hf.1
  have e2 : adN v1 (numA h2 l2) = ⟨v1, h2, l2⟩ := adN_nA hf.2
  obtain ⟨lo, hlo⟩ : ∃ lo, lo = numA h1 l1 := ⟨_, rfl⟩
  obtain ⟨hi, hhi⟩ : ∃ hi, hi = numA h2 l2 := ⟨_, rfl⟩
  have hlo2 : lo < 2 ^ width v1 := by rw [hlo]; exact k1.2
  have hhi2 : hi < 2 ^ width v1 := by rw [hhi]; exact k2.2
  rw [← hlo] at e1 ⊢
  rw [← hhi] at e2 ⊢
  have hwd : width v1 ≤ 128 := by unfold width; split <;> omega
  obtain ⟨T, hT⟩ : ∃ T, T = dec lo hi (width v1) 0 := ⟨_, rfl⟩
  have HTL := Lib.hid (show T.length ≤ 258 by rw [hT]; have := dec_len (lo := lo) (hi := hi) (e := width v1) (n := 0); omega)
  rw [← hT]
  have HT := Lib.hid hT
  have HE1 := Lib.hid e1
  have HE2 := Lib.hid e2
  have HLT := Lib.hid (And.intro hlo2 hhi2)
  have HFT := Lib.hid hf
  clear hf hs hsv k1 k2 hlo hhi e1 e2 hT hlo2 hhi2
  have HR0 := Lib.hid ((rb_new w v1 h1 l1 v1 h2 l2).al (.cells #[.slice none 0 0] 76))
  have HB0 := Lib.hid (below2 w (.cells #[.bool v1, .int .u64 h1, .int .u64 l1, .bool v1, .int .u64 h2, .int .u64 l2] 43) (.cells #[.slice none 0 0] 76))
  have HS0 := Lib.hid (show SBP ((w.alloc (.cells #[.bool v1, .int .u64 h1, .int .u64 l1, .bool v1, .int .u64 h2, .int .u64 l2] 43)).alloc (.cells #[.slice none 0 0] 76)) (w.heap.size + 1) none 0 0 from heap2 w _ _)
  go_enter Try.func55, Try.ntmps55
  go_wp2_with fail
  obtain ⟨bs, hbs⟩ : ∃ b, b = w.heap.size + 1 := ⟨_, rfl⟩
  obtain ⟨W0, hW0⟩ : ∃ W, W = ((w.alloc (.cells #[.bool v1, .int .u64 h1, .int .u64 l1, .bool v1, .int .u64 h2, .int .u64 l2] 43)).alloc (.cells #[.slice none 0 0] 76)).alloc (.cells #[.bool v1, .int .u64 0, .int .u64 0, .int .i64 0] 37) := ⟨_, rfl⟩
  obtain ⟨ga, hga⟩ : ∃ g, g = w.heap.size + 1 + 1 := ⟨_, rfl⟩
  have hroot : pf v1 (0, width v1) = ⟨v1, 0, 0, 0⟩ := by simp [pf]
  have hPB : W0.heap[ga]? = some (.cells #[.bool v1, .int .u64 0, .int .u64 0, .int .i64 0] 37 (0, 0)) := by
    rw [hW0, hga]
    have := heap_alloc_new ((w.alloc (.cells #[.bool v1, .int .u64 h1, .int .u64 l1, .bool v1, .int .u64 h2, .int .u64 l2] 43)).alloc (.cells #[.slice none 0 0] 76)) (.cells #[.bool v1, .int .u64 0, .int .u64 0, .int .i64 0] 37)
    rwa [show ((w.alloc (.cells #[.bool v1, .int .u64 h1, .int .u64 l1, .bool v1, .int .u64 h2, .int .u64 l2] 43)).alloc (.cells #[.slice none 0 0] 76)).heap.size = w.heap.size + 1 + 1 by simp] at this
  have HPR := Lib.hid (show RowL EP W0 (some ⟨ga, 0, none⟩) [pf v1 (0, width v1)] from rowl_block hPB (by rw [hroot]; rfl))
  have HR1 := Lib.hid (show RB W0 w.heap.size v1 h1 l1 v1 h2 l2 from by rw [hW0]; exact HR0.out.al _)
  have HS1 := Lib.hid (show SBP W0 bs none 0 0 from by rw [hW0, hbs]; exact HS0.out.kept (below_alloc6 _ _))
  have HB1 := Lib.hid (show Below w.heap.size w W0 from by rw [hW0]; exact HB0.out.alloc HB0.out.size _)
  have HPUT := Lib.hid (putP_any bs w.heap.size none (some ⟨ga, 0, none⟩) 0 0 1 1 [] [pf v1 (0, width v1)] W0 HS1.out (.inr trivial) (OwnP.nil W0 w.heap.size) HPR.out rfl (by omega) HB1.out.size (fun j hj => by simp [Value.ownBlock] at hj) (fun a ha => by
    obtain rfl := Option.some.inj ha
    exact ⟨by show ga ≠ bs; omega, by simp [Value.ownBlock]⟩))
  rw [show (Value.slice none 0 0).ownBlock = none from rfl] at HPUT
  have HGE := Lib.hid (show w.heap.size ≤ bs ∧ bs ≠ w.heap.size from by omega)
  have HGW := Lib.hid (show w.heap.size < W0.heap.size from HR1.out.lt)
  rw [← hW0, ← hga, ← hbs]
  clear hW0 hga hbs hPB HPR HR0 HB0 HS0
  refine HPUT.out.mono ?_
  rintro e w1 ⟨rfl, A1, c1, p1, p2, p3, p4⟩
  rw [Nat.zero_add, List.nil_append, List.reverse_singleton] at *
  have HR2 := Lib.hid (show RB w1 w.heap.size v1 h1 l1 v1 h2 l2 from (p3.block _ HR1.out.lt (fun e => HGE.out.2 e.symm) (fun e => by cases e)).trans HR1.out)
  have HB2 := Lib.hid (show Below w.heap.size w w1 from HB1.out.trans ⟨p3.os, p3.tape, p3.output, p3.size, fun y hy => p3.block y (Nat.lt_of_lt_of_le hy HB1.out.size) (fun e => by have := HGE.out.1; omega) (fun e => by cases e)⟩)
  have HTK := Lib.hid (takeP_any bs w.heap.size A1 1 c1 [] (pf v1 (0, width v1)) w1 p1 p2 (by omega) (fun j hj => (p4 j hj).1))
  rw [hroot] at HTK
  have HP2 := Lib.hid p2
  have HP4 := Lib.hid p4
  clear p1 p2 p3 p4 HPUT HR1 HB1 HS1
  go_wp2_with fail
  refine HTK.out.mono ?_
  rintro e w2 ⟨rfl, q1, q2⟩
  have HGI := Lib.hid (show ∃ t, GI w (w2.alloc (.cells #[.bool v1, .int .u64 ((0 : Nat) : Int), .int .u64 ((0 : Nat) : Int), .int .i64 ((0 : Nat) : Int)] 37)) t bs A1 0 c1 [] none 0 0 [] w.heap.size v1 h1 l1 v1 h2 l2 w2.heap.size v1 0 0 ((0 : Nat) : Int) from by
    have hgr : w.heap.size < w1.heap.size := HR2.out.lt
    have hown : OwnP w2 w.heap.size A1 1 c1 [pf v1 (0, width v1)] := ⟨HP2.out.1, own_only HP2.out.2 q2 (fun c hc e => (HP4.out c hc).1 (Option.some.inj e))⟩
    have hcut := own_cut (E := EP) (m := 0) hown.2 hown.1 (by omega)
    have hB3 : Below w.heap.size w w2 := HB2.out.grown q2 HB2.out.size (fun k hk => by cases hk; exact HGE.out.1)
    have hr3 : RB w2 w.heap.size v1 h1 l1 v1 h2 l2 := HR2.out.grown q2 (fun e => HGE.out.2 (Option.some.inj e).symm)
    have hbl := q1.lt
    have hsz := q2.size
    have hown2 : (Value.slice A1 0 c1).ownBlock = (Value.slice A1 1 c1).ownBlock := by cases A1 <;> rfl
    refine ⟨fun y => if y = bs then 1 else if y = w.heap.size then 4 else if y = w2.heap.size then 5 else 2, hB3.alloc hB3.size _, HGE.out.1, hB3.size, q1.kept (below_alloc6 _ _), OwnP.al ⟨rfl, hcut⟩ _, (OwnP.nil w2 w.heap.size).al _, hr3.al _, pb_new w2 v1 0 0 0, ?_, fun j hj => ?_, fun j hj => by simp [Value.ownBlock] at hj, ?_, ?_⟩
    · simp
    · rw [hown2] at hj
      have h5 := HP4.out j hj
      have h6 := (hown.2.lt j hj)
      have h7 : j ≠ w.heap.size := by
        rcases h5.2 with h8 | h8
        · cases h8
        · have := HGW.out; omega
      simp only [if_neg h5.1, if_neg h7, if_neg (show ¬ j = w2.heap.size by omega)]
    · simp only [if_neg (show ¬ w.heap.size = bs from fun e => HGE.out.2 e.symm)]
      simp
    · simp only [if_neg (show ¬ w2.heap.size = bs by omega), if_neg (show ¬ w2.heap.size = w.heap.size by omega)]
      simp)
  obtain ⟨gp, hgp⟩ : ∃ g, g = w2.heap.size := ⟨_, rfl⟩
  rw [← hgp] at HGI
  clear q1 q2 HTK HR2 HB2 HP2 HP4
  go_wp2_with fail
  rw [← hgp]
  obtain ⟨W3, hW3⟩ : ∃ W, W = w2.alloc (.cells #[.bool v1, .int .u64 ((0 : Nat) : Int), .int .u64 ((0 : Nat) : Int), .int .i64 ((0 : Nat) : Int)] 37) := ⟨_, rfl⟩
  rw [← hW3] at HGI
  rw [show w2.alloc (.cells #[.bool v1, .int .u64 0, .int .u64 0, .int .i64 0] 37) = W3 from hW3.symm]
  obtain ⟨t, hGI⟩ := HGI.out
  have HGI := Lib.hid hGI
  have HST := Lib.hid (show ∃ n e, (0 : Nat) = n / 18446744073709551616 ∧ (0 : Nat) = n % 18446744073709551616 ∧ (0 : Nat) = width v1 - e ∧ sOK (width v1) [(n, e)] ∧ ([] : List (Nat × Nat)) ++ decL lo hi [(n, e)] = T ∧ costL lo hi [(n, e)] ≤ costL lo hi [(0, width v1)] from
    ⟨0, width v1, rfl, rfl, by omega, ⟨by simp, Nat.dvd_zero _, by omega, trivial⟩, by rw [decL_cons, HT.out]; simp [decL], Nat.le_refl _⟩)
  clear hGI hW3 hgp
  go_loopg [3, 5, 6] (costL lo hi [(0, width v1)]) (fun k s3 s5 s6 wr => ∃ t : Nat → Nat, ∃ As Ao : Option Addr, ∃ ns cs no co gp : Nat, ∃ S Fm : List (Nat × Nat), ∃ ph pl kk : Nat, ∃ d pv : Bool, s3 = .slice Ao no co ∧ s5 = .pointer (some ⟨gp, 0, none⟩) ∧ s6 = .bool d ∧ Hid (GI w wr t bs As ns cs ((S.map (pf v1)).reverse) Ao no co (Fm.map (pf v1)) w.heap.size v1 h1 l1 v1 h2 l2 gp pv ph pl (kk : Int)) ∧ Hid (d = false → Fm = T) ∧ Hid (d = true → pv = v1 ∧ ∃ n e, ph = n / 18446744073709551616 ∧ pl = n % 18446744073709551616 ∧ kk = width v1 - e ∧ sOK (width v1) ((n, e) :: S) ∧ Fm ++ decL lo hi ((n, e) :: S) = T ∧ costL lo hi ((n, e) :: S) ≤ k))
  case atStart => exact ⟨t, A1, none, 0, c1, 0, 0, gp, [], [], 0, 0, 0, true, v1, rfl, rfl, rfl, HGI, Lib.hid (fun e => Bool.noConfusion e), Lib.hid (fun _ => ⟨rfl, HST.out⟩)⟩
  case round =>
    clear HGI HST
    obtain ⟨t, As, Ao, ns, cs, no, co, gp, S, Fm, ph, pl, kk, d, pv, rfl, rfl, rfl, HGI, HF0, HF1⟩ := hrel
    cases d with
    | false =>
      have HFT := Lib.hid (HF0.out rfl)
      have HOR := Lib.hid HGI.out.or
      have HBE := Lib.hid HGI.out.B
      clear HF0 HF1 HGI
      go_wp2_with fail
      go_ret
      refine ⟨Ao, no, co, rfl, by rw [← HFT.out]; exact HOR.out, ?_, HBE.out⟩
      have h1 := HOR.out.1
      have h2 := HTL.out
      rw [HFT.out, List.length_map] at h1
      omega
    | true =>
      obtain ⟨hpv, n, e, hph, hpl, hkk, hok, hT, hcost⟩ := HF1.out rfl
      have hpv := hpv.symm
      subst hpv
      have HOK := Lib.hid hok
      obtain ⟨hS1, hdv, hnW, hS4⟩ := hok
      have heW : e ≤ width v1 := by omega
      have hp2 := Nat.two_pow_pos e
      have hnl : n < 2 ^ width v1 := by omega
      have hml : n + 2 ^ e - 1 < 2 ^ width v1 := by omega
      have hbd := pf_bounds (v := v1) heW hdv hnW
      have hA : adN v1 n = ⟨v1, ph, pl⟩ := by rw [hph, hpl]; rfl
      obtain ⟨bh, bl, hBB⟩ : ∃ bh bl, adN v1 (n + 2 ^ e - 1) = ⟨v1, bh, bl⟩ := ⟨_, _, rfl⟩
      have hfn := (adN_fits hnl).1
      have hfm := (adN_fits hml).1
      rw [hA] at hfn
      rw [hBB] at hfm
      have HBD := Lib.hid (show ∀ W, Calls Try.prog 60 #[.agg #[.bool v1, .int .u64 ph, .int .u64 pl, .int .i64 kk]] W fun e w' => e = .returned (.agg #[.bool v1, .int .u64 ph, .int .u64 pl, .bool v1, .int .u64 bh, .int .u64 bl]) ∧ Below W.heap.size W w' from fun W => by
        have hh := Ad.mk.inj hBB
        have h := qbounds_any v1 ph pl kk W hfn.1 hfn.2 (by rw [hph, hpl, hkk]; exact hbd.1)
        rw [hkk, hph, hpl, hbd.2.1, hbd.2.2] at h
        rw [hkk, hph, hpl, ← hh.2.1, ← hh.2.2]
        exact h)
      have hk4 : ∀ {a b : Nat} {x y : Ad} (h1 : a < 2 ^ width v1) (h2 : b < 2 ^ width v1) (hx : adN v1 a = x) (hy : adN v1 b = y) (W : World), Calls Try.prog 39 #[.agg #[.bool x.v, .int .u64 x.h, .int .u64 x.l], .agg #[.bool y.v, .int .u64 y.h, .int .u64 y.l]] W fun e w' => e = .returned (.bool (decide (a < b))) ∧ Below W.heap.size W w' := fun h1 h2 hx hy W => by
        have h := pbef_key (adN_fits h1).1 (adN_fits h2).1 W
        rw [key_adN h1 h2, hx, hy] at h
        exact h
      have HT1 := Lib.hid (fun W => hk4 hml HLT.out.1 hBB HE1.out W)
      have HT2 := Lib.hid (fun W => hk4 HLT.out.2 hnl HE2.out hA W)
      have HT3 := Lib.hid (fun W => hk4 hnl HLT.out.1 hA HE1.out W)
      have HT4 := Lib.hid (fun W => hk4 HLT.out.2 hml HE2.out hBB W)
      simp only at HT1 HT2 HT3 HT4
      have hFl : Fm.length ≤ 258 := by have h1 := HTL.out; rw [← hT, List.length_append] at h1; omega
      have hno : no ≤ 258 := by have := HGI.out.or.1; rw [List.length_map] at this; omega
      have hns : ns = S.length := by have := HGI.out.sr.1; rwa [List.length_reverse, List.length_map] at this
      have hns2 : ns ≤ 200 := by omega
      have HNS := Lib.hid hns
      have HPF := Lib.hid (show pf v1 (n, e) = ⟨v1, ph, pl, (kk : Int)⟩ from by rw [hph, hpl, hkk]; rfl)
      have HTT := Lib.hid hT
      have HCO := Lib.hid hcost
      have HR := Lib.hid HGI.out.rb
      have HP := Lib.hid HGI.out.pb
      have HB := Lib.hid HGI.out.B
      have hkk9 : kk ≤ 128 := by omega
      have HMK := Lib.hid (fun (e' : Nat) (he : e = e' + 1) => pf_make (v := v1) (n := n) (e := e') (by omega) (by rw [← he]; exact hdv) (by rw [← he]; exact hnW))
      have HFI := Lib.hid (And.intro hfn hfm)
      have HPH := Lib.hid (And.intro hph (And.intro hpl (And.intro hkk hBB)))
      have HDV := Lib.hid (And.intro hnW heW)
      by_cases t1 : n + 2 ^ e - 1 < lo
      · rw [decide_eq_true t1] at HT1
        have HD := Lib.hid (show dec lo hi e n = [] from dec_out (.inl (by omega)))
        clear hph hpl hkk hS1 hdv hnW hS4 heW hp2 hnl hml hbd hA hBB hfn hfm hk4 hFl hns hT hcost HF0 HF1 t1
        have y1_0 : wr.cell? ⟨w.heap.size, 0, none⟩ = some (.bool v1) := (HR.out.c 0).trans rfl
        have y1_1 : wr.cell? ⟨w.heap.size, 1, none⟩ = some (.int .u64 h1) := (HR.out.c 1).trans rfl
        have y1_2 : wr.cell? ⟨w.heap.size, 2, none⟩ = some (.int .u64 l1) := (HR.out.c 2).trans rfl
        have y1_3 : wr.cell? ⟨w.heap.size, 3, none⟩ = some (.bool v1) := (HR.out.c 3).trans rfl
        have y1_4 : wr.cell? ⟨w.heap.size, 4, none⟩ = some (.int .u64 h2) := (HR.out.c 4).trans rfl
        have y1_5 : wr.cell? ⟨w.heap.size, 5, none⟩ = some (.int .u64 l2) := (HR.out.c 5).trans rfl
        have yl1 := HR.out.lt
        have y2_0 : wr.cell? ⟨gp, 0, none⟩ = some (.bool v1) := HP.out.c0
        have y2_1 : wr.cell? ⟨gp, 1, none⟩ = some (.int .u64 ph) := HP.out.c1
        have y2_2 : wr.cell? ⟨gp, 2, none⟩ = some (.int .u64 pl) := HP.out.c2
        have y2_3 : wr.cell? ⟨gp, 3, none⟩ = some (.int .i64 kk) := HP.out.c3
        have yl2 := HP.out.lt
        go_wp2_with fail
        clear y1_0 y1_1 y1_2 y1_3 y1_4 y1_5 yl1 y2_0 y2_1 y2_2 y2_3 yl2
        refine (HBD.out _).mono ?_
        rintro e w11 ⟨rfl, hb⟩
        have HGI_1 := Lib.hid (show GI w w11 t bs As ns cs ((S.map (pf v1)).reverse) Ao no co (Fm.map (pf v1)) w.heap.size v1 h1 l1 v1 h2 l2 gp v1 ph pl (kk : Int) from HGI.out.kept hb)
        have HR_1 := Lib.hid (show RB w11 w.heap.size v1 h1 l1 v1 h2 l2 from HR.out.kept hb HR.out.lt)
        have HP_1 := Lib.hid (show PB w11 gp v1 ph pl kk from HP.out.kept hb HP.out.lt)
        have HB_1 := Lib.hid (HB.out.trans (hb.mono HB.out.size))
        clear hb HGI HR HP HB
        have y1_0 : w11.cell? ⟨w.heap.size, 0, none⟩ = some (.bool v1) := (HR_1.out.c 0).trans rfl
        have y1_1 : w11.cell? ⟨w.heap.size, 1, none⟩ = some (.int .u64 h1) := (HR_1.out.c 1).trans rfl
        have y1_2 : w11.cell? ⟨w.heap.size, 2, none⟩ = some (.int .u64 l1) := (HR_1.out.c 2).trans rfl
        have y1_3 : w11.cell? ⟨w.heap.size, 3, none⟩ = some (.bool v1) := (HR_1.out.c 3).trans rfl
        have y1_4 : w11.cell? ⟨w.heap.size, 4, none⟩ = some (.int .u64 h2) := (HR_1.out.c 4).trans rfl
        have y1_5 : w11.cell? ⟨w.heap.size, 5, none⟩ = some (.int .u64 l2) := (HR_1.out.c 5).trans rfl
        have yl1 := HR_1.out.lt
        have y2_0 : w11.cell? ⟨gp, 0, none⟩ = some (.bool v1) := HP_1.out.c0
        have y2_1 : w11.cell? ⟨gp, 1, none⟩ = some (.int .u64 ph) := HP_1.out.c1
        have y2_2 : w11.cell? ⟨gp, 2, none⟩ = some (.int .u64 pl) := HP_1.out.c2
        have y2_3 : w11.cell? ⟨gp, 3, none⟩ = some (.int .i64 kk) := HP_1.out.c3
        have yl2 := HP_1.out.lt
        go_wp2_with fail
        clear y1_0 y1_1 y1_2 y1_3 y1_4 y1_5 yl1 y2_0 y2_1 y2_2 y2_3 yl2
        obtain ⟨W13, hW13⟩ : ∃ W, W = w11.alloc (.cells #[.bool v1, .int .u64 ph, .int .u64 pl, .bool v1, .int .u64 bh, .int .u64 bl] 43) := ⟨_, rfl⟩
        obtain ⟨gq, hgq⟩ : ∃ g, g = w11.heap.size := ⟨_, rfl⟩
        have HGI_2 := Lib.hid (show GI w W13 t bs As ns cs ((S.map (pf v1)).reverse) Ao no co (Fm.map (pf v1)) w.heap.size v1 h1 l1 v1 h2 l2 gp v1 ph pl (kk : Int) from by rw [hW13]; exact HGI_1.out.al _)
        have HR_2 := Lib.hid (show RB W13 w.heap.size v1 h1 l1 v1 h2 l2 from by rw [hW13]; exact HR_1.out.al _)
        have HP_2 := Lib.hid (show PB W13 gp v1 ph pl kk from by rw [hW13]; exact HP_1.out.al _)
        have Lgq := Lib.hid (show w.heap.size < gq ∧ gp < gq ∧ w.heap.size ≤ gq from by rw [hgq]; exact ⟨HR_1.out.lt, HP_1.out.lt, HB_1.out.size⟩)
        have HQ := Lib.hid (show RB W13 gq v1 ph pl v1 bh bl from by rw [hW13, hgq]; exact rb_new w11 v1 ph pl v1 bh bl)
        have HSZgq := Lib.hid (show W13.heap.size = gq + 1 from by rw [hW13, hgq]; simp)
        have HB_2 := Lib.hid (show Below w.heap.size w W13 by rw [hW13]; exact HB_1.out.alloc HB_1.out.size _)
        clear HGI_1 HR_1 HP_1 HB_1
        rw [← hW13, ← hgq]
        clear hW13 hgq
        have y1_0 : W13.cell? ⟨w.heap.size, 0, none⟩ = some (.bool v1) := (HR_2.out.c 0).trans rfl
        have y1_1 : W13.cell? ⟨w.heap.size, 1, none⟩ = some (.int .u64 h1) := (HR_2.out.c 1).trans rfl
        have y1_2 : W13.cell? ⟨w.heap.size, 2, none⟩ = some (.int .u64 l1) := (HR_2.out.c 2).trans rfl
        have y1_3 : W13.cell? ⟨w.heap.size, 3, none⟩ = some (.bool v1) := (HR_2.out.c 3).trans rfl
        have y1_4 : W13.cell? ⟨w.heap.size, 4, none⟩ = some (.int .u64 h2) := (HR_2.out.c 4).trans rfl
        have y1_5 : W13.cell? ⟨w.heap.size, 5, none⟩ = some (.int .u64 l2) := (HR_2.out.c 5).trans rfl
        have yl1 := HR_2.out.lt
        have y2_0 : W13.cell? ⟨gp, 0, none⟩ = some (.bool v1) := HP_2.out.c0
        have y2_1 : W13.cell? ⟨gp, 1, none⟩ = some (.int .u64 ph) := HP_2.out.c1
        have y2_2 : W13.cell? ⟨gp, 2, none⟩ = some (.int .u64 pl) := HP_2.out.c2
        have y2_3 : W13.cell? ⟨gp, 3, none⟩ = some (.int .i64 kk) := HP_2.out.c3
        have yl2 := HP_2.out.lt
        have y3_0 : W13.cell? ⟨gq, 0, none⟩ = some (.bool v1) := (HQ.out.c 0).trans rfl
        have y3_1 : W13.cell? ⟨gq, 1, none⟩ = some (.int .u64 ph) := (HQ.out.c 1).trans rfl
        have y3_2 : W13.cell? ⟨gq, 2, none⟩ = some (.int .u64 pl) := (HQ.out.c 2).trans rfl
        have y3_3 : W13.cell? ⟨gq, 3, none⟩ = some (.bool v1) := (HQ.out.c 3).trans rfl
        have y3_4 : W13.cell? ⟨gq, 4, none⟩ = some (.int .u64 bh) := (HQ.out.c 4).trans rfl
        have y3_5 : W13.cell? ⟨gq, 5, none⟩ = some (.int .u64 bl) := (HQ.out.c 5).trans rfl
        have yl3 := HQ.out.lt
        clear y1_0 y1_1 y1_2 y1_3 y1_4 y1_5 yl1 y2_0 y2_1 y2_2 y2_3 yl2 y3_0 y3_1 y3_2 y3_3 y3_4 y3_5 yl3
        refine (HT1.out _).mono ?_
        rintro e w13 ⟨rfl, hb⟩
        have HGI_3 := Lib.hid (show GI w w13 t bs As ns cs ((S.map (pf v1)).reverse) Ao no co (Fm.map (pf v1)) w.heap.size v1 h1 l1 v1 h2 l2 gp v1 ph pl (kk : Int) from HGI_2.out.kept hb)
        have HR_3 := Lib.hid (show RB w13 w.heap.size v1 h1 l1 v1 h2 l2 from HR_2.out.kept hb HR_2.out.lt)
        have HP_3 := Lib.hid (show PB w13 gp v1 ph pl kk from HP_2.out.kept hb HP_2.out.lt)
        have HQ_3 := Lib.hid (show RB w13 gq v1 ph pl v1 bh bl from HQ.out.kept hb HQ.out.lt)
        have HB_3 := Lib.hid (HB_2.out.trans (hb.mono HB_2.out.size))
        clear hb HGI_2 HR_2 HP_2 HQ HB_2
        have y1_0 : w13.cell? ⟨w.heap.size, 0, none⟩ = some (.bool v1) := (HR_3.out.c 0).trans rfl
        have y1_1 : w13.cell? ⟨w.heap.size, 1, none⟩ = some (.int .u64 h1) := (HR_3.out.c 1).trans rfl
        have y1_2 : w13.cell? ⟨w.heap.size, 2, none⟩ = some (.int .u64 l1) := (HR_3.out.c 2).trans rfl
        have y1_3 : w13.cell? ⟨w.heap.size, 3, none⟩ = some (.bool v1) := (HR_3.out.c 3).trans rfl
        have y1_4 : w13.cell? ⟨w.heap.size, 4, none⟩ = some (.int .u64 h2) := (HR_3.out.c 4).trans rfl
        have y1_5 : w13.cell? ⟨w.heap.size, 5, none⟩ = some (.int .u64 l2) := (HR_3.out.c 5).trans rfl
        have yl1 := HR_3.out.lt
        have y2_0 : w13.cell? ⟨gp, 0, none⟩ = some (.bool v1) := HP_3.out.c0
        have y2_1 : w13.cell? ⟨gp, 1, none⟩ = some (.int .u64 ph) := HP_3.out.c1
        have y2_2 : w13.cell? ⟨gp, 2, none⟩ = some (.int .u64 pl) := HP_3.out.c2
        have y2_3 : w13.cell? ⟨gp, 3, none⟩ = some (.int .i64 kk) := HP_3.out.c3
        have yl2 := HP_3.out.lt
        have y3_0 : w13.cell? ⟨gq, 0, none⟩ = some (.bool v1) := (HQ_3.out.c 0).trans rfl
        have y3_1 : w13.cell? ⟨gq, 1, none⟩ = some (.int .u64 ph) := (HQ_3.out.c 1).trans rfl
        have y3_2 : w13.cell? ⟨gq, 2, none⟩ = some (.int .u64 pl) := (HQ_3.out.c 2).trans rfl
        have y3_3 : w13.cell? ⟨gq, 3, none⟩ = some (.bool v1) := (HQ_3.out.c 3).trans rfl
        have y3_4 : w13.cell? ⟨gq, 4, none⟩ = some (.int .u64 bh) := (HQ_3.out.c 4).trans rfl
        have y3_5 : w13.cell? ⟨gq, 5, none⟩ = some (.int .u64 bl) := (HQ_3.out.c 5).trans rfl
        have yl3 := HQ_3.out.lt
        go_wp2_with fail
        clear y1_0 y1_1 y1_2 y1_3 y1_4 y1_5 yl1 y2_0 y2_1 y2_2 y2_3 yl2 y3_0 y3_1 y3_2 y3_3 y3_4 y3_5 yl3
        obtain ⟨t9, hG9⟩ := HGI_3.out.newp v1 ph pl (kk : Int)
        obtain ⟨Wn, hWn⟩ : ∃ W, W = w13.alloc (.cells #[.bool v1, .int .u64 ph, .int .u64 pl, .int .i64 kk] 37) := ⟨_, rfl⟩
        obtain ⟨gn, hgn⟩ : ∃ g, g = w13.heap.size := ⟨_, rfl⟩
        rw [← hWn, ← hgn] at hG9
        rw [← hWn, ← hgn]
        have HGN := Lib.hid hG9
        clear hG9 hWn hgn HGI_3 HR_3 HP_3 HQ_3 HB_3
        cases S with
        | nil =>
          obtain rfl : ns = 0 := HNS.out
          have HTK := Lib.hid (takeP_none bs As cs Wn HGN.out.sb)
          have HFT9 := Lib.hid (show Fm = T from by have := HTT.out; rw [decL_cons, HD.out] at this; simpa [decL] using this)
          have hgk : 0 < gk := Nat.lt_of_lt_of_le (by rw [costL_cons]; exact Nat.lt_of_lt_of_le (cost_pos lo hi e n) (Nat.le_add_right _ _)) HCO.out
          refine HTK.out.mono ?_
          rintro e w8 ⟨rfl, hb⟩
          have HG8 := Lib.hid (HGN.out.kept hb)
          clear hb HTK HGN
          have HP9 := Lib.hid HG8.out.pb
          have s0 := HP9.out.c0
          have sf0 := HP9.out.f 0
          have s1 := HP9.out.c1
          have sf1 := HP9.out.f 1
          have s2 := HP9.out.c2
          have sf2 := HP9.out.f 2
          have s3 := HP9.out.c3
          have sf3 := HP9.out.f 3
          have sl := HP9.out.lt
          obtain ⟨W9, hW9⟩ : ∃ W, W = pset w8 gn false 0 0 ((0 : Nat) : Int) := ⟨_, rfl⟩
          have HG9 := Lib.hid (show GI w W9 t9 bs As 0 cs ((([] : List (Nat × Nat)).map (pf v1)).reverse) Ao no co (Fm.map (pf v1)) w.heap.size v1 h1 l1 v1 h2 l2 gn false 0 0 ((0 : Nat) : Int) from by rw [hW9]; exact HG8.out.setp false 0 0 ((0 : Nat) : Int))
          unfold pset at hW9
          have hW9 : W9 = (((w8.setCell ⟨gn, 0, none⟩ (.bool false)).setCell ⟨gn, 1, none⟩ (.int .u64 0)).setCell ⟨gn, 2, none⟩ (.int .u64 0)).setCell ⟨gn, 3, none⟩ (.int .i64 0) := hW9
          go_wp2_with fail
          rw [← hW9]
          clear hW9 s0 s1 s2 s3 sf0 sf1 sf2 sf3 sl HP9 HG8
          go_roundg (0)
          case measure => exact hgk
          case rel => exact ⟨t9, As, Ao, 0, cs, no, co, gn, [], Fm, 0, 0, 0, false, false, rfl, rfl, rfl, HG9, Lib.hid (fun _ => HFT9.out), Lib.hid (fun e => Bool.noConfusion e)⟩
        | cons y S2 =>
          obtain ⟨y1, y2⟩ := y
          have hnp : 0 < ns := by have := HNS.out; rw [List.length_cons] at this; omega
          obtain ⟨qh, ql, qk, hq, hqh, hql, hqk⟩ : ∃ qh ql qk : Nat, pf v1 (y1, y2) = ⟨v1, qh, ql, (qk : Int)⟩ ∧ qh = y1 / 18446744073709551616 ∧ ql = y1 % 18446744073709551616 ∧ qk = width v1 - y2 := ⟨_, _, _, rfl, rfl, rfl, rfl⟩
          have HTK := Lib.hid (takeP_any bs w.heap.size As ns cs ((S2.map (pf v1)).reverse) (pf v1 (y1, y2)) Wn HGN.out.sb (by have := HGN.out.sr; simpa using this) (by omega) (fun j hj e => by have a := HGN.out.t2 j hj; rw [e, HGN.out.t1] at a; omega))
          rw [hq] at HTK
          simp only at HTK
          have HTO := Lib.hid (fun W' hs hg => GI.took (x := pf v1 (y1, y2)) (I := (S2.map (pf v1)).reverse) (W' := W') (show GI w Wn t9 bs As ns cs ((S2.map (pf v1)).reverse ++ [pf v1 (y1, y2)]) Ao no co (Fm.map (pf v1)) w.heap.size v1 h1 l1 v1 h2 l2 gn v1 ph pl (kk : Int) from by have := HGN.out; simpa using this) hs hg)
          have HQ9 := Lib.hid (And.intro hqh (And.intro hql hqk))
          clear hq hqh hql hqk HGN
          refine HTK.out.mono ?_
          rintro e w8 ⟨rfl, k1, k2⟩
          have HG8 := Lib.hid (HTO.out w8 k1 k2)
          clear k1 k2 HTK HTO
          have HP9 := Lib.hid HG8.out.pb
          have s0 := HP9.out.c0
          have sf0 := HP9.out.f 0
          have s1 := HP9.out.c1
          have sf1 := HP9.out.f 1
          have s2 := HP9.out.c2
          have sf2 := HP9.out.f 2
          have s3 := HP9.out.c3
          have sf3 := HP9.out.f 3
          have sl := HP9.out.lt
          obtain ⟨W9, hW9⟩ : ∃ W, W = pset w8 gn v1 qh ql (qk : Int) := ⟨_, rfl⟩
          have HG9 := Lib.hid (show GI w W9 t9 bs As (ns - 1) cs ((S2.map (pf v1)).reverse) Ao no co (Fm.map (pf v1)) w.heap.size v1 h1 l1 v1 h2 l2 gn v1 qh ql (qk : Int) from by rw [hW9]; exact HG8.out.setp v1 qh ql (qk : Int))
          unfold pset at hW9
          go_wp2_with fail
          rw [← hW9]
          clear hW9 s0 s1 s2 s3 sf0 sf1 sf2 sf3 sl HP9 HG8
          go_roundg (costL lo hi ((y1, y2) :: S2))
          case measure => exact (by have h1 := HCO.out; rw [costL_cons] at h1; have h2 := cost_pos lo hi e n; omega)
          case rel => exact ⟨t9, As, Ao, ns - 1, cs, no, co, gn, S2, Fm, qh, ql, qk, true, v1, rfl, rfl, rfl, HG9, Lib.hid (fun e => Bool.noConfusion e), Lib.hid (fun _ => ⟨rfl, y1, y2, HQ9.out.1, HQ9.out.2.1, HQ9.out.2.2, HOK.out.2.2.2, (by have := HTT.out; rw [decL_cons, HD.out] at this; simpa using this), Nat.le_refl _⟩)⟩
      · rw [decide_eq_false t1] at HT1
        by_cases t2 : hi < n
        · rw [decide_eq_true t2] at HT2
          have HD := Lib.hid (show dec lo hi e n = [] from dec_out (.inr t2))
          clear hph hpl hkk hS1 hdv hnW hS4 heW hp2 hnl hml hbd hA hBB hfn hfm hk4 hFl hns hT hcost HF0 HF1 t1 t2
          have y1_0 : wr.cell? ⟨w.heap.size, 0, none⟩ = some (.bool v1) := (HR.out.c 0).trans rfl
          have y1_1 : wr.cell? ⟨w.heap.size, 1, none⟩ = some (.int .u64 h1) := (HR.out.c 1).trans rfl
          have y1_2 : wr.cell? ⟨w.heap.size, 2, none⟩ = some (.int .u64 l1) := (HR.out.c 2).trans rfl
          have y1_3 : wr.cell? ⟨w.heap.size, 3, none⟩ = some (.bool v1) := (HR.out.c 3).trans rfl
          have y1_4 : wr.cell? ⟨w.heap.size, 4, none⟩ = some (.int .u64 h2) := (HR.out.c 4).trans rfl
          have y1_5 : wr.cell? ⟨w.heap.size, 5, none⟩ = some (.int .u64 l2) := (HR.out.c 5).trans rfl
          have yl1 := HR.out.lt
          have y2_0 : wr.cell? ⟨gp, 0, none⟩ = some (.bool v1) := HP.out.c0
          have y2_1 : wr.cell? ⟨gp, 1, none⟩ = some (.int .u64 ph) := HP.out.c1
          have y2_2 : wr.cell? ⟨gp, 2, none⟩ = some (.int .u64 pl) := HP.out.c2
          have y2_3 : wr.cell? ⟨gp, 3, none⟩ = some (.int .i64 kk) := HP.out.c3
          have yl2 := HP.out.lt
          go_wp2_with fail
          clear y1_0 y1_1 y1_2 y1_3 y1_4 y1_5 yl1 y2_0 y2_1 y2_2 y2_3 yl2
          refine (HBD.out _).mono ?_
          rintro e w11 ⟨rfl, hb⟩
          have HGI_1 := Lib.hid (show GI w w11 t bs As ns cs ((S.map (pf v1)).reverse) Ao no co (Fm.map (pf v1)) w.heap.size v1 h1 l1 v1 h2 l2 gp v1 ph pl (kk : Int) from HGI.out.kept hb)
          have HR_1 := Lib.hid (show RB w11 w.heap.size v1 h1 l1 v1 h2 l2 from HR.out.kept hb HR.out.lt)
          have HP_1 := Lib.hid (show PB w11 gp v1 ph pl kk from HP.out.kept hb HP.out.lt)
          have HB_1 := Lib.hid (HB.out.trans (hb.mono HB.out.size))
          clear hb HGI HR HP HB
          have y1_0 : w11.cell? ⟨w.heap.size, 0, none⟩ = some (.bool v1) := (HR_1.out.c 0).trans rfl
          have y1_1 : w11.cell? ⟨w.heap.size, 1, none⟩ = some (.int .u64 h1) := (HR_1.out.c 1).trans rfl
          have y1_2 : w11.cell? ⟨w.heap.size, 2, none⟩ = some (.int .u64 l1) := (HR_1.out.c 2).trans rfl
          have y1_3 : w11.cell? ⟨w.heap.size, 3, none⟩ = some (.bool v1) := (HR_1.out.c 3).trans rfl
          have y1_4 : w11.cell? ⟨w.heap.size, 4, none⟩ = some (.int .u64 h2) := (HR_1.out.c 4).trans rfl
          have y1_5 : w11.cell? ⟨w.heap.size, 5, none⟩ = some (.int .u64 l2) := (HR_1.out.c 5).trans rfl
          have yl1 := HR_1.out.lt
          have y2_0 : w11.cell? ⟨gp, 0, none⟩ = some (.bool v1) := HP_1.out.c0
          have y2_1 : w11.cell? ⟨gp, 1, none⟩ = some (.int .u64 ph) := HP_1.out.c1
          have y2_2 : w11.cell? ⟨gp, 2, none⟩ = some (.int .u64 pl) := HP_1.out.c2
          have y2_3 : w11.cell? ⟨gp, 3, none⟩ = some (.int .i64 kk) := HP_1.out.c3
          have yl2 := HP_1.out.lt
          go_wp2_with fail
          clear y1_0 y1_1 y1_2 y1_3 y1_4 y1_5 yl1 y2_0 y2_1 y2_2 y2_3 yl2
          obtain ⟨W13, hW13⟩ : ∃ W, W = w11.alloc (.cells #[.bool v1, .int .u64 ph, .int .u64 pl, .bool v1, .int .u64 bh, .int .u64 bl] 43) := ⟨_, rfl⟩
          obtain ⟨gq, hgq⟩ : ∃ g, g = w11.heap.size := ⟨_, rfl⟩
          have HGI_2 := Lib.hid (show GI w W13 t bs As ns cs ((S.map (pf v1)).reverse) Ao no co (Fm.map (pf v1)) w.heap.size v1 h1 l1 v1 h2 l2 gp v1 ph pl (kk : Int) from by rw [hW13]; exact HGI_1.out.al _)
          have HR_2 := Lib.hid (show RB W13 w.heap.size v1 h1 l1 v1 h2 l2 from by rw [hW13]; exact HR_1.out.al _)
          have HP_2 := Lib.hid (show PB W13 gp v1 ph pl kk from by rw [hW13]; exact HP_1.out.al _)
          have Lgq := Lib.hid (show w.heap.size < gq ∧ gp < gq ∧ w.heap.size ≤ gq from by rw [hgq]; exact ⟨HR_1.out.lt, HP_1.out.lt, HB_1.out.size⟩)
          have HQ := Lib.hid (show RB W13 gq v1 ph pl v1 bh bl from by rw [hW13, hgq]; exact rb_new w11 v1 ph pl v1 bh bl)
          have HSZgq := Lib.hid (show W13.heap.size = gq + 1 from by rw [hW13, hgq]; simp)
          have HB_2 := Lib.hid (show Below w.heap.size w W13 by rw [hW13]; exact HB_1.out.alloc HB_1.out.size _)
          clear HGI_1 HR_1 HP_1 HB_1
          rw [← hW13, ← hgq]
          clear hW13 hgq
          have y1_0 : W13.cell? ⟨w.heap.size, 0, none⟩ = some (.bool v1) := (HR_2.out.c 0).trans rfl
          have y1_1 : W13.cell? ⟨w.heap.size, 1, none⟩ = some (.int .u64 h1) := (HR_2.out.c 1).trans rfl
          have y1_2 : W13.cell? ⟨w.heap.size, 2, none⟩ = some (.int .u64 l1) := (HR_2.out.c 2).trans rfl
          have y1_3 : W13.cell? ⟨w.heap.size, 3, none⟩ = some (.bool v1) := (HR_2.out.c 3).trans rfl
          have y1_4 : W13.cell? ⟨w.heap.size, 4, none⟩ = some (.int .u64 h2) := (HR_2.out.c 4).trans rfl
          have y1_5 : W13.cell? ⟨w.heap.size, 5, none⟩ = some (.int .u64 l2) := (HR_2.out.c 5).trans rfl
          have yl1 := HR_2.out.lt
          have y2_0 : W13.cell? ⟨gp, 0, none⟩ = some (.bool v1) := HP_2.out.c0
          have y2_1 : W13.cell? ⟨gp, 1, none⟩ = some (.int .u64 ph) := HP_2.out.c1
          have y2_2 : W13.cell? ⟨gp, 2, none⟩ = some (.int .u64 pl) := HP_2.out.c2
          have y2_3 : W13.cell? ⟨gp, 3, none⟩ = some (.int .i64 kk) := HP_2.out.c3
          have yl2 := HP_2.out.lt
          have y3_0 : W13.cell? ⟨gq, 0, none⟩ = some (.bool v1) := (HQ.out.c 0).trans rfl
          have y3_1 : W13.cell? ⟨gq, 1, none⟩ = some (.int .u64 ph) := (HQ.out.c 1).trans rfl
          have y3_2 : W13.cell? ⟨gq, 2, none⟩ = some (.int .u64 pl) := (HQ.out.c 2).trans rfl
          have y3_3 : W13.cell? ⟨gq, 3, none⟩ = some (.bool v1) := (HQ.out.c 3).trans rfl
          have y3_4 : W13.cell? ⟨gq, 4, none⟩ = some (.int .u64 bh) := (HQ.out.c 4).trans rfl
          have y3_5 : W13.cell? ⟨gq, 5, none⟩ = some (.int .u64 bl) := (HQ.out.c 5).trans rfl
          have yl3 := HQ.out.lt
          clear y1_0 y1_1 y1_2 y1_3 y1_4 y1_5 yl1 y2_0 y2_1 y2_2 y2_3 yl2 y3_0 y3_1 y3_2 y3_3 y3_4 y3_5 yl3
          refine (HT1.out _).mono ?_
          rintro e w13 ⟨rfl, hb⟩
          have HGI_3 := Lib.hid (show GI w w13 t bs As ns cs ((S.map (pf v1)).reverse) Ao no co (Fm.map (pf v1)) w.heap.size v1 h1 l1 v1 h2 l2 gp v1 ph pl (kk : Int) from HGI_2.out.kept hb)
          have HR_3 := Lib.hid (show RB w13 w.heap.size v1 h1 l1 v1 h2 l2 from HR_2.out.kept hb HR_2.out.lt)
          have HP_3 := Lib.hid (show PB w13 gp v1 ph pl kk from HP_2.out.kept hb HP_2.out.lt)
          have HQ_3 := Lib.hid (show RB w13 gq v1 ph pl v1 bh bl from HQ.out.kept hb HQ.out.lt)
          have HB_3 := Lib.hid (HB_2.out.trans (hb.mono HB_2.out.size))
          clear hb HGI_2 HR_2 HP_2 HQ HB_2
          have y1_0 : w13.cell? ⟨w.heap.size, 0, none⟩ = some (.bool v1) := (HR_3.out.c 0).trans rfl
          have y1_1 : w13.cell? ⟨w.heap.size, 1, none⟩ = some (.int .u64 h1) := (HR_3.out.c 1).trans rfl
          have y1_2 : w13.cell? ⟨w.heap.size, 2, none⟩ = some (.int .u64 l1) := (HR_3.out.c 2).trans rfl
          have y1_3 : w13.cell? ⟨w.heap.size, 3, none⟩ = some (.bool v1) := (HR_3.out.c 3).trans rfl
          have y1_4 : w13.cell? ⟨w.heap.size, 4, none⟩ = some (.int .u64 h2) := (HR_3.out.c 4).trans rfl
          have y1_5 : w13.cell? ⟨w.heap.size, 5, none⟩ = some (.int .u64 l2) := (HR_3.out.c 5).trans rfl
          have yl1 := HR_3.out.lt
          have y2_0 : w13.cell? ⟨gp, 0, none⟩ = some (.bool v1) := HP_3.out.c0
          have y2_1 : w13.cell? ⟨gp, 1, none⟩ = some (.int .u64 ph) := HP_3.out.c1
          have y2_2 : w13.cell? ⟨gp, 2, none⟩ = some (.int .u64 pl) := HP_3.out.c2
          have y2_3 : w13.cell? ⟨gp, 3, none⟩ = some (.int .i64 kk) := HP_3.out.c3
          have yl2 := HP_3.out.lt
          have y3_0 : w13.cell? ⟨gq, 0, none⟩ = some (.bool v1) := (HQ_3.out.c 0).trans rfl
          have y3_1 : w13.cell? ⟨gq, 1, none⟩ = some (.int .u64 ph) := (HQ_3.out.c 1).trans rfl
          have y3_2 : w13.cell? ⟨gq, 2, none⟩ = some (.int .u64 pl) := (HQ_3.out.c 2).trans rfl
          have y3_3 : w13.cell? ⟨gq, 3, none⟩ = some (.bool v1) := (HQ_3.out.c 3).trans rfl
          have y3_4 : w13.cell? ⟨gq, 4, none⟩ = some (.int .u64 bh) := (HQ_3.out.c 4).trans rfl
          have y3_5 : w13.cell? ⟨gq, 5, none⟩ = some (.int .u64 bl) := (HQ_3.out.c 5).trans rfl
          have yl3 := HQ_3.out.lt
          go_wp2_with fail
          clear y1_0 y1_1 y1_2 y1_3 y1_4 y1_5 yl1 y2_0 y2_1 y2_2 y2_3 yl2 y3_0 y3_1 y3_2 y3_3 y3_4 y3_5 yl3
          refine (HT2.out _).mono ?_
          rintro e w14 ⟨rfl, hb⟩
          have HGI_4 := Lib.hid (show GI w w14 t bs As ns cs ((S.map (pf v1)).reverse) Ao no co (Fm.map (pf v1)) w.heap.size v1 h1 l1 v1 h2 l2 gp v1 ph pl (kk : Int) from HGI_3.out.kept hb)
          have HR_4 := Lib.hid (show RB w14 w.heap.size v1 h1 l1 v1 h2 l2 from HR_3.out.kept hb HR_3.out.lt)
          have HP_4 := Lib.hid (show PB w14 gp v1 ph pl kk from HP_3.out.kept hb HP_3.out.lt)
          have HQ_4 := Lib.hid (show RB w14 gq v1 ph pl v1 bh bl from HQ_3.out.kept hb HQ_3.out.lt)
          have HB_4 := Lib.hid (HB_3.out.trans (hb.mono HB_3.out.size))
          clear hb HGI_3 HR_3 HP_3 HQ_3 HB_3
          have y1_0 : w14.cell? ⟨w.heap.size, 0, none⟩ = some (.bool v1) := (HR_4.out.c 0).trans rfl
          have y1_1 : w14.cell? ⟨w.heap.size, 1, none⟩ = some (.int .u64 h1) := (HR_4.out.c 1).trans rfl
          have y1_2 : w14.cell? ⟨w.heap.size, 2, none⟩ = some (.int .u64 l1) := (HR_4.out.c 2).trans rfl
          have y1_3 : w14.cell? ⟨w.heap.size, 3, none⟩ = some (.bool v1) := (HR_4.out.c 3).trans rfl
          have y1_4 : w14.cell? ⟨w.heap.size, 4, none⟩ = some (.int .u64 h2) := (HR_4.out.c 4).trans rfl
          have y1_5 : w14.cell? ⟨w.heap.size, 5, none⟩ = some (.int .u64 l2) := (HR_4.out.c 5).trans rfl
          have yl1 := HR_4.out.lt
          have y2_0 : w14.cell? ⟨gp, 0, none⟩ = some (.bool v1) := HP_4.out.c0
          have y2_1 : w14.cell? ⟨gp, 1, none⟩ = some (.int .u64 ph) := HP_4.out.c1
          have y2_2 : w14.cell? ⟨gp, 2, none⟩ = some (.int .u64 pl) := HP_4.out.c2
          have y2_3 : w14.cell? ⟨gp, 3, none⟩ = some (.int .i64 kk) := HP_4.out.c3
          have yl2 := HP_4.out.lt
          have y3_0 : w14.cell? ⟨gq, 0, none⟩ = some (.bool v1) := (HQ_4.out.c 0).trans rfl
          have y3_1 : w14.cell? ⟨gq, 1, none⟩ = some (.int .u64 ph) := (HQ_4.out.c 1).trans rfl
          have y3_2 : w14.cell? ⟨gq, 2, none⟩ = some (.int .u64 pl) := (HQ_4.out.c 2).trans rfl
          have y3_3 : w14.cell? ⟨gq, 3, none⟩ = some (.bool v1) := (HQ_4.out.c 3).trans rfl
          have y3_4 : w14.cell? ⟨gq, 4, none⟩ = some (.int .u64 bh) := (HQ_4.out.c 4).trans rfl
          have y3_5 : w14.cell? ⟨gq, 5, none⟩ = some (.int .u64 bl) := (HQ_4.out.c 5).trans rfl
          have yl3 := HQ_4.out.lt
          go_wp2_with fail
          clear y1_0 y1_1 y1_2 y1_3 y1_4 y1_5 yl1 y2_0 y2_1 y2_2 y2_3 yl2 y3_0 y3_1 y3_2 y3_3 y3_4 y3_5 yl3
          obtain ⟨t9, hG9⟩ := HGI_4.out.newp v1 ph pl (kk : Int)
          obtain ⟨Wn, hWn⟩ : ∃ W, W = w14.alloc (.cells #[.bool v1, .int .u64 ph, .int .u64 pl, .int .i64 kk] 37) := ⟨_, rfl⟩
          obtain ⟨gn, hgn⟩ : ∃ g, g = w14.heap.size := ⟨_, rfl⟩
          rw [← hWn, ← hgn] at hG9
          rw [← hWn, ← hgn]
          have HGN := Lib.hid hG9
          clear hG9 hWn hgn HGI_4 HR_4 HP_4 HQ_4 HB_4
          cases S with
          | nil =>
            obtain rfl : ns = 0 := HNS.out
            have HTK := Lib.hid (takeP_none bs As cs Wn HGN.out.sb)
            have HFT9 := Lib.hid (show Fm = T from by have := HTT.out; rw [decL_cons, HD.out] at this; simpa [decL] using this)
            have hgk : 0 < gk := Nat.lt_of_lt_of_le (by rw [costL_cons]; exact Nat.lt_of_lt_of_le (cost_pos lo hi e n) (Nat.le_add_right _ _)) HCO.out
            refine HTK.out.mono ?_
            rintro e w8 ⟨rfl, hb⟩
            have HG8 := Lib.hid (HGN.out.kept hb)
            clear hb HTK HGN
            have HP9 := Lib.hid HG8.out.pb
            have s0 := HP9.out.c0
            have sf0 := HP9.out.f 0
            have s1 := HP9.out.c1
            have sf1 := HP9.out.f 1
            have s2 := HP9.out.c2
            have sf2 := HP9.out.f 2
            have s3 := HP9.out.c3
            have sf3 := HP9.out.f 3
            have sl := HP9.out.lt
            obtain ⟨W9, hW9⟩ : ∃ W, W = pset w8 gn false 0 0 ((0 : Nat) : Int) := ⟨_, rfl⟩
            have HG9 := Lib.hid (show GI w W9 t9 bs As 0 cs ((([] : List (Nat × Nat)).map (pf v1)).reverse) Ao no co (Fm.map (pf v1)) w.heap.size v1 h1 l1 v1 h2 l2 gn false 0 0 ((0 : Nat) : Int) from by rw [hW9]; exact HG8.out.setp false 0 0 ((0 : Nat) : Int))
            unfold pset at hW9
            have hW9 : W9 = (((w8.setCell ⟨gn, 0, none⟩ (.bool false)).setCell ⟨gn, 1, none⟩ (.int .u64 0)).setCell ⟨gn, 2, none⟩ (.int .u64 0)).setCell ⟨gn, 3, none⟩ (.int .i64 0) := hW9
            go_wp2_with fail
            rw [← hW9]
            clear hW9 s0 s1 s2 s3 sf0 sf1 sf2 sf3 sl HP9 HG8
            go_roundg (0)
            case measure => exact hgk
            case rel => exact ⟨t9, As, Ao, 0, cs, no, co, gn, [], Fm, 0, 0, 0, false, false, rfl, rfl, rfl, HG9, Lib.hid (fun _ => HFT9.out), Lib.hid (fun e => Bool.noConfusion e)⟩
          | cons y S2 =>
            obtain ⟨y1, y2⟩ := y
            have hnp : 0 < ns := by have := HNS.out; rw [List.length_cons] at this; omega
            obtain ⟨qh, ql, qk, hq, hqh, hql, hqk⟩ : ∃ qh ql qk : Nat, pf v1 (y1, y2) = ⟨v1, qh, ql, (qk : Int)⟩ ∧ qh = y1 / 18446744073709551616 ∧ ql = y1 % 18446744073709551616 ∧ qk = width v1 - y2 := ⟨_, _, _, rfl, rfl, rfl, rfl⟩
            have HTK := Lib.hid (takeP_any bs w.heap.size As ns cs ((S2.map (pf v1)).reverse) (pf v1 (y1, y2)) Wn HGN.out.sb (by have := HGN.out.sr; simpa using this) (by omega) (fun j hj e => by have a := HGN.out.t2 j hj; rw [e, HGN.out.t1] at a; omega))
            rw [hq] at HTK
            simp only at HTK
            have HTO := Lib.hid (fun W' hs hg => GI.took (x := pf v1 (y1, y2)) (I := (S2.map (pf v1)).reverse) (W' := W') (show GI w Wn t9 bs As ns cs ((S2.map (pf v1)).reverse ++ [pf v1 (y1, y2)]) Ao no co (Fm.map (pf v1)) w.heap.size v1 h1 l1 v1 h2 l2 gn v1 ph pl (kk : Int) from by have := HGN.out; simpa using this) hs hg)
            have HQ9 := Lib.hid (And.intro hqh (And.intro hql hqk))
            clear hq hqh hql hqk HGN
            refine HTK.out.mono ?_
            rintro e w8 ⟨rfl, k1, k2⟩
            have HG8 := Lib.hid (HTO.out w8 k1 k2)
            clear k1 k2 HTK HTO
            have HP9 := Lib.hid HG8.out.pb
            have s0 := HP9.out.c0
            have sf0 := HP9.out.f 0
            have s1 := HP9.out.c1
            have sf1 := HP9.out.f 1
            have s2 := HP9.out.c2
            have sf2 := HP9.out.f 2
            have s3 := HP9.out.c3
            have sf3 := HP9.out.f 3
            have sl := HP9.out.lt
            obtain ⟨W9, hW9⟩ : ∃ W, W = pset w8 gn v1 qh ql (qk : Int) := ⟨_, rfl⟩
            have HG9 := Lib.hid (show GI w W9 t9 bs As (ns - 1) cs ((S2.map (pf v1)).reverse) Ao no co (Fm.map (pf v1)) w.heap.size v1 h1 l1 v1 h2 l2 gn v1 qh ql (qk : Int) from by rw [hW9]; exact HG8.out.setp v1 qh ql (qk : Int))
            unfold pset at hW9
            go_wp2_with fail
            rw [← hW9]
            clear hW9 s0 s1 s2 s3 sf0 sf1 sf2 sf3 sl HP9 HG8
            go_roundg (costL lo hi ((y1, y2) :: S2))
            case measure => exact (by have h1 := HCO.out; rw [costL_cons] at h1; have h2 := cost_pos lo hi e n; omega)
            case rel => exact ⟨t9, As, Ao, ns - 1, cs, no, co, gn, S2, Fm, qh, ql, qk, true, v1, rfl, rfl, rfl, HG9, Lib.hid (fun e => Bool.noConfusion e), Lib.hid (fun _ => ⟨rfl, y1, y2, HQ9.out.1, HQ9.out.2.1, HQ9.out.2.2, HOK.out.2.2.2, (by have := HTT.out; rw [decL_cons, HD.out] at this; simpa using this), Nat.le_refl _⟩)⟩
        · rw [decide_eq_false t2] at HT2
          have hnd : ¬ (n + 2 ^ e ≤ lo ∨ hi < n) := by omega
          by_cases t3 : n < lo
          · rw [decide_eq_true t3] at HT3
            obtain ⟨e', rfl⟩ : ∃ e', e = e' + 1 := by
              cases e with
              | zero => have := dec_zero hnd; omega
              | succ e' => exact ⟨e', rfl⟩
            have HD := Lib.hid (show dec lo hi (e' + 1) n = dec lo hi e' n ++ dec lo hi e' (n + 2 ^ e') from dec_split hnd (by omega))
            obtain ⟨k2, hk2⟩ : ∃ k, k = width v1 - e' := ⟨_, rfl⟩
            obtain ⟨sh, sl, hSS⟩ : ∃ sh sl, adN v1 (n + 2 ^ e') = ⟨v1, sh, sl⟩ := ⟨_, _, rfl⟩
            have hmk := HMK.out e' rfl
            have hs2 := Ad.mk.inj hSS
            have hb2 := Ad.mk.inj hBB
            have hk2W : k2 ≤ width v1 := by omega
            have HM1 := Lib.hid (show ∀ W, Calls Try.prog 72 #[.agg #[.bool v1, .int .u64 ph, .int .u64 pl], .int .i64 k2] W fun e w' => e = .returned (.tuple #[.agg #[.bool v1, .int .u64 ph, .int .u64 pl, .int .i64 k2], .int .i64 0]) ∧ Below W.heap.size W w' from fun W => by
              have h := qmake_ok v1 ph pl k2 W hfn.1 hfn.2 hk2W
              rw [hk2, hph, hpl, hmk.1.1, hmk.1.2] at h
              rw [hk2, hph, hpl]
              exact h)
            have HM2 := Lib.hid (show ∀ W, Calls Try.prog 72 #[.agg #[.bool v1, .int .u64 bh, .int .u64 bl], .int .i64 k2] W fun e w' => e = .returned (.tuple #[.agg #[.bool v1, .int .u64 sh, .int .u64 sl, .int .i64 k2], .int .i64 0]) ∧ Below W.heap.size W w' from fun W => by
              have h := qmake_ok v1 bh bl k2 W hfm.1 hfm.2 hk2W
              rw [hk2, ← hb2.2.1, ← hb2.2.2, hmk.2.1, hmk.2.2] at h
              rw [hk2, ← hb2.2.1, ← hb2.2.2, ← hs2.2.1, ← hs2.2.2]
              exact h)
            have HPL := Lib.hid (show pf v1 (n, e') = ⟨v1, ph, pl, (k2 : Int)⟩ ∧ pf v1 (n + 2 ^ e', e') = ⟨v1, sh, sl, (k2 : Int)⟩ from ⟨by rw [hph, hpl, hk2]; rfl, by rw [hk2, ← hs2.2.1, ← hs2.2.2]; rfl⟩)
            have hkw : (kk : Int) + 1 = (k2 : Int) := by omega
            clear hk2 hSS hmk hs2 hb2 hk2W
            clear hph hpl hkk hS1 hdv hnW hS4 heW hp2 hnl hml hbd hA hBB hfn hfm hk4 hFl hns hT hcost HF0 HF1 t1 t2 t3 hnd
            have y1_0 : wr.cell? ⟨w.heap.size, 0, none⟩ = some (.bool v1) := (HR.out.c 0).trans rfl
            have y1_1 : wr.cell? ⟨w.heap.size, 1, none⟩ = some (.int .u64 h1) := (HR.out.c 1).trans rfl
            have y1_2 : wr.cell? ⟨w.heap.size, 2, none⟩ = some (.int .u64 l1) := (HR.out.c 2).trans rfl
            have y1_3 : wr.cell? ⟨w.heap.size, 3, none⟩ = some (.bool v1) := (HR.out.c 3).trans rfl
            have y1_4 : wr.cell? ⟨w.heap.size, 4, none⟩ = some (.int .u64 h2) := (HR.out.c 4).trans rfl
            have y1_5 : wr.cell? ⟨w.heap.size, 5, none⟩ = some (.int .u64 l2) := (HR.out.c 5).trans rfl
            have yl1 := HR.out.lt
            have y2_0 : wr.cell? ⟨gp, 0, none⟩ = some (.bool v1) := HP.out.c0
            have y2_1 : wr.cell? ⟨gp, 1, none⟩ = some (.int .u64 ph) := HP.out.c1
            have y2_2 : wr.cell? ⟨gp, 2, none⟩ = some (.int .u64 pl) := HP.out.c2
            have y2_3 : wr.cell? ⟨gp, 3, none⟩ = some (.int .i64 kk) := HP.out.c3
            have yl2 := HP.out.lt
            go_wp2_with fail
            clear y1_0 y1_1 y1_2 y1_3 y1_4 y1_5 yl1 y2_0 y2_1 y2_2 y2_3 yl2
            refine (HBD.out _).mono ?_
            rintro e w11 ⟨rfl, hb⟩
            have HGI_1 := Lib.hid (show GI w w11 t bs As ns cs ((S.map (pf v1)).reverse) Ao no co (Fm.map (pf v1)) w.heap.size v1 h1 l1 v1 h2 l2 gp v1 ph pl (kk : Int) from HGI.out.kept hb)
            have HR_1 := Lib.hid (show RB w11 w.heap.size v1 h1 l1 v1 h2 l2 from HR.out.kept hb HR.out.lt)
            have HP_1 := Lib.hid (show PB w11 gp v1 ph pl kk from HP.out.kept hb HP.out.lt)
            have HB_1 := Lib.hid (HB.out.trans (hb.mono HB.out.size))
            clear hb HGI HR HP HB
            have y1_0 : w11.cell? ⟨w.heap.size, 0, none⟩ = some (.bool v1) := (HR_1.out.c 0).trans rfl
            have y1_1 : w11.cell? ⟨w.heap.size, 1, none⟩ = some (.int .u64 h1) := (HR_1.out.c 1).trans rfl
            have y1_2 : w11.cell? ⟨w.heap.size, 2, none⟩ = some (.int .u64 l1) := (HR_1.out.c 2).trans rfl
            have y1_3 : w11.cell? ⟨w.heap.size, 3, none⟩ = some (.bool v1) := (HR_1.out.c 3).trans rfl
            have y1_4 : w11.cell? ⟨w.heap.size, 4, none⟩ = some (.int .u64 h2) := (HR_1.out.c 4).trans rfl
            have y1_5 : w11.cell? ⟨w.heap.size, 5, none⟩ = some (.int .u64 l2) := (HR_1.out.c 5).trans rfl
            have yl1 := HR_1.out.lt
            have y2_0 : w11.cell? ⟨gp, 0, none⟩ = some (.bool v1) := HP_1.out.c0
            have y2_1 : w11.cell? ⟨gp, 1, none⟩ = some (.int .u64 ph) := HP_1.out.c1
            have y2_2 : w11.cell? ⟨gp, 2, none⟩ = some (.int .u64 pl) := HP_1.out.c2
            have y2_3 : w11.cell? ⟨gp, 3, none⟩ = some (.int .i64 kk) := HP_1.out.c3
            have yl2 := HP_1.out.lt
            go_wp2_with fail
            clear y1_0 y1_1 y1_2 y1_3 y1_4 y1_5 yl1 y2_0 y2_1 y2_2 y2_3 yl2
            obtain ⟨W13, hW13⟩ : ∃ W, W = w11.alloc (.cells #[.bool v1, .int .u64 ph, .int .u64 pl, .bool v1, .int .u64 bh, .int .u64 bl] 43) := ⟨_, rfl⟩
            obtain ⟨gq, hgq⟩ : ∃ g, g = w11.heap.size := ⟨_, rfl⟩
            have HGI_2 := Lib.hid (show GI w W13 t bs As ns cs ((S.map (pf v1)).reverse) Ao no co (Fm.map (pf v1)) w.heap.size v1 h1 l1 v1 h2 l2 gp v1 ph pl (kk : Int) from by rw [hW13]; exact HGI_1.out.al _)
            have HR_2 := Lib.hid (show RB W13 w.heap.size v1 h1 l1 v1 h2 l2 from by rw [hW13]; exact HR_1.out.al _)
            have HP_2 := Lib.hid (show PB W13 gp v1 ph pl kk from by rw [hW13]; exact HP_1.out.al _)
            have Lgq := Lib.hid (show w.heap.size < gq ∧ gp < gq ∧ w.heap.size ≤ gq from by rw [hgq]; exact ⟨HR_1.out.lt, HP_1.out.lt, HB_1.out.size⟩)
            have HQ := Lib.hid (show RB W13 gq v1 ph pl v1 bh bl from by rw [hW13, hgq]; exact rb_new w11 v1 ph pl v1 bh bl)
            have HSZgq := Lib.hid (show W13.heap.size = gq + 1 from by rw [hW13, hgq]; simp)
            have HB_2 := Lib.hid (show Below w.heap.size w W13 by rw [hW13]; exact HB_1.out.alloc HB_1.out.size _)
            clear HGI_1 HR_1 HP_1 HB_1
            rw [← hW13, ← hgq]
            clear hW13 hgq
            have y1_0 : W13.cell? ⟨w.heap.size, 0, none⟩ = some (.bool v1) := (HR_2.out.c 0).trans rfl
            have y1_1 : W13.cell? ⟨w.heap.size, 1, none⟩ = some (.int .u64 h1) := (HR_2.out.c 1).trans rfl
            have y1_2 : W13.cell? ⟨w.heap.size, 2, none⟩ = some (.int .u64 l1) := (HR_2.out.c 2).trans rfl
            have y1_3 : W13.cell? ⟨w.heap.size, 3, none⟩ = some (.bool v1) := (HR_2.out.c 3).trans rfl
            have y1_4 : W13.cell? ⟨w.heap.size, 4, none⟩ = some (.int .u64 h2) := (HR_2.out.c 4).trans rfl
            have y1_5 : W13.cell? ⟨w.heap.size, 5, none⟩ = some (.int .u64 l2) := (HR_2.out.c 5).trans rfl
            have yl1 := HR_2.out.lt
            have y2_0 : W13.cell? ⟨gp, 0, none⟩ = some (.bool v1) := HP_2.out.c0
            have y2_1 : W13.cell? ⟨gp, 1, none⟩ = some (.int .u64 ph) := HP_2.out.c1
            have y2_2 : W13.cell? ⟨gp, 2, none⟩ = some (.int .u64 pl) := HP_2.out.c2
            have y2_3 : W13.cell? ⟨gp, 3, none⟩ = some (.int .i64 kk) := HP_2.out.c3
            have yl2 := HP_2.out.lt
            have y3_0 : W13.cell? ⟨gq, 0, none⟩ = some (.bool v1) := (HQ.out.c 0).trans rfl
            have y3_1 : W13.cell? ⟨gq, 1, none⟩ = some (.int .u64 ph) := (HQ.out.c 1).trans rfl
            have y3_2 : W13.cell? ⟨gq, 2, none⟩ = some (.int .u64 pl) := (HQ.out.c 2).trans rfl
            have y3_3 : W13.cell? ⟨gq, 3, none⟩ = some (.bool v1) := (HQ.out.c 3).trans rfl
            have y3_4 : W13.cell? ⟨gq, 4, none⟩ = some (.int .u64 bh) := (HQ.out.c 4).trans rfl
            have y3_5 : W13.cell? ⟨gq, 5, none⟩ = some (.int .u64 bl) := (HQ.out.c 5).trans rfl
            have yl3 := HQ.out.lt
            clear y1_0 y1_1 y1_2 y1_3 y1_4 y1_5 yl1 y2_0 y2_1 y2_2 y2_3 yl2 y3_0 y3_1 y3_2 y3_3 y3_4 y3_5 yl3
            refine (HT1.out _).mono ?_
            rintro e w13 ⟨rfl, hb⟩
            have HGI_3 := Lib.hid (show GI w w13 t bs As ns cs ((S.map (pf v1)).reverse) Ao no co (Fm.map (pf v1)) w.heap.size v1 h1 l1 v1 h2 l2 gp v1 ph pl (kk : Int) from HGI_2.out.kept hb)
            have HR_3 := Lib.hid (show RB w13 w.heap.size v1 h1 l1 v1 h2 l2 from HR_2.out.kept hb HR_2.out.lt)
            have HP_3 := Lib.hid (show PB w13 gp v1 ph pl kk from HP_2.out.kept hb HP_2.out.lt)
            have HQ_3 := Lib.hid (show RB w13 gq v1 ph pl v1 bh bl from HQ.out.kept hb HQ.out.lt)
            have HB_3 := Lib.hid (HB_2.out.trans (hb.mono HB_2.out.size))
            clear hb HGI_2 HR_2 HP_2 HQ HB_2
            have y1_0 : w13.cell? ⟨w.heap.size, 0, none⟩ = some (.bool v1) := (HR_3.out.c 0).trans rfl
            have y1_1 : w13.cell? ⟨w.heap.size, 1, none⟩ = some (.int .u64 h1) := (HR_3.out.c 1).trans rfl
            have y1_2 : w13.cell? ⟨w.heap.size, 2, none⟩ = some (.int .u64 l1) := (HR_3.out.c 2).trans rfl
            have y1_3 : w13.cell? ⟨w.heap.size, 3, none⟩ = some (.bool v1) := (HR_3.out.c 3).trans rfl
            have y1_4 : w13.cell? ⟨w.heap.size, 4, none⟩ = some (.int .u64 h2) := (HR_3.out.c 4).trans rfl
            have y1_5 : w13.cell? ⟨w.heap.size, 5, none⟩ = some (.int .u64 l2) := (HR_3.out.c 5).trans rfl
            have yl1 := HR_3.out.lt
            have y2_0 : w13.cell? ⟨gp, 0, none⟩ = some (.bool v1) := HP_3.out.c0
            have y2_1 : w13.cell? ⟨gp, 1, none⟩ = some (.int .u64 ph) := HP_3.out.c1
            have y2_2 : w13.cell? ⟨gp, 2, none⟩ = some (.int .u64 pl) := HP_3.out.c2
            have y2_3 : w13.cell? ⟨gp, 3, none⟩ = some (.int .i64 kk) := HP_3.out.c3
            have yl2 := HP_3.out.lt
            have y3_0 : w13.cell? ⟨gq, 0, none⟩ = some (.bool v1) := (HQ_3.out.c 0).trans rfl
            have y3_1 : w13.cell? ⟨gq, 1, none⟩ = some (.int .u64 ph) := (HQ_3.out.c 1).trans rfl
            have y3_2 : w13.cell? ⟨gq, 2, none⟩ = some (.int .u64 pl) := (HQ_3.out.c 2).trans rfl
            have y3_3 : w13.cell? ⟨gq, 3, none⟩ = some (.bool v1) := (HQ_3.out.c 3).trans rfl
            have y3_4 : w13.cell? ⟨gq, 4, none⟩ = some (.int .u64 bh) := (HQ_3.out.c 4).trans rfl
            have y3_5 : w13.cell? ⟨gq, 5, none⟩ = some (.int .u64 bl) := (HQ_3.out.c 5).trans rfl
            have yl3 := HQ_3.out.lt
            go_wp2_with fail
            clear y1_0 y1_1 y1_2 y1_3 y1_4 y1_5 yl1 y2_0 y2_1 y2_2 y2_3 yl2 y3_0 y3_1 y3_2 y3_3 y3_4 y3_5 yl3
            refine (HT2.out _).mono ?_
            rintro e w14 ⟨rfl, hb⟩
            have HGI_4 := Lib.hid (show GI w w14 t bs As ns cs ((S.map (pf v1)).reverse) Ao no co (Fm.map (pf v1)) w.heap.size v1 h1 l1 v1 h2 l2 gp v1 ph pl (kk : Int) from HGI_3.out.kept hb)
            have HR_4 := Lib.hid (show RB w14 w.heap.size v1 h1 l1 v1 h2 l2 from HR_3.out.kept hb HR_3.out.lt)
            have HP_4 := Lib.hid (show PB w14 gp v1 ph pl kk from HP_3.out.kept hb HP_3.out.lt)
            have HQ_4 := Lib.hid (show RB w14 gq v1 ph pl v1 bh bl from HQ_3.out.kept hb HQ_3.out.lt)
            have HB_4 := Lib.hid (HB_3.out.trans (hb.mono HB_3.out.size))
            clear hb HGI_3 HR_3 HP_3 HQ_3 HB_3
            have y1_0 : w14.cell? ⟨w.heap.size, 0, none⟩ = some (.bool v1) := (HR_4.out.c 0).trans rfl
            have y1_1 : w14.cell? ⟨w.heap.size, 1, none⟩ = some (.int .u64 h1) := (HR_4.out.c 1).trans rfl
            have y1_2 : w14.cell? ⟨w.heap.size, 2, none⟩ = some (.int .u64 l1) := (HR_4.out.c 2).trans rfl
            have y1_3 : w14.cell? ⟨w.heap.size, 3, none⟩ = some (.bool v1) := (HR_4.out.c 3).trans rfl
            have y1_4 : w14.cell? ⟨w.heap.size, 4, none⟩ = some (.int .u64 h2) := (HR_4.out.c 4).trans rfl
            have y1_5 : w14.cell? ⟨w.heap.size, 5, none⟩ = some (.int .u64 l2) := (HR_4.out.c 5).trans rfl
            have yl1 := HR_4.out.lt
            have y2_0 : w14.cell? ⟨gp, 0, none⟩ = some (.bool v1) := HP_4.out.c0
            have y2_1 : w14.cell? ⟨gp, 1, none⟩ = some (.int .u64 ph) := HP_4.out.c1
            have y2_2 : w14.cell? ⟨gp, 2, none⟩ = some (.int .u64 pl) := HP_4.out.c2
            have y2_3 : w14.cell? ⟨gp, 3, none⟩ = some (.int .i64 kk) := HP_4.out.c3
            have yl2 := HP_4.out.lt
            have y3_0 : w14.cell? ⟨gq, 0, none⟩ = some (.bool v1) := (HQ_4.out.c 0).trans rfl
            have y3_1 : w14.cell? ⟨gq, 1, none⟩ = some (.int .u64 ph) := (HQ_4.out.c 1).trans rfl
            have y3_2 : w14.cell? ⟨gq, 2, none⟩ = some (.int .u64 pl) := (HQ_4.out.c 2).trans rfl
            have y3_3 : w14.cell? ⟨gq, 3, none⟩ = some (.bool v1) := (HQ_4.out.c 3).trans rfl
            have y3_4 : w14.cell? ⟨gq, 4, none⟩ = some (.int .u64 bh) := (HQ_4.out.c 4).trans rfl
            have y3_5 : w14.cell? ⟨gq, 5, none⟩ = some (.int .u64 bl) := (HQ_4.out.c 5).trans rfl
            have yl3 := HQ_4.out.lt
            go_wp2_with fail
            clear y1_0 y1_1 y1_2 y1_3 y1_4 y1_5 yl1 y2_0 y2_1 y2_2 y2_3 yl2 y3_0 y3_1 y3_2 y3_3 y3_4 y3_5 yl3
            refine (HT3.out _).mono ?_
            rintro e w15 ⟨rfl, hb⟩
            have HGI_5 := Lib.hid (show GI w w15 t bs As ns cs ((S.map (pf v1)).reverse) Ao no co (Fm.map (pf v1)) w.heap.size v1 h1 l1 v1 h2 l2 gp v1 ph pl (kk : Int) from HGI_4.out.kept hb)
            have HR_5 := Lib.hid (show RB w15 w.heap.size v1 h1 l1 v1 h2 l2 from HR_4.out.kept hb HR_4.out.lt)
            have HP_5 := Lib.hid (show PB w15 gp v1 ph pl kk from HP_4.out.kept hb HP_4.out.lt)
            have HQ_5 := Lib.hid (show RB w15 gq v1 ph pl v1 bh bl from HQ_4.out.kept hb HQ_4.out.lt)
            have HB_5 := Lib.hid (HB_4.out.trans (hb.mono HB_4.out.size))
            clear hb HGI_4 HR_4 HP_4 HQ_4 HB_4
            have y1_0 : w15.cell? ⟨w.heap.size, 0, none⟩ = some (.bool v1) := (HR_5.out.c 0).trans rfl
            have y1_1 : w15.cell? ⟨w.heap.size, 1, none⟩ = some (.int .u64 h1) := (HR_5.out.c 1).trans rfl
            have y1_2 : w15.cell? ⟨w.heap.size, 2, none⟩ = some (.int .u64 l1) := (HR_5.out.c 2).trans rfl
            have y1_3 : w15.cell? ⟨w.heap.size, 3, none⟩ = some (.bool v1) := (HR_5.out.c 3).trans rfl
            have y1_4 : w15.cell? ⟨w.heap.size, 4, none⟩ = some (.int .u64 h2) := (HR_5.out.c 4).trans rfl
            have y1_5 : w15.cell? ⟨w.heap.size, 5, none⟩ = some (.int .u64 l2) := (HR_5.out.c 5).trans rfl
            have yl1 := HR_5.out.lt
            have y2_0 : w15.cell? ⟨gp, 0, none⟩ = some (.bool v1) := HP_5.out.c0
            have y2_1 : w15.cell? ⟨gp, 1, none⟩ = some (.int .u64 ph) := HP_5.out.c1
            have y2_2 : w15.cell? ⟨gp, 2, none⟩ = some (.int .u64 pl) := HP_5.out.c2
            have y2_3 : w15.cell? ⟨gp, 3, none⟩ = some (.int .i64 kk) := HP_5.out.c3
            have yl2 := HP_5.out.lt
            have y3_0 : w15.cell? ⟨gq, 0, none⟩ = some (.bool v1) := (HQ_5.out.c 0).trans rfl
            have y3_1 : w15.cell? ⟨gq, 1, none⟩ = some (.int .u64 ph) := (HQ_5.out.c 1).trans rfl
            have y3_2 : w15.cell? ⟨gq, 2, none⟩ = some (.int .u64 pl) := (HQ_5.out.c 2).trans rfl
            have y3_3 : w15.cell? ⟨gq, 3, none⟩ = some (.bool v1) := (HQ_5.out.c 3).trans rfl
            have y3_4 : w15.cell? ⟨gq, 4, none⟩ = some (.int .u64 bh) := (HQ_5.out.c 4).trans rfl
            have y3_5 : w15.cell? ⟨gq, 5, none⟩ = some (.int .u64 bl) := (HQ_5.out.c 5).trans rfl
            have yl3 := HQ_5.out.lt
            go_wp2_with fail
            clear y1_0 y1_1 y1_2 y1_3 y1_4 y1_5 yl1 y2_0 y2_1 y2_2 y2_3 yl2 y3_0 y3_1 y3_2 y3_3 y3_4 y3_5 yl3
            refine (HM1.out _).mono ?_
            rintro e w16 ⟨rfl, hb⟩
            have HGI_6 := Lib.hid (show GI w w16 t bs As ns cs ((S.map (pf v1)).reverse) Ao no co (Fm.map (pf v1)) w.heap.size v1 h1 l1 v1 h2 l2 gp v1 ph pl (kk : Int) from HGI_5.out.kept hb)
            have HR_6 := Lib.hid (show RB w16 w.heap.size v1 h1 l1 v1 h2 l2 from HR_5.out.kept hb HR_5.out.lt)
            have HP_6 := Lib.hid (show PB w16 gp v1 ph pl kk from HP_5.out.kept hb HP_5.out.lt)
            have HQ_6 := Lib.hid (show RB w16 gq v1 ph pl v1 bh bl from HQ_5.out.kept hb HQ_5.out.lt)
            have HB_6 := Lib.hid (HB_5.out.trans (hb.mono HB_5.out.size))
            clear hb HGI_5 HR_5 HP_5 HQ_5 HB_5
            have y1_0 : w16.cell? ⟨w.heap.size, 0, none⟩ = some (.bool v1) := (HR_6.out.c 0).trans rfl
            have y1_1 : w16.cell? ⟨w.heap.size, 1, none⟩ = some (.int .u64 h1) := (HR_6.out.c 1).trans rfl
            have y1_2 : w16.cell? ⟨w.heap.size, 2, none⟩ = some (.int .u64 l1) := (HR_6.out.c 2).trans rfl
            have y1_3 : w16.cell? ⟨w.heap.size, 3, none⟩ = some (.bool v1) := (HR_6.out.c 3).trans rfl
            have y1_4 : w16.cell? ⟨w.heap.size, 4, none⟩ = some (.int .u64 h2) := (HR_6.out.c 4).trans rfl
            have y1_5 : w16.cell? ⟨w.heap.size, 5, none⟩ = some (.int .u64 l2) := (HR_6.out.c 5).trans rfl
            have yl1 := HR_6.out.lt
            have y2_0 : w16.cell? ⟨gp, 0, none⟩ = some (.bool v1) := HP_6.out.c0
            have y2_1 : w16.cell? ⟨gp, 1, none⟩ = some (.int .u64 ph) := HP_6.out.c1
            have y2_2 : w16.cell? ⟨gp, 2, none⟩ = some (.int .u64 pl) := HP_6.out.c2
            have y2_3 : w16.cell? ⟨gp, 3, none⟩ = some (.int .i64 kk) := HP_6.out.c3
            have yl2 := HP_6.out.lt
            have y3_0 : w16.cell? ⟨gq, 0, none⟩ = some (.bool v1) := (HQ_6.out.c 0).trans rfl
            have y3_1 : w16.cell? ⟨gq, 1, none⟩ = some (.int .u64 ph) := (HQ_6.out.c 1).trans rfl
            have y3_2 : w16.cell? ⟨gq, 2, none⟩ = some (.int .u64 pl) := (HQ_6.out.c 2).trans rfl
            have y3_3 : w16.cell? ⟨gq, 3, none⟩ = some (.bool v1) := (HQ_6.out.c 3).trans rfl
            have y3_4 : w16.cell? ⟨gq, 4, none⟩ = some (.int .u64 bh) := (HQ_6.out.c 4).trans rfl
            have y3_5 : w16.cell? ⟨gq, 5, none⟩ = some (.int .u64 bl) := (HQ_6.out.c 5).trans rfl
            have yl3 := HQ_6.out.lt
            go_wp2_with fail
            clear y1_0 y1_1 y1_2 y1_3 y1_4 y1_5 yl1 y2_0 y2_1 y2_2 y2_3 yl2 y3_0 y3_1 y3_2 y3_3 y3_4 y3_5 yl3
            obtain ⟨W18, hW18⟩ : ∃ W, W = w16.alloc (.cells #[.bool v1, .int .u64 ph, .int .u64 pl, .int .i64 k2] 37) := ⟨_, rfl⟩
            obtain ⟨g8, hg8⟩ : ∃ g, g = w16.heap.size := ⟨_, rfl⟩
            have HGI_7 := Lib.hid (show GI w W18 t bs As ns cs ((S.map (pf v1)).reverse) Ao no co (Fm.map (pf v1)) w.heap.size v1 h1 l1 v1 h2 l2 gp v1 ph pl (kk : Int) from by rw [hW18]; exact HGI_6.out.al _)
            have HR_7 := Lib.hid (show RB W18 w.heap.size v1 h1 l1 v1 h2 l2 from by rw [hW18]; exact HR_6.out.al _)
            have HP_7 := Lib.hid (show PB W18 gp v1 ph pl kk from by rw [hW18]; exact HP_6.out.al _)
            have HQ_7 := Lib.hid (show RB W18 gq v1 ph pl v1 bh bl from by rw [hW18]; exact HQ_6.out.al _)
            have Lg8 := Lib.hid (show w.heap.size < g8 ∧ gp < g8 ∧ gq < g8 ∧ w.heap.size ≤ g8 from by rw [hg8]; exact ⟨HR_6.out.lt, HP_6.out.lt, HQ_6.out.lt, HB_6.out.size⟩)
            have HL8 := Lib.hid (show PB W18 g8 v1 ph pl k2 from by rw [hW18, hg8]; exact pb_new w16 v1 ph pl k2)
            have HSZg8 := Lib.hid (show W18.heap.size = g8 + 1 from by rw [hW18, hg8]; simp)
            have HB_7 := Lib.hid (show Below w.heap.size w W18 by rw [hW18]; exact HB_6.out.alloc HB_6.out.size _)
            clear HGI_6 HR_6 HP_6 HQ_6 HB_6
            rw [← hW18, ← hg8]
            clear hW18 hg8
            have y1_0 : W18.cell? ⟨w.heap.size, 0, none⟩ = some (.bool v1) := (HR_7.out.c 0).trans rfl
            have y1_1 : W18.cell? ⟨w.heap.size, 1, none⟩ = some (.int .u64 h1) := (HR_7.out.c 1).trans rfl
            have y1_2 : W18.cell? ⟨w.heap.size, 2, none⟩ = some (.int .u64 l1) := (HR_7.out.c 2).trans rfl
            have y1_3 : W18.cell? ⟨w.heap.size, 3, none⟩ = some (.bool v1) := (HR_7.out.c 3).trans rfl
            have y1_4 : W18.cell? ⟨w.heap.size, 4, none⟩ = some (.int .u64 h2) := (HR_7.out.c 4).trans rfl
            have y1_5 : W18.cell? ⟨w.heap.size, 5, none⟩ = some (.int .u64 l2) := (HR_7.out.c 5).trans rfl
            have yl1 := HR_7.out.lt
            have y2_0 : W18.cell? ⟨gp, 0, none⟩ = some (.bool v1) := HP_7.out.c0
            have y2_1 : W18.cell? ⟨gp, 1, none⟩ = some (.int .u64 ph) := HP_7.out.c1
            have y2_2 : W18.cell? ⟨gp, 2, none⟩ = some (.int .u64 pl) := HP_7.out.c2
            have y2_3 : W18.cell? ⟨gp, 3, none⟩ = some (.int .i64 kk) := HP_7.out.c3
            have yl2 := HP_7.out.lt
            have y3_0 : W18.cell? ⟨gq, 0, none⟩ = some (.bool v1) := (HQ_7.out.c 0).trans rfl
            have y3_1 : W18.cell? ⟨gq, 1, none⟩ = some (.int .u64 ph) := (HQ_7.out.c 1).trans rfl
            have y3_2 : W18.cell? ⟨gq, 2, none⟩ = some (.int .u64 pl) := (HQ_7.out.c 2).trans rfl
            have y3_3 : W18.cell? ⟨gq, 3, none⟩ = some (.bool v1) := (HQ_7.out.c 3).trans rfl
            have y3_4 : W18.cell? ⟨gq, 4, none⟩ = some (.int .u64 bh) := (HQ_7.out.c 4).trans rfl
            have y3_5 : W18.cell? ⟨gq, 5, none⟩ = some (.int .u64 bl) := (HQ_7.out.c 5).trans rfl
            have yl3 := HQ_7.out.lt
            have y4_0 : W18.cell? ⟨g8, 0, none⟩ = some (.bool v1) := HL8.out.c0
            have y4_1 : W18.cell? ⟨g8, 1, none⟩ = some (.int .u64 ph) := HL8.out.c1
            have y4_2 : W18.cell? ⟨g8, 2, none⟩ = some (.int .u64 pl) := HL8.out.c2
            have y4_3 : W18.cell? ⟨g8, 3, none⟩ = some (.int .i64 k2) := HL8.out.c3
            have yl4 := HL8.out.lt
            clear y1_0 y1_1 y1_2 y1_3 y1_4 y1_5 yl1 y2_0 y2_1 y2_2 y2_3 yl2 y3_0 y3_1 y3_2 y3_3 y3_4 y3_5 yl3 y4_0 y4_1 y4_2 y4_3 yl4
            refine (HM2.out _).mono ?_
            rintro e w18 ⟨rfl, hb⟩
            have HGI_8 := Lib.hid (show GI w w18 t bs As ns cs ((S.map (pf v1)).reverse) Ao no co (Fm.map (pf v1)) w.heap.size v1 h1 l1 v1 h2 l2 gp v1 ph pl (kk : Int) from HGI_7.out.kept hb)
            have HR_8 := Lib.hid (show RB w18 w.heap.size v1 h1 l1 v1 h2 l2 from HR_7.out.kept hb HR_7.out.lt)
            have HP_8 := Lib.hid (show PB w18 gp v1 ph pl kk from HP_7.out.kept hb HP_7.out.lt)
            have HQ_8 := Lib.hid (show RB w18 gq v1 ph pl v1 bh bl from HQ_7.out.kept hb HQ_7.out.lt)
            have HL8_8 := Lib.hid (show PB w18 g8 v1 ph pl k2 from HL8.out.kept hb HL8.out.lt)
            have HB_8 := Lib.hid (HB_7.out.trans (hb.mono HB_7.out.size))
            clear hb HGI_7 HR_7 HP_7 HQ_7 HL8 HB_7
            have y1_0 : w18.cell? ⟨w.heap.size, 0, none⟩ = some (.bool v1) := (HR_8.out.c 0).trans rfl
            have y1_1 : w18.cell? ⟨w.heap.size, 1, none⟩ = some (.int .u64 h1) := (HR_8.out.c 1).trans rfl
            have y1_2 : w18.cell? ⟨w.heap.size, 2, none⟩ = some (.int .u64 l1) := (HR_8.out.c 2).trans rfl
            have y1_3 : w18.cell? ⟨w.heap.size, 3, none⟩ = some (.bool v1) := (HR_8.out.c 3).trans rfl
            have y1_4 : w18.cell? ⟨w.heap.size, 4, none⟩ = some (.int .u64 h2) := (HR_8.out.c 4).trans rfl
            have y1_5 : w18.cell? ⟨w.heap.size, 5, none⟩ = some (.int .u64 l2) := (HR_8.out.c 5).trans rfl
            have yl1 := HR_8.out.lt
            have y2_0 : w18.cell? ⟨gp, 0, none⟩ = some (.bool v1) := HP_8.out.c0
            have y2_1 : w18.cell? ⟨gp, 1, none⟩ = some (.int .u64 ph) := HP_8.out.c1
            have y2_2 : w18.cell? ⟨gp, 2, none⟩ = some (.int .u64 pl) := HP_8.out.c2
            have y2_3 : w18.cell? ⟨gp, 3, none⟩ = some (.int .i64 kk) := HP_8.out.c3
            have yl2 := HP_8.out.lt
            have y3_0 : w18.cell? ⟨gq, 0, none⟩ = some (.bool v1) := (HQ_8.out.c 0).trans rfl
            have y3_1 : w18.cell? ⟨gq, 1, none⟩ = some (.int .u64 ph) := (HQ_8.out.c 1).trans rfl
            have y3_2 : w18.cell? ⟨gq, 2, none⟩ = some (.int .u64 pl) := (HQ_8.out.c 2).trans rfl
            have y3_3 : w18.cell? ⟨gq, 3, none⟩ = some (.bool v1) := (HQ_8.out.c 3).trans rfl
            have y3_4 : w18.cell? ⟨gq, 4, none⟩ = some (.int .u64 bh) := (HQ_8.out.c 4).trans rfl
            have y3_5 : w18.cell? ⟨gq, 5, none⟩ = some (.int .u64 bl) := (HQ_8.out.c 5).trans rfl
            have yl3 := HQ_8.out.lt
            have y4_0 : w18.cell? ⟨g8, 0, none⟩ = some (.bool v1) := HL8_8.out.c0
            have y4_1 : w18.cell? ⟨g8, 1, none⟩ = some (.int .u64 ph) := HL8_8.out.c1
            have y4_2 : w18.cell? ⟨g8, 2, none⟩ = some (.int .u64 pl) := HL8_8.out.c2
            have y4_3 : w18.cell? ⟨g8, 3, none⟩ = some (.int .i64 k2) := HL8_8.out.c3
            have yl4 := HL8_8.out.lt
            go_wp2_with fail
            clear y1_0 y1_1 y1_2 y1_3 y1_4 y1_5 yl1 y2_0 y2_1 y2_2 y2_3 yl2 y3_0 y3_1 y3_2 y3_3 y3_4 y3_5 yl3 y4_0 y4_1 y4_2 y4_3 yl4
            obtain ⟨W20, hW20⟩ : ∃ W, W = w18.alloc (.cells #[.bool v1, .int .u64 sh, .int .u64 sl, .int .i64 k2] 37) := ⟨_, rfl⟩
            obtain ⟨g10, hg10⟩ : ∃ g, g = w18.heap.size := ⟨_, rfl⟩
            have HGI_9 := Lib.hid (show GI w W20 t bs As ns cs ((S.map (pf v1)).reverse) Ao no co (Fm.map (pf v1)) w.heap.size v1 h1 l1 v1 h2 l2 gp v1 ph pl (kk : Int) from by rw [hW20]; exact HGI_8.out.al _)
            have HR_9 := Lib.hid (show RB W20 w.heap.size v1 h1 l1 v1 h2 l2 from by rw [hW20]; exact HR_8.out.al _)
            have HP_9 := Lib.hid (show PB W20 gp v1 ph pl kk from by rw [hW20]; exact HP_8.out.al _)
            have HQ_9 := Lib.hid (show RB W20 gq v1 ph pl v1 bh bl from by rw [hW20]; exact HQ_8.out.al _)
            have HL8_9 := Lib.hid (show PB W20 g8 v1 ph pl k2 from by rw [hW20]; exact HL8_8.out.al _)
            have Lg10 := Lib.hid (show w.heap.size < g10 ∧ gp < g10 ∧ gq < g10 ∧ g8 < g10 ∧ w.heap.size ≤ g10 from by rw [hg10]; exact ⟨HR_8.out.lt, HP_8.out.lt, HQ_8.out.lt, HL8_8.out.lt, HB_8.out.size⟩)
            have HL10 := Lib.hid (show PB W20 g10 v1 sh sl k2 from by rw [hW20, hg10]; exact pb_new w18 v1 sh sl k2)
            have HSZg10 := Lib.hid (show W20.heap.size = g10 + 1 from by rw [hW20, hg10]; simp)
            have HB_9 := Lib.hid (show Below w.heap.size w W20 by rw [hW20]; exact HB_8.out.alloc HB_8.out.size _)
            clear HGI_8 HR_8 HP_8 HQ_8 HL8_8 HB_8
            rw [← hW20, ← hg10]
            clear hW20 hg10
            have y1_0 : W20.cell? ⟨w.heap.size, 0, none⟩ = some (.bool v1) := (HR_9.out.c 0).trans rfl
            have y1_1 : W20.cell? ⟨w.heap.size, 1, none⟩ = some (.int .u64 h1) := (HR_9.out.c 1).trans rfl
            have y1_2 : W20.cell? ⟨w.heap.size, 2, none⟩ = some (.int .u64 l1) := (HR_9.out.c 2).trans rfl
            have y1_3 : W20.cell? ⟨w.heap.size, 3, none⟩ = some (.bool v1) := (HR_9.out.c 3).trans rfl
            have y1_4 : W20.cell? ⟨w.heap.size, 4, none⟩ = some (.int .u64 h2) := (HR_9.out.c 4).trans rfl
            have y1_5 : W20.cell? ⟨w.heap.size, 5, none⟩ = some (.int .u64 l2) := (HR_9.out.c 5).trans rfl
            have yl1 := HR_9.out.lt
            have y2_0 : W20.cell? ⟨gp, 0, none⟩ = some (.bool v1) := HP_9.out.c0
            have y2_1 : W20.cell? ⟨gp, 1, none⟩ = some (.int .u64 ph) := HP_9.out.c1
            have y2_2 : W20.cell? ⟨gp, 2, none⟩ = some (.int .u64 pl) := HP_9.out.c2
            have y2_3 : W20.cell? ⟨gp, 3, none⟩ = some (.int .i64 kk) := HP_9.out.c3
            have yl2 := HP_9.out.lt
            have y3_0 : W20.cell? ⟨gq, 0, none⟩ = some (.bool v1) := (HQ_9.out.c 0).trans rfl
            have y3_1 : W20.cell? ⟨gq, 1, none⟩ = some (.int .u64 ph) := (HQ_9.out.c 1).trans rfl
            have y3_2 : W20.cell? ⟨gq, 2, none⟩ = some (.int .u64 pl) := (HQ_9.out.c 2).trans rfl
            have y3_3 : W20.cell? ⟨gq, 3, none⟩ = some (.bool v1) := (HQ_9.out.c 3).trans rfl
            have y3_4 : W20.cell? ⟨gq, 4, none⟩ = some (.int .u64 bh) := (HQ_9.out.c 4).trans rfl
            have y3_5 : W20.cell? ⟨gq, 5, none⟩ = some (.int .u64 bl) := (HQ_9.out.c 5).trans rfl
            have yl3 := HQ_9.out.lt
            have y4_0 : W20.cell? ⟨g8, 0, none⟩ = some (.bool v1) := HL8_9.out.c0
            have y4_1 : W20.cell? ⟨g8, 1, none⟩ = some (.int .u64 ph) := HL8_9.out.c1
            have y4_2 : W20.cell? ⟨g8, 2, none⟩ = some (.int .u64 pl) := HL8_9.out.c2
            have y4_3 : W20.cell? ⟨g8, 3, none⟩ = some (.int .i64 k2) := HL8_9.out.c3
            have yl4 := HL8_9.out.lt
            have y5_0 : W20.cell? ⟨g10, 0, none⟩ = some (.bool v1) := HL10.out.c0
            have y5_1 : W20.cell? ⟨g10, 1, none⟩ = some (.int .u64 sh) := HL10.out.c1
            have y5_2 : W20.cell? ⟨g10, 2, none⟩ = some (.int .u64 sl) := HL10.out.c2
            have y5_3 : W20.cell? ⟨g10, 3, none⟩ = some (.int .i64 k2) := HL10.out.c3
            have yl5 := HL10.out.lt
            clear y1_0 y1_1 y1_2 y1_3 y1_4 y1_5 yl1 y2_0 y2_1 y2_2 y2_3 yl2 y3_0 y3_1 y3_2 y3_3 y3_4 y3_5 yl3 y4_0 y4_1 y4_2 y4_3 yl4 y5_0 y5_1 y5_2 y5_3 yl5
            obtain ⟨Wa, hWa⟩ : ∃ W, W = W20.alloc (.cells #[.bool v1, .int .u64 ph, .int .u64 pl, .int .i64 k2, .bool v1, .int .u64 sh, .int .u64 sl, .int .i64 k2] 37) := ⟨_, rfl⟩
            obtain ⟨ga, hga⟩ : ∃ g, g = g10 + 1 := ⟨_, rfl⟩
            have hgs : W20.heap.size = ga := by rw [hga]; exact HSZg10.out
            have HGa := Lib.hid (show GI w Wa t bs As ns cs ((S.map (pf v1)).reverse) Ao no co (Fm.map (pf v1)) w.heap.size v1 h1 l1 v1 h2 l2 gp v1 ph pl (kk : Int) from by rw [hWa]; exact HGI_9.out.al _)
            have HRW := Lib.hid (show RowL EP Wa (some ⟨ga, 0, none⟩) [pf v1 (n, e'), pf v1 (n + 2 ^ e', e')] from by
              have hh := heap_alloc_new W20 (.cells #[.bool v1, .int .u64 ph, .int .u64 pl, .int .i64 k2, .bool v1, .int .u64 sh, .int .u64 sl, .int .i64 k2] 37)
              rw [← hWa, hgs] at hh
              exact rowl_block hh (by rw [HPL.out.1, HPL.out.2]; rfl))
            have HPU := Lib.hid (putP_any bs w.heap.size As (some ⟨ga, 0, none⟩) ns cs 2 2 ((S.map (pf v1)).reverse) [pf v1 (n, e'), pf v1 (n + 2 ^ e', e')] Wa HGa.out.sb (.inr trivial) HGa.out.sr HRW.out rfl (by omega) HGa.out.B.size (fun j hj e => by have a := HGa.out.t2 j hj; rw [e, HGa.out.t1] at a; omega) (fun a ha => by
              obtain rfl := Option.some.inj ha
              have h1 := HGI_9.out.sb.lt
              exact ⟨by show ga ≠ bs; omega, fun e => by have h2 := (HGI_9.out.sr.2.lt _ e.symm).2; simp only at h2; omega⟩))
            rw [← hWa, ← hga]
            clear hWa hga hgs HRW HSZg10 HGI_9 HR_9 HP_9 HQ_9 HL8_9 HL10 HB_9
            refine HPU.out.mono ?_
            rintro e wz ⟨rfl, Az, cz, z1, z2, z3, z4⟩
            obtain ⟨tz, hGz⟩ := HGa.out.put z1 z2 z3 z4
            have hfa : (S.map (pf v1)).reverse ++ [pf v1 (n, e'), pf v1 (n + 2 ^ e', e')].reverse = (((n, e') :: (n + 2 ^ e', e') :: S).map (pf v1)).reverse := by simp
            rw [hfa] at hGz
            have HGZ := Lib.hid hGz
            clear z1 z2 z3 z4 hGz hfa HPU HGa
            have HBz := Lib.hid HGZ.out.B
            have HRz := Lib.hid HGZ.out.rb
            have HPz := Lib.hid HGZ.out.pb
            have y1_0 : wz.cell? ⟨w.heap.size, 0, none⟩ = some (.bool v1) := (HRz.out.c 0).trans rfl
            have y1_1 : wz.cell? ⟨w.heap.size, 1, none⟩ = some (.int .u64 h1) := (HRz.out.c 1).trans rfl
            have y1_2 : wz.cell? ⟨w.heap.size, 2, none⟩ = some (.int .u64 l1) := (HRz.out.c 2).trans rfl
            have y1_3 : wz.cell? ⟨w.heap.size, 3, none⟩ = some (.bool v1) := (HRz.out.c 3).trans rfl
            have y1_4 : wz.cell? ⟨w.heap.size, 4, none⟩ = some (.int .u64 h2) := (HRz.out.c 4).trans rfl
            have y1_5 : wz.cell? ⟨w.heap.size, 5, none⟩ = some (.int .u64 l2) := (HRz.out.c 5).trans rfl
            have yl1 := HRz.out.lt
            have y2_0 : wz.cell? ⟨gp, 0, none⟩ = some (.bool v1) := HPz.out.c0
            have y2_1 : wz.cell? ⟨gp, 1, none⟩ = some (.int .u64 ph) := HPz.out.c1
            have y2_2 : wz.cell? ⟨gp, 2, none⟩ = some (.int .u64 pl) := HPz.out.c2
            have y2_3 : wz.cell? ⟨gp, 3, none⟩ = some (.int .i64 kk) := HPz.out.c3
            have yl2 := HPz.out.lt
            go_wp2_with fail
            clear y1_0 y1_1 y1_2 y1_3 y1_4 y1_5 yl1 y2_0 y2_1 y2_2 y2_3 yl2
            obtain ⟨t9, hG9⟩ := HGZ.out.newp v1 ph pl (kk : Int)
            obtain ⟨Wn, hWn⟩ : ∃ W, W = wz.alloc (.cells #[.bool v1, .int .u64 ph, .int .u64 pl, .int .i64 kk] 37) := ⟨_, rfl⟩
            obtain ⟨gn, hgn⟩ : ∃ g, g = wz.heap.size := ⟨_, rfl⟩
            rw [← hWn, ← hgn] at hG9
            rw [← hWn, ← hgn]
            have HGN := Lib.hid hG9
            clear hG9 hWn hgn HGZ HRz HPz HBz
            obtain ⟨qh, ql, qk, hq, hqh, hql, hqk⟩ : ∃ qh ql qk : Nat, pf v1 (n, e') = ⟨v1, qh, ql, (qk : Int)⟩ ∧ qh = n / 18446744073709551616 ∧ ql = n % 18446744073709551616 ∧ qk = width v1 - e' := ⟨_, _, _, rfl, rfl, rfl, rfl⟩
            have HTK := Lib.hid (takeP_any bs w.heap.size Az (ns + 2) cz ((((n + 2 ^ e', e') :: S).map (pf v1)).reverse) (pf v1 (n, e')) Wn HGN.out.sb (by have := HGN.out.sr; simpa using this) (by omega) (fun j hj e => by have a := HGN.out.t2 j hj; rw [e, HGN.out.t1] at a; omega))
            rw [hq] at HTK
            simp only at HTK
            have HTO := Lib.hid (fun W' hs hg => GI.took (x := pf v1 (n, e')) (I := (((n + 2 ^ e', e') :: S).map (pf v1)).reverse) (W' := W') (show GI w Wn t9 bs Az (ns + 2) cz ((((n + 2 ^ e', e') :: S).map (pf v1)).reverse ++ [pf v1 (n, e')]) Ao no co (Fm.map (pf v1)) w.heap.size v1 h1 l1 v1 h2 l2 gn v1 ph pl (kk : Int) from by have := HGN.out; simpa using this) hs hg)
            have HQ9 := Lib.hid (And.intro hqh (And.intro hql hqk))
            clear hq hqh hql hqk HGN
            refine HTK.out.mono ?_
            rintro e w8 ⟨rfl, k1, k2⟩
            have HG8 := Lib.hid (HTO.out w8 k1 k2)
            clear k1 k2 HTK HTO
            have HP9 := Lib.hid HG8.out.pb
            have s0 := HP9.out.c0
            have sf0 := HP9.out.f 0
            have s1 := HP9.out.c1
            have sf1 := HP9.out.f 1
            have s2 := HP9.out.c2
            have sf2 := HP9.out.f 2
            have s3 := HP9.out.c3
            have sf3 := HP9.out.f 3
            have sl := HP9.out.lt
            obtain ⟨W9, hW9⟩ : ∃ W, W = pset w8 gn v1 qh ql (qk : Int) := ⟨_, rfl⟩
            have HG9 := Lib.hid (show GI w W9 t9 bs Az ((ns + 2) - 1) cz ((((n + 2 ^ e', e') :: S).map (pf v1)).reverse) Ao no co (Fm.map (pf v1)) w.heap.size v1 h1 l1 v1 h2 l2 gn v1 qh ql (qk : Int) from by rw [hW9]; exact HG8.out.setp v1 qh ql (qk : Int))
            unfold pset at hW9
            go_wp2_with fail
            rw [← hW9]
            clear hW9 s0 s1 s2 s3 sf0 sf1 sf2 sf3 sl HP9 HG8
            go_roundg (costL lo hi ((n, e') :: ((n + 2 ^ e', e') :: S)))
            case measure => exact (by have h1 := HCO.out; rw [costL_cons] at h1 ⊢; rw [costL_cons]; simp only [cost] at h1; omega)
            case rel => exact ⟨t9, Az, Ao, (ns + 2) - 1, cz, no, co, gn, ((n + 2 ^ e', e') :: S), Fm, qh, ql, qk, true, v1, rfl, rfl, rfl, HG9, Lib.hid (fun e => Bool.noConfusion e), Lib.hid (fun _ => ⟨rfl, n, e', HQ9.out.1, HQ9.out.2.1, HQ9.out.2.2, sOK_split HOK.out, (by have := HTT.out; rw [decL_cons, HD.out, List.append_assoc] at this; rw [decL_cons, decL_cons]; exact this), Nat.le_refl _⟩)⟩
          · rw [decide_eq_false t3] at HT3
            by_cases t4 : hi < n + 2 ^ e - 1
            · rw [decide_eq_true t4] at HT4
              obtain ⟨e', rfl⟩ : ∃ e', e = e' + 1 := by
                cases e with
                | zero => have := dec_zero hnd; omega
                | succ e' => exact ⟨e', rfl⟩
              have HD := Lib.hid (show dec lo hi (e' + 1) n = dec lo hi e' n ++ dec lo hi e' (n + 2 ^ e') from dec_split hnd (by omega))
              obtain ⟨k2, hk2⟩ : ∃ k, k = width v1 - e' := ⟨_, rfl⟩
              obtain ⟨sh, sl, hSS⟩ : ∃ sh sl, adN v1 (n + 2 ^ e') = ⟨v1, sh, sl⟩ := ⟨_, _, rfl⟩
              have hmk := HMK.out e' rfl
              have hs2 := Ad.mk.inj hSS
              have hb2 := Ad.mk.inj hBB
              have hk2W : k2 ≤ width v1 := by omega
              have HM1 := Lib.hid (show ∀ W, Calls Try.prog 72 #[.agg #[.bool v1, .int .u64 ph, .int .u64 pl], .int .i64 k2] W fun e w' => e = .returned (.tuple #[.agg #[.bool v1, .int .u64 ph, .int .u64 pl, .int .i64 k2], .int .i64 0]) ∧ Below W.heap.size W w' from fun W => by
                have h := qmake_ok v1 ph pl k2 W hfn.1 hfn.2 hk2W
                rw [hk2, hph, hpl, hmk.1.1, hmk.1.2] at h
                rw [hk2, hph, hpl]
                exact h)
              have HM2 := Lib.hid (show ∀ W, Calls Try.prog 72 #[.agg #[.bool v1, .int .u64 bh, .int .u64 bl], .int .i64 k2] W fun e w' => e = .returned (.tuple #[.agg #[.bool v1, .int .u64 sh, .int .u64 sl, .int .i64 k2], .int .i64 0]) ∧ Below W.heap.size W w' from fun W => by
                have h := qmake_ok v1 bh bl k2 W hfm.1 hfm.2 hk2W
                rw [hk2, ← hb2.2.1, ← hb2.2.2, hmk.2.1, hmk.2.2] at h
                rw [hk2, ← hb2.2.1, ← hb2.2.2, ← hs2.2.1, ← hs2.2.2]
                exact h)
              have HPL := Lib.hid (show pf v1 (n, e') = ⟨v1, ph, pl, (k2 : Int)⟩ ∧ pf v1 (n + 2 ^ e', e') = ⟨v1, sh, sl, (k2 : Int)⟩ from ⟨by rw [hph, hpl, hk2]; rfl, by rw [hk2, ← hs2.2.1, ← hs2.2.2]; rfl⟩)
              have hkw : (kk : Int) + 1 = (k2 : Int) := by omega
              clear hk2 hSS hmk hs2 hb2 hk2W
              clear hph hpl hkk hS1 hdv hnW hS4 heW hp2 hnl hml hbd hA hBB hfn hfm hk4 hFl hns hT hcost HF0 HF1 t1 t2 t3 t4 hnd
              have y1_0 : wr.cell? ⟨w.heap.size, 0, none⟩ = some (.bool v1) := (HR.out.c 0).trans rfl
              have y1_1 : wr.cell? ⟨w.heap.size, 1, none⟩ = some (.int .u64 h1) := (HR.out.c 1).trans rfl
              have y1_2 : wr.cell? ⟨w.heap.size, 2, none⟩ = some (.int .u64 l1) := (HR.out.c 2).trans rfl
              have y1_3 : wr.cell? ⟨w.heap.size, 3, none⟩ = some (.bool v1) := (HR.out.c 3).trans rfl
              have y1_4 : wr.cell? ⟨w.heap.size, 4, none⟩ = some (.int .u64 h2) := (HR.out.c 4).trans rfl
              have y1_5 : wr.cell? ⟨w.heap.size, 5, none⟩ = some (.int .u64 l2) := (HR.out.c 5).trans rfl
              have yl1 := HR.out.lt
              have y2_0 : wr.cell? ⟨gp, 0, none⟩ = some (.bool v1) := HP.out.c0
              have y2_1 : wr.cell? ⟨gp, 1, none⟩ = some (.int .u64 ph) := HP.out.c1
              have y2_2 : wr.cell? ⟨gp, 2, none⟩ = some (.int .u64 pl) := HP.out.c2
              have y2_3 : wr.cell? ⟨gp, 3, none⟩ = some (.int .i64 kk) := HP.out.c3
              have yl2 := HP.out.lt
              go_wp2_with fail
              clear y1_0 y1_1 y1_2 y1_3 y1_4 y1_5 yl1 y2_0 y2_1 y2_2 y2_3 yl2
              refine (HBD.out _).mono ?_
              rintro e w11 ⟨rfl, hb⟩
              have HGI_1 := Lib.hid (show GI w w11 t bs As ns cs ((S.map (pf v1)).reverse) Ao no co (Fm.map (pf v1)) w.heap.size v1 h1 l1 v1 h2 l2 gp v1 ph pl (kk : Int) from HGI.out.kept hb)
              have HR_1 := Lib.hid (show RB w11 w.heap.size v1 h1 l1 v1 h2 l2 from HR.out.kept hb HR.out.lt)
              have HP_1 := Lib.hid (show PB w11 gp v1 ph pl kk from HP.out.kept hb HP.out.lt)
              have HB_1 := Lib.hid (HB.out.trans (hb.mono HB.out.size))
              clear hb HGI HR HP HB
              have y1_0 : w11.cell? ⟨w.heap.size, 0, none⟩ = some (.bool v1) := (HR_1.out.c 0).trans rfl
              have y1_1 : w11.cell? ⟨w.heap.size, 1, none⟩ = some (.int .u64 h1) := (HR_1.out.c 1).trans rfl
              have y1_2 : w11.cell? ⟨w.heap.size, 2, none⟩ = some (.int .u64 l1) := (HR_1.out.c 2).trans rfl
              have y1_3 : w11.cell? ⟨w.heap.size, 3, none⟩ = some (.bool v1) := (HR_1.out.c 3).trans rfl
              have y1_4 : w11.cell? ⟨w.heap.size, 4, none⟩ = some (.int .u64 h2) := (HR_1.out.c 4).trans rfl
              have y1_5 : w11.cell? ⟨w.heap.size, 5, none⟩ = some (.int .u64 l2) := (HR_1.out.c 5).trans rfl
              have yl1 := HR_1.out.lt
              have y2_0 : w11.cell? ⟨gp, 0, none⟩ = some (.bool v1) := HP_1.out.c0
              have y2_1 : w11.cell? ⟨gp, 1, none⟩ = some (.int .u64 ph) := HP_1.out.c1
              have y2_2 : w11.cell? ⟨gp, 2, none⟩ = some (.int .u64 pl) := HP_1.out.c2
              have y2_3 : w11.cell? ⟨gp, 3, none⟩ = some (.int .i64 kk) := HP_1.out.c3
              have yl2 := HP_1.out.lt
              go_wp2_with fail
              clear y1_0 y1_1 y1_2 y1_3 y1_4 y1_5 yl1 y2_0 y2_1 y2_2 y2_3 yl2
              obtain ⟨W13, hW13⟩ : ∃ W, W = w11.alloc (.cells #[.bool v1, .int .u64 ph, .int .u64 pl, .bool v1, .int .u64 bh, .int .u64 bl] 43) := ⟨_, rfl⟩
              obtain ⟨gq, hgq⟩ : ∃ g, g = w11.heap.size := ⟨_, rfl⟩
              have HGI_2 := Lib.hid (show GI w W13 t bs As ns cs ((S.map (pf v1)).reverse) Ao no co (Fm.map (pf v1)) w.heap.size v1 h1 l1 v1 h2 l2 gp v1 ph pl (kk : Int) from by rw [hW13]; exact HGI_1.out.al _)
              have HR_2 := Lib.hid (show RB W13 w.heap.size v1 h1 l1 v1 h2 l2 from by rw [hW13]; exact HR_1.out.al _)
              have HP_2 := Lib.hid (show PB W13 gp v1 ph pl kk from by rw [hW13]; exact HP_1.out.al _)
              have Lgq := Lib.hid (show w.heap.size < gq ∧ gp < gq ∧ w.heap.size ≤ gq from by rw [hgq]; exact ⟨HR_1.out.lt, HP_1.out.lt, HB_1.out.size⟩)
              have HQ := Lib.hid (show RB W13 gq v1 ph pl v1 bh bl from by rw [hW13, hgq]; exact rb_new w11 v1 ph pl v1 bh bl)
              have HSZgq := Lib.hid (show W13.heap.size = gq + 1 from by rw [hW13, hgq]; simp)
              have HB_2 := Lib.hid (show Below w.heap.size w W13 by rw [hW13]; exact HB_1.out.alloc HB_1.out.size _)
              clear HGI_1 HR_1 HP_1 HB_1
              rw [← hW13, ← hgq]
              clear hW13 hgq
              have y1_0 : W13.cell? ⟨w.heap.size, 0, none⟩ = some (.bool v1) := (HR_2.out.c 0).trans rfl
              have y1_1 : W13.cell? ⟨w.heap.size, 1, none⟩ = some (.int .u64 h1) := (HR_2.out.c 1).trans rfl
              have y1_2 : W13.cell? ⟨w.heap.size, 2, none⟩ = some (.int .u64 l1) := (HR_2.out.c 2).trans rfl
              have y1_3 : W13.cell? ⟨w.heap.size, 3, none⟩ = some (.bool v1) := (HR_2.out.c 3).trans rfl
              have y1_4 : W13.cell? ⟨w.heap.size, 4, none⟩ = some (.int .u64 h2) := (HR_2.out.c 4).trans rfl
              have y1_5 : W13.cell? ⟨w.heap.size, 5, none⟩ = some (.int .u64 l2) := (HR_2.out.c 5).trans rfl
              have yl1 := HR_2.out.lt
              have y2_0 : W13.cell? ⟨gp, 0, none⟩ = some (.bool v1) := HP_2.out.c0
              have y2_1 : W13.cell? ⟨gp, 1, none⟩ = some (.int .u64 ph) := HP_2.out.c1
              have y2_2 : W13.cell? ⟨gp, 2, none⟩ = some (.int .u64 pl) := HP_2.out.c2
              have y2_3 : W13.cell? ⟨gp, 3, none⟩ = some (.int .i64 kk) := HP_2.out.c3
              have yl2 := HP_2.out.lt
              have y3_0 : W13.cell? ⟨gq, 0, none⟩ = some (.bool v1) := (HQ.out.c 0).trans rfl
              have y3_1 : W13.cell? ⟨gq, 1, none⟩ = some (.int .u64 ph) := (HQ.out.c 1).trans rfl
              have y3_2 : W13.cell? ⟨gq, 2, none⟩ = some (.int .u64 pl) := (HQ.out.c 2).trans rfl
              have y3_3 : W13.cell? ⟨gq, 3, none⟩ = some (.bool v1) := (HQ.out.c 3).trans rfl
              have y3_4 : W13.cell? ⟨gq, 4, none⟩ = some (.int .u64 bh) := (HQ.out.c 4).trans rfl
              have y3_5 : W13.cell? ⟨gq, 5, none⟩ = some (.int .u64 bl) := (HQ.out.c 5).trans rfl
              have yl3 := HQ.out.lt
              clear y1_0 y1_1 y1_2 y1_3 y1_4 y1_5 yl1 y2_0 y2_1 y2_2 y2_3 yl2 y3_0 y3_1 y3_2 y3_3 y3_4 y3_5 yl3
              refine (HT1.out _).mono ?_
              rintro e w13 ⟨rfl, hb⟩
              have HGI_3 := Lib.hid (show GI w w13 t bs As ns cs ((S.map (pf v1)).reverse) Ao no co (Fm.map (pf v1)) w.heap.size v1 h1 l1 v1 h2 l2 gp v1 ph pl (kk : Int) from HGI_2.out.kept hb)
              have HR_3 := Lib.hid (show RB w13 w.heap.size v1 h1 l1 v1 h2 l2 from HR_2.out.kept hb HR_2.out.lt)
              have HP_3 := Lib.hid (show PB w13 gp v1 ph pl kk from HP_2.out.kept hb HP_2.out.lt)
              have HQ_3 := Lib.hid (show RB w13 gq v1 ph pl v1 bh bl from HQ.out.kept hb HQ.out.lt)
              have HB_3 := Lib.hid (HB_2.out.trans (hb.mono HB_2.out.size))
              clear hb HGI_2 HR_2 HP_2 HQ HB_2
              have y1_0 : w13.cell? ⟨w.heap.size, 0, none⟩ = some (.bool v1) := (HR_3.out.c 0).trans rfl
              have y1_1 : w13.cell? ⟨w.heap.size, 1, none⟩ = some (.int .u64 h1) := (HR_3.out.c 1).trans rfl
              have y1_2 : w13.cell? ⟨w.heap.size, 2, none⟩ = some (.int .u64 l1) := (HR_3.out.c 2).trans rfl
              have y1_3 : w13.cell? ⟨w.heap.size, 3, none⟩ = some (.bool v1) := (HR_3.out.c 3).trans rfl
              have y1_4 : w13.cell? ⟨w.heap.size, 4, none⟩ = some (.int .u64 h2) := (HR_3.out.c 4).trans rfl
              have y1_5 : w13.cell? ⟨w.heap.size, 5, none⟩ = some (.int .u64 l2) := (HR_3.out.c 5).trans rfl
              have yl1 := HR_3.out.lt
              have y2_0 : w13.cell? ⟨gp, 0, none⟩ = some (.bool v1) := HP_3.out.c0
              have y2_1 : w13.cell? ⟨gp, 1, none⟩ = some (.int .u64 ph) := HP_3.out.c1
              have y2_2 : w13.cell? ⟨gp, 2, none⟩ = some (.int .u64 pl) := HP_3.out.c2
              have y2_3 : w13.cell? ⟨gp, 3, none⟩ = some (.int .i64 kk) := HP_3.out.c3
              have yl2 := HP_3.out.lt
              have y3_0 : w13.cell? ⟨gq, 0, none⟩ = some (.bool v1) := (HQ_3.out.c 0).trans rfl
              have y3_1 : w13.cell? ⟨gq, 1, none⟩ = some (.int .u64 ph) := (HQ_3.out.c 1).trans rfl
              have y3_2 : w13.cell? ⟨gq, 2, none⟩ = some (.int .u64 pl) := (HQ_3.out.c 2).trans rfl
              have y3_3 : w13.cell? ⟨gq, 3, none⟩ = some (.bool v1) := (HQ_3.out.c 3).trans rfl
              have y3_4 : w13.cell? ⟨gq, 4, none⟩ = some (.int .u64 bh) := (HQ_3.out.c 4).trans rfl
              have y3_5 : w13.cell? ⟨gq, 5, none⟩ = some (.int .u64 bl) := (HQ_3.out.c 5).trans rfl
              have yl3 := HQ_3.out.lt
              go_wp2_with fail
              clear y1_0 y1_1 y1_2 y1_3 y1_4 y1_5 yl1 y2_0 y2_1 y2_2 y2_3 yl2 y3_0 y3_1 y3_2 y3_3 y3_4 y3_5 yl3
              refine (HT2.out _).mono ?_
              rintro e w14 ⟨rfl, hb⟩
              have HGI_4 := Lib.hid (show GI w w14 t bs As ns cs ((S.map (pf v1)).reverse) Ao no co (Fm.map (pf v1)) w.heap.size v1 h1 l1 v1 h2 l2 gp v1 ph pl (kk : Int) from HGI_3.out.kept hb)
              have HR_4 := Lib.hid (show RB w14 w.heap.size v1 h1 l1 v1 h2 l2 from HR_3.out.kept hb HR_3.out.lt)
              have HP_4 := Lib.hid (show PB w14 gp v1 ph pl kk from HP_3.out.kept hb HP_3.out.lt)
              have HQ_4 := Lib.hid (show RB w14 gq v1 ph pl v1 bh bl from HQ_3.out.kept hb HQ_3.out.lt)
              have HB_4 := Lib.hid (HB_3.out.trans (hb.mono HB_3.out.size))
              clear hb HGI_3 HR_3 HP_3 HQ_3 HB_3
              have y1_0 : w14.cell? ⟨w.heap.size, 0, none⟩ = some (.bool v1) := (HR_4.out.c 0).trans rfl
              have y1_1 : w14.cell? ⟨w.heap.size, 1, none⟩ = some (.int .u64 h1) := (HR_4.out.c 1).trans rfl
              have y1_2 : w14.cell? ⟨w.heap.size, 2, none⟩ = some (.int .u64 l1) := (HR_4.out.c 2).trans rfl
              have y1_3 : w14.cell? ⟨w.heap.size, 3, none⟩ = some (.bool v1) := (HR_4.out.c 3).trans rfl
              have y1_4 : w14.cell? ⟨w.heap.size, 4, none⟩ = some (.int .u64 h2) := (HR_4.out.c 4).trans rfl
              have y1_5 : w14.cell? ⟨w.heap.size, 5, none⟩ = some (.int .u64 l2) := (HR_4.out.c 5).trans rfl
              have yl1 := HR_4.out.lt
              have y2_0 : w14.cell? ⟨gp, 0, none⟩ = some (.bool v1) := HP_4.out.c0
              have y2_1 : w14.cell? ⟨gp, 1, none⟩ = some (.int .u64 ph) := HP_4.out.c1
              have y2_2 : w14.cell? ⟨gp, 2, none⟩ = some (.int .u64 pl) := HP_4.out.c2
              have y2_3 : w14.cell? ⟨gp, 3, none⟩ = some (.int .i64 kk) := HP_4.out.c3
              have yl2 := HP_4.out.lt
              have y3_0 : w14.cell? ⟨gq, 0, none⟩ = some (.bool v1) := (HQ_4.out.c 0).trans rfl
              have y3_1 : w14.cell? ⟨gq, 1, none⟩ = some (.int .u64 ph) := (HQ_4.out.c 1).trans rfl
              have y3_2 : w14.cell? ⟨gq, 2, none⟩ = some (.int .u64 pl) := (HQ_4.out.c 2).trans rfl
              have y3_3 : w14.cell? ⟨gq, 3, none⟩ = some (.bool v1) := (HQ_4.out.c 3).trans rfl
              have y3_4 : w14.cell? ⟨gq, 4, none⟩ = some (.int .u64 bh) := (HQ_4.out.c 4).trans rfl
              have y3_5 : w14.cell? ⟨gq, 5, none⟩ = some (.int .u64 bl) := (HQ_4.out.c 5).trans rfl
              have yl3 := HQ_4.out.lt
              go_wp2_with fail
              clear y1_0 y1_1 y1_2 y1_3 y1_4 y1_5 yl1 y2_0 y2_1 y2_2 y2_3 yl2 y3_0 y3_1 y3_2 y3_3 y3_4 y3_5 yl3
              refine (HT3.out _).mono ?_
              rintro e w15 ⟨rfl, hb⟩
              have HGI_5 := Lib.hid (show GI w w15 t bs As ns cs ((S.map (pf v1)).reverse) Ao no co (Fm.map (pf v1)) w.heap.size v1 h1 l1 v1 h2 l2 gp v1 ph pl (kk : Int) from HGI_4.out.kept hb)
              have HR_5 := Lib.hid (show RB w15 w.heap.size v1 h1 l1 v1 h2 l2 from HR_4.out.kept hb HR_4.out.lt)
              have HP_5 := Lib.hid (show PB w15 gp v1 ph pl kk from HP_4.out.kept hb HP_4.out.lt)
              have HQ_5 := Lib.hid (show RB w15 gq v1 ph pl v1 bh bl from HQ_4.out.kept hb HQ_4.out.lt)
              have HB_5 := Lib.hid (HB_4.out.trans (hb.mono HB_4.out.size))
              clear hb HGI_4 HR_4 HP_4 HQ_4 HB_4
              have y1_0 : w15.cell? ⟨w.heap.size, 0, none⟩ = some (.bool v1) := (HR_5.out.c 0).trans rfl
              have y1_1 : w15.cell? ⟨w.heap.size, 1, none⟩ = some (.int .u64 h1) := (HR_5.out.c 1).trans rfl
              have y1_2 : w15.cell? ⟨w.heap.size, 2, none⟩ = some (.int .u64 l1) := (HR_5.out.c 2).trans rfl
              have y1_3 : w15.cell? ⟨w.heap.size, 3, none⟩ = some (.bool v1) := (HR_5.out.c 3).trans rfl
              have y1_4 : w15.cell? ⟨w.heap.size, 4, none⟩ = some (.int .u64 h2) := (HR_5.out.c 4).trans rfl
              have y1_5 : w15.cell? ⟨w.heap.size, 5, none⟩ = some (.int .u64 l2) := (HR_5.out.c 5).trans rfl
              have yl1 := HR_5.out.lt
              have y2_0 : w15.cell? ⟨gp, 0, none⟩ = some (.bool v1) := HP_5.out.c0
              have y2_1 : w15.cell? ⟨gp, 1, none⟩ = some (.int .u64 ph) := HP_5.out.c1
              have y2_2 : w15.cell? ⟨gp, 2, none⟩ = some (.int .u64 pl) := HP_5.out.c2
              have y2_3 : w15.cell? ⟨gp, 3, none⟩ = some (.int .i64 kk) := HP_5.out.c3
              have yl2 := HP_5.out.lt
              have y3_0 : w15.cell? ⟨gq, 0, none⟩ = some (.bool v1) := (HQ_5.out.c 0).trans rfl
              have y3_1 : w15.cell? ⟨gq, 1, none⟩ = some (.int .u64 ph) := (HQ_5.out.c 1).trans rfl
              have y3_2 : w15.cell? ⟨gq, 2, none⟩ = some (.int .u64 pl) := (HQ_5.out.c 2).trans rfl
              have y3_3 : w15.cell? ⟨gq, 3, none⟩ = some (.bool v1) := (HQ_5.out.c 3).trans rfl
              have y3_4 : w15.cell? ⟨gq, 4, none⟩ = some (.int .u64 bh) := (HQ_5.out.c 4).trans rfl
              have y3_5 : w15.cell? ⟨gq, 5, none⟩ = some (.int .u64 bl) := (HQ_5.out.c 5).trans rfl
              have yl3 := HQ_5.out.lt
              go_wp2_with fail
              clear y1_0 y1_1 y1_2 y1_3 y1_4 y1_5 yl1 y2_0 y2_1 y2_2 y2_3 yl2 y3_0 y3_1 y3_2 y3_3 y3_4 y3_5 yl3
              refine (HT4.out _).mono ?_
              rintro e w16 ⟨rfl, hb⟩
              have HGI_6 := Lib.hid (show GI w w16 t bs As ns cs ((S.map (pf v1)).reverse) Ao no co (Fm.map (pf v1)) w.heap.size v1 h1 l1 v1 h2 l2 gp v1 ph pl (kk : Int) from HGI_5.out.kept hb)
              have HR_6 := Lib.hid (show RB w16 w.heap.size v1 h1 l1 v1 h2 l2 from HR_5.out.kept hb HR_5.out.lt)
              have HP_6 := Lib.hid (show PB w16 gp v1 ph pl kk from HP_5.out.kept hb HP_5.out.lt)
              have HQ_6 := Lib.hid (show RB w16 gq v1 ph pl v1 bh bl from HQ_5.out.kept hb HQ_5.out.lt)
              have HB_6 := Lib.hid (HB_5.out.trans (hb.mono HB_5.out.size))
              clear hb HGI_5 HR_5 HP_5 HQ_5 HB_5
              have y1_0 : w16.cell? ⟨w.heap.size, 0, none⟩ = some (.bool v1) := (HR_6.out.c 0).trans rfl
              have y1_1 : w16.cell? ⟨w.heap.size, 1, none⟩ = some (.int .u64 h1) := (HR_6.out.c 1).trans rfl
              have y1_2 : w16.cell? ⟨w.heap.size, 2, none⟩ = some (.int .u64 l1) := (HR_6.out.c 2).trans rfl
              have y1_3 : w16.cell? ⟨w.heap.size, 3, none⟩ = some (.bool v1) := (HR_6.out.c 3).trans rfl
              have y1_4 : w16.cell? ⟨w.heap.size, 4, none⟩ = some (.int .u64 h2) := (HR_6.out.c 4).trans rfl
              have y1_5 : w16.cell? ⟨w.heap.size, 5, none⟩ = some (.int .u64 l2) := (HR_6.out.c 5).trans rfl
              have yl1 := HR_6.out.lt
              have y2_0 : w16.cell? ⟨gp, 0, none⟩ = some (.bool v1) := HP_6.out.c0
              have y2_1 : w16.cell? ⟨gp, 1, none⟩ = some (.int .u64 ph) := HP_6.out.c1
              have y2_2 : w16.cell? ⟨gp, 2, none⟩ = some (.int .u64 pl) := HP_6.out.c2
              have y2_3 : w16.cell? ⟨gp, 3, none⟩ = some (.int .i64 kk) := HP_6.out.c3
              have yl2 := HP_6.out.lt
              have y3_0 : w16.cell? ⟨gq, 0, none⟩ = some (.bool v1) := (HQ_6.out.c 0).trans rfl
              have y3_1 : w16.cell? ⟨gq, 1, none⟩ = some (.int .u64 ph) := (HQ_6.out.c 1).trans rfl
              have y3_2 : w16.cell? ⟨gq, 2, none⟩ = some (.int .u64 pl) := (HQ_6.out.c 2).trans rfl
              have y3_3 : w16.cell? ⟨gq, 3, none⟩ = some (.bool v1) := (HQ_6.out.c 3).trans rfl
              have y3_4 : w16.cell? ⟨gq, 4, none⟩ = some (.int .u64 bh) := (HQ_6.out.c 4).trans rfl
              have y3_5 : w16.cell? ⟨gq, 5, none⟩ = some (.int .u64 bl) := (HQ_6.out.c 5).trans rfl
              have yl3 := HQ_6.out.lt
              go_wp2_with fail
              clear y1_0 y1_1 y1_2 y1_3 y1_4 y1_5 yl1 y2_0 y2_1 y2_2 y2_3 yl2 y3_0 y3_1 y3_2 y3_3 y3_4 y3_5 yl3
              refine (HM1.out _).mono ?_
              rintro e w17 ⟨rfl, hb⟩
              have HGI_7 := Lib.hid (show GI w w17 t bs As ns cs ((S.map (pf v1)).reverse) Ao no co (Fm.map (pf v1)) w.heap.size v1 h1 l1 v1 h2 l2 gp v1 ph pl (kk : Int) from HGI_6.out.kept hb)
              have HR_7 := Lib.hid (show RB w17 w.heap.size v1 h1 l1 v1 h2 l2 from HR_6.out.kept hb HR_6.out.lt)
              have HP_7 := Lib.hid (show PB w17 gp v1 ph pl kk from HP_6.out.kept hb HP_6.out.lt)
              have HQ_7 := Lib.hid (show RB w17 gq v1 ph pl v1 bh bl from HQ_6.out.kept hb HQ_6.out.lt)
              have HB_7 := Lib.hid (HB_6.out.trans (hb.mono HB_6.out.size))
              clear hb HGI_6 HR_6 HP_6 HQ_6 HB_6
              have y1_0 : w17.cell? ⟨w.heap.size, 0, none⟩ = some (.bool v1) := (HR_7.out.c 0).trans rfl
              have y1_1 : w17.cell? ⟨w.heap.size, 1, none⟩ = some (.int .u64 h1) := (HR_7.out.c 1).trans rfl
              have y1_2 : w17.cell? ⟨w.heap.size, 2, none⟩ = some (.int .u64 l1) := (HR_7.out.c 2).trans rfl
              have y1_3 : w17.cell? ⟨w.heap.size, 3, none⟩ = some (.bool v1) := (HR_7.out.c 3).trans rfl
              have y1_4 : w17.cell? ⟨w.heap.size, 4, none⟩ = some (.int .u64 h2) := (HR_7.out.c 4).trans rfl
              have y1_5 : w17.cell? ⟨w.heap.size, 5, none⟩ = some (.int .u64 l2) := (HR_7.out.c 5).trans rfl
              have yl1 := HR_7.out.lt
              have y2_0 : w17.cell? ⟨gp, 0, none⟩ = some (.bool v1) := HP_7.out.c0
              have y2_1 : w17.cell? ⟨gp, 1, none⟩ = some (.int .u64 ph) := HP_7.out.c1
              have y2_2 : w17.cell? ⟨gp, 2, none⟩ = some (.int .u64 pl) := HP_7.out.c2
              have y2_3 : w17.cell? ⟨gp, 3, none⟩ = some (.int .i64 kk) := HP_7.out.c3
              have yl2 := HP_7.out.lt
              have y3_0 : w17.cell? ⟨gq, 0, none⟩ = some (.bool v1) := (HQ_7.out.c 0).trans rfl
              have y3_1 : w17.cell? ⟨gq, 1, none⟩ = some (.int .u64 ph) := (HQ_7.out.c 1).trans rfl
              have y3_2 : w17.cell? ⟨gq, 2, none⟩ = some (.int .u64 pl) := (HQ_7.out.c 2).trans rfl
              have y3_3 : w17.cell? ⟨gq, 3, none⟩ = some (.bool v1) := (HQ_7.out.c 3).trans rfl
              have y3_4 : w17.cell? ⟨gq, 4, none⟩ = some (.int .u64 bh) := (HQ_7.out.c 4).trans rfl
              have y3_5 : w17.cell? ⟨gq, 5, none⟩ = some (.int .u64 bl) := (HQ_7.out.c 5).trans rfl
              have yl3 := HQ_7.out.lt
              go_wp2_with fail
              clear y1_0 y1_1 y1_2 y1_3 y1_4 y1_5 yl1 y2_0 y2_1 y2_2 y2_3 yl2 y3_0 y3_1 y3_2 y3_3 y3_4 y3_5 yl3
              obtain ⟨W19, hW19⟩ : ∃ W, W = w17.alloc (.cells #[.bool v1, .int .u64 ph, .int .u64 pl, .int .i64 k2] 37) := ⟨_, rfl⟩
              obtain ⟨g8, hg8⟩ : ∃ g, g = w17.heap.size := ⟨_, rfl⟩
              have HGI_8 := Lib.hid (show GI w W19 t bs As ns cs ((S.map (pf v1)).reverse) Ao no co (Fm.map (pf v1)) w.heap.size v1 h1 l1 v1 h2 l2 gp v1 ph pl (kk : Int) from by rw [hW19]; exact HGI_7.out.al _)
              have HR_8 := Lib.hid (show RB W19 w.heap.size v1 h1 l1 v1 h2 l2 from by rw [hW19]; exact HR_7.out.al _)
              have HP_8 := Lib.hid (show PB W19 gp v1 ph pl kk from by rw [hW19]; exact HP_7.out.al _)
              have HQ_8 := Lib.hid (show RB W19 gq v1 ph pl v1 bh bl from by rw [hW19]; exact HQ_7.out.al _)
              have Lg8 := Lib.hid (show w.heap.size < g8 ∧ gp < g8 ∧ gq < g8 ∧ w.heap.size ≤ g8 from by rw [hg8]; exact ⟨HR_7.out.lt, HP_7.out.lt, HQ_7.out.lt, HB_7.out.size⟩)
              have HL8 := Lib.hid (show PB W19 g8 v1 ph pl k2 from by rw [hW19, hg8]; exact pb_new w17 v1 ph pl k2)
              have HSZg8 := Lib.hid (show W19.heap.size = g8 + 1 from by rw [hW19, hg8]; simp)
              have HB_8 := Lib.hid (show Below w.heap.size w W19 by rw [hW19]; exact HB_7.out.alloc HB_7.out.size _)
              clear HGI_7 HR_7 HP_7 HQ_7 HB_7
              rw [← hW19, ← hg8]
              clear hW19 hg8
              have y1_0 : W19.cell? ⟨w.heap.size, 0, none⟩ = some (.bool v1) := (HR_8.out.c 0).trans rfl
              have y1_1 : W19.cell? ⟨w.heap.size, 1, none⟩ = some (.int .u64 h1) := (HR_8.out.c 1).trans rfl
              have y1_2 : W19.cell? ⟨w.heap.size, 2, none⟩ = some (.int .u64 l1) := (HR_8.out.c 2).trans rfl
              have y1_3 : W19.cell? ⟨w.heap.size, 3, none⟩ = some (.bool v1) := (HR_8.out.c 3).trans rfl
              have y1_4 : W19.cell? ⟨w.heap.size, 4, none⟩ = some (.int .u64 h2) := (HR_8.out.c 4).trans rfl
              have y1_5 : W19.cell? ⟨w.heap.size, 5, none⟩ = some (.int .u64 l2) := (HR_8.out.c 5).trans rfl
              have yl1 := HR_8.out.lt
              have y2_0 : W19.cell? ⟨gp, 0, none⟩ = some (.bool v1) := HP_8.out.c0
              have y2_1 : W19.cell? ⟨gp, 1, none⟩ = some (.int .u64 ph) := HP_8.out.c1
              have y2_2 : W19.cell? ⟨gp, 2, none⟩ = some (.int .u64 pl) := HP_8.out.c2
              have y2_3 : W19.cell? ⟨gp, 3, none⟩ = some (.int .i64 kk) := HP_8.out.c3
              have yl2 := HP_8.out.lt
              have y3_0 : W19.cell? ⟨gq, 0, none⟩ = some (.bool v1) := (HQ_8.out.c 0).trans rfl
              have y3_1 : W19.cell? ⟨gq, 1, none⟩ = some (.int .u64 ph) := (HQ_8.out.c 1).trans rfl
              have y3_2 : W19.cell? ⟨gq, 2, none⟩ = some (.int .u64 pl) := (HQ_8.out.c 2).trans rfl
              have y3_3 : W19.cell? ⟨gq, 3, none⟩ = some (.bool v1) := (HQ_8.out.c 3).trans rfl
              have y3_4 : W19.cell? ⟨gq, 4, none⟩ = some (.int .u64 bh) := (HQ_8.out.c 4).trans rfl
              have y3_5 : W19.cell? ⟨gq, 5, none⟩ = some (.int .u64 bl) := (HQ_8.out.c 5).trans rfl
              have yl3 := HQ_8.out.lt
              have y4_0 : W19.cell? ⟨g8, 0, none⟩ = some (.bool v1) := HL8.out.c0
              have y4_1 : W19.cell? ⟨g8, 1, none⟩ = some (.int .u64 ph) := HL8.out.c1
              have y4_2 : W19.cell? ⟨g8, 2, none⟩ = some (.int .u64 pl) := HL8.out.c2
              have y4_3 : W19.cell? ⟨g8, 3, none⟩ = some (.int .i64 k2) := HL8.out.c3
              have yl4 := HL8.out.lt
              clear y1_0 y1_1 y1_2 y1_3 y1_4 y1_5 yl1 y2_0 y2_1 y2_2 y2_3 yl2 y3_0 y3_1 y3_2 y3_3 y3_4 y3_5 yl3 y4_0 y4_1 y4_2 y4_3 yl4
              refine (HM2.out _).mono ?_
              rintro e w19 ⟨rfl, hb⟩
              have HGI_9 := Lib.hid (show GI w w19 t bs As ns cs ((S.map (pf v1)).reverse) Ao no co (Fm.map (pf v1)) w.heap.size v1 h1 l1 v1 h2 l2 gp v1 ph pl (kk : Int) from HGI_8.out.kept hb)
              have HR_9 := Lib.hid (show RB w19 w.heap.size v1 h1 l1 v1 h2 l2 from HR_8.out.kept hb HR_8.out.lt)
              have HP_9 := Lib.hid (show PB w19 gp v1 ph pl kk from HP_8.out.kept hb HP_8.out.lt)
              have HQ_9 := Lib.hid (show RB w19 gq v1 ph pl v1 bh bl from HQ_8.out.kept hb HQ_8.out.lt)
              have HL8_9 := Lib.hid (show PB w19 g8 v1 ph pl k2 from HL8.out.kept hb HL8.out.lt)
              have HB_9 := Lib.hid (HB_8.out.trans (hb.mono HB_8.out.size))
              clear hb HGI_8 HR_8 HP_8 HQ_8 HL8 HB_8
              have y1_0 : w19.cell? ⟨w.heap.size, 0, none⟩ = some (.bool v1) := (HR_9.out.c 0).trans rfl
              have y1_1 : w19.cell? ⟨w.heap.size, 1, none⟩ = some (.int .u64 h1) := (HR_9.out.c 1).trans rfl
              have y1_2 : w19.cell? ⟨w.heap.size, 2, none⟩ = some (.int .u64 l1) := (HR_9.out.c 2).trans rfl
              have y1_3 : w19.cell? ⟨w.heap.size, 3, none⟩ = some (.bool v1) := (HR_9.out.c 3).trans rfl
              have y1_4 : w19.cell? ⟨w.heap.size, 4, none⟩ = some (.int .u64 h2) := (HR_9.out.c 4).trans rfl
              have y1_5 : w19.cell? ⟨w.heap.size, 5, none⟩ = some (.int .u64 l2) := (HR_9.out.c 5).trans rfl
              have yl1 := HR_9.out.lt
              have y2_0 : w19.cell? ⟨gp, 0, none⟩ = some (.bool v1) := HP_9.out.c0
              have y2_1 : w19.cell? ⟨gp, 1, none⟩ = some (.int .u64 ph) := HP_9.out.c1
              have y2_2 : w19.cell? ⟨gp, 2, none⟩ = some (.int .u64 pl) := HP_9.out.c2
              have y2_3 : w19.cell? ⟨gp, 3, none⟩ = some (.int .i64 kk) := HP_9.out.c3
              have yl2 := HP_9.out.lt
              have y3_0 : w19.cell? ⟨gq, 0, none⟩ = some (.bool v1) := (HQ_9.out.c 0).trans rfl
              have y3_1 : w19.cell? ⟨gq, 1, none⟩ = some (.int .u64 ph) := (HQ_9.out.c 1).trans rfl
              have y3_2 : w19.cell? ⟨gq, 2, none⟩ = some (.int .u64 pl) := (HQ_9.out.c 2).trans rfl
              have y3_3 : w19.cell? ⟨gq, 3, none⟩ = some (.bool v1) := (HQ_9.out.c 3).trans rfl
              have y3_4 : w19.cell? ⟨gq, 4, none⟩ = some (.int .u64 bh) := (HQ_9.out.c 4).trans rfl
              have y3_5 : w19.cell? ⟨gq, 5, none⟩ = some (.int .u64 bl) := (HQ_9.out.c 5).trans rfl
              have yl3 := HQ_9.out.lt
              have y4_0 : w19.cell? ⟨g8, 0, none⟩ = some (.bool v1) := HL8_9.out.c0
              have y4_1 : w19.cell? ⟨g8, 1, none⟩ = some (.int .u64 ph) := HL8_9.out.c1
              have y4_2 : w19.cell? ⟨g8, 2, none⟩ = some (.int .u64 pl) := HL8_9.out.c2
              have y4_3 : w19.cell? ⟨g8, 3, none⟩ = some (.int .i64 k2) := HL8_9.out.c3
              have yl4 := HL8_9.out.lt
              go_wp2_with fail
              clear y1_0 y1_1 y1_2 y1_3 y1_4 y1_5 yl1 y2_0 y2_1 y2_2 y2_3 yl2 y3_0 y3_1 y3_2 y3_3 y3_4 y3_5 yl3 y4_0 y4_1 y4_2 y4_3 yl4
              obtain ⟨W21, hW21⟩ : ∃ W, W = w19.alloc (.cells #[.bool v1, .int .u64 sh, .int .u64 sl, .int .i64 k2] 37) := ⟨_, rfl⟩
              obtain ⟨g10, hg10⟩ : ∃ g, g = w19.heap.size := ⟨_, rfl⟩
              have HGI_10 := Lib.hid (show GI w W21 t bs As ns cs ((S.map (pf v1)).reverse) Ao no co (Fm.map (pf v1)) w.heap.size v1 h1 l1 v1 h2 l2 gp v1 ph pl (kk : Int) from by rw [hW21]; exact HGI_9.out.al _)
              have HR_10 := Lib.hid (show RB W21 w.heap.size v1 h1 l1 v1 h2 l2 from by rw [hW21]; exact HR_9.out.al _)
              have HP_10 := Lib.hid (show PB W21 gp v1 ph pl kk from by rw [hW21]; exact HP_9.out.al _)
              have HQ_10 := Lib.hid (show RB W21 gq v1 ph pl v1 bh bl from by rw [hW21]; exact HQ_9.out.al _)
              have HL8_10 := Lib.hid (show PB W21 g8 v1 ph pl k2 from by rw [hW21]; exact HL8_9.out.al _)
              have Lg10 := Lib.hid (show w.heap.size < g10 ∧ gp < g10 ∧ gq < g10 ∧ g8 < g10 ∧ w.heap.size ≤ g10 from by rw [hg10]; exact ⟨HR_9.out.lt, HP_9.out.lt, HQ_9.out.lt, HL8_9.out.lt, HB_9.out.size⟩)
              have HL10 := Lib.hid (show PB W21 g10 v1 sh sl k2 from by rw [hW21, hg10]; exact pb_new w19 v1 sh sl k2)
              have HSZg10 := Lib.hid (show W21.heap.size = g10 + 1 from by rw [hW21, hg10]; simp)
              have HB_10 := Lib.hid (show Below w.heap.size w W21 by rw [hW21]; exact HB_9.out.alloc HB_9.out.size _)
              clear HGI_9 HR_9 HP_9 HQ_9 HL8_9 HB_9
              rw [← hW21, ← hg10]
              clear hW21 hg10
              have y1_0 : W21.cell? ⟨w.heap.size, 0, none⟩ = some (.bool v1) := (HR_10.out.c 0).trans rfl
              have y1_1 : W21.cell? ⟨w.heap.size, 1, none⟩ = some (.int .u64 h1) := (HR_10.out.c 1).trans rfl
              have y1_2 : W21.cell? ⟨w.heap.size, 2, none⟩ = some (.int .u64 l1) := (HR_10.out.c 2).trans rfl
              have y1_3 : W21.cell? ⟨w.heap.size, 3, none⟩ = some (.bool v1) := (HR_10.out.c 3).trans rfl
              have y1_4 : W21.cell? ⟨w.heap.size, 4, none⟩ = some (.int .u64 h2) := (HR_10.out.c 4).trans rfl
              have y1_5 : W21.cell? ⟨w.heap.size, 5, none⟩ = some (.int .u64 l2) := (HR_10.out.c 5).trans rfl
              have yl1 := HR_10.out.lt
              have y2_0 : W21.cell? ⟨gp, 0, none⟩ = some (.bool v1) := HP_10.out.c0
              have y2_1 : W21.cell? ⟨gp, 1, none⟩ = some (.int .u64 ph) := HP_10.out.c1
              have y2_2 : W21.cell? ⟨gp, 2, none⟩ = some (.int .u64 pl) := HP_10.out.c2
              have y2_3 : W21.cell? ⟨gp, 3, none⟩ = some (.int .i64 kk) := HP_10.out.c3
              have yl2 := HP_10.out.lt
              have y3_0 : W21.cell? ⟨gq, 0, none⟩ = some (.bool v1) := (HQ_10.out.c 0).trans rfl
              have y3_1 : W21.cell? ⟨gq, 1, none⟩ = some (.int .u64 ph) := (HQ_10.out.c 1).trans rfl
              have y3_2 : W21.cell? ⟨gq, 2, none⟩ = some (.int .u64 pl) := (HQ_10.out.c 2).trans rfl
              have y3_3 : W21.cell? ⟨gq, 3, none⟩ = some (.bool v1) := (HQ_10.out.c 3).trans rfl
              have y3_4 : W21.cell? ⟨gq, 4, none⟩ = some (.int .u64 bh) := (HQ_10.out.c 4).trans rfl
              have y3_5 : W21.cell? ⟨gq, 5, none⟩ = some (.int .u64 bl) := (HQ_10.out.c 5).trans rfl
              have yl3 := HQ_10.out.lt
              have y4_0 : W21.cell? ⟨g8, 0, none⟩ = some (.bool v1) := HL8_10.out.c0
              have y4_1 : W21.cell? ⟨g8, 1, none⟩ = some (.int .u64 ph) := HL8_10.out.c1
              have y4_2 : W21.cell? ⟨g8, 2, none⟩ = some (.int .u64 pl) := HL8_10.out.c2
              have y4_3 : W21.cell? ⟨g8, 3, none⟩ = some (.int .i64 k2) := HL8_10.out.c3
              have yl4 := HL8_10.out.lt
              have y5_0 : W21.cell? ⟨g10, 0, none⟩ = some (.bool v1) := HL10.out.c0
              have y5_1 : W21.cell? ⟨g10, 1, none⟩ = some (.int .u64 sh) := HL10.out.c1
              have y5_2 : W21.cell? ⟨g10, 2, none⟩ = some (.int .u64 sl) := HL10.out.c2
              have y5_3 : W21.cell? ⟨g10, 3, none⟩ = some (.int .i64 k2) := HL10.out.c3
              have yl5 := HL10.out.lt
              clear y1_0 y1_1 y1_2 y1_3 y1_4 y1_5 yl1 y2_0 y2_1 y2_2 y2_3 yl2 y3_0 y3_1 y3_2 y3_3 y3_4 y3_5 yl3 y4_0 y4_1 y4_2 y4_3 yl4 y5_0 y5_1 y5_2 y5_3 yl5
              obtain ⟨Wa, hWa⟩ : ∃ W, W = W21.alloc (.cells #[.bool v1, .int .u64 ph, .int .u64 pl, .int .i64 k2, .bool v1, .int .u64 sh, .int .u64 sl, .int .i64 k2] 37) := ⟨_, rfl⟩
              obtain ⟨ga, hga⟩ : ∃ g, g = g10 + 1 := ⟨_, rfl⟩
              have hgs : W21.heap.size = ga := by rw [hga]; exact HSZg10.out
              have HGa := Lib.hid (show GI w Wa t bs As ns cs ((S.map (pf v1)).reverse) Ao no co (Fm.map (pf v1)) w.heap.size v1 h1 l1 v1 h2 l2 gp v1 ph pl (kk : Int) from by rw [hWa]; exact HGI_10.out.al _)
              have HRW := Lib.hid (show RowL EP Wa (some ⟨ga, 0, none⟩) [pf v1 (n, e'), pf v1 (n + 2 ^ e', e')] from by
                have hh := heap_alloc_new W21 (.cells #[.bool v1, .int .u64 ph, .int .u64 pl, .int .i64 k2, .bool v1, .int .u64 sh, .int .u64 sl, .int .i64 k2] 37)
                rw [← hWa, hgs] at hh
                exact rowl_block hh (by rw [HPL.out.1, HPL.out.2]; rfl))
              have HPU := Lib.hid (putP_any bs w.heap.size As (some ⟨ga, 0, none⟩) ns cs 2 2 ((S.map (pf v1)).reverse) [pf v1 (n, e'), pf v1 (n + 2 ^ e', e')] Wa HGa.out.sb (.inr trivial) HGa.out.sr HRW.out rfl (by omega) HGa.out.B.size (fun j hj e => by have a := HGa.out.t2 j hj; rw [e, HGa.out.t1] at a; omega) (fun a ha => by
                obtain rfl := Option.some.inj ha
                have h1 := HGI_10.out.sb.lt
                exact ⟨by show ga ≠ bs; omega, fun e => by have h2 := (HGI_10.out.sr.2.lt _ e.symm).2; simp only at h2; omega⟩))
              rw [← hWa, ← hga]
              clear hWa hga hgs HRW HSZg10 HGI_10 HR_10 HP_10 HQ_10 HL8_10 HL10 HB_10
              refine HPU.out.mono ?_
              rintro e wz ⟨rfl, Az, cz, z1, z2, z3, z4⟩
              obtain ⟨tz, hGz⟩ := HGa.out.put z1 z2 z3 z4
              have hfa : (S.map (pf v1)).reverse ++ [pf v1 (n, e'), pf v1 (n + 2 ^ e', e')].reverse = (((n, e') :: (n + 2 ^ e', e') :: S).map (pf v1)).reverse := by simp
              rw [hfa] at hGz
              have HGZ := Lib.hid hGz
              clear z1 z2 z3 z4 hGz hfa HPU HGa
              have HBz := Lib.hid HGZ.out.B
              have HRz := Lib.hid HGZ.out.rb
              have HPz := Lib.hid HGZ.out.pb
              have y1_0 : wz.cell? ⟨w.heap.size, 0, none⟩ = some (.bool v1) := (HRz.out.c 0).trans rfl
              have y1_1 : wz.cell? ⟨w.heap.size, 1, none⟩ = some (.int .u64 h1) := (HRz.out.c 1).trans rfl
              have y1_2 : wz.cell? ⟨w.heap.size, 2, none⟩ = some (.int .u64 l1) := (HRz.out.c 2).trans rfl
              have y1_3 : wz.cell? ⟨w.heap.size, 3, none⟩ = some (.bool v1) := (HRz.out.c 3).trans rfl
              have y1_4 : wz.cell? ⟨w.heap.size, 4, none⟩ = some (.int .u64 h2) := (HRz.out.c 4).trans rfl
              have y1_5 : wz.cell? ⟨w.heap.size, 5, none⟩ = some (.int .u64 l2) := (HRz.out.c 5).trans rfl
              have yl1 := HRz.out.lt
              have y2_0 : wz.cell? ⟨gp, 0, none⟩ = some (.bool v1) := HPz.out.c0
              have y2_1 : wz.cell? ⟨gp, 1, none⟩ = some (.int .u64 ph) := HPz.out.c1
              have y2_2 : wz.cell? ⟨gp, 2, none⟩ = some (.int .u64 pl) := HPz.out.c2
              have y2_3 : wz.cell? ⟨gp, 3, none⟩ = some (.int .i64 kk) := HPz.out.c3
              have yl2 := HPz.out.lt
              go_wp2_with fail
              clear y1_0 y1_1 y1_2 y1_3 y1_4 y1_5 yl1 y2_0 y2_1 y2_2 y2_3 yl2
              obtain ⟨t9, hG9⟩ := HGZ.out.newp v1 ph pl (kk : Int)
              obtain ⟨Wn, hWn⟩ : ∃ W, W = wz.alloc (.cells #[.bool v1, .int .u64 ph, .int .u64 pl, .int .i64 kk] 37) := ⟨_, rfl⟩
              obtain ⟨gn, hgn⟩ : ∃ g, g = wz.heap.size := ⟨_, rfl⟩
              rw [← hWn, ← hgn] at hG9
              rw [← hWn, ← hgn]
              have HGN := Lib.hid hG9
              clear hG9 hWn hgn HGZ HRz HPz HBz
              obtain ⟨qh, ql, qk, hq, hqh, hql, hqk⟩ : ∃ qh ql qk : Nat, pf v1 (n, e') = ⟨v1, qh, ql, (qk : Int)⟩ ∧ qh = n / 18446744073709551616 ∧ ql = n % 18446744073709551616 ∧ qk = width v1 - e' := ⟨_, _, _, rfl, rfl, rfl, rfl⟩
              have HTK := Lib.hid (takeP_any bs w.heap.size Az (ns + 2) cz ((((n + 2 ^ e', e') :: S).map (pf v1)).reverse) (pf v1 (n, e')) Wn HGN.out.sb (by have := HGN.out.sr; simpa using this) (by omega) (fun j hj e => by have a := HGN.out.t2 j hj; rw [e, HGN.out.t1] at a; omega))
              rw [hq] at HTK
              simp only at HTK
              have HTO := Lib.hid (fun W' hs hg => GI.took (x := pf v1 (n, e')) (I := (((n + 2 ^ e', e') :: S).map (pf v1)).reverse) (W' := W') (show GI w Wn t9 bs Az (ns + 2) cz ((((n + 2 ^ e', e') :: S).map (pf v1)).reverse ++ [pf v1 (n, e')]) Ao no co (Fm.map (pf v1)) w.heap.size v1 h1 l1 v1 h2 l2 gn v1 ph pl (kk : Int) from by have := HGN.out; simpa using this) hs hg)
              have HQ9 := Lib.hid (And.intro hqh (And.intro hql hqk))
              clear hq hqh hql hqk HGN
              refine HTK.out.mono ?_
              rintro e w8 ⟨rfl, k1, k2⟩
              have HG8 := Lib.hid (HTO.out w8 k1 k2)
              clear k1 k2 HTK HTO
              have HP9 := Lib.hid HG8.out.pb
              have s0 := HP9.out.c0
              have sf0 := HP9.out.f 0
              have s1 := HP9.out.c1
              have sf1 := HP9.out.f 1
              have s2 := HP9.out.c2
              have sf2 := HP9.out.f 2
              have s3 := HP9.out.c3
              have sf3 := HP9.out.f 3
              have sl := HP9.out.lt
              obtain ⟨W9, hW9⟩ : ∃ W, W = pset w8 gn v1 qh ql (qk : Int) := ⟨_, rfl⟩
              have HG9 := Lib.hid (show GI w W9 t9 bs Az ((ns + 2) - 1) cz ((((n + 2 ^ e', e') :: S).map (pf v1)).reverse) Ao no co (Fm.map (pf v1)) w.heap.size v1 h1 l1 v1 h2 l2 gn v1 qh ql (qk : Int) from by rw [hW9]; exact HG8.out.setp v1 qh ql (qk : Int))
              unfold pset at hW9
              go_wp2_with fail
              rw [← hW9]
              clear hW9 s0 s1 s2 s3 sf0 sf1 sf2 sf3 sl HP9 HG8
              go_roundg (costL lo hi ((n, e') :: ((n + 2 ^ e', e') :: S)))
              case measure => exact (by have h1 := HCO.out; rw [costL_cons] at h1 ⊢; rw [costL_cons]; simp only [cost] at h1; omega)
              case rel => exact ⟨t9, Az, Ao, (ns + 2) - 1, cz, no, co, gn, ((n + 2 ^ e', e') :: S), Fm, qh, ql, qk, true, v1, rfl, rfl, rfl, HG9, Lib.hid (fun e => Bool.noConfusion e), Lib.hid (fun _ => ⟨rfl, n, e', HQ9.out.1, HQ9.out.2.1, HQ9.out.2.2, sOK_split HOK.out, (by have := HTT.out; rw [decL_cons, HD.out, List.append_assoc] at this; rw [decL_cons, decL_cons]; exact this), Nat.le_refl _⟩)⟩
            · rw [decide_eq_false t4] at HT4
              have HD := Lib.hid (show dec lo hi e n = [(n, e)] from dec_in hnd (by omega))
              clear hph hpl hkk hS1 hdv hnW hS4 heW hp2 hnl hml hbd hA hBB hfn hfm hk4 hFl hns hT hcost HF0 HF1 t1 t2 t3 t4 hnd
              have y1_0 : wr.cell? ⟨w.heap.size, 0, none⟩ = some (.bool v1) := (HR.out.c 0).trans rfl
              have y1_1 : wr.cell? ⟨w.heap.size, 1, none⟩ = some (.int .u64 h1) := (HR.out.c 1).trans rfl
              have y1_2 : wr.cell? ⟨w.heap.size, 2, none⟩ = some (.int .u64 l1) := (HR.out.c 2).trans rfl
              have y1_3 : wr.cell? ⟨w.heap.size, 3, none⟩ = some (.bool v1) := (HR.out.c 3).trans rfl
              have y1_4 : wr.cell? ⟨w.heap.size, 4, none⟩ = some (.int .u64 h2) := (HR.out.c 4).trans rfl
              have y1_5 : wr.cell? ⟨w.heap.size, 5, none⟩ = some (.int .u64 l2) := (HR.out.c 5).trans rfl
              have yl1 := HR.out.lt
              have y2_0 : wr.cell? ⟨gp, 0, none⟩ = some (.bool v1) := HP.out.c0
              have y2_1 : wr.cell? ⟨gp, 1, none⟩ = some (.int .u64 ph) := HP.out.c1
              have y2_2 : wr.cell? ⟨gp, 2, none⟩ = some (.int .u64 pl) := HP.out.c2
              have y2_3 : wr.cell? ⟨gp, 3, none⟩ = some (.int .i64 kk) := HP.out.c3
              have yl2 := HP.out.lt
              go_wp2_with fail
              clear y1_0 y1_1 y1_2 y1_3 y1_4 y1_5 yl1 y2_0 y2_1 y2_2 y2_3 yl2
              refine (HBD.out _).mono ?_
              rintro e w11 ⟨rfl, hb⟩
              have HGI_1 := Lib.hid (show GI w w11 t bs As ns cs ((S.map (pf v1)).reverse) Ao no co (Fm.map (pf v1)) w.heap.size v1 h1 l1 v1 h2 l2 gp v1 ph pl (kk : Int) from HGI.out.kept hb)
              have HR_1 := Lib.hid (show RB w11 w.heap.size v1 h1 l1 v1 h2 l2 from HR.out.kept hb HR.out.lt)
              have HP_1 := Lib.hid (show PB w11 gp v1 ph pl kk from HP.out.kept hb HP.out.lt)
              have HB_1 := Lib.hid (HB.out.trans (hb.mono HB.out.size))
              clear hb HGI HR HP HB
              have y1_0 : w11.cell? ⟨w.heap.size, 0, none⟩ = some (.bool v1) := (HR_1.out.c 0).trans rfl
              have y1_1 : w11.cell? ⟨w.heap.size, 1, none⟩ = some (.int .u64 h1) := (HR_1.out.c 1).trans rfl
              have y1_2 : w11.cell? ⟨w.heap.size, 2, none⟩ = some (.int .u64 l1) := (HR_1.out.c 2).trans rfl
              have y1_3 : w11.cell? ⟨w.heap.size, 3, none⟩ = some (.bool v1) := (HR_1.out.c 3).trans rfl
              have y1_4 : w11.cell? ⟨w.heap.size, 4, none⟩ = some (.int .u64 h2) := (HR_1.out.c 4).trans rfl
              have y1_5 : w11.cell? ⟨w.heap.size, 5, none⟩ = some (.int .u64 l2) := (HR_1.out.c 5).trans rfl
              have yl1 := HR_1.out.lt
              have y2_0 : w11.cell? ⟨gp, 0, none⟩ = some (.bool v1) := HP_1.out.c0
              have y2_1 : w11.cell? ⟨gp, 1, none⟩ = some (.int .u64 ph) := HP_1.out.c1
              have y2_2 : w11.cell? ⟨gp, 2, none⟩ = some (.int .u64 pl) := HP_1.out.c2
              have y2_3 : w11.cell? ⟨gp, 3, none⟩ = some (.int .i64 kk) := HP_1.out.c3
              have yl2 := HP_1.out.lt
              go_wp2_with fail
              clear y1_0 y1_1 y1_2 y1_3 y1_4 y1_5 yl1 y2_0 y2_1 y2_2 y2_3 yl2
              obtain ⟨W13, hW13⟩ : ∃ W, W = w11.alloc (.cells #[.bool v1, .int .u64 ph, .int .u64 pl, .bool v1, .int .u64 bh, .int .u64 bl] 43) := ⟨_, rfl⟩
              obtain ⟨gq, hgq⟩ : ∃ g, g = w11.heap.size := ⟨_, rfl⟩
              have HGI_2 := Lib.hid (show GI w W13 t bs As ns cs ((S.map (pf v1)).reverse) Ao no co (Fm.map (pf v1)) w.heap.size v1 h1 l1 v1 h2 l2 gp v1 ph pl (kk : Int) from by rw [hW13]; exact HGI_1.out.al _)
              have HR_2 := Lib.hid (show RB W13 w.heap.size v1 h1 l1 v1 h2 l2 from by rw [hW13]; exact HR_1.out.al _)
              have HP_2 := Lib.hid (show PB W13 gp v1 ph pl kk from by rw [hW13]; exact HP_1.out.al _)
              have Lgq := Lib.hid (show w.heap.size < gq ∧ gp < gq ∧ w.heap.size ≤ gq from by rw [hgq]; exact ⟨HR_1.out.lt, HP_1.out.lt, HB_1.out.size⟩)
              have HQ := Lib.hid (show RB W13 gq v1 ph pl v1 bh bl from by rw [hW13, hgq]; exact rb_new w11 v1 ph pl v1 bh bl)
              have HSZgq := Lib.hid (show W13.heap.size = gq + 1 from by rw [hW13, hgq]; simp)
              have HB_2 := Lib.hid (show Below w.heap.size w W13 by rw [hW13]; exact HB_1.out.alloc HB_1.out.size _)
              clear HGI_1 HR_1 HP_1 HB_1
              rw [← hW13, ← hgq]
              clear hW13 hgq
              have y1_0 : W13.cell? ⟨w.heap.size, 0, none⟩ = some (.bool v1) := (HR_2.out.c 0).trans rfl
              have y1_1 : W13.cell? ⟨w.heap.size, 1, none⟩ = some (.int .u64 h1) := (HR_2.out.c 1).trans rfl
              have y1_2 : W13.cell? ⟨w.heap.size, 2, none⟩ = some (.int .u64 l1) := (HR_2.out.c 2).trans rfl
              have y1_3 : W13.cell? ⟨w.heap.size, 3, none⟩ = some (.bool v1) := (HR_2.out.c 3).trans rfl
              have y1_4 : W13.cell? ⟨w.heap.size, 4, none⟩ = some (.int .u64 h2) := (HR_2.out.c 4).trans rfl
              have y1_5 : W13.cell? ⟨w.heap.size, 5, none⟩ = some (.int .u64 l2) := (HR_2.out.c 5).trans rfl
              have yl1 := HR_2.out.lt
              have y2_0 : W13.cell? ⟨gp, 0, none⟩ = some (.bool v1) := HP_2.out.c0
              have y2_1 : W13.cell? ⟨gp, 1, none⟩ = some (.int .u64 ph) := HP_2.out.c1
              have y2_2 : W13.cell? ⟨gp, 2, none⟩ = some (.int .u64 pl) := HP_2.out.c2
              have y2_3 : W13.cell? ⟨gp, 3, none⟩ = some (.int .i64 kk) := HP_2.out.c3
              have yl2 := HP_2.out.lt
              have y3_0 : W13.cell? ⟨gq, 0, none⟩ = some (.bool v1) := (HQ.out.c 0).trans rfl
              have y3_1 : W13.cell? ⟨gq, 1, none⟩ = some (.int .u64 ph) := (HQ.out.c 1).trans rfl
              have y3_2 : W13.cell? ⟨gq, 2, none⟩ = some (.int .u64 pl) := (HQ.out.c 2).trans rfl
              have y3_3 : W13.cell? ⟨gq, 3, none⟩ = some (.bool v1) := (HQ.out.c 3).trans rfl
              have y3_4 : W13.cell? ⟨gq, 4, none⟩ = some (.int .u64 bh) := (HQ.out.c 4).trans rfl
              have y3_5 : W13.cell? ⟨gq, 5, none⟩ = some (.int .u64 bl) := (HQ.out.c 5).trans rfl
              have yl3 := HQ.out.lt
              clear y1_0 y1_1 y1_2 y1_3 y1_4 y1_5 yl1 y2_0 y2_1 y2_2 y2_3 yl2 y3_0 y3_1 y3_2 y3_3 y3_4 y3_5 yl3
              refine (HT1.out _).mono ?_
              rintro e w13 ⟨rfl, hb⟩
              have HGI_3 := Lib.hid (show GI w w13 t bs As ns cs ((S.map (pf v1)).reverse) Ao no co (Fm.map (pf v1)) w.heap.size v1 h1 l1 v1 h2 l2 gp v1 ph pl (kk : Int) from HGI_2.out.kept hb)
              have HR_3 := Lib.hid (show RB w13 w.heap.size v1 h1 l1 v1 h2 l2 from HR_2.out.kept hb HR_2.out.lt)
              have HP_3 := Lib.hid (show PB w13 gp v1 ph pl kk from HP_2.out.kept hb HP_2.out.lt)
              have HQ_3 := Lib.hid (show RB w13 gq v1 ph pl v1 bh bl from HQ.out.kept hb HQ.out.lt)
              have HB_3 := Lib.hid (HB_2.out.trans (hb.mono HB_2.out.size))
              clear hb HGI_2 HR_2 HP_2 HQ HB_2
              have y1_0 : w13.cell? ⟨w.heap.size, 0, none⟩ = some (.bool v1) := (HR_3.out.c 0).trans rfl
              have y1_1 : w13.cell? ⟨w.heap.size, 1, none⟩ = some (.int .u64 h1) := (HR_3.out.c 1).trans rfl
              have y1_2 : w13.cell? ⟨w.heap.size, 2, none⟩ = some (.int .u64 l1) := (HR_3.out.c 2).trans rfl
              have y1_3 : w13.cell? ⟨w.heap.size, 3, none⟩ = some (.bool v1) := (HR_3.out.c 3).trans rfl
              have y1_4 : w13.cell? ⟨w.heap.size, 4, none⟩ = some (.int .u64 h2) := (HR_3.out.c 4).trans rfl
              have y1_5 : w13.cell? ⟨w.heap.size, 5, none⟩ = some (.int .u64 l2) := (HR_3.out.c 5).trans rfl
              have yl1 := HR_3.out.lt
              have y2_0 : w13.cell? ⟨gp, 0, none⟩ = some (.bool v1) := HP_3.out.c0
              have y2_1 : w13.cell? ⟨gp, 1, none⟩ = some (.int .u64 ph) := HP_3.out.c1
              have y2_2 : w13.cell? ⟨gp, 2, none⟩ = some (.int .u64 pl) := HP_3.out.c2
              have y2_3 : w13.cell? ⟨gp, 3, none⟩ = some (.int .i64 kk) := HP_3.out.c3
              have yl2 := HP_3.out.lt
              have y3_0 : w13.cell? ⟨gq, 0, none⟩ = some (.bool v1) := (HQ_3.out.c 0).trans rfl
              have y3_1 : w13.cell? ⟨gq, 1, none⟩ = some (.int .u64 ph) := (HQ_3.out.c 1).trans rfl
              have y3_2 : w13.cell? ⟨gq, 2, none⟩ = some (.int .u64 pl) := (HQ_3.out.c 2).trans rfl
              have y3_3 : w13.cell? ⟨gq, 3, none⟩ = some (.bool v1) := (HQ_3.out.c 3).trans rfl
              have y3_4 : w13.cell? ⟨gq, 4, none⟩ = some (.int .u64 bh) := (HQ_3.out.c 4).trans rfl
              have y3_5 : w13.cell? ⟨gq, 5, none⟩ = some (.int .u64 bl) := (HQ_3.out.c 5).trans rfl
              have yl3 := HQ_3.out.lt
              go_wp2_with fail
              clear y1_0 y1_1 y1_2 y1_3 y1_4 y1_5 yl1 y2_0 y2_1 y2_2 y2_3 yl2 y3_0 y3_1 y3_2 y3_3 y3_4 y3_5 yl3
              refine (HT2.out _).mono ?_
              rintro e w14 ⟨rfl, hb⟩
              have HGI_4 := Lib.hid (show GI w w14 t bs As ns cs ((S.map (pf v1)).reverse) Ao no co (Fm.map (pf v1)) w.heap.size v1 h1 l1 v1 h2 l2 gp v1 ph pl (kk : Int) from HGI_3.out.kept hb)
              have HR_4 := Lib.hid (show RB w14 w.heap.size v1 h1 l1 v1 h2 l2 from HR_3.out.kept hb HR_3.out.lt)
              have HP_4 := Lib.hid (show PB w14 gp v1 ph pl kk from HP_3.out.kept hb HP_3.out.lt)
              have HQ_4 := Lib.hid (show RB w14 gq v1 ph pl v1 bh bl from HQ_3.out.kept hb HQ_3.out.lt)
              have HB_4 := Lib.hid (HB_3.out.trans (hb.mono HB_3.out.size))
              clear hb HGI_3 HR_3 HP_3 HQ_3 HB_3
              have y1_0 : w14.cell? ⟨w.heap.size, 0, none⟩ = some (.bool v1) := (HR_4.out.c 0).trans rfl
              have y1_1 : w14.cell? ⟨w.heap.size, 1, none⟩ = some (.int .u64 h1) := (HR_4.out.c 1).trans rfl
              have y1_2 : w14.cell? ⟨w.heap.size, 2, none⟩ = some (.int .u64 l1) := (HR_4.out.c 2).trans rfl
              have y1_3 : w14.cell? ⟨w.heap.size, 3, none⟩ = some (.bool v1) := (HR_4.out.c 3).trans rfl
              have y1_4 : w14.cell? ⟨w.heap.size, 4, none⟩ = some (.int .u64 h2) := (HR_4.out.c 4).trans rfl
              have y1_5 : w14.cell? ⟨w.heap.size, 5, none⟩ = some (.int .u64 l2) := (HR_4.out.c 5).trans rfl
              have yl1 := HR_4.out.lt
              have y2_0 : w14.cell? ⟨gp, 0, none⟩ = some (.bool v1) := HP_4.out.c0
              have y2_1 : w14.cell? ⟨gp, 1, none⟩ = some (.int .u64 ph) := HP_4.out.c1
              have y2_2 : w14.cell? ⟨gp, 2, none⟩ = some (.int .u64 pl) := HP_4.out.c2
              have y2_3 : w14.cell? ⟨gp, 3, none⟩ = some (.int .i64 kk) := HP_4.out.c3
              have yl2 := HP_4.out.lt
              have y3_0 : w14.cell? ⟨gq, 0, none⟩ = some (.bool v1) := (HQ_4.out.c 0).trans rfl
              have y3_1 : w14.cell? ⟨gq, 1, none⟩ = some (.int .u64 ph) := (HQ_4.out.c 1).trans rfl
              have y3_2 : w14.cell? ⟨gq, 2, none⟩ = some (.int .u64 pl) := (HQ_4.out.c 2).trans rfl
              have y3_3 : w14.cell? ⟨gq, 3, none⟩ = some (.bool v1) := (HQ_4.out.c 3).trans rfl
              have y3_4 : w14.cell? ⟨gq, 4, none⟩ = some (.int .u64 bh) := (HQ_4.out.c 4).trans rfl
              have y3_5 : w14.cell? ⟨gq, 5, none⟩ = some (.int .u64 bl) := (HQ_4.out.c 5).trans rfl
              have yl3 := HQ_4.out.lt
              go_wp2_with fail
              clear y1_0 y1_1 y1_2 y1_3 y1_4 y1_5 yl1 y2_0 y2_1 y2_2 y2_3 yl2 y3_0 y3_1 y3_2 y3_3 y3_4 y3_5 yl3
              refine (HT3.out _).mono ?_
              rintro e w15 ⟨rfl, hb⟩
              have HGI_5 := Lib.hid (show GI w w15 t bs As ns cs ((S.map (pf v1)).reverse) Ao no co (Fm.map (pf v1)) w.heap.size v1 h1 l1 v1 h2 l2 gp v1 ph pl (kk : Int) from HGI_4.out.kept hb)
              have HR_5 := Lib.hid (show RB w15 w.heap.size v1 h1 l1 v1 h2 l2 from HR_4.out.kept hb HR_4.out.lt)
              have HP_5 := Lib.hid (show PB w15 gp v1 ph pl kk from HP_4.out.kept hb HP_4.out.lt)
              have HQ_5 := Lib.hid (show RB w15 gq v1 ph pl v1 bh bl from HQ_4.out.kept hb HQ_4.out.lt)
              have HB_5 := Lib.hid (HB_4.out.trans (hb.mono HB_4.out.size))
              clear hb HGI_4 HR_4 HP_4 HQ_4 HB_4
              have y1_0 : w15.cell? ⟨w.heap.size, 0, none⟩ = some (.bool v1) := (HR_5.out.c 0).trans rfl
              have y1_1 : w15.cell? ⟨w.heap.size, 1, none⟩ = some (.int .u64 h1) := (HR_5.out.c 1).trans rfl
              have y1_2 : w15.cell? ⟨w.heap.size, 2, none⟩ = some (.int .u64 l1) := (HR_5.out.c 2).trans rfl
              have y1_3 : w15.cell? ⟨w.heap.size, 3, none⟩ = some (.bool v1) := (HR_5.out.c 3).trans rfl
              have y1_4 : w15.cell? ⟨w.heap.size, 4, none⟩ = some (.int .u64 h2) := (HR_5.out.c 4).trans rfl
              have y1_5 : w15.cell? ⟨w.heap.size, 5, none⟩ = some (.int .u64 l2) := (HR_5.out.c 5).trans rfl
              have yl1 := HR_5.out.lt
              have y2_0 : w15.cell? ⟨gp, 0, none⟩ = some (.bool v1) := HP_5.out.c0
              have y2_1 : w15.cell? ⟨gp, 1, none⟩ = some (.int .u64 ph) := HP_5.out.c1
              have y2_2 : w15.cell? ⟨gp, 2, none⟩ = some (.int .u64 pl) := HP_5.out.c2
              have y2_3 : w15.cell? ⟨gp, 3, none⟩ = some (.int .i64 kk) := HP_5.out.c3
              have yl2 := HP_5.out.lt
              have y3_0 : w15.cell? ⟨gq, 0, none⟩ = some (.bool v1) := (HQ_5.out.c 0).trans rfl
              have y3_1 : w15.cell? ⟨gq, 1, none⟩ = some (.int .u64 ph) := (HQ_5.out.c 1).trans rfl
              have y3_2 : w15.cell? ⟨gq, 2, none⟩ = some (.int .u64 pl) := (HQ_5.out.c 2).trans rfl
              have y3_3 : w15.cell? ⟨gq, 3, none⟩ = some (.bool v1) := (HQ_5.out.c 3).trans rfl
              have y3_4 : w15.cell? ⟨gq, 4, none⟩ = some (.int .u64 bh) := (HQ_5.out.c 4).trans rfl
              have y3_5 : w15.cell? ⟨gq, 5, none⟩ = some (.int .u64 bl) := (HQ_5.out.c 5).trans rfl
              have yl3 := HQ_5.out.lt
              go_wp2_with fail
              clear y1_0 y1_1 y1_2 y1_3 y1_4 y1_5 yl1 y2_0 y2_1 y2_2 y2_3 yl2 y3_0 y3_1 y3_2 y3_3 y3_4 y3_5 yl3
              refine (HT4.out _).mono ?_
              rintro e w16 ⟨rfl, hb⟩
              have HGI_6 := Lib.hid (show GI w w16 t bs As ns cs ((S.map (pf v1)).reverse) Ao no co (Fm.map (pf v1)) w.heap.size v1 h1 l1 v1 h2 l2 gp v1 ph pl (kk : Int) from HGI_5.out.kept hb)
              have HR_6 := Lib.hid (show RB w16 w.heap.size v1 h1 l1 v1 h2 l2 from HR_5.out.kept hb HR_5.out.lt)
              have HP_6 := Lib.hid (show PB w16 gp v1 ph pl kk from HP_5.out.kept hb HP_5.out.lt)
              have HQ_6 := Lib.hid (show RB w16 gq v1 ph pl v1 bh bl from HQ_5.out.kept hb HQ_5.out.lt)
              have HB_6 := Lib.hid (HB_5.out.trans (hb.mono HB_5.out.size))
              clear hb HGI_5 HR_5 HP_5 HQ_5 HB_5
              have y1_0 : w16.cell? ⟨w.heap.size, 0, none⟩ = some (.bool v1) := (HR_6.out.c 0).trans rfl
              have y1_1 : w16.cell? ⟨w.heap.size, 1, none⟩ = some (.int .u64 h1) := (HR_6.out.c 1).trans rfl
              have y1_2 : w16.cell? ⟨w.heap.size, 2, none⟩ = some (.int .u64 l1) := (HR_6.out.c 2).trans rfl
              have y1_3 : w16.cell? ⟨w.heap.size, 3, none⟩ = some (.bool v1) := (HR_6.out.c 3).trans rfl
              have y1_4 : w16.cell? ⟨w.heap.size, 4, none⟩ = some (.int .u64 h2) := (HR_6.out.c 4).trans rfl
              have y1_5 : w16.cell? ⟨w.heap.size, 5, none⟩ = some (.int .u64 l2) := (HR_6.out.c 5).trans rfl
              have yl1 := HR_6.out.lt
              have y2_0 : w16.cell? ⟨gp, 0, none⟩ = some (.bool v1) := HP_6.out.c0
              have y2_1 : w16.cell? ⟨gp, 1, none⟩ = some (.int .u64 ph) := HP_6.out.c1
              have y2_2 : w16.cell? ⟨gp, 2, none⟩ = some (.int .u64 pl) := HP_6.out.c2
              have y2_3 : w16.cell? ⟨gp, 3, none⟩ = some (.int .i64 kk) := HP_6.out.c3
              have yl2 := HP_6.out.lt
              have y3_0 : w16.cell? ⟨gq, 0, none⟩ = some (.bool v1) := (HQ_6.out.c 0).trans rfl
              have y3_1 : w16.cell? ⟨gq, 1, none⟩ = some (.int .u64 ph) := (HQ_6.out.c 1).trans rfl
              have y3_2 : w16.cell? ⟨gq, 2, none⟩ = some (.int .u64 pl) := (HQ_6.out.c 2).trans rfl
              have y3_3 : w16.cell? ⟨gq, 3, none⟩ = some (.bool v1) := (HQ_6.out.c 3).trans rfl
              have y3_4 : w16.cell? ⟨gq, 4, none⟩ = some (.int .u64 bh) := (HQ_6.out.c 4).trans rfl
              have y3_5 : w16.cell? ⟨gq, 5, none⟩ = some (.int .u64 bl) := (HQ_6.out.c 5).trans rfl
              have yl3 := HQ_6.out.lt
              have hsza := HB_6.out.size
              have HCS := Lib.hid (show (#[.bool v1, .int .u64 ph, .int .u64 pl, .int .i64 kk] : Array Value).toList = EP.cells [pf v1 (n, e)] from by rw [HPF.out]; rfl)
              go_wp2_with (at_builtin; refine wpList_push (E := EP) pfTy (by rfl) _ _ (by rfl) w.heap.size _ no (Fm.map (pf v1)) [pf v1 (n, e)] (by rfl) (HGI_6.out.or.al _).2 _ 1 1 #[.bool v1, .int .u64 ph, .int .u64 pl, .int .i64 kk] (0, 0) (by rfl) (heap_alloc_new _ _) HCS.out rfl (by omega) (by omega) (by decide) ?hb ?_)
              case hb => simp; omega
              intro g2 cap2 wz hown hgrow hat hlt2
              obtain ⟨tz, hGz⟩ := HGI_6.out.found hown hgrow hat
              have hfa : Fm.map (pf v1) ++ [pf v1 (n, e)] = (Fm ++ [(n, e)]).map (pf v1) := by simp
              rw [hfa] at hGz
              clear y1_0 y1_1 y1_2 y1_3 y1_4 y1_5 yl1 y2_0 y2_1 y2_2 y2_3 yl2 y3_0 y3_1 y3_2 y3_3 y3_4 y3_5 yl3
              have HGZ := Lib.hid hGz
              clear hGz hown hgrow hat hlt2 hfa hsza HCS HGI_6 HR_6 HP_6 HQ_6 HB_6
              have HBz := Lib.hid HGZ.out.B
              have HRz := Lib.hid HGZ.out.rb
              have HPz := Lib.hid HGZ.out.pb
              have y1_0 : wz.cell? ⟨w.heap.size, 0, none⟩ = some (.bool v1) := (HRz.out.c 0).trans rfl
              have y1_1 : wz.cell? ⟨w.heap.size, 1, none⟩ = some (.int .u64 h1) := (HRz.out.c 1).trans rfl
              have y1_2 : wz.cell? ⟨w.heap.size, 2, none⟩ = some (.int .u64 l1) := (HRz.out.c 2).trans rfl
              have y1_3 : wz.cell? ⟨w.heap.size, 3, none⟩ = some (.bool v1) := (HRz.out.c 3).trans rfl
              have y1_4 : wz.cell? ⟨w.heap.size, 4, none⟩ = some (.int .u64 h2) := (HRz.out.c 4).trans rfl
              have y1_5 : wz.cell? ⟨w.heap.size, 5, none⟩ = some (.int .u64 l2) := (HRz.out.c 5).trans rfl
              have yl1 := HRz.out.lt
              have y2_0 : wz.cell? ⟨gp, 0, none⟩ = some (.bool v1) := HPz.out.c0
              have y2_1 : wz.cell? ⟨gp, 1, none⟩ = some (.int .u64 ph) := HPz.out.c1
              have y2_2 : wz.cell? ⟨gp, 2, none⟩ = some (.int .u64 pl) := HPz.out.c2
              have y2_3 : wz.cell? ⟨gp, 3, none⟩ = some (.int .i64 kk) := HPz.out.c3
              have yl2 := HPz.out.lt
              go_wp2_with fail
              clear y1_0 y1_1 y1_2 y1_3 y1_4 y1_5 yl1 y2_0 y2_1 y2_2 y2_3 yl2
              obtain ⟨t9, hG9⟩ := HGZ.out.newp v1 ph pl (kk : Int)
              obtain ⟨Wn, hWn⟩ : ∃ W, W = wz.alloc (.cells #[.bool v1, .int .u64 ph, .int .u64 pl, .int .i64 kk] 37) := ⟨_, rfl⟩
              obtain ⟨gn, hgn⟩ : ∃ g, g = wz.heap.size := ⟨_, rfl⟩
              rw [← hWn, ← hgn] at hG9
              rw [← hWn, ← hgn]
              have HGN := Lib.hid hG9
              clear hG9 hWn hgn HGZ HRz HPz HBz
              cases S with
              | nil =>
                obtain rfl : ns = 0 := HNS.out
                have HTK := Lib.hid (takeP_none bs As cs Wn HGN.out.sb)
                have HFT9 := Lib.hid (show (Fm ++ [(n, e)]) = T from by have := HTT.out; rw [decL_cons, HD.out] at this; simpa [decL] using this)
                have hgk : 0 < gk := Nat.lt_of_lt_of_le (by rw [costL_cons]; exact Nat.lt_of_lt_of_le (cost_pos lo hi e n) (Nat.le_add_right _ _)) HCO.out
                refine HTK.out.mono ?_
                rintro e w8 ⟨rfl, hb⟩
                have HG8 := Lib.hid (HGN.out.kept hb)
                clear hb HTK HGN
                have HP9 := Lib.hid HG8.out.pb
                have s0 := HP9.out.c0
                have sf0 := HP9.out.f 0
                have s1 := HP9.out.c1
                have sf1 := HP9.out.f 1
                have s2 := HP9.out.c2
                have sf2 := HP9.out.f 2
                have s3 := HP9.out.c3
                have sf3 := HP9.out.f 3
                have sl := HP9.out.lt
                obtain ⟨W9, hW9⟩ : ∃ W, W = pset w8 gn false 0 0 ((0 : Nat) : Int) := ⟨_, rfl⟩
                have HG9 := Lib.hid (show GI w W9 t9 bs As 0 cs ((([] : List (Nat × Nat)).map (pf v1)).reverse) (some ⟨g2, 0, none⟩) (no + 1) cap2 ((Fm ++ [(n, e)]).map (pf v1)) w.heap.size v1 h1 l1 v1 h2 l2 gn false 0 0 ((0 : Nat) : Int) from by rw [hW9]; exact HG8.out.setp false 0 0 ((0 : Nat) : Int))
                unfold pset at hW9
                have hW9 : W9 = (((w8.setCell ⟨gn, 0, none⟩ (.bool false)).setCell ⟨gn, 1, none⟩ (.int .u64 0)).setCell ⟨gn, 2, none⟩ (.int .u64 0)).setCell ⟨gn, 3, none⟩ (.int .i64 0) := hW9
                go_wp2_with fail
                rw [← hW9]
                clear hW9 s0 s1 s2 s3 sf0 sf1 sf2 sf3 sl HP9 HG8
                go_roundg (0)
                case measure => exact hgk
                case rel => exact ⟨t9, As, (some ⟨g2, 0, none⟩), 0, cs, (no + 1), cap2, gn, [], (Fm ++ [(n, e)]), 0, 0, 0, false, false, rfl, rfl, rfl, HG9, Lib.hid (fun _ => HFT9.out), Lib.hid (fun e => Bool.noConfusion e)⟩
              | cons y S2 =>
                obtain ⟨y1, y2⟩ := y
                have hnp : 0 < ns := by have := HNS.out; rw [List.length_cons] at this; omega
                obtain ⟨qh, ql, qk, hq, hqh, hql, hqk⟩ : ∃ qh ql qk : Nat, pf v1 (y1, y2) = ⟨v1, qh, ql, (qk : Int)⟩ ∧ qh = y1 / 18446744073709551616 ∧ ql = y1 % 18446744073709551616 ∧ qk = width v1 - y2 := ⟨_, _, _, rfl, rfl, rfl, rfl⟩
                have HTK := Lib.hid (takeP_any bs w.heap.size As ns cs ((S2.map (pf v1)).reverse) (pf v1 (y1, y2)) Wn HGN.out.sb (by have := HGN.out.sr; simpa using this) (by omega) (fun j hj e => by have a := HGN.out.t2 j hj; rw [e, HGN.out.t1] at a; omega))
                rw [hq] at HTK
                simp only at HTK
                have HTO := Lib.hid (fun W' hs hg => GI.took (x := pf v1 (y1, y2)) (I := (S2.map (pf v1)).reverse) (W' := W') (show GI w Wn t9 bs As ns cs ((S2.map (pf v1)).reverse ++ [pf v1 (y1, y2)]) (some ⟨g2, 0, none⟩) (no + 1) cap2 ((Fm ++ [(n, e)]).map (pf v1)) w.heap.size v1 h1 l1 v1 h2 l2 gn v1 ph pl (kk : Int) from by have := HGN.out; simpa using this) hs hg)
                have HQ9 := Lib.hid (And.intro hqh (And.intro hql hqk))
                clear hq hqh hql hqk HGN
                refine HTK.out.mono ?_
                rintro e w8 ⟨rfl, k1, k2⟩
                have HG8 := Lib.hid (HTO.out w8 k1 k2)
                clear k1 k2 HTK HTO
                have HP9 := Lib.hid HG8.out.pb
                have s0 := HP9.out.c0
                have sf0 := HP9.out.f 0
                have s1 := HP9.out.c1
                have sf1 := HP9.out.f 1
                have s2 := HP9.out.c2
                have sf2 := HP9.out.f 2
                have s3 := HP9.out.c3
                have sf3 := HP9.out.f 3
                have sl := HP9.out.lt
                obtain ⟨W9, hW9⟩ : ∃ W, W = pset w8 gn v1 qh ql (qk : Int) := ⟨_, rfl⟩
                have HG9 := Lib.hid (show GI w W9 t9 bs As (ns - 1) cs ((S2.map (pf v1)).reverse) (some ⟨g2, 0, none⟩) (no + 1) cap2 ((Fm ++ [(n, e)]).map (pf v1)) w.heap.size v1 h1 l1 v1 h2 l2 gn v1 qh ql (qk : Int) from by rw [hW9]; exact HG8.out.setp v1 qh ql (qk : Int))
                unfold pset at hW9
                go_wp2_with fail
                rw [← hW9]
                clear hW9 s0 s1 s2 s3 sf0 sf1 sf2 sf3 sl HP9 HG8
                go_roundg (costL lo hi ((y1, y2) :: S2))
                case measure => exact (by have h1 := HCO.out; rw [costL_cons] at h1; have h2 := cost_pos lo hi e n; omega)
                case rel => exact ⟨t9, As, (some ⟨g2, 0, none⟩), ns - 1, cs, (no + 1), cap2, gn, S2, (Fm ++ [(n, e)]), qh, ql, qk, true, v1, rfl, rfl, rfl, HG9, Lib.hid (fun e => Bool.noConfusion e), Lib.hid (fun _ => ⟨rfl, y1, y2, HQ9.out.1, HQ9.out.2.1, HQ9.out.2.2, HOK.out.2.2.2, (by have := HTT.out; rw [decL_cons, HD.out] at this; simpa using this), Nat.le_refl _⟩)⟩
end Go.Proofs.Ytmcelgnifpfjpaa

/- A row behind an alloc. -/
namespace Go.Proofs.Ytmcelgnifpfjpaa
open Go.ChangeShapes Go.WideShapes Go.ChangeAt Go.RowKit
set_option linter.unusedVariables false

theorem RowL.al {α : Type} {E : Enc α} {w : World} {A : Option Addr} {l : List α} (h : RowL E w A l) (o : Obj) : RowL E (w.alloc o) A l := h.kept ((Below.refl _ w).alloc (Nat.le_refl _) _)
end Go.Proofs.Ytmcelgnifpfjpaa

/- The fewest prefixes of a set: plain facts. -/
namespace Go.Proofs.Ytmcelgnifpfjpaa
set_option linter.unusedVariables false

/-- The greatest prefixes of the ranges of a set; the answer, none if they are too many. -/
def rawR (r : Rg) : List Pf := (dec (numA r.lo.h r.lo.l) (numA r.hi.h r.hi.l) (width r.lo.v) 0).map (pf r.lo.v)
def rawL (L : List Rg) : List Pf := L.flatMap rawR
def prefL (L : List Rg) : List Pf := if (rawL L).length ≤ 256 then rawL L else []
theorem rawL_take {L : List Rg} {k : Nat} {x : Rg} (hx : L[k]? = some x) : rawL (L.take (k + 1)) = rawL (L.take k) ++ rawR x := by
  obtain ⟨hk, e⟩ := List.getElem?_eq_some_iff.1 hx
  rw [List.take_succ_eq_append_getElem hk, e]
  simp [rawL]
theorem rawL_len (L : List Rg) (k : Nat) : (rawL (L.take k)).length ≤ (rawL L).length := by
  have h : rawL L = rawL (L.take k) ++ rawL (L.drop k) := by
    unfold rawL
    rw [← List.flatMap_append, List.take_append_drop]
  rw [h, List.length_append]
  omega
end Go.Proofs.Ytmcelgnifpfjpaa

/- Contracts of the program of layer 7: Prefixes. -/
namespace Go.Proofs.Ytmcelgnifpfjpaa
open Go.ChangeShapes Go.WideShapes Go.ChangeAt Go.RowKit
set_option linter.unusedVariables false

theorem pnormal_own (base : Nat) (A : Option Addr) (n cap : Nat) (l : List Rg) (w : World) (h : OwnR w base A n cap l) (hf : ∀ r ∈ l, r.fits) (hl : n ≤ 100000) :
    Calls Try.prog 11 #[.slice A n cap] w (SetO w w.heap.size (fun m => anyS (spnL l) m) n) := by
  rw [h.1]
  exact pnormal_any A cap l w h.row hf (by rw [← h.1]; exact hl)
set_option maxHeartbeats 4000000 in
set_option maxRecDepth 20000 in
theorem pprefixes_any (A : Option Addr) (cap : Nat) (l : List Rg) (w : World) (h : RowL ER w A l) (hf : ∀ r ∈ l, r.fits) (hl : l.length ≤ 1000) :
    Calls Try.prog 27 #[.slice A l.length cap] w fun e w' => ∃ L : List Rg, ∃ A' n' c', GoodL L ∧ (∀ m, anyS (L.map spn) m = anyS (spnL l) m) ∧ e = .returned (.slice A' n' c') ∧ OwnP w' w.heap.size A' n' c' (prefL L) ∧ Below w.heap.size w w' := by
  have HNO := Lib.hid (pnormal_any A cap l w h hf (by omega))
  obtain ⟨N, hN⟩ : ∃ n, n = l.length := ⟨_, rfl⟩
  have hn6 : N ≤ 1000 := by omega
  rw [← hN] at HNO ⊢
  clear h hf hl hN
  go_enter Try.func27, Try.ntmps27
  go_wp2_with fail
  refine HNO.out.mono ?_
  rintro e w1 ⟨L, A1, n1, c1, g1, g2, g3, rfl, g5, hb⟩
  have HL := Lib.hid g1
  have HLA := Lib.hid g2
  have HRW := Lib.hid g5.row
  have HR1 := Lib.hid g5.row
  have HN1 := Lib.hid g5.1
  have HB1 := Lib.hid hb
  have hn1 : n1 ≤ 1000 := by omega
  clear g1 g2 g3 g5 hb HNO
  go_wp2_with fail
  have HO := Lib.hid (OwnP.nil w1 w.heap.size)
  have HB := Lib.hid (Below.refl w1.heap.size w1)
  have HI := Lib.hid (show ([] : List Pf) = rawL (L.take 0) from rfl)
  go_loopw [3, 9] (fun s3 s9 wr => ∃ k n c' : Nat, ∃ A' : Option Addr, ∃ F : List Pf, k ≤ n1 ∧ n ≤ 256 ∧ s9 = .int .i64 k ∧ s3 = .slice A' n c' ∧ Hid (F = rawL (L.take k)) ∧ Hid (Below w.heap.size w wr) ∧ Hid (w1.heap.size ≤ wr.heap.size) ∧ Hid (RowL ER wr A1 L) ∧ Hid (OwnP wr w1.heap.size A' n c' F)) (fun _ s9 _ => n1 - (intOf s9).toNat)
  case atStart => exact ⟨0, 0, 0, none, [], by omega, by omega, rfl, rfl, HI, HB1, Lib.hid (Nat.le_refl _), HRW, Lib.hid (OwnP.nil w1 w1.heap.size)⟩
  case round =>
    clear HO HB HI HRW
    obtain ⟨k, n, c', A', F, hk, hn, rfl, rfl, HI, HB, HWS, HRW, HO⟩ := hrel
    by_cases hlt : k < n1
    · obtain ⟨⟨⟨v3, h3, l3⟩, ⟨v4, h4, l4⟩⟩, hget⟩ : ∃ s, L[k]? = some s := ⟨L[k]'(by have := HN1.out; omega), List.getElem?_eq_getElem _⟩
      obtain ⟨g, o, rfl, hg⟩ := HRW.out.shape (by have := HN1.out; omega)
      have hxm := good_mem HL.out hget
      obtain rfl : v3 = v4 := (someR_iff.1 hxm.1).2.2.1
      obtain ⟨c0, c1, c2, c3, c4, c5⟩ := rg_at HRW.out hget (Below.refl _ _)
      have HGR := Lib.hid (fun W => pgreat_any v3 h3 l3 h4 l4 W hxm.2 hxm.1)
      have HTK := Lib.hid (rawL_take hget)
      have hki : (k : Int) < (n1 : Int) := by omega
      have hki0 : (0 : Int) ≤ (k : Int) := by omega
      have HLE := Lib.hid (rawL_len L (k + 1))
      clear hget hxm
      have hgw : g < wr.heap.size := hg
      have HGL := Lib.hid (show g < w1.heap.size from by obtain ⟨g', o', e', h'⟩ := HR1.out.shape (by have := HN1.out; omega); simp only [Option.some.injEq, Addr.mk.injEq] at e'; omega)
      go_wp2_with fail
      clear c0 c1 c2 c3 c4 c5
      obtain ⟨W12, hW12⟩ : ∃ W, W = wr.alloc (.cells #[.bool v3, .int .u64 h3, .int .u64 l3, .bool v3, .int .u64 h4, .int .u64 l4] 43) := ⟨_, rfl⟩
      obtain ⟨gx, hgx⟩ : ∃ g, g = wr.heap.size := ⟨_, rfl⟩
      have HO_1 := Lib.hid (show OwnP W12 w1.heap.size A' n c' F from by rw [hW12]; exact HO.out.al _)
      have HRW_1 := Lib.hid (show RowL ER W12 (some ⟨g, o, none⟩) L from by rw [hW12]; exact HRW.out.al _)
      have Lgx := Lib.hid (show w.heap.size ≤ gx from by rw [hgx]; exact HB.out.size)
      have HQ := Lib.hid (show RB W12 gx v3 h3 l3 v3 h4 l4 from by rw [hW12, hgx]; exact rb_new wr v3 h3 l3 v3 h4 l4)
      have HSZgx := Lib.hid (show W12.heap.size = gx + 1 from by rw [hW12, hgx]; simp)
      have HUPgx := Lib.hid (show wr.heap.size ≤ W12.heap.size from by rw [hW12]; simp)
      have HB_1 := Lib.hid (show Below w.heap.size w W12 by rw [hW12]; exact HB.out.alloc HB.out.size _)
      clear HO HRW HB
      rw [← hW12, ← hgx]
      clear hW12 hgx
      have y2_0 : W12.cell? ⟨gx, 0, none⟩ = some (.bool v3) := (HQ.out.c 0).trans rfl
      have y2_1 : W12.cell? ⟨gx, 1, none⟩ = some (.int .u64 h3) := (HQ.out.c 1).trans rfl
      have y2_2 : W12.cell? ⟨gx, 2, none⟩ = some (.int .u64 l3) := (HQ.out.c 2).trans rfl
      have y2_3 : W12.cell? ⟨gx, 3, none⟩ = some (.bool v3) := (HQ.out.c 3).trans rfl
      have y2_4 : W12.cell? ⟨gx, 4, none⟩ = some (.int .u64 h4) := (HQ.out.c 4).trans rfl
      have y2_5 : W12.cell? ⟨gx, 5, none⟩ = some (.int .u64 l4) := (HQ.out.c 5).trans rfl
      have yl2 := HQ.out.lt
      clear y2_0 y2_1 y2_2 y2_3 y2_4 y2_5 yl2
      refine (HGR.out _).mono ?_
      rintro e w5 ⟨Ag, ng, cg, rfl, g1, g2, hb⟩
      have HG := Lib.hid g1
      have hng : ng ≤ 258 := g2
      have HZ := Lib.hid hb.size
      clear g1 g2
      have HO_2 := Lib.hid (show OwnP w5 w1.heap.size A' n c' F from HO_1.out.kept hb)
      have HRW_2 := Lib.hid (show RowL ER w5 (some ⟨g, o, none⟩) L from HRW_1.out.kept hb)
      have HQ_2 := Lib.hid (show RB w5 gx v3 h3 l3 v3 h4 l4 from HQ.out.kept hb HQ.out.lt)
      have HB_2 := Lib.hid (HB_1.out.trans (hb.mono HB_1.out.size))
      clear hb HO_1 HRW_1 HQ HB_1
      have HGR5 := Lib.hid (show RowL EP w5 Ag (rawR ⟨⟨v3, h3, l3⟩, ⟨v3, h4, l4⟩⟩) from HG.out.row)
      have HAN := Lib.hid (show Ag = none → cg = 0 from fun e => by have h := HG.out.2; rw [e] at h; exact (own_none h).2)
      have HNG := Lib.hid (show ng = (rawR ⟨⟨v3, h3, l3⟩, ⟨v3, h4, l4⟩⟩).length from HG.out.1)
      clear HG
      go_wp2_with (at_builtin; refine wpList_cat (E := EP) pfTy (by rfl) _ _ (by rfl) w1.heap.size _ n F (rawR ⟨⟨v3, h3, l3⟩, ⟨v3, h4, l4⟩⟩) (by rfl) HO_2.out.2 Ag ng cg (by rfl) HNG.out HAN.out HGR5.out (by omega) (by decide) ?hb ?_)
      case hb => exact Nat.le_trans (Nat.le_trans HWS.out HUPgx.out) HZ.out
      intro A9 c9 w9 hown hgrow
      have HWS9 := Lib.hid (show w1.heap.size ≤ w9.heap.size from Nat.le_trans (Nat.le_trans (Nat.le_trans HWS.out HUPgx.out) HZ.out) hgrow.size)
      have HB9 := Lib.hid (show Below w.heap.size w w9 from HB_2.out.grown hgrow HB_2.out.size (fun j hj => Nat.le_trans HB1.out.size (HO_2.out.2.lt j hj).1))
      have HO9 := Lib.hid (show OwnP w9 w1.heap.size A9 (n + ng) c9 (F ++ rawR ⟨⟨v3, h3, l3⟩, ⟨v3, h4, l4⟩⟩) from ⟨by rw [List.length_append, ← HO_2.out.1, ← HNG.out], hown⟩)
      have HR9 := Lib.hid (show RowL ER w9 (some ⟨g, o, none⟩) L from HRW_2.out.only hgrow (fun a ha e => by obtain rfl := Option.some.inj ha; have := (HO_2.out.2.lt _ e.symm).1; have := HGL.out; simp only at *; omega))
      have HI9 := Lib.hid (show F ++ rawR ⟨⟨v3, h3, l3⟩, ⟨v3, h4, l4⟩⟩ = rawL (L.take (k + 1)) from by rw [HTK.out, HI.out])
      obtain ⟨F9, hF9⟩ : ∃ F9, F9 = F ++ rawR ⟨⟨v3, h3, l3⟩, ⟨v3, h4, l4⟩⟩ := ⟨_, rfl⟩
      rw [← hF9] at HO9 HI9
      obtain ⟨n9, hn9⟩ : ∃ n9, n9 = n + ng := ⟨_, rfl⟩
      rw [← hn9] at HO9 ⊢
      have hn9b : n9 ≤ 600 := by omega
      clear hown hgrow hF9 hn9 HGR5 HAN HNG HZ HTK HI HGR HB_2 HO_2 HRW_2 HQ_2
      by_cases hbig : 256 < n9
      · have hd : decide ((256 : Int) < (n9 : Int)) = true := by simp; omega
        have HE := Lib.hid (show prefL L = [] from by
          have h1 := HO9.out.1
          have h2 := HLE.out
          rw [← HI9.out, ← h1] at h2
          unfold prefL
          rw [if_neg (by omega)])
        clear HI9 HLE
        go_wp2_with fail
        go_ret
        exact ⟨L, none, 0, 0, HL.out, HLA.out, rfl, by rw [HE.out]; exact OwnP.nil _ _, HB9.out⟩
      · have hd : decide ((256 : Int) < (n9 : Int)) = false := by simp; omega
        go_wp2_with fail
        go_roundw
        case rel => exact ⟨k + 1, n9, c9, A9, F9, by omega, by omega, by go_num, rfl, HI9, HB9, HWS9, HR9, HO9⟩
        case measure => simp [intOf]; omega
    · have hkn : k = L.length := by have := HN1.out; omega
      have HE := Lib.hid (show F = prefL L from by
        have h1 := HI.out
        rw [hkn, List.take_length] at h1
        have h2 := HO.out.1
        unfold prefL
        rw [if_pos (by rw [← h1, ← h2]; exact hn), h1])
      have hd : decide ((k : Int) < (n1 : Int)) = false := by simp; omega
      clear hkn HI
      go_wp2_with fail
      go_ret
      exact ⟨L, A', n, c', HL.out, HLA.out, rfl, ⟨by rw [← HE.out]; exact HO.out.1, by rw [← HE.out]; exact own_mono HO.out.2 HB1.out.size⟩, HB.out⟩
end Go.Proofs.Ytmcelgnifpfjpaa
