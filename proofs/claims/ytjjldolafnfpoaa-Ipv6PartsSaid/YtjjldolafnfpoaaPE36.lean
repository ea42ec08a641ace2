/- Contracts of the functions, part 36: Ip6PBwd, Round, Ip6PRan. -/
import Derived.RangeFuncNested
import Derived.RangeFuncBound
import Derived.RangeFuncCalls
import Derived.RangeFuncLeaves
import Derived.Shelf.Abstract
import Derived.Shelf.RegionOpen
import Derived.WalkKit
import Derived.OwnWalkIn
import Derived.TacticsInMore
import Derived.LoopNIn
import Derived.LoopIn
import Derived.OrdersIn
import Derived.TacticsIn
import Derived.Test.YtjjldolafnfpoaaPE18
import Derived.Test.YtjjldolafnfpoaaPE35
/- Contracts of the program of layer 12: slices.Backward at extension headers: the function, and its closure as an iterator. -/
namespace Go.Proofs.Ytjjldolafnfpoaa
open Go.ChangeShapes Go.WideShapes Go.ChangeAt Go.RowKit Go.Shelf
set_option linter.unusedVariables false
attribute [local go_sem] Oper.semAt_some

/-- What a round is handed: an index, an extension header. -/
abbrev ExtA := { x : Int × OpR // extK x.2.kd ∧ x.2.dat.length % 8 = 6 ∧ x.2.dat.length ≤ 2046 }
def encA (x : ExtA) : Array Value := #[.int .i64 x.1.1, .agg #[.int .i64 x.1.2.kd, .string (str x.1.2.dat)]]
/-- What a round keeps: what lay below n₀, and the captured slice. -/
def KpB (n₀ Bs : Nat) (W W' : World) : Prop := Below n₀ W W' ∧ W'.heap[Bs]? = W.heap[Bs]?
theorem KpB.refl (n₀ Bs : Nat) (W : World) : KpB n₀ Bs W W := ⟨Below.refl _ _, rfl⟩
theorem KpB.trans {n₀ Bs : Nat} {X Y Z : World} (h : KpB n₀ Bs X Y) (k : KpB n₀ Bs Y Z) : KpB n₀ Bs X Z := ⟨h.1.trans k.1, k.2.trans h.2⟩
theorem KpB.book {n₀ Bs : Nat} {w : World} (hn : n₀ ≤ w.heap.size) (hB : Bs < w.heap.size) (W : World) (l : Nat) (o o' : Obj) (hl : w.heap.size ≤ l) (h : W.heap[l]? = some o) (h1 : o.isCells = false) (h2 : o.isWalk = false) : KpB n₀ Bs W (W.putObj l o') :=
  ⟨belowK_b hn W l o o' hl h h1 h2, World.putObj_heap_other (by omega)⟩
theorem okE6_at {l : List OpR} (h : okE6 l) {j : Nat} {x : OpR} (hx : l[j]? = some x) : extK x.kd ∧ x.dat.length % 8 = 6 ∧ x.dat.length ≤ 2046 := by
  have := h j x hx
  unfold badE6 at this
  simp only [not_or] at this
  obtain ⟨h1, h2, h3, h4⟩ := this
  exact ⟨Classical.not_not.1 h1, by omega, by omega⟩
theorem drop_snoc12 {l : List OpR} {j : Nat} {x : OpR} (hx : l[j]? = some x) : (l.drop (j + 1)).reverse ++ [x] = (l.drop j).reverse := by
  obtain ⟨hj, rfl⟩ := List.getElem?_eq_some_iff.1 hx
  rw [List.drop_eq_getElem_cons hj, List.reverse_cons]
set_option maxHeartbeats 4000000 in
set_option maxRecDepth 100000 in
theorem pback1_in (nd l Bs n₀ b off cap m n : Nat) (hnd : 1 ≤ nd) (zs : List OpR) (hn : n = zs.length) (hm : n = m + 1) (h8 : n ≤ 8) (hok : okE6 zs) (hb : b < n₀) (J Jx : List ExtA → World → Prop)
    (hY : ∀ (pre : List ExtA) (x : ExtA) (W : World), J pre W → pre.length < n → YieldAt Fence.wide (nd - 1) Try.prog l (encA x) W fun e W' =>
      (e = .returned (.bool true) ∧ J (pre ++ [x]) W' ∧ KpB n₀ Bs W W') ∨ (e = .returned (.bool false) ∧ Jx (pre ++ [x]) W'))
    (W : World) (hBs : W.cell? ⟨Bs, 0, none⟩ = some (.slice (some ⟨b, off, none⟩) n cap)) (hBl : Bs < W.heap.size) (hc : ∀ j x, zs[j]? = some x → W.cell? ⟨b, off + j * 2, none⟩ = some (.int .i64 x.kd) ∧ W.cell? ⟨b, off + j * 2 + 1, none⟩ = some (.string (str x.dat))) (h0 : J [] W) :
    CallsIn Fence.wide nd Try.prog 54 #[.func (.yield l) #[] #[], .pointer (some ⟨Bs, 0, none⟩)] W fun e W' => (∃ v, e = .returned v) ∧
      ((∃ ys : List ExtA, ys.map (fun x => x.1.2) = zs.reverse ∧ J ys W') ∨ (∃ pre : List ExtA, True ∧ Jx pre W')) := by
  have HN := Lib.hid hn
  have HOK := Lib.hid hok
  have HC := Lib.hid hc
  have HY := Lib.hid hY
  have hmi : (n : Int) - 1 = (m : Int) := by omega
  have HM := Lib.hid hm
  clear hn hok hc hY hm
  refine callsIn_of_wp Try.func54 rfl trivial ?_ rfl
  simp only [Try.ntmps54, List.size_toArray, List.length_cons, List.length_nil, Nat.reduceAdd, Nat.reduceSub, Array.replicate_succ, Array.replicate_zero, List.push_toArray, List.append_toArray, List.nil_append, List.cons_append]
  gi_wp2
  gi_loopw [3] (fun i wr => (∃ pre : List ExtA, pre.map (fun x => x.1.2) = zs.reverse ∧ i = .int .i64 (-1) ∧ J pre wr) ∨ (∃ (j : Nat) (pre : List ExtA), j < n ∧ pre.length + j < n ∧ pre.map (fun x => x.1.2) = (zs.drop (j + 1)).reverse ∧ i = .int .i64 (j : Int) ∧ J pre wr ∧ KpB n₀ Bs W wr))
    (fun i _ => (intOf i + 1).toNat)
  case atStart =>
    refine .inr ⟨m, [], by have := HM.out; omega, by have := HM.out; simp; omega, ?_, rfl, h0, KpB.refl _ _ _⟩
    rw [List.drop_of_length_le (by have := HM.out; have := HN.out; omega)]
    rfl
  case round =>
    rcases hrel with ⟨pre, hpre, rfl, hJ⟩ | ⟨j, pre, hj, hpl, hpre, rfl, hJ, hk⟩
    · gi_wp2
      go_end0
      exact ⟨⟨_, rfl⟩, .inl ⟨pre, hpre, hJ⟩⟩
    · have hlt : j < zs.length := by rw [← HN.out]; exact hj
      obtain ⟨x, hx⟩ : ∃ x, zs[j]? = some x := ⟨zs[j], List.getElem?_eq_getElem hlt⟩
      have hcb : wr.cell? ⟨Bs, 0, none⟩ = some (.slice (some ⟨b, off, none⟩) n cap) := (World.cell?_of_block (a := ⟨Bs, 0, none⟩) hk.2).trans hBs
      have c0 : wr.cell? ⟨b, off + j * 2, none⟩ = some (.int .i64 x.kd) := (hk.1.cell (p := ⟨b, off + j * 2, none⟩) hb).trans (HC.out j x hx).1
      have c1 : wr.cell? ⟨b, off + j * 2 + 1, none⟩ = some (.string (str x.dat)) := (hk.1.cell (p := ⟨b, off + j * 2 + 1, none⟩) hb).trans (HC.out j x hx).2
      obtain ⟨fn, tmps, assign, body, hy, hR⟩ := HY.out pre ⟨((j : Int), x), okE6_at HOK.out hx⟩ wr hJ (by omega)
      have HR := Lib.hid hR
      have HPRE := Lib.hid (show (pre ++ [(⟨((j : Int), x), okE6_at HOK.out hx⟩ : ExtA)]).map (fun x : ExtA => x.1.2) = (zs.drop j).reverse by
        rw [List.map_append, hpre]
        exact drop_snoc12 hx)
      unfold encA at hy
      dsimp only at hy
      have hji : (j : Int) < (n : Int) := by omega
      have hj0 : (0 : Int) ≤ (j : Int) := by omega
      have dj0 : decide ((0 : Int) ≤ (j : Int)) = true := by simp
      clear hR hpre
      generalize str x.dat = D at *
      gi_wp2
      refine HR.out.mono ?_
      rintro e W3 (⟨rfl, hJ3, hk3⟩ | ⟨rfl, hJx3⟩)
      · have HK3 := Lib.hid (hk.trans hk3)
        have HJ3 := Lib.hid hJ3
        clear hJ3 hk3
        cases j with
        | zero =>
          gi_wp2
          go_roundw
          case rel => exact .inl ⟨_, by rw [HPRE.out]; rfl, rfl, HJ3.out⟩
          case measure => simp [intOf]
        | succ k =>
          have hki : ((k + 1 : Nat) : Int) - 1 = (k : Int) := by omega
          have HKK := Lib.hid hki
          gi_wp2
          go_roundw
          case rel => exact .inr ⟨k, _, by omega, by simp; omega, HPRE.out, by first | rfl | (congr 1; omega), HJ3.out, HK3.out⟩
          case measure => simp [intOf]; omega
      · gi_wp2
        refine bodyPost_ret (results_none rfl _ _ _) rfl ?_
        exact ⟨⟨_, rfl⟩, .inr ⟨_, trivial, hJx3⟩⟩
set_option maxHeartbeats 1000000 in
theorem pback_nil_in (nd l Bs cap : Nat) (A : Option Addr) (J : List ExtA → World → Prop) (W : World) (hBs : W.cell? ⟨Bs, 0, none⟩ = some (.slice A 0 cap)) (h0 : J [] W) :
    CallsIn Fence.wide nd Try.prog 54 #[.func (.yield l) #[] #[], .pointer (some ⟨Bs, 0, none⟩)] W fun e W' => (∃ v, e = .returned v) ∧ J [] W' := by
  refine callsIn_of_wp Try.func54 rfl trivial ?_ rfl
  simp only [Try.ntmps54, List.size_toArray, List.length_cons, List.length_nil, Nat.reduceAdd, Nat.reduceSub, Array.replicate_succ, Array.replicate_zero, List.push_toArray, List.append_toArray, List.nil_append, List.cons_append]
  gi_wp2
  gi_loopw [3] (fun i wr => i = .int .i64 (-1) ∧ J [] wr) (fun _ _ => 0)
  case atStart => exact ⟨rfl, h0⟩
  case round =>
    obtain ⟨rfl, hJs⟩ := hrel
    gi_wp2
    go_end0
    exact ⟨⟨_, rfl⟩, hJs⟩
theorem pback_stops (nd Bs n₀ : Nat) (hnd : 1 ≤ nd) (A : Option Addr) (cap : Nat) (zs : List OpR) (h8 : zs.length ≤ 8) (hok : okE6 zs) (w0 w : World) (hr : RowL EOpt w0 A zs) (hn₀ : n₀ = w0.heap.size) (hbw : Below n₀ w0 w) (hBs : Bs < w.heap.size) (hc : w.cell? ⟨Bs, 0, none⟩ = some (.slice A zs.length cap)) :
    SeqStopsK Fence.wide nd Try.prog 54 #[.pointer (some ⟨Bs, 0, none⟩)] encA (KpB n₀ Bs) (fun ys => ys.map (fun x => x.1.2) = zs.reverse) (fun _ => True) zs.length w := fun l J Jx W hW _ _ hY h0 => by
  subst hn₀
  have hc' := (hW.cell (p := ⟨Bs, 0, none⟩) hBs).trans hc
  have hbW : Below w0.heap.size w0 W := hbw.trans (hW.mono hbw.size)
  cases hz : zs.length with
  | zero =>
    rw [hz] at hc'
    refine (pback_nil_in nd l Bs cap A J W hc' h0).mono fun e W' ⟨he, hj⟩ => ⟨he, .inl ⟨[], ?_, hj⟩⟩
    rw [List.length_eq_zero_iff.1 hz]
    rfl
  | succ m =>
    obtain ⟨g, ob, rfl, hg⟩ := hr.shapeA (by omega)
    refine pback1_in nd l Bs w0.heap.size g ob cap m zs.length hnd zs rfl hz h8 hok hg J Jx hY W hc' (by have := hW.size; omega) (fun j x hx => opt_at hr hx hbW) h0
set_option maxHeartbeats 1000000 in
theorem pbackward12_any (A : Option Addr) (n c : Nat) (w : World) :
    Calls Try.prog 32 #[.slice A n c] w fun e w' => e = .returned (.func (.func 54) #[] #[.pointer (some ⟨w.heap.size, 0, none⟩)]) ∧ w' = w.alloc (.cells #[.slice A n c] 26) := by
  go_enter Try.func32, Try.ntmps32
  go_wp2_with fail
  go_ret
  exact ⟨rfl, rfl⟩
end Go.Proofs.Ytjjldolafnfpoaa

/- A region of a loop's body in a range over a function: what the plain laws show of a region that draws its order holds in a round's frame too. -/
namespace Go.Proofs.Ytjjldolafnfpoaa
open Go.ChangeShapes Go.WideShapes Go.ChangeAt Go.RowKit
set_option linter.unusedVariables false

theorem Oper.wpIn_of_wp {l n : Nat} {P : Program} {o : Oper} (hnd : ∀ c, o.op ≠ .defer c) {a : Act} {w : World} {K K' : Act → World → Prop} {Q : Exit → Act → World → Prop} (hK : ∀ a w, K a w → K' a w)
    (h : o.wp P a w K Q) : o.wpIn (Fence.wide.inRound l) n P a w K' Q := by
  unfold Oper.wp at h
  unfold Oper.wpIn
  refine ⟨fun _ _ => trivial, ?_⟩
  rw [show (Fence.wide.inRound l).round = some l from rfl, Oper.semAt_some l _ _ hnd]
  generalize (execOp a.eval o).run P w = r at *
  cases r with
  | ok x w' =>
    cases x <;> simp only [Oper.upon] at h <;> simp only [Oper.uponIn]
    case value v => exact hK _ _ h
    case skip => exact hK _ _ h
    case defer d => exact hK _ _ h
    case enter f args =>
      refine ⟨fun hh => by simp [Fence.wide, Fence.inRound] at hh, CallsIn.inRound l (callsIn_wide.2 (h.mono fun e w'' he => ?_))⟩
      cases e with
      | returned v => exact hK _ _ he
      | panicked ch => exact he
      | outgrown => exact he
    case row row args =>
      refine ⟨fun hh => by simp [Fence.wide, Fence.inRound] at hh, fun c cs _ => ?_⟩
      obtain ⟨v, w'', h1, h2⟩ := h c cs
      exact ⟨v, w'', hK _ _ h1, stepsIn_wide.2 h2⟩
  | halt x w' => cases x <;> simp only [Oper.upon] at h <;> first | exact h | (simp only [Oper.uponIn])
theorem wpOpIn_of_wpOp {l n : Nat} {P : Program} {ops : Array Oper} {Q : Exit → Act → World → Prop} (hq : ¬ LetsOut Q) (hnd : ∀ o ∈ ops, ∀ c, o.op ≠ .defer c) {i : Nat} {a : Act} {w : World} {K K' : Act → World → Prop} (hK : ∀ a w, K a w → K' a w)
    (h : wpOp P ops Q i K a w) : wpOpIn (Fence.wide.inRound l) n P ops Q i K' a w := by
  unfold wpOp at h
  unfold wpOpIn
  split
  · rename_i ho
    simp only [ho] at h
    exact hK _ _ h
  · rename_i o ho
    simp only [ho] at h
    have hm : o ∈ ops := Array.mem_of_getElem? ho
    split
    · rename_i hw
      simp only [hw, if_true] at h
      rcases h with h | h
      · exact Oper.wpIn_of_wp (hnd o hm) hK h
      · exact absurd h.2 hq
    · rename_i hw
      simp only [hw] at h
      exact ⟨fun _ _ => trivial, hK _ _ h⟩
theorem wpAnyIn_of_wpAny {l n : Nat} {P : Program} {md : Region.Mode} {ops : Array Oper} {Q : Exit → Act → World → Prop} (hq : ¬ LetsOut Q) (hnd : ∀ o ∈ ops, ∀ c, o.op ≠ .defer c) : ∀ (fuel : Nat) (listed : Array Bool) (a : Act) (w : World),
    wpAny P md ops Q fuel listed a w → wpAnyIn (Fence.wide.inRound l) n P md ops Q fuel listed a w
  | 0, _, _, _, h => h
  | fuel + 1, listed, a, w, h => ⟨h.1, fun i hi => wpOpIn_of_wpOp hq hnd (fun a w => wpAnyIn_of_wpAny hq hnd fuel _ a w) (h.2 i hi)⟩
def noDeferB (l : List Oper) : Bool := l.all fun o => match o.op with | .defer _ => false | _ => true
theorem noDeferB_get {l : List Oper} (h : noDeferB l = true) : ∀ o ∈ l.toArray, ∀ c, o.op ≠ .defer c := by
  intro o ho c e
  unfold noDeferB at h
  rw [List.all_eq_true] at h
  have := h o (by simpa using ho)
  rw [e] at this
  cases this
/-- THE LAW, IN A ROUND. -/
theorem wpIn_round_specs_tail {lp nd : Nat} {P : Program} {id : Nat} {Q : Exit → Act → World → Prop} {a0 : Act} {w : World} {l : List Oper} (n : Nat) (ss : List SpecT) (hq : ¬ LetsOut Q) (hnd : noDeferB l = true) (hm : P.follows .mixedOrders = true) (hn : decide (n < l.length) = true) (hlen : ss.length = n) (hdst : dstsB (l.take n) a0.tmps.size = true) (hback : backB l 0 = true)
    (hsink : Region.sinkB .any l.toArray n = true) (hchain : Region.chainB .any l.toArray n = true) (hseq : Region.seqB .any l.toArray (l.length - n) n (tailAt l.length n) = true)
    (hstep : allT (StepT P (l.take n) ss a0 w.heap.size w Q) (l.take n) ss) (hend : ∀ w', Below w.heap.size w w' → endT w.heap.size w' (fun a => wpList P l.toArray Q (l.drop n) a w') (l.take n) ss a0) : (Code.region id l.toArray true).wpIn (Fence.wide.inRound lp) nd P Q a0 w := by
  have hn' : n < l.length := of_decide_eq_true hn
  refine wpIn_region_any hm (wpAnyIn_of_wpAny hq (noDeferB_get hnd) _ _ _ _ ?_)
  have hbw : Below w.heap.size w { w with drawn := w.drawn + 1 } := ⟨rfl, rfl, rfl, Nat.le_refl _, fun _ _ => rfl⟩
  have hc0 : headCnt n (Array.replicate l.length false) = n := by
    unfold headCnt
    rw [Array.toList_replicate, List.take_replicate, List.countP_replicate]
    simp
    omega
  have := specs_tail (w0 := w) hn' hlen hdst hback hsink hchain hseq hstep hend n (Array.replicate l.length false) a0 { w with drawn := w.drawn + 1 }
    ⟨⟨by simp, fun j oj _ hl => (by rw [getD_replicate_false] at hl; cases hl), fun t _ ht => getD_in (by simpa using ht) (getD_replicate_false _ _)⟩, rfl, rfl, fun _ _ => rfl, fun i o s d _ _ _ hl => (by rw [getD_replicate_false] at hl; cases hl), hbw⟩ hc0
  rw [show n + (l.length - n) = l.length by omega] at this
  simpa using this
end Go.Proofs.Ytjjldolafnfpoaa

/- The loop of Encode of layer 12 over the extension headers, from the last one to the first. -/
namespace Go.Proofs.Ytjjldolafnfpoaa
open Go.ChangeShapes Go.WideShapes Go.ChangeAt Go.RowKit
set_option linter.unusedVariables false

/-- The activation in a round, behind the assignment. -/
def rndT (a : Act) (x : ExtA) (Bx : Nat) : Array Value := ((a.tmps.setIfInBounds 25 (.int .i64 x.1.1)).setIfInBounds 26 (.agg #[.int .i64 x.1.2.kd, .string (str x.1.2.dat)])).setIfInBounds 8 (.pointer (some ⟨Bx, 0, none⟩))
/-- The bytes of one header. -/
def hdr12 (x : OpR) (k : Nat) (S : List UInt8) : List UInt8 := UInt8.ofNat k :: UInt8.ofNat ((x.dat.length - 6) / 8) :: (x.dat ++ S)
def revA (pre : List ExtA) : List OpR := (pre.map (fun x => x.1.2)).reverse
theorem revA_snoc (pre : List ExtA) (x : ExtA) : revA (pre ++ [x]) = x.1.2 :: revA pre := by unfold revA; simp
theorem wrX_kind (k0 : Nat) (b0 : List UInt8) (h0 : k0 < 256) (pre : List ExtA) : (wrX (revA pre) k0 b0).1 < 256 := by
  unfold revA
  cases h : (pre.map (fun x : ExtA => x.1.2)).reverse with
  | nil => exact h0
  | cons y r =>
    have hy : y ∈ (pre.map (fun x : ExtA => x.1.2)).reverse := by rw [h]; exact List.mem_cons_self ..
    rw [List.mem_reverse, List.mem_map] at hy
    obtain ⟨x, _, hx⟩ := hy
    have := x.2.1
    rw [hx] at this
    unfold extK at this
    show y.kd.toNat < 256
    omega
theorem lenX_le12 (l : List OpR) (h : ∀ x ∈ l, x.dat.length ≤ 2046) : lenX l ≤ l.length * 2048 := by
  induction l with
  | nil => simp [lenX]
  | cons a r ih =>
    rw [lenX_one, List.length_cons, Nat.add_mul]
    have h1 := ih (fun x hx => h x (List.mem_cons_of_mem _ hx))
    have h2 := h a (List.mem_cons_self ..)
    omega
theorem wrX_bound (k0 : Nat) (b0 : List UInt8) (h0 : b0.length ≤ 8) (pre : List ExtA) (h : pre.length ≤ 8) : (wrX (revA pre) k0 b0).2.length ≤ 20000 := by
  rw [wrX_len]
  have h1 := lenX_le12 (revA pre) (fun y hy => by
    unfold revA at hy
    rw [List.mem_reverse, List.mem_map] at hy
    obtain ⟨x, _, hx⟩ := hy
    have := x.2.2.2
    rw [hx] at this
    exact this)
  have h2 : (revA pre).length = pre.length := by unfold revA; simp
  rw [h2] at h1
  have : pre.length * 2048 ≤ 8 * 2048 := Nat.mul_le_mul_right _ h
  omega
/-- What the rounds keep of the loop's world. -/
def KpR (n₀ gb gp : Nat) (W W' : World) : Prop := KpB n₀ gb W W' ∧ W'.heap[gp]? = W.heap[gp]?
theorem KpR.trans {n₀ gb gp : Nat} {X Y Z : World} (h : KpR n₀ gb gp X Y) (k : KpR n₀ gb gp Y Z) : KpR n₀ gb gp X Z := ⟨h.1.trans k.1, k.2.trans h.2⟩
theorem range12 {assign body : Code} {Q : Exit → Act → World → Prop} {a : Act} {w : World} (w0 : World) (gb gk gh gp k0 : Nat) (b0 : List UInt8) (A : Option Addr) (cap : Nat) (zs : List OpR)
    (hg : a.eval (.tmp 24) = .func (.func 54) #[] #[.pointer (some ⟨gb, 0, none⟩)]) (h8 : zs.length ≤ 8) (hok : okE6 zs) (hr : RowL EOpt w0 A zs) (hbw : Below w0.heap.size w0 w) (hcb : w.cell? ⟨gb, 0, none⟩ = some (.slice A zs.length cap)) (hk0 : k0 < 256) (hb0 : b0.length ≤ 8)
    (hgb : gb < w.heap.size) (hgp : gp < w.heap.size) (hlk : w0.heap.size ≤ gk) (hlh : w0.heap.size ≤ gh) (hkh : gk ≠ gh) (hbk : gb ≠ gk) (hbh : gb ≠ gh) (hpk : gp ≠ gk) (hph : gp ≠ gh)
    (hk : Boxed w gk 3 (.int .i64 (k0 : Int))) (hh : Boxed w gh 9 (.string (str b0)))
    (hassign : ∀ (l : Nat) (x : ExtA) (W : World) (K : Act → World → Prop), K { tmps := rndT a x W.heap.size, defers := [] } (W.alloc (.cells #[.int .i64 x.1.2.kd, .string (str x.1.2.dat)] 59)) →
      assign.wpIn (Fence.wide.inRound l) 1 Try.prog (Exit.then K (fun _ _ _ => False)) { tmps := (a.tmps.setIfInBounds 25 (.int .i64 x.1.1)).setIfInBounds 26 (.agg #[.int .i64 x.1.2.kd, .string (str x.1.2.dat)]), defers := [] } W)
    (hbody : ∀ (l : Nat) (x : ExtA) (kd : Nat) (S : List UInt8) (Bx : Nat) (W : World) (K : Act → World → Prop), kd < 256 → S.length ≤ 20000 → Boxed W gk 3 (.int .i64 (kd : Int)) → Boxed W gh 9 (.string (str S)) → Cells W Bx 59 #[.int .i64 x.1.2.kd, .string (str x.1.2.dat)] → gk ≠ Bx → gh ≠ Bx →
      (∀ a' W', KeepsFrom w.heap.size W W' → (∀ j, j < W.heap.size → j ≠ gk → j ≠ gh → W'.heap[j]? = W.heap[j]?) → Below w0.heap.size W W' → Boxed W' gk 3 (.int .i64 x.1.2.kd) → Boxed W' gh 9 (.string (str (hdr12 x.1.2 kd S))) → K a' W') →
      body.wpIn (Fence.wide.inRound l) 1 Try.prog (Exit.then K (fun _ _ _ => False)) { tmps := rndT a x Bx, defers := [] } W)
    (hdone : ∀ (D : Nat) (W : World), w.heap.size ≤ D → Boxed W gk 3 (.int .i64 ((wrX zs k0 b0).1 : Int)) → Boxed W gh 9 (.string (str (wrX zs k0 b0).2)) → KpR w0.heap.size gb gp w W → W.heap[D]? = some (.deferred (some [])) →
      Q .normal { a with defers := { target := .collected D, args := #[] } :: a.defers } W) :
    (Code.rangeFunc (.tmp 24) #[25, 26] assign body).wp Try.prog Q a w := by
  have hkl := hk.lt
  have hhl := hh.lt
  refine wpIn_wide.1 (wpIn_rangeFunc_ownH (F := Fence.wide) (n := 3) rfl (by omega) hg trivial (enters_of Try.func54 (by kernel_rfl) rfl)
    (pback_stops 2 gb w0.heap.size (by omega) A cap zs h8 hok w0 w hr rfl hbw hgb hcb) (fun h k => h.trans k) (KpB.book hbw.size hgb) (Below.refl _ _) (fun _ => rfl)
    (fun pre W => (Boxed W gk 3 (.int .i64 ((wrX (revA pre) k0 b0).1 : Int)) ∧ Boxed W gh 9 (.string (str (wrX (revA pre) k0 b0).2))) ∧ KpR w0.heap.size gb gp w W ∧ w.heap.size ≤ W.heap.size)
    (fun _ _ _ => False) ?hI (fun _ _ _ _ _ hs _ _ => hs) ⟨⟨hk, hh⟩, ⟨KpB.refl _ _ _, rfl⟩, Nat.le_refl _⟩
    (fun x a' W => ∃ Bx, w.heap.size ≤ Bx ∧ Cells W Bx 59 #[.int .i64 x.1.2.kd, .string (str x.1.2.dat)] ∧ a' = { tmps := rndT a x Bx, defers := [] }) ?hAx ?assign ?body ?done ?stop)
  case hI =>
    rintro pre W W' row ⟨⟨h1, h2⟩, ⟨⟨h3, h4⟩, h5⟩, h6⟩ hgr hro
    have hne : ∀ j, j < w.heap.size → some j ≠ row := fun j hj e => by have := (hro j e.symm).1; omega
    exact ⟨⟨h1.kept hgr (hne _ hkl), h2.kept hgr (hne _ hhl)⟩, ⟨⟨h3.grown hgr (Nat.le_trans hbw.size h6) (fun j e => Nat.le_trans hbw.size (hro j e).1), (hgr.block gb (by omega) (hne _ hgb)).trans h4⟩, (hgr.block gp (by omega) (hne _ hgp)).trans h5⟩, Nat.le_trans h6 hgr.size⟩
  case hAx =>
    rintro x a' _ W W' row ⟨Bx, h1, h2, h3⟩ hgr hro
    refine ⟨Bx, h1, (hgr.block Bx h2.lt (fun e => ?_)).trans h2, h3⟩
    obtain ⟨_, o, ho, hc⟩ := hro Bx e.symm
    rw [show W.heap[Bx]? = _ from h2] at ho
    cases ho
    cases hc
  case assign =>
    rintro l pre x W K ⟨⟨h1, h2⟩, ⟨⟨h3, h4⟩, h5⟩, h6⟩ hK
    have hb := below_alloc6 W (.cells #[.int .i64 x.1.2.kd, .string (str x.1.2.dat)] 59)
    have e : ((#[25, 26] : Array Tmp).zip (encA x)).foldl (fun t (p, v) => t.setIfInBounds p v) a.tmps = (a.tmps.setIfInBounds 25 (.int .i64 x.1.1)).setIfInBounds 26 (.agg #[.int .i64 x.1.2.kd, .string (str x.1.2.dat)]) := by simp [encA]
    rw [e]
    refine hassign l x W K (hK _ _ ((KeepsOthers.alloc _ _).from _) ⟨hb.mono (Nat.le_trans hbw.size h6), hb.block gb (by omega)⟩ ⟨⟨h1.alloc _, h2.alloc _⟩, ⟨⟨h3.trans (hb.mono (Nat.le_trans hbw.size h6)), (hb.block gb (by omega)).trans h4⟩, (hb.block gp (by omega)).trans h5⟩, by have := hb.size; omega⟩ ⟨W.heap.size, h6, heap_alloc_new W _, rfl⟩)
  case body =>
    rintro l pre x a' W _ _ ⟨⟨h1, h2⟩, ⟨⟨h3, h4⟩, h5⟩, h6⟩ ⟨Bx, hB, hX, rfl⟩ hlt
    refine wpIn_mono (hbody l x _ _ Bx W (fun _ W' => KeepsFrom w.heap.size W W' ∧ KpB w0.heap.size gb W W' ∧ ((Boxed W' gk 3 (.int .i64 ((wrX (revA (pre ++ [x])) k0 b0).1 : Int)) ∧ Boxed W' gh 9 (.string (str (wrX (revA (pre ++ [x])) k0 b0).2))) ∧ KpR w0.heap.size gb gp w W' ∧ w.heap.size ≤ W'.heap.size)) (wrX_kind k0 b0 hk0 pre) (wrX_bound k0 b0 hb0 pre (by omega)) h1 h2 hX (by omega) (by omega) ?_) ?_
    · intro a' W' k1 k2 k3 k4 k5
      refine ⟨k1, ⟨k3, k2 gb (by omega) hbk hbh⟩, ⟨?_, ?_⟩, ⟨⟨h3.trans k3, (k2 gb (by omega) hbk hbh).trans h4⟩, (k2 gp (by omega) hpk hph).trans h5⟩, Nat.le_trans h6 k1.size⟩
      · rw [revA_snoc]
        have hx := x.2.1
        unfold extK at hx
        rwa [show x.1.2.kd = ((wrX (x.1.2 :: revA pre) k0 b0).1 : Int) by show _ = ((x.1.2.kd.toNat : Nat) : Int); omega] at k4
      · rw [revA_snoc]
        exact k5
    · rintro e a2 W' hp
      cases e <;> first | exact hp | exact hp.elim
  case done =>
    rintro D xs W hD hxs ⟨⟨h1, h2⟩, h3, h6⟩ hK
    have e : revA xs = zs := by unfold revA; rw [hxs, List.reverse_reverse]
    rw [e] at h1 h2
    exact hdone D W hD h1 h2 h3 hK
  case stop =>
    rintro D c pre W _ _ h _
    exact h.elim
end Go.Proofs.Ytjjldolafnfpoaa
