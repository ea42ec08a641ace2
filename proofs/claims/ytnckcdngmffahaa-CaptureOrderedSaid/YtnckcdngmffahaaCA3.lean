/- Contracts of the functions, part 3: Elems2, CapFeed, CapRead, CapWrite, CapMrg, CapAbs, CapQ, CapPut, Box, CapTake. -/
import Derived.Deep.RegionHeld3
import Derived.Deep.QuietTactic
import Derived.Laws.StructEq
import Derived.Lib.AppendStr
import Derived.Maps.OwnSet
import Derived.Maps.StringElems
import Derived.Deep.RegionLaw
import Derived.Test.YtnckcdngmffahaaCA1
import Derived.Test.YtnckcdngmffahaaCA2
/- append at a step of a region that draws: elements of any fixed number of cells. -/
namespace Go.Proofs.Ytnckcdngmffahaa
open Go.ChangeShapes Go.WideShapes Go.ChangeAt Go.RowKit
set_option linter.unusedVariables false
variable {α : Type} {E : Enc α}

/-- append(out, x, ..) at a step of a region that draws: elements that lie in a block of their own, onto a slice that the call owns. -/
theorem step_push {t e : TypeId} {bytes : Nat} {w : World} {ops : Array Oper} {o : Oper} {a : Act} {K : Act → World → Prop} {Q : Exit → Act → World → Prop} {F : Prop} (T : ElemTy t e E.k bytes) (hgd : o.guard = none) (s x : Operand)
    (ho : o.op = .call { callee := .builtin .append, args := #[s, x], argTypes := #[t, t] })
    (base : Nat) (v : Value) (n : Nat) (l ys : List α) (hs : a.eval s = v) (hown : w.ownsRow base e E.k v n (E.cells l))
    (B m c : Nat) (cs : Array Value) (fr : Nat × Nat) (hx : a.eval x = .slice (some ⟨B, 0, none⟩) m c) (hB : w.heap[B]? = some (.cells cs e fr)) (hcs : cs.toList = E.cells ys) (hm : m = ys.length) (hm0 : 0 < m) (hn : n + m ≤ 1000000) (hby : bytes ≤ 1000) (hbase : base ≤ w.heap.size)
    (h : ∀ g cap w', w'.ownsRow base e E.k (.slice (some ⟨g, 0, none⟩) (n + m) cap) (n + m) (E.cells (l ++ ys)) → w.grownBy w' v.ownBlock → (v.ownBlock = some g ∨ g = w.heap.size) → g < w'.heap.size → K (a.put o.dst (.slice (some ⟨g, 0, none⟩) (n + m) cap)) w') :
    if Region.wanted o (yielded ops a.tmps) = true then Oper.wp Try.prog o a w K Q else F := by
  obtain ⟨i, z, h1, h2, h3, h4, h5⟩ := T.info
  refine step_append_lies w hgd s x t ho base e i z E.k bytes T.und h1 h2 h3 h4 h5 E.pos v n (E.cells l) hs hown ⟨B, 0, none⟩ m c (E.cells ys) hx (by rw [E.cells_length, hm]) (fun j u hu => World.news_of_block hB j u (by rw [hcs]; exact hu)) (E.cells_one' ys) hm0 (by unfold maxLen; omega) ?_ hbase _ rfl ?_
  · have : (n + m) * bytes ≤ 1000000 * 1000 := Nat.mul_le_mul hn hby
    omega
  · intro g cap w' a1 a2 a3 a4
    rw [← E.cells_append] at a1
    exact h g cap w' a1 a2 a3 a4
end Go.Proofs.Ytnckcdngmffahaa

/- Contract of the reference of layer 9: Feed. -/
namespace Go.Proofs.Ytnckcdngmffahaa
open Go.ChangeShapes Go.WideShapes Go.ChangeAt Go.RowKit
set_option linter.unusedVariables false

/-- The reader that the mathematics speaks of, in block g. -/
def RdM (w : World) (g : Nat) (r : RdC) : Prop := match r.q with
  | none => ∃ b, RD w g (str r.S) 0 false b 0 0 r.e
  | some q => RD w g (str r.S) q.pos true q.big q.cnt q.last r.e
theorem RdM.some {w : World} {g : Nat} {S : List UInt8} {q : CSt} {e : Bool} (h : RD w g (str S) q.pos true q.big q.cnt q.last e) : RdM w g ⟨S, some q, e⟩ := h
theorem RdM.none {w : World} {g : Nat} {S : List UInt8} {b : Bool} {e : Bool} (h : RD w g (str S) 0 false b 0 0 e) : RdM w g ⟨S, none, e⟩ := ⟨b, h⟩
/-- What Feed leaves: the records F.1, the error F.2.1, the reader F.2.2. -/
def FeedP (w : World) (g : Nat) (F : List CRec × Nat × RdC) (e : Ending) (w' : World) : Prop :=
  ∃ A cap, e = .returned (.tuple #[.slice A F.1.length cap, .int .i64 (F.2.1 : Int)]) ∧ w'.ownsRow w.heap.size 33 3 (.slice A F.1.length cap) F.1.length (ERec.cells F.1) ∧ RdM w' g F.2.2 ∧ w.grownBy w' (some g)
theorem feed_some {r : RdC} {q : CSt} (s : List UInt8) (he : r.e = false) (hq : r.q = some q) : feedC r s = ((allC (r.S ++ s) q).1, (allC (r.S ++ s) q).2.2, ⟨r.S ++ s, some (allC (r.S ++ s) q).2.1, decide ((allC (r.S ++ s) q).2.2 ≠ 0)⟩) := by
  unfold feedC
  rw [if_neg (by rw [he]; decide), hq]
theorem feed_short {r : RdC} (s : List UInt8) (he : r.e = false) (hq : r.q = none) (h : (r.S ++ s).length < 24) : feedC r s = ([], 0, ⟨r.S ++ s, none, false⟩) := by
  unfold feedC
  rw [if_neg (by rw [he]; decide), hq]
  simp only
  rw [if_pos h]
theorem feed_head {r : RdC} (s : List UInt8) (he : r.e = false) (hq : r.q = none) (h : ¬ (r.S ++ s).length < 24) : feedC r s = match headC (r.S ++ s) with
    | none => ([], 2, ⟨r.S ++ s, none, true⟩)
    | some q => ((allC (r.S ++ s) q).1, (allC (r.S ++ s) q).2.2, ⟨r.S ++ s, some (allC (r.S ++ s) q).2.1, decide ((allC (r.S ++ s) q).2.2 ≠ 0)⟩) := by
  unfold feedC
  rw [if_neg (by rw [he]; decide), hq]
  simp only
  rw [if_neg h]
  rfl
def posAt (w : World) (g : Nat) : Nat := (intOf ((w.cell? ⟨g, 1, none⟩).getD undef)).toNat
theorem RD.posAt {w : World} {g pos cnt last : Nat} {T : ByteArray} {beg big en : Bool} (h : RD w g T pos beg big cnt last en) : posAt w g = pos := by
  unfold Go.Proofs.Ytnckcdngmffahaa.posAt
  rw [h.c1]
  simp [intOf]
theorem grown_drew {w w' : World} {g : Nat} (h : w.grownBy w' (some g)) (q : Nat) : w.grownBy (w'.drewN q) (some g) := ⟨h.os, h.tape, h.output, h.size, h.block⟩
theorem own_nil9 (w : World) (e : TypeId) (n : Nat) (h : n = 0) (base k : Nat) : w.ownsRow base e k (.slice none n 0) n (ERec.cells []) := by subst h; exact World.ownsRow_nil w base e k
theorem own_set9 {w : World} {base g : Nat} {e : TypeId} {size : Nat} {v : Value} {n : Nat} {xs : List Value} (h : w.ownsRow base e size v n xs) (hg : g < base) (i : Nat) (u : Value) : (w.setCell ⟨g, i, none⟩ u).ownsRow base e size v n xs :=
  own_blocks h (fun b hb _ => Below.heap_setCell w ⟨g, i, none⟩ u b (show b ≠ g by omega))
theorem grown_and {a b c : World} {g : Nat} {row : Option Nat} (h : a.grownBy b (some g)) (k : b.grownBy c row) (hr : ∀ j, row = some j → a.heap.size ≤ j) : a.grownBy c (some g) :=
  ⟨k.os.trans h.os, k.tape.trans h.tape, k.output.trans h.output, Nat.le_trans h.size k.size, fun i hi hne => (k.block i (Nat.lt_of_lt_of_le hi h.size) (fun e => by have := hr i e.symm; omega)).trans (h.block i hi hne)⟩
theorem headC_some {S : List UInt8} {q : CSt} (h : headC S = some q) : q.pos = 24 ∧ q.cnt = 0 ∧ q.last = 0 := by
  unfold headC at h
  split at h
  · cases h
  · split at h
    · obtain rfl := Option.some.inj h; exact ⟨rfl, rfl, rfl⟩
    · cases h
theorem now_err {S : List UInt8} {q : CSt} {e : Nat} (h : ¬ S.length < q.pos + 16) (hc : chkC S q = e + 1) : nowC S q = some (e + 1) := by
  unfold nowC
  rw [if_neg h, hc, if_pos (by omega)]
theorem now_wait {S : List UInt8} {q : CSt} (h : ¬ S.length < q.pos + 16) (hc : chkC S q = 0) (h2 : S.length < q.pos + 16 + capC S q) : nowC S q = some 0 := by
  unfold nowC
  rw [if_neg h, hc, if_neg (by omega), if_pos h2]
theorem now_rec {S : List UInt8} {q : CSt} (h : ¬ S.length < q.pos + 16) (hc : chkC S q = 0) (h2 : ¬ S.length < q.pos + 16 + capC S q) : nowC S q = none := by
  unfold nowC
  rw [if_neg h, hc, if_neg (by omega), if_neg h2]
theorem chk_cnt {S : List UInt8} {q : CSt} (hc : chkC S q = 0) : q.cnt ≠ 2000 := fun e => by
  unfold chkC at hc
  split at hc
  · cases hc
  · rw [if_pos (Or.inl e)] at hc
    cases hc
/-- Where a walk over the records stands within Feed. -/
def FQ (S : List UInt8) (F : List CRec × Nat × RdC) (out : List CRec) (q : CSt) : Prop := F = (out ++ (allC S q).1, (allC S q).2.2, ⟨S, some (allC S q).2.1, decide ((allC S q).2.2 ≠ 0)⟩)
theorem FQ.stop {S : List UInt8} {F : List CRec × Nat × RdC} {out : List CRec} {q : CSt} {e : Nat} (h : FQ S F out q) (hn : nowC S q = some e) : F = (out, e, ⟨S, some q, decide (e ≠ 0)⟩) := by
  unfold FQ at h
  rw [allC_stop hn] at h
  simpa using h
theorem FQ.go {S : List UInt8} {F : List CRec × Nat × RdC} {out : List CRec} {q : CSt} (h : FQ S F out q) (hn : nowC S q = none) : FQ S F (out ++ [recAt S q]) (nextC S q) := by
  unfold FQ at h ⊢
  rw [allC_go hn] at h
  rw [h]
  simp
set_option maxHeartbeats 8000000 in
set_option maxRecDepth 20000 in
theorem rfeed9_any (g : Nat) (r : RdC) (s : List UInt8) (w : World) (h : RdM w g r) (hs : r.S.length + s.length ≤ 1000000) (hq : ∀ q, r.q = some q → q.pos ≤ r.S.length ∧ q.cnt ≤ 2000) :
    Calls Try.prog 23 #[.pointer (some ⟨g, 0, none⟩), .string (str s)] w (FeedP w g (feedC r s)) := by
  obtain ⟨F, hF⟩ : ∃ F, F = feedC r s := ⟨_, rfl⟩
  rw [← hF]
  obtain ⟨S0, q0, e0⟩ := r
  simp only at hs hq
  cases e0 with
  | true =>
    have HFE := Lib.hid (show F = ([], 10, ⟨S0, q0, true⟩) by rw [hF]; exact feed_ended s rfl)
    have HMM := Lib.hid h
    have HG := Lib.hid (World.grownBy.refl w (some g))
    have HO := Lib.hid (World.ownsRow_nil w w.heap.size 33 3)
    have hc6 : w.cell? ⟨g, 6, none⟩ = some (.bool true) := by
      cases q0 with
      | none => obtain ⟨b, hr⟩ := h; exact hr.c6
      | some q => exact RD.c6 h
    have hgl : g < w.heap.size := by
      cases q0 with
      | none => obtain ⟨b, hr⟩ := h; exact hr.lt
      | some q => exact RD.lt h
    clear h hF hq
    go_enter Try.func23, Try.ntmps23
    go_wp2_with fail
    go_ret2
    rw [HFE.out]
    exact ⟨none, 0, rfl, HO.out, HMM.out, HG.out⟩
  | false =>
    obtain ⟨S, hS⟩ : ∃ S, S = S0 ++ s := ⟨_, rfl⟩
    have hSl : S.length ≤ 1000000 := by rw [hS, List.length_append]; omega
    have hS0l : S0.length ≤ S.length := by rw [hS, List.length_append]; omega
    have HCT := Lib.hid (show str S0 ++ str s = str S by rw [str_append, hS])
    have HGW := Lib.hid (show g < w.heap.size from by
      cases q0 with
      | none => obtain ⟨b, hr⟩ := h; exact hr.lt
      | some q => exact RD.lt h)
    have hsz0 : (str S0).size = S0.length := str_size S0
    have hsz1 : (str s).size = s.length := str_size s
    have hszS : (str S).size = S.length := str_size S
    have q1 : (9223372036854775807 < (str S0).size + (str s).size) = False := by simp only [eq_iff_iff, iff_false]; omega
    cases q0 with
    | none =>
      obtain ⟨b0, hr⟩ := h
      have hr : RD w g (str S0) 0 false b0 0 0 false := hr
      have HR := Lib.hid hr
      have c0 := hr.c0
      have c2 := hr.c2
      have c6 := hr.c6
      have f0 := hr.f 0
      have hgl := hr.lt
      by_cases h24 : S.length < 24
      · have HFE := Lib.hid (show F = ([], 0, ⟨S, none, false⟩) by rw [hF, hS]; exact feed_short s rfl rfl (by rw [← hS]; exact h24))
        have d24 : decide (((str S).size : Int) < 24) = true := by rw [hszS]; simp; omega
        have n24 : ((str S).size : Int) < 24 := by rw [hszS]; omega
        have HW := Lib.hid (show ∀ W, W = w.setCell ⟨g, 0, none⟩ (.string (str S)) → RD W g (str S) 0 false b0 0 0 false ∧ w.grownBy W (some g) from fun W e => by rw [e]; exact ⟨hr.setS _, grown_set (World.grownBy.refl w (some g)) 0 _⟩)
        clear hr hF hq hS h24 hszS
        generalize str S0 = T0 at *
        generalize str s = U at *
        generalize hT : str S = T at *
        have HTT := Lib.hid hT
        clear hT
        have hct := HCT.out
        go_enter Try.func23, Try.ntmps23
        go_wp2_with fail
        go_ret2
        obtain ⟨hr2, hg2⟩ := HW.out _ rfl
        rw [HFE.out]
        exact ⟨none, 0, rfl, World.ownsRow_nil _ _ _ _, RdM.none (b := b0) (by rw [HTT.out]; exact hr2), hg2⟩
      · have HFH := Lib.hid (show F = match headC S with
            | none => ([], 2, ⟨S, none, true⟩)
            | some q => ((allC S q).1, (allC S q).2.2, ⟨S, some (allC S q).2.1, decide ((allC S q).2.2 ≠ 0)⟩) by rw [hF, hS]; exact feed_head s rfl rfl (by rw [← hS]; exact h24))
        have d24 : decide (((str S).size : Int) < 24) = false := by rw [hszS]; simp; omega
        have n24 : ¬ ((str S).size : Int) < 24 := by rw [hszS]; omega
        obtain ⟨W1, hW1⟩ : ∃ W, W = w.setCell ⟨g, 0, none⟩ (.string (str S)) := ⟨_, rfl⟩
        have HR1 := Lib.hid (show RD W1 g (str S) 0 false b0 0 0 false by rw [hW1]; exact hr.setS _)
        have HG1 := Lib.hid (show w.grownBy W1 (some g) by rw [hW1]; exact grown_set (World.grownBy.refl w (some g)) 0 _)
        have HHD := Lib.hid (rhead9_any g S b0 0 0 false W1 HR1.out (by omega) hSl)
        clear hr hF hq hS
        generalize str S0 = T0 at *
        generalize str s = U at *
        have hct := HCT.out
        go_enter Try.func23, Try.ntmps23
        cases hh : headC S with
        | none =>
          rw [hh] at HHD HFH
          simp only at HFH
          generalize hT : str S = T at *
          have HTT := Lib.hid hT
          clear hT hh
          go_wp2_with fail
          rw [← hW1]
          refine HHD.out.mono ?_
          rintro e w3 ⟨rfl, ⟨b3, hr3⟩, hg3⟩
          have HG3 := Lib.hid (HG1.out.trans hg3)
          have HR3 := Lib.hid hr3
          have d6 := hr3.c6
          have f6 := hr3.f 6
          have hgl3 := hr3.lt
          clear hg3 hr3 HHD HR1 HG1 c0 c2 c6 f0 hgl
          go_wp2_with fail
          go_ret2
          rw [HFH.out]
          exact ⟨none, 0, rfl, World.ownsRow_nil _ _ _ _, RdM.none (b := b3) (by rw [HTT.out]; exact HR3.out.setEnd true), grown_set HG3.out 6 _⟩
        | some q =>
          obtain ⟨hq1, hq2, hq3⟩ := headC_some hh
          rw [hh] at HHD HFH
          simp only at HFH
          have HQ0 := Lib.hid (show FQ S F [] q from HFH.out)
          obtain ⟨pos, big, cnt, last⟩ := q
          simp only at hq1 hq2 hq3
          subst hq2 hq3
          have hpS : pos ≤ S.length := by omega
          have hcn : 0 ≤ 2000 := by omega
          have HSL := Lib.hid hSl
          have HSZ := Lib.hid hszS
          generalize hT : str S = T at *
          have HTT := Lib.hid hT
          clear hT hh HFH hq1 hszS
          go_wp2_with fail
          rw [← hW1]
          refine HHD.out.mono ?_
          rintro e w3 ⟨rfl, hr3, hg3⟩
          have HG0 := Lib.hid (HG1.out.trans hg3)
          have HR0 := Lib.hid hr3
          clear hg3 hr3 HHD HR1 HG1 c0 c2 c6 f0 hgl hW1 HR HCT hct q1 hsz0 hsz1
          go_wp2_with fail
          have HO0 := Lib.hid (World.ownsRow_nil w3 w.heap.size 33 3)
          have HGL := Lib.hid (show g < w.heap.size from HGW.out)
          go_loopw [7] (fun v7 wr => ∃ pos cnt last n cap : Nat, ∃ big : Bool, ∃ A : Option Addr, ∃ out : List CRec, v7 = .slice A n cap ∧ n ≤ pos ∧ pos ≤ S.length ∧ cnt ≤ 2000 ∧ Hid (n = out.length) ∧ Hid (FQ S F out ⟨pos, big, cnt, last⟩) ∧ Hid (RD wr g T pos true big cnt last false) ∧ Hid (w.grownBy wr (some g)) ∧ Hid (wr.ownsRow w.heap.size 33 3 (.slice A n cap) n (ERec.cells out))) (fun _ wr => S.length + 1 - posAt wr g)
          case atStart => exact ⟨pos, 0, 0, 0, 0, big, none, [], rfl, Nat.zero_le _, hpS, hcn, Lib.hid rfl, HQ0, HR0, HG0, HO0⟩
          case round =>
            clear HQ0 HR0 HG0 HO0 hpS hcn
            obtain ⟨pos, cnt, last, n, cap, big, A, out, rfl, hnp, hpS, hcn, HN, HQ, HR, HG, HO⟩ := hrel
            have hS6 := HSL.out
            obtain ⟨d, hd⟩ : ∃ d, d = S.length - pos := ⟨_, rfl⟩
            have k0 : (T.size : Int) - (pos : Int) = (d : Int) := by have := HSZ.out; omega
            have x0 : IntKind.i64.wrap ((T.size : Int) - (pos : Int)) = (d : Int) := by rw [k0, IntKind.wrap_i64]; omega
            have y0 : IntKind.i64.wrap (d : Int) = (d : Int) := by rw [IntKind.wrap_i64]; omega
            have HD := Lib.hid hd
            clear hd
            go_wp2_with fail
            refine wp_region_pick (fun w' => Below wr.heap.size wr w') (by kernel_rfl) (by kernel_rfl) (Below.refl _ _) ⟨rfl, rfl, rfl, Nat.le_refl _, fun _ _ => rfl⟩ (fun p hp hq => ?_)
            have pp0 : ∀ u, (p u).cell? ⟨g, 0, none⟩ = some (.string T) := fun u => (HR.out.kept (hp u)).c0
            have pp1 : ∀ u, (p u).cell? ⟨g, 1, none⟩ = some (.int .i64 (pos : Int)) := fun u => (HR.out.kept (hp u)).c1
            have HP := Lib.hid hp
            have HQP := Lib.hid hq
            clear hp hq
            repeat (go_big_quiet_step (fail))
            refine wpQuiet_nil ?_
            rintro _ ⟨u, rfl⟩
            have HR2 := Lib.hid (HR.out.kept (HP.out u))
            have HG2 := Lib.hid (grown_step HG.out (HP.out u))
            have HRP := HR
            have HO2 := Lib.hid (own_blocks HO.out (fun b _ hl => (HP.out u).block b hl))
            generalize p u = w2 at *
            clear HP HQP pp0 pp1 HR HG HO k0 x0 y0
            by_cases h16 : S.length < pos + 16
            · have HF9 := Lib.hid (HQ.out.stop (nowC_short h16))
              have d16 : decide ((16 : Int) ≤ (d : Int)) = false := decide_eq_false (by have := HD.out; omega)
              have n16 : ¬ (16 : Int) ≤ (d : Int) := by have := HD.out; omega
              clear HQ h16
              go_wp2_with fail
              go_ret2
              rw [HF9.out]
              exact ⟨A, cap, by rw [HN.out]; rfl, by rw [← HN.out]; exact HO2.out, RdM.some (q := ⟨pos, big, cnt, last⟩) (by rw [HTT.out]; exact HR2.out), HG2.out⟩
            · have d16 : decide ((16 : Int) ≤ (d : Int)) = true := decide_eq_true (by have := HD.out; omega)
              have n16 : (16 : Int) ≤ (d : Int) := by have := HD.out; omega
              have HCK := Lib.hid (rcheck9_any g S pos cnt last true big false w2 (by rw [HTT.out]; exact HR2.out) (by omega) hS6)
              obtain ⟨er, her⟩ : ∃ er, er = chkC S ⟨pos, big, cnt, last⟩ := ⟨_, rfl⟩
              rw [← her] at HCK
              cases er with
              | succ er =>
                have HF9 := Lib.hid (HQ.out.stop (now_err h16 her.symm))
                have te : (((er + 1 : Nat) : Int) != 0) = true := by rw [bne_iff_ne]; omega
                have te2 : ¬ ((er + 1 : Nat) : Int) = 0 := by omega
                obtain ⟨e1, he1⟩ : ∃ e1, e1 = er + 1 := ⟨_, rfl⟩
                have HE1 := Lib.hid (show decide (e1 ≠ 0) = true by simp; omega)
                have HCK2 := Lib.hid (show Calls Try.prog 37 #[.pointer (some ⟨g, 0, none⟩)] w2 fun e w' => e = .returned (.tuple #[.slice none 0 0, .int .i64 (e1 : Int)]) ∧ Below w2.heap.size w2 w' from by rw [he1]; exact HCK.out)
                rw [← he1] at te te2 HF9
                clear HQ h16 her HCK he1
                go_wp2_with fail
                refine HCK2.out.mono ?_
                rintro e w3 ⟨rfl, hb⟩
                have HR3 := Lib.hid (HR2.out.kept hb)
                have HG3 := Lib.hid (grown_step HG2.out hb)
                have HO3 := Lib.hid (own_blocks HO2.out (fun b _ hl => hb.block b hl))
                have d6 := HR3.out.c6
                have f6 := HR3.out.f 6
                have hgl3 := HR3.out.lt
                clear hb HR2 HG2 HO2 HCK2
                go_wp2_with fail
                go_ret2
                rw [HF9.out]
                refine ⟨A, cap, by rw [HN.out]; rfl, ?_, RdM.some (q := ⟨pos, big, cnt, last⟩) (by rw [HTT.out, HE1.out]; exact HR3.out.setEnd true), grown_set HG3.out 6 _⟩
                rw [← HN.out]
                exact own_blocks HO3.out (fun b hb _ => Below.heap_setCell _ ⟨g, 6, none⟩ _ b (show b ≠ g by have := HGL.out; omega))
              | zero =>
                have hchk : chkC S ⟨pos, big, cnt, last⟩ = 0 := her.symm
                have hc2000 := chk_cnt hchk
                simp only at hc2000
                have HCK2 := HCK
                obtain ⟨tm, htm⟩ : ∃ tm, tm = tmC S ⟨pos, big, cnt, last⟩ := ⟨_, rfl⟩
                obtain ⟨ca, hca⟩ : ∃ ca, ca = capC S ⟨pos, big, cnt, last⟩ := ⟨_, rfl⟩
                obtain ⟨si, hsi⟩ : ∃ si, si = szC S ⟨pos, big, cnt, last⟩ := ⟨_, rfl⟩
                have hcal : ca < 4294967296 := by rw [hca]; exact num4_lt _ _ _
                rw [← htm, ← hca, ← hsi] at HCK2
                obtain ⟨p16, hp16⟩ : ∃ p16, p16 = pos + 16 := ⟨_, rfl⟩
                obtain ⟨en, hen⟩ : ∃ en, en = p16 + ca := ⟨_, rfl⟩
                have k1 : (pos : Int) + 16 = (p16 : Int) := by omega
                have x1 : IntKind.i64.wrap ((pos : Int) + 16) = (p16 : Int) := by rw [IntKind.wrap_i64]; omega
                have y1 : IntKind.i64.wrap (p16 : Int) = (p16 : Int) := by rw [IntKind.wrap_i64]; omega
                have k2 : (p16 : Int) + (ca : Int) = (en : Int) := by omega
                have x2 : IntKind.i64.wrap ((p16 : Int) + (ca : Int)) = (en : Int) := by rw [IntKind.wrap_i64]; omega
                have y2 : IntKind.i64.wrap (en : Int) = (en : Int) := by rw [IntKind.wrap_i64]; omega
                have HALL := Lib.hid (And.intro hp16 (And.intro hen (And.intro htm (And.intro hca (And.intro hsi (And.intro hchk hc2000))))))
                clear HCK her hp16 hen htm hca hsi hchk hc2000
                go_wp2_with fail
                refine HCK2.out.mono ?_
                rintro e w3 ⟨b, rfl, hcb, hbl, hb⟩
                have HR3 := Lib.hid (HR2.out.kept hb)
                have HG3 := Lib.hid (grown_step HG2.out hb)
                have HO3 := Lib.hid (own_blocks HO2.out (fun b _ hl => hb.block b hl))
                have HLT := Lib.hid (fun j (hj : (Value.slice A n cap).ownBlock = some j) => (show w.heap.size ≤ j ∧ j < b from ⟨(HO2.out.lt j hj).1, Nat.lt_of_lt_of_le (HO2.out.lt j hj).2 hbl⟩))
                have HBG := Lib.hid (show g < b from Nat.lt_of_lt_of_le HR2.out.lt hbl)
                have HCB := Lib.hid hcb
                clear hb hcb HR2 HG2 HO2 HCK2 hbl
                go_wp2_with fail
                refine wp_region_pick (fun w' => Below w3.heap.size w3 w') (by kernel_rfl) (by kernel_rfl) (Below.refl _ _) ⟨rfl, rfl, rfl, Nat.le_refl _, fun _ _ => rfl⟩ (fun p hp hq => ?_)
                have pp1 : ∀ u, (p u).cell? ⟨g, 1, none⟩ = some (.int .i64 (pos : Int)) := fun u => (HR3.out.kept (hp u)).c1
                have pb1 : ∀ u, (p u).cell? ⟨b, 1, none⟩ = some (.int .i64 (ca : Int)) := fun u => ((hp u).cell (p := ⟨b, 1, none⟩) HCB.out.lt).trans ((HCB.out.cell 1).trans rfl)
                have HP := Lib.hid hp
                have HQP := Lib.hid hq
                clear hp hq
                repeat (go_big_quiet_step (fail))
                refine wpQuiet_nil ?_
                rintro _ ⟨u, rfl⟩
                have HR4 := Lib.hid (HR3.out.kept (HP.out u))
                have HG4 := Lib.hid (grown_step HG3.out (HP.out u))
                have HO4 := Lib.hid (own_blocks HO3.out (fun b _ hl => (HP.out u).block b hl))
                have HCB4 := Lib.hid (show Cells (p u) b 3 #[.int .i64 (tm : Int), .int .i64 (ca : Int), .int .i64 (si : Int)] from ((HP.out u).block b HCB.out.lt).trans HCB.out)
                generalize p u = w4 at *
                clear HP HQP pp1 pb1 HR3 HG3 HO3 HCB
                have c0 := HR4.out.c0
                have hgl4 := HR4.out.lt
                obtain ⟨hp16, hen, htm, hca, hsi, hchk, hc2000⟩ := HALL.out
                by_cases hE : S.length < en
                · have HF9 := Lib.hid (HQ.out.stop (now_wait h16 hchk (by rw [← hca]; simp only; omega)))
                  have dE : decide ((T.size : Int) < (en : Int)) = true := decide_eq_true (by have := HSZ.out; omega)
                  have nE : (T.size : Int) < (en : Int) := by have := HSZ.out; omega
                  have mE : T.size < en := by have := HSZ.out; omega
                  clear HQ h16 htm hca hsi hchk hE hp16 hen HALL k1 x1 y1 k2 x2 y2
                  go_wp2_with fail
                  go_ret2
                  rw [HF9.out]
                  exact ⟨A, cap, by rw [HN.out]; rfl, by rw [← HN.out]; exact HO4.out, RdM.some (q := ⟨pos, big, cnt, last⟩) (by rw [HTT.out]; exact HR4.out), HG4.out⟩
                · have HQ9 := Lib.hid (HQ.out.go (now_rec h16 hchk (by rw [← hca]; simp only; omega)))
                  have dE : decide ((T.size : Int) < (en : Int)) = false := decide_eq_false (by have := HSZ.out; omega)
                  have nE : ¬ (T.size : Int) < (en : Int) := by have := HSZ.out; omega
                  have mE : ¬ T.size < en := by have := HSZ.out; omega
                  have hex : T.extract p16 en = str ((S.drop (pos + 16)).take ca) := by
                    rw [← HTT.out, extract_str6, str_toList, hp16, hen, hp16, Nat.add_sub_cancel_left]
                  obtain ⟨D, hD⟩ : ∃ D, D = T.extract p16 en := ⟨_, rfl⟩
                  have hX : recAt S ⟨pos, big, cnt, last⟩ = ⟨(tm : Int), (si : Int), (S.drop (pos + 16)).take ca⟩ := by unfold recAt; rw [← htm, ← hsi, ← hca]
                  have hNX : nextC S ⟨pos, big, cnt, last⟩ = ⟨en, big, cnt + 1, tm⟩ := by unfold nextC; rw [← htm, ← hca, hen, hp16]
                  rw [hX, hNX] at HQ9
                  have HCS := Lib.hid (show (#[.int .i64 (tm : Int), .int .i64 (si : Int), .string D] : Array Value).toList = ERec.cells [⟨(tm : Int), (si : Int), (S.drop (pos + 16)).take ca⟩] by rw [hD, hex]; rfl)
                  have hexD : T.extract p16 en = D := hD.symm
                  have z1 : (p16 : Int) ≤ (en : Int) := by omega
                  have z2 : (en : Int) ≤ (T.size : Int) := by have := HSZ.out; omega
                  have z3 : p16 ≤ en := by omega
                  have z4 : en ≤ T.size := by have := HSZ.out; omega
                  have HEN := Lib.hid (show pos + 16 ≤ en by omega)
                  have HES := Lib.hid (show en ≤ S.length by omega)
                  have hn9 : n + 1 ≤ 1000000 := by omega
                  generalize (⟨(tm : Int), (si : Int), (S.drop (pos + 16)).take ca⟩ : CRec) = X at *
                  have c1 := HR4.out.c1
                  have b0 := (HCB4.out.cell 0).trans (show _ = some (Value.int .i64 (tm : Int)) from rfl)
                  have b2 := (HCB4.out.cell 2).trans (show _ = some (Value.int .i64 (si : Int)) from rfl)
                  have hbl4 := HCB4.out.lt
                  clear HQ h16 htm hca hsi hchk hE hp16 hen hex hD hX hNX HALL k2 x2 y2
                  go_wp2_with fail
                  go_region_held3 (fun w' => w'.cell? ⟨b, 0, none⟩ = some (.int .i64 (tm : Int)) ∧ w'.cell? ⟨b, 2, none⟩ = some (.int .i64 (si : Int)) ∧ w'.cell? ⟨g, 0, none⟩ = some (.string T) ∧ w'.cell? ⟨g, 1, none⟩ = some (.int .i64 (pos : Int))) (go_keep) ((refine step_push (E := ERec) rcTy (by rfl) _ _ (by rfl) w.heap.size (.slice A n cap) n out [X] (by rfl) ((HO4.out.alloc _).drew) w4.heap.size 1 1 #[.int .i64 (tm : Int), .int .i64 (si : Int), .string D] (0, 0) (by rfl) (heap_alloc_new w4 _) HCS.out rfl (by omega) (by omega) (by decide) (by have := HG4.out.size; simp; omega) ?_; intro g2 cap2 wz hown hgrow hat hlt2; have hfg : ∀ j, wz.cell? ⟨g, j, none⟩ = w4.cell? ⟨g, j, none⟩ := (fun j => (hgrow.cell_far ⟨g, j, none⟩ (show g < (w4.alloc _).heap.size from by simp; omega) (fun e => by have h7 := (HLT.out _ e.symm).1; have h8 := HGL.out; simp only at h7; omega)).trans ((below_alloc6 w4 (.cells #[.int .i64 (tm : Int), .int .i64 (si : Int), .string D] 33)).cell (p := ⟨g, j, none⟩) hgl4)); have hfb : ∀ j, wz.cell? ⟨b, j, none⟩ = w4.cell? ⟨b, j, none⟩ := (fun j => (hgrow.cell_far ⟨b, j, none⟩ (show b < (w4.alloc _).heap.size from by simp; omega) (fun e => by have h7 := (HLT.out _ e.symm).2; simp only at h7; omega)).trans ((below_alloc6 w4 (.cells #[.int .i64 (tm : Int), .int .i64 (si : Int), .string D] 33)).cell (p := ⟨b, j, none⟩) hbl4)); have i0 := (hfb 0).trans b0; have i2 := (hfb 2).trans b2; have j0 := (hfg 0).trans c0; have j1 := (hfg 1).trans c1))
                  all_goals
                    have hc8 : n + 1 = (out ++ [X]).length := by rw [List.length_append, HN.out]; rfl
                    have HN9 := Lib.hid hc8
                    have HR9 := Lib.hid (show RD wz g T pos true big cnt last false from RD.only (HR4.out.al (.cells #[.int .i64 (tm : Int), .int .i64 (si : Int), .string D] 33)) (show ((w4.alloc (.cells #[.int .i64 (tm : Int), .int .i64 (si : Int), .string D] 33))).grownBy wz _ from ⟨hgrow.os, hgrow.tape, hgrow.output, hgrow.size, hgrow.block⟩) (fun e => by have h7 := (HLT.out _ e.symm).1; have h8 := HGL.out; omega))
                    have HG9 := Lib.hid (show w.grownBy wz (some g) from grown_and (grown_step HG4.out (below_alloc6 w4 (.cells #[.int .i64 (tm : Int), .int .i64 (si : Int), .string D] 33))) (show ((w4.alloc (.cells #[.int .i64 (tm : Int), .int .i64 (si : Int), .string D] 33))).grownBy wz _ from ⟨hgrow.os, hgrow.tape, hgrow.output, hgrow.size, hgrow.block⟩) (fun j hj => (HLT.out j hj).1))
                    have HO9 := Lib.hid (show wz.ownsRow w.heap.size 33 3 (.slice (some ⟨g2, 0, none⟩) (n + 1) cap2) (n + 1) (ERec.cells (out ++ [X])) from hown)
                    have hb9 : wz.cell? ⟨b, 0, none⟩ = some (.int .i64 (tm : Int)) := i0
                    have r1 := HR9.out.c1
                    have r4 := HR9.out.c4
                    have r5 := HR9.out.c5
                    have g1 := HR9.out.f 1
                    have g4 := HR9.out.f 4
                    have g5 := HR9.out.f 5
                    have hglz := HR9.out.lt
                    have hgb := HBG.out
                    have ngb : g ≠ b := by omega
                    have nbg : b ≠ g := by omega
                    have kc : (cnt : Int) + 1 = ((cnt + 1 : Nat) : Int) := by omega
                    have hcnt1 : cnt + 1 ≤ 2000 := by omega
                    have HMS := Lib.hid (show posAt wr g = pos from HRP.out.posAt)
                    obtain ⟨cn1, hcn1⟩ : ∃ c, c = cnt + 1 := ⟨_, rfl⟩
                    rw [← hcn1] at kc hcnt1
                    have HQ10 := Lib.hid (show FQ S F (out ++ [X]) ⟨en, big, cn1, tm⟩ by rw [hcn1]; exact HQ9.out)
                    clear hown hgrow hat hlt2 hfg hfb i0 i2 j0 j1 b0 b2 c0 c1 HR4 HG4 HO4 HCB4 HN hcn1 HQ9 hc8
                    go_wp2_with fail
                    go_roundw
                    case rel => exact ⟨en, cn1, tm, n + 1, cap2, big, some ⟨g2, 0, none⟩, out ++ [X], rfl, by have := HEN.out; omega, HES.out, hcnt1, HN9, HQ10, Lib.hid ((((HR9.out.setPos en).setCnt cn1).setLast tm)), Lib.hid (grown_set (grown_set (grown_set HG9.out 1 _) 4 _) 5 _), Lib.hid (own_set9 (own_set9 (own_set9 HO9.out HGL.out 1 _) HGL.out 4 _) HGL.out 5 _)⟩
                    case measure =>
                      have e1 := (((HR9.out.setPos en).setCnt cn1).setLast tm).posAt
                      have e2 := HMS.out
                      have e3 := HEN.out
                      have e4 := HES.out
                      rw [e1, e2]
                      omega
    | some q =>
      obtain ⟨hpS0, hcn⟩ := hq q rfl
      have hr : RD w g (str S0) q.pos true q.big q.cnt q.last false := h
      have HFQ := Lib.hid (show FQ S F [] q by rw [hF, hS]; exact feed_some s rfl rfl)
      obtain ⟨pos, big, cnt, last⟩ := q
      simp only at hpS0 hcn hr
      have hpS : pos ≤ S.length := by omega
      have HQ0 := HFQ
      have c0 := hr.c0
      have c2 := hr.c2
      have c6 := hr.c6
      have f0 := hr.f 0
      have hgl := hr.lt
      have HSL := Lib.hid hSl
      have HSZ := Lib.hid hszS
      obtain ⟨W1, hW1⟩ : ∃ W, W = w.setCell ⟨g, 0, none⟩ (.string (str S)) := ⟨_, rfl⟩
      have HR0 := Lib.hid (show RD W1 g (str S) pos true big cnt last false by rw [hW1]; exact hr.setS _)
      have HG0 := Lib.hid (show w.grownBy W1 (some g) by rw [hW1]; exact grown_set (World.grownBy.refl w (some g)) 0 _)
      clear hr h hF hq hS hszS
      generalize str S0 = T0 at *
      generalize str s = U at *
      generalize hT : str S = T at *
      have HTT := Lib.hid hT
      have hct := HCT.out
      clear hT
      go_enter Try.func23, Try.ntmps23
      go_wp2_with fail
      rw [← hW1]
      clear hW1 c0 c2 c6 f0 hgl HCT hct q1 hsz0 hsz1
      have HO0 := Lib.hid (World.ownsRow_nil W1 w.heap.size 33 3)
      have HGL := Lib.hid (show g < w.heap.size from HGW.out)
      go_loopw [7] (fun v7 wr => ∃ pos cnt last n cap : Nat, ∃ big : Bool, ∃ A : Option Addr, ∃ out : List CRec, v7 = .slice A n cap ∧ n ≤ pos ∧ pos ≤ S.length ∧ cnt ≤ 2000 ∧ Hid (n = out.length) ∧ Hid (FQ S F out ⟨pos, big, cnt, last⟩) ∧ Hid (RD wr g T pos true big cnt last false) ∧ Hid (w.grownBy wr (some g)) ∧ Hid (wr.ownsRow w.heap.size 33 3 (.slice A n cap) n (ERec.cells out))) (fun _ wr => S.length + 1 - posAt wr g)
      case atStart => exact ⟨pos, cnt, last, 0, 0, big, none, [], rfl, Nat.zero_le _, hpS, hcn, Lib.hid rfl, HQ0, HR0, HG0, HO0⟩
      case round =>
        clear HQ0 HR0 HG0 HO0 hpS hcn
        obtain ⟨pos, cnt, last, n, cap, big, A, out, rfl, hnp, hpS, hcn, HN, HQ, HR, HG, HO⟩ := hrel
        have hS6 := HSL.out
        obtain ⟨d, hd⟩ : ∃ d, d = S.length - pos := ⟨_, rfl⟩
        have k0 : (T.size : Int) - (pos : Int) = (d : Int) := by have := HSZ.out; omega
        have x0 : IntKind.i64.wrap ((T.size : Int) - (pos : Int)) = (d : Int) := by rw [k0, IntKind.wrap_i64]; omega
        have y0 : IntKind.i64.wrap (d : Int) = (d : Int) := by rw [IntKind.wrap_i64]; omega
        have HD := Lib.hid hd
        clear hd
        go_wp2_with fail
        refine wp_region_pick (fun w' => Below wr.heap.size wr w') (by kernel_rfl) (by kernel_rfl) (Below.refl _ _) ⟨rfl, rfl, rfl, Nat.le_refl _, fun _ _ => rfl⟩ (fun p hp hq => ?_)
        have pp0 : ∀ u, (p u).cell? ⟨g, 0, none⟩ = some (.string T) := fun u => (HR.out.kept (hp u)).c0
        have pp1 : ∀ u, (p u).cell? ⟨g, 1, none⟩ = some (.int .i64 (pos : Int)) := fun u => (HR.out.kept (hp u)).c1
        have HP := Lib.hid hp
        have HQP := Lib.hid hq
        clear hp hq
        repeat (go_big_quiet_step (fail))
        refine wpQuiet_nil ?_
        rintro _ ⟨u, rfl⟩
        have HR2 := Lib.hid (HR.out.kept (HP.out u))
        have HG2 := Lib.hid (grown_step HG.out (HP.out u))
        have HRP := HR
        have HO2 := Lib.hid (own_blocks HO.out (fun b _ hl => (HP.out u).block b hl))
        generalize p u = w2 at *
        clear HP HQP pp0 pp1 HR HG HO k0 x0 y0
        by_cases h16 : S.length < pos + 16
        · have HF9 := Lib.hid (HQ.out.stop (nowC_short h16))
          have d16 : decide ((16 : Int) ≤ (d : Int)) = false := decide_eq_false (by have := HD.out; omega)
          have n16 : ¬ (16 : Int) ≤ (d : Int) := by have := HD.out; omega
          clear HQ h16
          go_wp2_with fail
          go_ret2
          rw [HF9.out]
          exact ⟨A, cap, by rw [HN.out]; rfl, by rw [← HN.out]; exact HO2.out, RdM.some (q := ⟨pos, big, cnt, last⟩) (by rw [HTT.out]; exact HR2.out), HG2.out⟩
        · have d16 : decide ((16 : Int) ≤ (d : Int)) = true := decide_eq_true (by have := HD.out; omega)
          have n16 : (16 : Int) ≤ (d : Int) := by have := HD.out; omega
          have HCK := Lib.hid (rcheck9_any g S pos cnt last true big false w2 (by rw [HTT.out]; exact HR2.out) (by omega) hS6)
          obtain ⟨er, her⟩ : ∃ er, er = chkC S ⟨pos, big, cnt, last⟩ := ⟨_, rfl⟩
          rw [← her] at HCK
          cases er with
          | succ er =>
            have HF9 := Lib.hid (HQ.out.stop (now_err h16 her.symm))
            have te : (((er + 1 : Nat) : Int) != 0) = true := by rw [bne_iff_ne]; omega
            have te2 : ¬ ((er + 1 : Nat) : Int) = 0 := by omega
            obtain ⟨e1, he1⟩ : ∃ e1, e1 = er + 1 := ⟨_, rfl⟩
            have HE1 := Lib.hid (show decide (e1 ≠ 0) = true by simp; omega)
            have HCK2 := Lib.hid (show Calls Try.prog 37 #[.pointer (some ⟨g, 0, none⟩)] w2 fun e w' => e = .returned (.tuple #[.slice none 0 0, .int .i64 (e1 : Int)]) ∧ Below w2.heap.size w2 w' from by rw [he1]; exact HCK.out)
            rw [← he1] at te te2 HF9
            clear HQ h16 her HCK he1
            go_wp2_with fail
            refine HCK2.out.mono ?_
            rintro e w3 ⟨rfl, hb⟩
            have HR3 := Lib.hid (HR2.out.kept hb)
            have HG3 := Lib.hid (grown_step HG2.out hb)
            have HO3 := Lib.hid (own_blocks HO2.out (fun b _ hl => hb.block b hl))
            have d6 := HR3.out.c6
            have f6 := HR3.out.f 6
            have hgl3 := HR3.out.lt
            clear hb HR2 HG2 HO2 HCK2
            go_wp2_with fail
            go_ret2
            rw [HF9.out]
            refine ⟨A, cap, by rw [HN.out]; rfl, ?_, RdM.some (q := ⟨pos, big, cnt, last⟩) (by rw [HTT.out, HE1.out]; exact HR3.out.setEnd true), grown_set HG3.out 6 _⟩
            rw [← HN.out]
            exact own_blocks HO3.out (fun b hb _ => Below.heap_setCell _ ⟨g, 6, none⟩ _ b (show b ≠ g by have := HGL.out; omega))
          | zero =>
            have hchk : chkC S ⟨pos, big, cnt, last⟩ = 0 := her.symm
            have hc2000 := chk_cnt hchk
            simp only at hc2000
            have HCK2 := HCK
            obtain ⟨tm, htm⟩ : ∃ tm, tm = tmC S ⟨pos, big, cnt, last⟩ := ⟨_, rfl⟩
            obtain ⟨ca, hca⟩ : ∃ ca, ca = capC S ⟨pos, big, cnt, last⟩ := ⟨_, rfl⟩
            obtain ⟨si, hsi⟩ : ∃ si, si = szC S ⟨pos, big, cnt, last⟩ := ⟨_, rfl⟩
            have hcal : ca < 4294967296 := by rw [hca]; exact num4_lt _ _ _
            rw [← htm, ← hca, ← hsi] at HCK2
            obtain ⟨p16, hp16⟩ : ∃ p16, p16 = pos + 16 := ⟨_, rfl⟩
            obtain ⟨en, hen⟩ : ∃ en, en = p16 + ca := ⟨_, rfl⟩
            have k1 : (pos : Int) + 16 = (p16 : Int) := by omega
            have x1 : IntKind.i64.wrap ((pos : Int) + 16) = (p16 : Int) := by rw [IntKind.wrap_i64]; omega
            have y1 : IntKind.i64.wrap (p16 : Int) = (p16 : Int) := by rw [IntKind.wrap_i64]; omega
            have k2 : (p16 : Int) + (ca : Int) = (en : Int) := by omega
            have x2 : IntKind.i64.wrap ((p16 : Int) + (ca : Int)) = (en : Int) := by rw [IntKind.wrap_i64]; omega
            have y2 : IntKind.i64.wrap (en : Int) = (en : Int) := by rw [IntKind.wrap_i64]; omega
            have HALL := Lib.hid (And.intro hp16 (And.intro hen (And.intro htm (And.intro hca (And.intro hsi (And.intro hchk hc2000))))))
            clear HCK her hp16 hen htm hca hsi hchk hc2000
            go_wp2_with fail
            refine HCK2.out.mono ?_
            rintro e w3 ⟨b, rfl, hcb, hbl, hb⟩
            have HR3 := Lib.hid (HR2.out.kept hb)
            have HG3 := Lib.hid (grown_step HG2.out hb)
            have HO3 := Lib.hid (own_blocks HO2.out (fun b _ hl => hb.block b hl))
            have HLT := Lib.hid (fun j (hj : (Value.slice A n cap).ownBlock = some j) => (show w.heap.size ≤ j ∧ j < b from ⟨(HO2.out.lt j hj).1, Nat.lt_of_lt_of_le (HO2.out.lt j hj).2 hbl⟩))
            have HBG := Lib.hid (show g < b from Nat.lt_of_lt_of_le HR2.out.lt hbl)
            have HCB := Lib.hid hcb
            clear hb hcb HR2 HG2 HO2 HCK2 hbl
            go_wp2_with fail
            refine wp_region_pick (fun w' => Below w3.heap.size w3 w') (by kernel_rfl) (by kernel_rfl) (Below.refl _ _) ⟨rfl, rfl, rfl, Nat.le_refl _, fun _ _ => rfl⟩ (fun p hp hq => ?_)
            have pp1 : ∀ u, (p u).cell? ⟨g, 1, none⟩ = some (.int .i64 (pos : Int)) := fun u => (HR3.out.kept (hp u)).c1
            have pb1 : ∀ u, (p u).cell? ⟨b, 1, none⟩ = some (.int .i64 (ca : Int)) := fun u => ((hp u).cell (p := ⟨b, 1, none⟩) HCB.out.lt).trans ((HCB.out.cell 1).trans rfl)
            have HP := Lib.hid hp
            have HQP := Lib.hid hq
            clear hp hq
            repeat (go_big_quiet_step (fail))
            refine wpQuiet_nil ?_
            rintro _ ⟨u, rfl⟩
            have HR4 := Lib.hid (HR3.out.kept (HP.out u))
            have HG4 := Lib.hid (grown_step HG3.out (HP.out u))
            have HO4 := Lib.hid (own_blocks HO3.out (fun b _ hl => (HP.out u).block b hl))
            have HCB4 := Lib.hid (show Cells (p u) b 3 #[.int .i64 (tm : Int), .int .i64 (ca : Int), .int .i64 (si : Int)] from ((HP.out u).block b HCB.out.lt).trans HCB.out)
            generalize p u = w4 at *
            clear HP HQP pp1 pb1 HR3 HG3 HO3 HCB
            have c0 := HR4.out.c0
            have hgl4 := HR4.out.lt
            obtain ⟨hp16, hen, htm, hca, hsi, hchk, hc2000⟩ := HALL.out
            by_cases hE : S.length < en
            · have HF9 := Lib.hid (HQ.out.stop (now_wait h16 hchk (by rw [← hca]; simp only; omega)))
              have dE : decide ((T.size : Int) < (en : Int)) = true := decide_eq_true (by have := HSZ.out; omega)
              have nE : (T.size : Int) < (en : Int) := by have := HSZ.out; omega
              have mE : T.size < en := by have := HSZ.out; omega
              clear HQ h16 htm hca hsi hchk hE hp16 hen HALL k1 x1 y1 k2 x2 y2
              go_wp2_with fail
              go_ret2
              rw [HF9.out]
              exact ⟨A, cap, by rw [HN.out]; rfl, by rw [← HN.out]; exact HO4.out, RdM.some (q := ⟨pos, big, cnt, last⟩) (by rw [HTT.out]; exact HR4.out), HG4.out⟩
            · have HQ9 := Lib.hid (HQ.out.go (now_rec h16 hchk (by rw [← hca]; simp only; omega)))
              have dE : decide ((T.size : Int) < (en : Int)) = false := decide_eq_false (by have := HSZ.out; omega)
              have nE : ¬ (T.size : Int) < (en : Int) := by have := HSZ.out; omega
              have mE : ¬ T.size < en := by have := HSZ.out; omega
              have hex : T.extract p16 en = str ((S.drop (pos + 16)).take ca) := by
                rw [← HTT.out, extract_str6, str_toList, hp16, hen, hp16, Nat.add_sub_cancel_left]
              obtain ⟨D, hD⟩ : ∃ D, D = T.extract p16 en := ⟨_, rfl⟩
              have hX : recAt S ⟨pos, big, cnt, last⟩ = ⟨(tm : Int), (si : Int), (S.drop (pos + 16)).take ca⟩ := by unfold recAt; rw [← htm, ← hsi, ← hca]
              have hNX : nextC S ⟨pos, big, cnt, last⟩ = ⟨en, big, cnt + 1, tm⟩ := by unfold nextC; rw [← htm, ← hca, hen, hp16]
              rw [hX, hNX] at HQ9
              have HCS := Lib.hid (show (#[.int .i64 (tm : Int), .int .i64 (si : Int), .string D] : Array Value).toList = ERec.cells [⟨(tm : Int), (si : Int), (S.drop (pos + 16)).take ca⟩] by rw [hD, hex]; rfl)
              have hexD : T.extract p16 en = D := hD.symm
              have z1 : (p16 : Int) ≤ (en : Int) := by omega
              have z2 : (en : Int) ≤ (T.size : Int) := by have := HSZ.out; omega
              have z3 : p16 ≤ en := by omega
              have z4 : en ≤ T.size := by have := HSZ.out; omega
              have HEN := Lib.hid (show pos + 16 ≤ en by omega)
              have HES := Lib.hid (show en ≤ S.length by omega)
              have hn9 : n + 1 ≤ 1000000 := by omega
              generalize (⟨(tm : Int), (si : Int), (S.drop (pos + 16)).take ca⟩ : CRec) = X at *
              have c1 := HR4.out.c1
              have b0 := (HCB4.out.cell 0).trans (show _ = some (Value.int .i64 (tm : Int)) from rfl)
              have b2 := (HCB4.out.cell 2).trans (show _ = some (Value.int .i64 (si : Int)) from rfl)
              have hbl4 := HCB4.out.lt
              clear HQ h16 htm hca hsi hchk hE hp16 hen hex hD hX hNX HALL k2 x2 y2
              go_wp2_with fail
              go_region_held3 (fun w' => w'.cell? ⟨b, 0, none⟩ = some (.int .i64 (tm : Int)) ∧ w'.cell? ⟨b, 2, none⟩ = some (.int .i64 (si : Int)) ∧ w'.cell? ⟨g, 0, none⟩ = some (.string T) ∧ w'.cell? ⟨g, 1, none⟩ = some (.int .i64 (pos : Int))) (go_keep) ((refine step_push (E := ERec) rcTy (by rfl) _ _ (by rfl) w.heap.size (.slice A n cap) n out [X] (by rfl) ((HO4.out.alloc _).drew) w4.heap.size 1 1 #[.int .i64 (tm : Int), .int .i64 (si : Int), .string D] (0, 0) (by rfl) (heap_alloc_new w4 _) HCS.out rfl (by omega) (by omega) (by decide) (by have := HG4.out.size; simp; omega) ?_; intro g2 cap2 wz hown hgrow hat hlt2; have hfg : ∀ j, wz.cell? ⟨g, j, none⟩ = w4.cell? ⟨g, j, none⟩ := (fun j => (hgrow.cell_far ⟨g, j, none⟩ (show g < (w4.alloc _).heap.size from by simp; omega) (fun e => by have h7 := (HLT.out _ e.symm).1; have h8 := HGL.out; simp only at h7; omega)).trans ((below_alloc6 w4 (.cells #[.int .i64 (tm : Int), .int .i64 (si : Int), .string D] 33)).cell (p := ⟨g, j, none⟩) hgl4)); have hfb : ∀ j, wz.cell? ⟨b, j, none⟩ = w4.cell? ⟨b, j, none⟩ := (fun j => (hgrow.cell_far ⟨b, j, none⟩ (show b < (w4.alloc _).heap.size from by simp; omega) (fun e => by have h7 := (HLT.out _ e.symm).2; simp only at h7; omega)).trans ((below_alloc6 w4 (.cells #[.int .i64 (tm : Int), .int .i64 (si : Int), .string D] 33)).cell (p := ⟨b, j, none⟩) hbl4)); have i0 := (hfb 0).trans b0; have i2 := (hfb 2).trans b2; have j0 := (hfg 0).trans c0; have j1 := (hfg 1).trans c1))
              all_goals
                have hc8 : n + 1 = (out ++ [X]).length := by rw [List.length_append, HN.out]; rfl
                have HN9 := Lib.hid hc8
                have HR9 := Lib.hid (show RD wz g T pos true big cnt last false from RD.only (HR4.out.al (.cells #[.int .i64 (tm : Int), .int .i64 (si : Int), .string D] 33)) (show ((w4.alloc (.cells #[.int .i64 (tm : Int), .int .i64 (si : Int), .string D] 33))).grownBy wz _ from ⟨hgrow.os, hgrow.tape, hgrow.output, hgrow.size, hgrow.block⟩) (fun e => by have h7 := (HLT.out _ e.symm).1; have h8 := HGL.out; omega))
                have HG9 := Lib.hid (show w.grownBy wz (some g) from grown_and (grown_step HG4.out (below_alloc6 w4 (.cells #[.int .i64 (tm : Int), .int .i64 (si : Int), .string D] 33))) (show ((w4.alloc (.cells #[.int .i64 (tm : Int), .int .i64 (si : Int), .string D] 33))).grownBy wz _ from ⟨hgrow.os, hgrow.tape, hgrow.output, hgrow.size, hgrow.block⟩) (fun j hj => (HLT.out j hj).1))
                have HO9 := Lib.hid (show wz.ownsRow w.heap.size 33 3 (.slice (some ⟨g2, 0, none⟩) (n + 1) cap2) (n + 1) (ERec.cells (out ++ [X])) from hown)
                have hb9 : wz.cell? ⟨b, 0, none⟩ = some (.int .i64 (tm : Int)) := i0
                have r1 := HR9.out.c1
                have r4 := HR9.out.c4
                have r5 := HR9.out.c5
                have g1 := HR9.out.f 1
                have g4 := HR9.out.f 4
                have g5 := HR9.out.f 5
                have hglz := HR9.out.lt
                have hgb := HBG.out
                have ngb : g ≠ b := by omega
                have nbg : b ≠ g := by omega
                have kc : (cnt : Int) + 1 = ((cnt + 1 : Nat) : Int) := by omega
                have hcnt1 : cnt + 1 ≤ 2000 := by omega
                have HMS := Lib.hid (show posAt wr g = pos from HRP.out.posAt)
                obtain ⟨cn1, hcn1⟩ : ∃ c, c = cnt + 1 := ⟨_, rfl⟩
                rw [← hcn1] at kc hcnt1
                have HQ10 := Lib.hid (show FQ S F (out ++ [X]) ⟨en, big, cn1, tm⟩ by rw [hcn1]; exact HQ9.out)
                clear hown hgrow hat hlt2 hfg hfb i0 i2 j0 j1 b0 b2 c0 c1 HR4 HG4 HO4 HCB4 HN hcn1 HQ9 hc8
                go_wp2_with fail
                go_roundw
                case rel => exact ⟨en, cn1, tm, n + 1, cap2, big, some ⟨g2, 0, none⟩, out ++ [X], rfl, by have := HEN.out; omega, HES.out, hcnt1, HN9, HQ10, Lib.hid ((((HR9.out.setPos en).setCnt cn1).setLast tm)), Lib.hid (grown_set (grown_set (grown_set HG9.out 1 _) 4 _) 5 _), Lib.hid (own_set9 (own_set9 (own_set9 HO9.out HGL.out 1 _) HGL.out 4 _) HGL.out 5 _)⟩
                case measure =>
                  have e1 := (((HR9.out.setPos en).setCnt cn1).setLast tm).posAt
                  have e2 := HMS.out
                  have e3 := HEN.out
                  have e4 := HES.out
                  rw [e1, e2]
                  omega
end Go.Proofs.Ytnckcdngmffahaa

/- Contracts of the reference of layer 9: Close, Read. -/
namespace Go.Proofs.Ytnckcdngmffahaa
open Go.ChangeShapes Go.WideShapes Go.ChangeAt Go.RowKit
set_option linter.unusedVariables false

theorem RdM.lt {w : World} {g : Nat} {r : RdC} (h : RdM w g r) : g < w.heap.size := by
  obtain ⟨S, q, e⟩ := r
  cases q with
  | none => obtain ⟨b, hr⟩ := h; exact hr.lt
  | some q => exact RD.lt h
theorem RdM.kept {w w' : World} {g : Nat} {r : RdC} (h : RdM w g r) (hb : Below w.heap.size w w') : RdM w' g r := by
  obtain ⟨S, q, e⟩ := r
  cases q with
  | none => obtain ⟨b, hr⟩ := h; exact ⟨b, hr.kept hb⟩
  | some q => exact RD.kept h hb
/-- The fields, whatever the state. -/
theorem RdM.open {w : World} {g : Nat} {r : RdC} (h : RdM w g r) : ∃ b cnt last, RD w g (str r.S) (posC r) r.q.isSome b cnt last r.e ∧ ∀ (w' : World) (e : Bool), RD w' g (str r.S) (posC r) r.q.isSome b cnt last e → RdM w' g ⟨r.S, r.q, e⟩ := by
  obtain ⟨S, q, e⟩ := r
  cases q with
  | none => obtain ⟨b, hr⟩ := h; exact ⟨b, 0, 0, hr, fun w' e h2 => ⟨b, h2⟩⟩
  | some q => exact ⟨q.big, q.cnt, q.last, h, fun w' e h2 => h2⟩
theorem closeC_on {r : RdC} (he : r.e = false) : closeC r = if r.q.isSome = false then 1 else if posC r < r.S.length then 1 else 0 := by
  unfold closeC posC
  rw [if_neg (by rw [he]; decide)]
  cases r.q <;> rfl
set_option maxHeartbeats 4000000 in
set_option maxRecDepth 20000 in
theorem rclose9_any (g : Nat) (r : RdC) (w : World) (h : RdM w g r) :
    Calls Try.prog 25 #[.pointer (some ⟨g, 0, none⟩)] w fun e w' => e = .returned (.int .i64 (closeC r : Nat)) ∧ RdM w' g ⟨r.S, r.q, true⟩ ∧ w.grownBy w' (some g) := by
  obtain ⟨b, cnt, last, hr, hback⟩ := h.open
  have HBK := Lib.hid hback
  have HR := Lib.hid hr
  have hsz : (str r.S).size = r.S.length := str_size _
  obtain ⟨C, hC⟩ : ∃ C, C = closeC r := ⟨_, rfl⟩
  rw [← hC]
  have HC := Lib.hid hC
  have c6 := hr.c6
  have f6 := hr.f 6
  have hgl := hr.lt
  cases he : r.e with
  | true =>
    rw [he] at c6 HR
    have HC10 := Lib.hid (show C = 10 by rw [hC]; unfold closeC; rw [if_pos he])
    have HG := Lib.hid (World.grownBy.refl w (some g))
    have HM := Lib.hid (HBK.out w true HR.out)
    clear h hr hback hC he hsz
    go_enter Try.func25, Try.ntmps25
    go_wp2_with fail
    go_ret
    rw [HC10.out]
    exact ⟨rfl, HM.out, HG.out⟩
  | false =>
    rw [he] at c6 HR
    have hon := closeC_on he
    rw [← hC] at hon
    have HON := Lib.hid hon
    have HSZ := Lib.hid hsz
    obtain ⟨W1, hW1⟩ : ∃ W, W = w.setCell ⟨g, 6, none⟩ (.bool true) := ⟨_, rfl⟩
    have HR1 := Lib.hid (show RD W1 g (str r.S) (posC r) r.q.isSome b cnt last true by rw [hW1]; exact HR.out.setEnd true)
    have HG1 := Lib.hid (show w.grownBy W1 (some g) by rw [hW1]; exact grown_set (World.grownBy.refl w (some g)) 6 _)
    clear h hr hback hC he hsz hon HR
    generalize str r.S = T at *
    generalize posC r = pos at *
    cases hq : r.q.isSome with
    | false =>
      rw [hq] at HR1 HBK HON
      have HC1 := Lib.hid (show C = 1 by rw [HON.out, if_pos rfl])
      clear hq HON
      go_enter Try.func25, Try.ntmps25
      go_wp2_with fail
      rw [← hW1]
      refine wp_region_pick (fun w' => Below W1.heap.size W1 w') (by kernel_rfl) (by kernel_rfl) (Below.refl _ _) ⟨rfl, rfl, rfl, Nat.le_refl _, fun _ _ => rfl⟩ (fun p hp hq => ?_)
      have pp2 : ∀ u, (p u).cell? ⟨g, 2, none⟩ = some (.bool false) := fun u => (HR1.out.kept (hp u)).c2
      have HP := Lib.hid hp
      have HQ := Lib.hid hq
      clear hp hq
      repeat (go_big_quiet_step (fail))
      refine wpQuiet_nil ?_
      rintro _ ⟨u, rfl⟩
      have HR2 := Lib.hid (HR1.out.kept (HP.out u))
      have HG2 := Lib.hid (grown_step HG1.out (HP.out u))
      generalize p u = w2 at *
      clear HP HQ pp2
      go_wp2_with fail
      go_ret
      rw [HC1.out]
      exact ⟨rfl, HBK.out w2 true HR2.out, HG2.out⟩
    | true =>
      rw [hq] at HR1 HBK HON
      have hlt : (decide ((pos : Int) < (T.size : Int)) = true ∧ C = 1 ∧ pos < T.size) ∨ (decide ((pos : Int) < (T.size : Int)) = false ∧ C = 0 ∧ ¬ pos < T.size) := by
        have h1 := HON.out
        have h2 := HSZ.out
        rw [if_neg (by decide)] at h1
        by_cases hl : pos < r.S.length
        · rw [if_pos hl] at h1
          exact Or.inl ⟨decide_eq_true (by omega), h1, by omega⟩
        · rw [if_neg hl] at h1
          exact Or.inr ⟨decide_eq_false (by omega), h1, by omega⟩
      clear hq HON
      go_enter Try.func25, Try.ntmps25
      rcases hlt with ⟨t1, hC1, n1⟩ | ⟨t1, hC1, n1⟩
      all_goals
        have HC1 := Lib.hid hC1
        clear hC1
        go_wp2_with fail
        rw [← hW1]
        refine wp_region_pick (fun w' => Below W1.heap.size W1 w') (by kernel_rfl) (by kernel_rfl) (Below.refl _ _) ⟨rfl, rfl, rfl, Nat.le_refl _, fun _ _ => rfl⟩ (fun p hp hq => ?_)
        have pp0 : ∀ u, (p u).cell? ⟨g, 0, none⟩ = some (.string T) := fun u => (HR1.out.kept (hp u)).c0
        have pp1 : ∀ u, (p u).cell? ⟨g, 1, none⟩ = some (.int .i64 (pos : Int)) := fun u => (HR1.out.kept (hp u)).c1
        have pp2 : ∀ u, (p u).cell? ⟨g, 2, none⟩ = some (.bool true) := fun u => (HR1.out.kept (hp u)).c2
        have HP := Lib.hid hp
        have HQ := Lib.hid hq
        clear hp hq
        repeat (go_big_quiet_step (fail))
        refine wpQuiet_nil ?_
        rintro _ ⟨u, rfl⟩
        have HR2 := Lib.hid (HR1.out.kept (HP.out u))
        have HG2 := Lib.hid (grown_step HG1.out (HP.out u))
        generalize p u = w2 at *
        clear HP HQ pp0 pp1 pp2
        go_wp2_with fail
        go_ret
        rw [HC1.out]
        exact ⟨rfl, HBK.out w2 true HR2.out, HG2.out⟩
/-- What Read leaves. -/
def ReadP (w : World) (R : List CRec × Nat × Nat) (e : Ending) (w' : World) : Prop :=
  ∃ A cap, e = .returned (.tuple #[.slice A R.1.length cap, .int .i64 (R.2.1 : Int), .int .i64 (R.2.2 : Int)]) ∧ w'.ownsRow w.heap.size 33 3 (.slice A R.1.length cap) R.1.length (ERec.cells R.1) ∧ Below w.heap.size w w'
theorem below_grown9 {w w0 w1 : World} {g : Nat} (hb : Below g w w0) (h0 : w0.heap.size = g + 1) (h : w0.grownBy w1 (some g)) : Below g w w1 :=
  hb.trans ⟨h.os, h.tape, h.output, h.size, fun k hk => h.block k (by omega) (fun e => by have := Option.some.inj e; omega)⟩
set_option maxHeartbeats 4000000 in
set_option maxRecDepth 20000 in
theorem rread9_any (s : List UInt8) (w : World) (hs : s.length ≤ 1000000) :
    Calls Try.prog 13 #[.string (str s)] w (ReadP w (readC s)) := by
  obtain ⟨W0, hW0⟩ : ∃ W, W = w.alloc (.cells #[.string ⟨#[]⟩, .int .i64 0, .bool false, .bool false, .int .i64 0, .int .i64 0, .bool false] 41) := ⟨_, rfl⟩
  have hM0 : RdM W0 w.heap.size newC := ⟨false, by rw [hW0]; exact heap_alloc_new w _⟩
  have hsz : W0.heap.size = w.heap.size + 1 := by rw [hW0]; simp
  have hB0 : Below w.heap.size w W0 := by rw [hW0]; exact below_alloc6 w _
  have HF := Lib.hid (rfeed9_any w.heap.size newC s W0 hM0 (by show ([] : List UInt8).length + s.length ≤ 1000000; simpa using hs) (fun q hq => by cases hq))
  have HSZ := Lib.hid hsz
  have HB0 := Lib.hid hB0
  obtain ⟨R, hR⟩ : ∃ R, R = readC s := ⟨_, rfl⟩
  rw [← hR]
  unfold readC at hR
  generalize feedC newC s = F at *
  obtain ⟨out, er, r⟩ := F
  simp only at hR
  have HCL := Lib.hid (fun (W : World) (h : RdM W w.heap.size r) => rclose9_any w.heap.size r W h)
  have HRR := Lib.hid hR
  generalize str s = T at *
  clear hM0 hsz hB0 hs hR
  go_enter Try.func13, Try.ntmps13
  go_wp2_with fail
  rw [← hW0]
  clear hW0
  refine HF.out.mono ?_
  rintro e w1 ⟨A, cap, rfl, hown, hm1, hg1⟩
  simp only at hown hm1
  have HM1 := Lib.hid hm1
  have HG1 := Lib.hid hg1
  have HO1 := Lib.hid hown
  clear hm1 hg1 hown HF
  by_cases he : er = 0
  · subst he
    go_wp2_with fail
    refine (HCL.out w1 HM1.out).mono ?_
    rintro e w2 ⟨rfl, hm2, hg2⟩
    have HM2 := Lib.hid hm2
    have HB2 := Lib.hid (below_grown9 HB0.out HSZ.out (HG1.out.trans hg2))
    have HO2 := Lib.hid (own_blocks HO1.out (fun b hb hl => hg2.block b hl (fun e => by have := Option.some.inj e; have := HSZ.out; omega)))
    clear hm2 hg2 HM1 HG1 HO1 HCL
    obtain ⟨C, hC⟩ : ∃ C, C = closeC r := ⟨_, rfl⟩
    rw [← hC]
    by_cases hc : C = 0
    · have HR0 := Lib.hid (show R = (out, 0, 0) by rw [HRR.out, if_neg (by decide), ← hC, hc, if_neg (by decide)])
      have tc : ((C : Int) != 0) = false := by rw [hc]; rfl
      have tc2 : (C : Int) = 0 := by rw [hc]; rfl
      clear hC HRR
      subst hc
      go_wp2_with fail
      go_ret3
      rw [HR0.out]
      exact ⟨A, cap, rfl, own_mono HO2.out (by have := HSZ.out; omega), HB2.out⟩
    · have HR0 := Lib.hid (show R = ([], C, posC r) by rw [HRR.out, if_neg (by decide), ← hC, if_pos hc])
      have tc : ((C : Int) != 0) = true := by rw [bne_iff_ne]; omega
      have tc2 : ¬ (C : Int) = 0 := by omega
      clear hC HRR
      obtain ⟨bb, cc, ll, hrd, -⟩ := HM2.out.open
      have HRD := Lib.hid hrd
      clear hrd
      go_wp2_with fail
      refine wp_region_pick (fun w' => Below w2.heap.size w2 w') (by kernel_rfl) (by kernel_rfl) (Below.refl _ _) ⟨rfl, rfl, rfl, Nat.le_refl _, fun _ _ => rfl⟩ (fun p hp hq => ?_)
      have pp1 : ∀ u, (p u).cell? ⟨w.heap.size, 1, none⟩ = some (.int .i64 (posC r : Int)) := fun u => (HRD.out.kept (hp u)).c1
      have HP := Lib.hid hp
      have HQ := Lib.hid hq
      clear hp hq
      repeat (go_big_quiet_step (fail))
      refine wpQuiet_nil ?_
      rintro _ ⟨u, rfl⟩
      have HB3 := Lib.hid (HB2.out.trans ((HP.out u).mono HB2.out.size))
      generalize p u = w3 at *
      clear HP HQ pp1
      go_wp2_with fail
      go_ret3
      rw [HR0.out]
      exact ⟨none, 0, rfl, World.ownsRow_nil _ _ _ _, HB3.out⟩
  · have HR0 := Lib.hid (show R = ([], er, posC r) by rw [HRR.out, if_pos he])
    have HB1 := Lib.hid (below_grown9 HB0.out HSZ.out HG1.out)
    have tc : ((er : Int) != 0) = true := by rw [bne_iff_ne]; omega
    have te : ((er : Int) == 0) = false := by rw [beq_eq_false_iff_ne]; omega
    have tc2 : ¬ (er : Int) = 0 := by omega
    clear HRR HCL
    obtain ⟨bb, cc, ll, hrd, -⟩ := HM1.out.open
    have HRD := Lib.hid hrd
    clear hrd
    go_wp2_with fail
    refine wp_region_pick (fun w' => Below w1.heap.size w1 w') (by kernel_rfl) (by kernel_rfl) (Below.refl _ _) ⟨rfl, rfl, rfl, Nat.le_refl _, fun _ _ => rfl⟩ (fun p hp hq => ?_)
    have pp1 : ∀ u, (p u).cell? ⟨w.heap.size, 1, none⟩ = some (.int .i64 (posC r : Int)) := fun u => (HRD.out.kept (hp u)).c1
    have HP := Lib.hid hp
    have HQ := Lib.hid hq
    clear hp hq
    repeat (go_big_quiet_step (fail))
    refine wpQuiet_nil ?_
    rintro _ ⟨u, rfl⟩
    have HB3 := Lib.hid (HB1.out.trans ((HP.out u).mono HB1.out.size))
    generalize p u = w3 at *
    clear HP HQ pp1
    go_wp2_with fail
    go_ret3
    rw [HR0.out]
    exact ⟨none, 0, rfl, World.ownsRow_nil _ _ _ _, HB3.out⟩
end Go.Proofs.Ytnckcdngmffahaa

/- Contract of the reference of layer 9: Write. -/
namespace Go.Proofs.Ytnckcdngmffahaa
open Go.ChangeShapes Go.WideShapes Go.ChangeAt Go.RowKit
set_option linter.unusedVariables false

/-- put, with literals. -/
theorem rput9_at (n size : Nat) (N Z : Int) (hN : (n : Int) = N) (hZ : (size : Int) = Z) (w : World) (hn : n < 9223372036854775808) (hsz : size ≤ 7) :
    Calls Try.prog 28 #[.int .i64 N, .int .i64 Z] w fun e w' => e = .returned (.string (str (leL size n))) ∧ Below w.heap.size w w' := by
  subst hN hZ
  exact rput9_any n size w hn hsz
/-- The time of the record before. -/
def prevW (l : List CRec) : Nat → Option Int
  | 0 => none
  | k + 1 => (l[k]?).map (·.tm)
def preW (l : List CRec) (k : Nat) : List UInt8 := wHd ++ (l.take k).flatMap wRec
theorem preW_next {l : List CRec} {k : Nat} {x : CRec} (h : l[k]? = some x) : preW l (k + 1) = preW l k ++ wRec x := by
  obtain ⟨hk, e⟩ := List.getElem?_eq_some_iff.1 h
  unfold preW
  rw [List.take_succ_eq_append_getElem hk, e, List.flatMap_append, List.append_assoc]
  simp
theorem wErr_step {l : List CRec} {k : Nat} {x : CRec} (h : l[k]? = some x) : wErr (prevW l k) (l.drop k) = if wErr1 (prevW l k) x ≠ 0 then wErr1 (prevW l k) x else wErr (prevW l (k + 1)) (l.drop (k + 1)) := by
  obtain ⟨hk, e⟩ := List.getElem?_eq_some_iff.1 h
  rw [List.drop_eq_getElem_cons hk, e, wErr]
  have : prevW l (k + 1) = some x.tm := by show (l[k]?).map (·.tm) = _; rw [h]; rfl
  rw [this]
def tErr (p : Option Int) (tm : Int) : Nat := match p with | none => 0 | some t => if tm < t then 12 else 0
theorem wErr1_t (p : Option Int) (x : CRec) : wErr1 p x = if 4096 < x.dat.length then 3 else if x.tm < 0 ∨ 1099511627776 < x.tm ∨ x.sz < x.dat.length ∨ 65535 < x.sz then 4 else tErr p x.tm := by
  unfold wErr1 tErr
  cases p <;> rfl
theorem add_ok9 {P Q : ByteArray} {a b : Nat} (h1 : P.size ≤ a) (h2 : Q.size ≤ b) (h : a + b ≤ 1000000000) : (9223372036854775807 < P.size + Q.size) = False := by
  simp only [eq_iff_iff, iff_false]; omega
theorem add_size9 {P Q : ByteArray} {a b : Nat} (h1 : P.size ≤ a) (h2 : Q.size ≤ b) : (P ++ Q).size ≤ a + b := by
  rw [ByteArray.size_append]; omega
theorem str_app5 (S : List UInt8) (a b c d e : List UInt8) : str S ++ (str a ++ str b ++ str c ++ str d ++ str e) = str (S ++ (a ++ (b ++ (c ++ (d ++ e))))) := by
  simp only [← str_append, ByteArray.append_assoc]
set_option maxHeartbeats 8000000 in
set_option maxRecDepth 20000 in
theorem rwrite9_any (A : Option Addr) (cap : Nat) (l : List CRec) (w : World) (h : RowL ERec w A l) (hl : l.length ≤ 1000000000) :
    Calls Try.prog 17 #[.slice A l.length cap] w fun e w' => e = .returned (.tuple #[.string (str (writeC l).1), .int .i64 ((writeC l).2 : Int)]) ∧ Below w.heap.size w w' := by
  obtain ⟨R, hR⟩ : ∃ R, R = writeC l := ⟨_, rfl⟩
  rw [← hR]
  unfold writeC at hR
  obtain ⟨n, hn⟩ : ∃ n, n = l.length := ⟨_, rfl⟩
  rw [← hn] at hR hl ⊢
  have HB0 := Lib.hid (Below.refl w.heap.size w)
  by_cases h2 : 2000 < n
  · have HR2 := Lib.hid (show R = ([], 3) by rw [hR, if_pos h2])
    have d2 : decide ((2000 : Int) < (n : Int)) = true := by simp; omega
    have n2 : (2000 : Int) < (n : Int) := by omega
    clear hR hn h
    go_enter Try.func17, Try.ntmps17
    go_wp2_with fail
    go_ret2
    exact ⟨by rw [HR2.out]; rfl, HB0.out⟩
  · have HR1 := Lib.hid (show R = if wErr none l ≠ 0 then ([], wErr none l) else (wHd ++ l.flatMap wRec, 0) by rw [hR, if_neg h2])
    have d2 : decide ((2000 : Int) < (n : Int)) = false := by simp; omega
    have n2 : ¬ (2000 : Int) < (n : Int) := by omega
    have hn2 : n ≤ 2000 := by omega
    have HN := Lib.hid hn
    have HS := Lib.hid h
    clear hR hn h h2 hl
    have K0 := Lib.hid (fun W => rput9_at 2712847316 4 2712847316 4 rfl rfl W (by decide) (by decide))
    have K1 := Lib.hid (fun W => rput9_at 2 2 2 2 rfl rfl W (by decide) (by decide))
    have K2 := Lib.hid (fun W => rput9_at 4 2 4 2 rfl rfl W (by decide) (by decide))
    have K3 := Lib.hid (fun W => rput9_at 0 4 0 4 rfl rfl W (by decide) (by decide))
    have K4 := Lib.hid (fun W => rput9_at 0 4 0 4 rfl rfl W (by decide) (by decide))
    have K5 := Lib.hid (fun W => rput9_at 4096 4 4096 4 rfl rfl W (by decide) (by decide))
    have K6 := Lib.hid (fun W => rput9_at 1 4 1 4 rfl rfl W (by decide) (by decide))
    have HFW := Lib.hid (show str (leL 4 2712847316) ++ str (leL 2 2) ++ str (leL 2 4) ++ str (leL 4 0) ++ str (leL 4 0) ++ str (leL 4 4096) ++ str (leL 4 1) = str wHd by unfold wHd; simp only [← str_append, ByteArray.append_assoc])
    have z0 : (str (leL 4 2712847316)).size ≤ 4 := by rw [str_size, leL_length]; omega
    have z1 : (str (leL 2 2)).size ≤ 4 := by rw [str_size, leL_length]; omega
    have z2 : (str (leL 2 4)).size ≤ 4 := by rw [str_size, leL_length]; omega
    have z3 : (str (leL 4 0)).size ≤ 4 := by rw [str_size, leL_length]; omega
    have z4 : (str (leL 4 0)).size ≤ 4 := by rw [str_size, leL_length]; omega
    have z5 : (str (leL 4 4096)).size ≤ 4 := by rw [str_size, leL_length]; omega
    have z6 : (str (leL 4 1)).size ≤ 4 := by rw [str_size, leL_length]; omega
    skip
    skip
    skip
    skip
    skip
    skip
    skip
    obtain ⟨P0, hP0⟩ : ∃ P, P = str (leL 4 2712847316) := ⟨_, rfl⟩
    obtain ⟨P1, hP1⟩ : ∃ P, P = str (leL 2 2) := ⟨_, rfl⟩
    obtain ⟨P2, hP2⟩ : ∃ P, P = str (leL 2 4) := ⟨_, rfl⟩
    obtain ⟨P3, hP3⟩ : ∃ P, P = str (leL 4 0) := ⟨_, rfl⟩
    obtain ⟨P5, hP5⟩ : ∃ P, P = str (leL 4 4096) := ⟨_, rfl⟩
    obtain ⟨P6, hP6⟩ : ∃ P, P = str (leL 4 1) := ⟨_, rfl⟩
    rw [← hP0] at K0 z0
    rw [← hP1] at K1 z1
    rw [← hP2] at K2 z2
    rw [← hP3] at K3 K4 z3
    rw [← hP5] at K5 z5
    rw [← hP6] at K6 z6
    rw [← hP0, ← hP1, ← hP2, ← hP3, ← hP5, ← hP6] at HFW
    clear hP0 hP1 hP2 hP3 hP5 hP6 z4
    have q1 := add_ok9 z0 z1 (by omega)
    have r1 : (9223372036854775807 < P0.size + P1.size) = False := by simp only [eq_iff_iff, iff_false]; omega
    have q2 := add_ok9 (add_size9 z0 z1) z2 (by omega)
    have r2 : (9223372036854775807 < P0.size + P1.size + P2.size) = False := by simp only [eq_iff_iff, iff_false]; omega
    have q3 := add_ok9 (add_size9 (add_size9 z0 z1) z2) z3 (by omega)
    have r3 : (9223372036854775807 < P0.size + P1.size + P2.size + P3.size) = False := by simp only [eq_iff_iff, iff_false]; omega
    have q4 := add_ok9 (add_size9 (add_size9 (add_size9 z0 z1) z2) z3) z3 (by omega)
    have r4 : (9223372036854775807 < P0.size + P1.size + P2.size + P3.size + P3.size) = False := by simp only [eq_iff_iff, iff_false]; omega
    have q5 := add_ok9 (add_size9 (add_size9 (add_size9 (add_size9 z0 z1) z2) z3) z3) z5 (by omega)
    have r5 : (9223372036854775807 < P0.size + P1.size + P2.size + P3.size + P3.size + P5.size) = False := by simp only [eq_iff_iff, iff_false]; omega
    have q6 := add_ok9 (add_size9 (add_size9 (add_size9 (add_size9 (add_size9 z0 z1) z2) z3) z3) z5) z6 (by omega)
    have r6 : (9223372036854775807 < P0.size + P1.size + P2.size + P3.size + P3.size + P5.size + P6.size) = False := by simp only [eq_iff_iff, iff_false]; omega
    go_enter Try.func17, Try.ntmps17
    go_wp2_with fail
    refine (K0.out _).mono ?_
    rintro e v0 ⟨rfl, hb⟩
    have HC0 := Lib.hid (HB0.out.trans (hb.mono HB0.out.size))
    clear hb 
    go_wp2_with fail
    refine (K1.out _).mono ?_
    rintro e v1 ⟨rfl, hb⟩
    have HC1 := Lib.hid (HC0.out.trans (hb.mono HC0.out.size))
    clear hb HC0
    go_wp2_with fail
    refine (K2.out _).mono ?_
    rintro e v2 ⟨rfl, hb⟩
    have HC2 := Lib.hid (HC1.out.trans (hb.mono HC1.out.size))
    clear hb HC1
    go_wp2_with fail
    refine (K3.out _).mono ?_
    rintro e v3 ⟨rfl, hb⟩
    have HC3 := Lib.hid (HC2.out.trans (hb.mono HC2.out.size))
    clear hb HC2
    go_wp2_with fail
    refine (K4.out _).mono ?_
    rintro e v4 ⟨rfl, hb⟩
    have HC4 := Lib.hid (HC3.out.trans (hb.mono HC3.out.size))
    clear hb HC3
    go_wp2_with fail
    refine (K5.out _).mono ?_
    rintro e v5 ⟨rfl, hb⟩
    have HC5 := Lib.hid (HC4.out.trans (hb.mono HC4.out.size))
    clear hb HC4
    go_wp2_with fail
    refine (K6.out _).mono ?_
    rintro e v6 ⟨rfl, hb⟩
    have HC6 := Lib.hid (HC5.out.trans (hb.mono HC5.out.size))
    clear hb HC5
    clear K0 K1 K2 K3 K4 K5 K6
    go_wp2_with fail
    rw [HFW.out]
    clear HFW z0 z1 z2 z3 z5 z6 q1 r1 q2 r2 q3 r3 q4 r4 q5 r5 q6 r6 HB0
    go_loopw [4, 5] (fun v4 v5 wr => ∃ k : Nat, v4 = .string (str (preW l k)) ∧ v5 = .int .i64 k ∧ k ≤ n ∧ Hid ((preW l k).length ≤ 24 + 4112 * k) ∧ Hid (wErr none l = wErr (prevW l k) (l.drop k)) ∧ Hid (Below w.heap.size w wr)) (fun _ v5 _ => n - (intOf v5).toNat)
    case atStart => exact ⟨0, by unfold preW; simp, rfl, Nat.zero_le _, Lib.hid (by unfold preW; simp [wHd_len]), Lib.hid rfl, HC6⟩
    case round =>
      clear HC6
      obtain ⟨k, rfl, rfl, hk, HPL, HWE, HBr⟩ := hrel
      obtain ⟨k1, hk1'⟩ : ∃ k1, k1 = k + 1 := ⟨_, rfl⟩
      have k1i : (k : Int) + 1 = (k1 : Int) := by omega
      by_cases hlt : k < n
      · have hki : (k : Int) < (n : Int) := by omega
        have hki0 : (0 : Int) ≤ (k : Int) := by omega
        have dlt : decide ((k : Int) < (n : Int)) = true := by simp; omega
        have k1n : k1 ≤ n := by omega
        obtain ⟨x, hget⟩ : ∃ x, l[k]? = some x := ⟨l[k]'(by have := HN.out; omega), List.getElem?_eq_getElem _⟩
        obtain ⟨g, ob, rfl, hg, hc⟩ := HS.out (by have := HN.out; omega)
        have HPN := Lib.hid (preW_next hget)
        have HWS := Lib.hid (wErr_step hget)
        have hd0 := ERec.pos
        have c0 : wr.cell? ⟨g, ob + k * 3, none⟩ = some (.int .i64 x.tm) := HS.out.at_ hget HBr.out 0 _ rfl
        have c1 : wr.cell? ⟨g, ob + k * 3 + 1, none⟩ = some (.int .i64 x.sz) := HS.out.at_ hget HBr.out 1 _ rfl
        have c2 : wr.cell? ⟨g, ob + k * 3 + 2, none⟩ = some (.string (str x.dat)) := HS.out.at_ hget HBr.out 2 _ rfl
        have HLAST := Lib.hid (fun (kp : Nat) (e : k = kp + 1) => show ∃ t, prevW l k = some t ∧ ∀ w', Below w.heap.size w w' → w'.cell? ⟨g, ob + kp * 3, none⟩ = some (.int .i64 t) from by
          obtain ⟨y, hy⟩ : ∃ y, l[kp]? = some y := ⟨l[kp]'(by have := HN.out; omega), List.getElem?_eq_getElem _⟩
          exact ⟨y.tm, by subst e; show (l[kp]?).map (·.tm) = _; rw [hy]; rfl, fun w' hb => HS.out.at_ hy hb 0 _ rfl⟩)
        rw [← hk1'] at HPN HWS
        have HK1 := Lib.hid hk1'
        obtain ⟨p, hp⟩ : ∃ p, p = prevW l k := ⟨_, rfl⟩
        rw [← hp] at HWS HWE HLAST
        obtain ⟨tm, sz, dat⟩ := x
        simp only at c0 c1 c2
        have hDs : (str dat).size = dat.length := str_size dat
        obtain ⟨E1, hE1⟩ : ∃ E, E = wErr1 p ⟨tm, sz, dat⟩ := ⟨_, rfl⟩
        rw [← hE1] at HWS
        have HBAD := Lib.hid (fun (m : Nat) (e : E1 = m + 1) => show R = ([], m + 1) from by
          have hh : wErr none l = m + 1 := by rw [HWE.out, HWS.out, e, if_pos (by omega)]
          rw [HR1.out, hh, if_pos (by omega)])
        have hpz : k = 0 → p = none := fun e => by rw [hp, e]; rfl
        have HPZ := Lib.hid hpz
        rw [wErr1_t] at hE1
        simp only at hE1
        have HE1 := Lib.hid hE1
        have HSO := Lib.hid (str_size dat)
        clear hc hk1' hp hE1 hpz hget
        generalize hD : str dat = D at *
        have HD := Lib.hid hD
        clear hD
        obtain ⟨gb, hgb⟩ : ∃ g, g = wr.heap.size := ⟨_, rfl⟩
        obtain ⟨W1, hW1⟩ : ∃ W, W = wr.alloc (.cells #[.int .i64 tm, .int .i64 sz, .string D] 33) := ⟨_, rfl⟩
        have HX1 := Lib.hid (show Cells W1 gb 33 #[.int .i64 tm, .int .i64 sz, .string D] by rw [hW1, hgb]; exact heap_alloc_new wr _)
        have HB1 := Lib.hid (show Below w.heap.size w W1 by rw [hW1]; exact HBr.out.trans ((below_alloc6 wr _).mono HBr.out.size))
        have HB1w := Lib.hid (HBr.out.alloc HBr.out.size (.cells #[.int .i64 tm, .int .i64 sz, .string D] 33))
        by_cases e1 : 4096 < dat.length
        · have hR2 := Lib.hid (HBAD.out 2 (by rw [HE1.out, if_pos e1]))
          have t1 : decide ((4096 : Int) < (D.size : Int)) = true := by simp; omega
          have s1 : (4096 : Int) < (D.size : Int) := by omega
          clear hDs e1 hgb hW1 HE1
          go_wp2_with fail
          go_ret2
          exact ⟨by rw [hR2.out]; rfl, HB1w.out⟩
        · have t1 : decide ((4096 : Int) < (D.size : Int)) = false := by simp; omega
          have s1 : ¬ (4096 : Int) < (D.size : Int) := by omega
          by_cases e2 : tm < 0 ∨ 1099511627776 < tm ∨ sz < dat.length ∨ 65535 < sz
          · have hR2 := Lib.hid (HBAD.out 3 (by rw [HE1.out, if_neg e1, if_pos e2]))
            have HCS : (tm < 0 ∧ decide (tm < (0 : Int)) = true) ∨ (¬ tm < 0 ∧ decide (tm < (0 : Int)) = false ∧ 1099511627776 < tm ∧ decide ((1099511627776 : Int) < tm) = true) ∨ (¬ tm < 0 ∧ decide (tm < (0 : Int)) = false ∧ ¬ 1099511627776 < tm ∧ decide ((1099511627776 : Int) < tm) = false ∧ sz < (D.size : Int) ∧ decide (sz < (D.size : Int)) = true) ∨ (¬ tm < 0 ∧ decide (tm < (0 : Int)) = false ∧ ¬ 1099511627776 < tm ∧ decide ((1099511627776 : Int) < tm) = false ∧ ¬ sz < (D.size : Int) ∧ decide (sz < (D.size : Int)) = false ∧ 65535 < sz ∧ decide ((65535 : Int) < sz) = true) := by
              simp only [decide_eq_true_eq, decide_eq_false_iff_not]
              omega
            clear hDs e1 e2 hgb hW1 HE1
            rcases HCS with ⟨y1, y2⟩ | ⟨y1, y2, y3, y4⟩ | ⟨y1, y2, y3, y4, y5, y6⟩ | ⟨y1, y2, y3, y4, y5, y6, y7, y8⟩ <;> (go_wp2_with fail; go_ret2; exact ⟨by rw [hR2.out]; rfl, HB1w.out⟩)
          · have y1 : ¬ tm < 0 := by omega
            have y2 : decide (tm < (0 : Int)) = false := by simp; omega
            have y3 : ¬ 1099511627776 < tm := by omega
            have y4 : decide ((1099511627776 : Int) < tm) = false := by simp; omega
            have y5 : ¬ sz < (D.size : Int) := by omega
            have y6 : decide (sz < (D.size : Int)) = false := by simp; omega
            have y7 : ¬ 65535 < sz := by omega
            have y8 : decide ((65535 : Int) < sz) = false := by simp; omega
            have HE2 := Lib.hid (show E1 = tErr p tm by rw [HE1.out, if_neg e1, if_neg e2])
            have hD4 : D.size ≤ 4096 := by omega
            obtain ⟨T, rfl⟩ : ∃ T : Nat, tm = (T : Int) := ⟨tm.toNat, by omega⟩
            obtain ⟨Y, rfl⟩ : ∃ Y : Nat, sz = (Y : Int) := ⟨sz.toNat, by omega⟩
            have hT : T ≤ 1099511627776 := by omega
            have hY : Y ≤ 65535 := by omega
            clear e1 e2 HE1 hDs
            go_wp2_with fail
            rw [← hW1, ← hgb]
            clear hW1 hgb HB1w
            by_cases hk0 : k = 0
            · have dk : decide ((0 : Int) < (k : Int)) = false := by simp; omega
              have nk : ¬ (0 : Int) < (k : Int) := by omega
              have nk2 : ¬ 0 < k := by omega
              have dk2 : decide (0 < k) = false := by simp; omega
              have hz := Lib.hid (show E1 = 0 by rw [HE2.out, HPZ.out hk0]; rfl)
              clear HE2 HPZ hk0 HLAST HBAD
              refine wp_region_pick (fun w' => Below W1.heap.size W1 w') (by kernel_rfl) (by kernel_rfl) (Below.refl _ _) ⟨rfl, rfl, rfl, Nat.le_refl _, fun _ _ => rfl⟩ (fun pw hp hq => ?_)
              have HP := Lib.hid hp
              have HQ := Lib.hid hq
              clear hp hq
              repeat (go_big_quiet_step ((first | fail)))
              refine wpQuiet_nil ?_
              rintro _ ⟨u, rfl⟩
              have HX2 := Lib.hid (show Cells (pw u) gb 33 #[.int .i64 (T : Int), .int .i64 (Y : Int), .string D] from ((HP.out u).block gb HX1.out.lt).trans HX1.out)
              have HB2 := Lib.hid (HB1.out.trans ((HP.out u).mono HB1.out.size))
              generalize pw u = w2 at *
              clear HP HQ  HX1 HB1
              go_wp2_with fail
              have HWN := Lib.hid (show wErr none l = wErr (prevW l k1) (l.drop k1) by rw [HWE.out, HWS.out, hz.out, if_neg (by decide)])
              obtain ⟨a, ha⟩ : ∃ a, a = T / 1000 := ⟨_, rfl⟩
              obtain ⟨b0, hb0⟩ : ∃ b, b = T % 1000 := ⟨_, rfl⟩
              obtain ⟨b, hbb⟩ : ∃ b1, b1 = b0 * 1000 := ⟨_, rfl⟩
              have ka : (T : Int) / 1000 = (a : Int) := by omega
              have kb0 : (T : Int) % 1000 = (b0 : Int) := by omega
              have kb : (b0 : Int) * 1000 = (b : Int) := by omega
              have hb0l : b0 < 1000 := by omega
              have hbl : b < 1000000 := by omega
              have hal : a ≤ 1099511628 := by omega
              have xb : IntKind.i64.wrap ((b0 : Int) * 1000) = (b : Int) := by rw [IntKind.wrap_i64]; omega
              have yb : IntKind.i64.wrap (b : Int) = (b : Int) := by rw [IntKind.wrap_i64]; omega
              have J0 := Lib.hid (fun W => rput9_at a 4 a 4 rfl rfl W (by omega) (by decide))
              have J1 := Lib.hid (fun W => rput9_at b 4 b 4 rfl rfl W (by omega) (by decide))
              have J2 := Lib.hid (fun W => rput9_at D.size 4 D.size 4 rfl rfl W (by omega) (by decide))
              have J3 := Lib.hid (fun W => rput9_at Y 4 Y 4 rfl rfl W (by omega) (by decide))
              have HFIN := Lib.hid (show str (preW l k) ++ (str (leL 4 a) ++ str (leL 4 b) ++ str (leL 4 D.size) ++ str (leL 4 Y) ++ D) = str (preW l k1) by
                rw [HPN.out, ← HD.out, str_app5, str_size, ha, hbb, hb0]
                rfl)
              have HPL1 := Lib.hid (show (preW l k1).length ≤ 24 + 4112 * k1 by
                rw [HPN.out, List.length_append, wRec_len]
                have h1 := HPL.out
                have h2 := HK1.out
                have h3 : dat.length ≤ 4096 := by have := HSO.out; omega
                simp only
                omega)
              have u4 := leL_length 4 a
              have u5 := leL_length 4 b
              have u6 := leL_length 4 D.size
              have u7 := leL_length 4 Y
              have zS : (str (preW l k)).size ≤ 8300000 := by rw [str_size]; have := HPL.out; omega
              have z0 : (str (leL 4 a)).size ≤ 4 := by rw [str_size]; omega
              have z1 : (str (leL 4 b)).size ≤ 4 := by rw [str_size]; omega
              have z2 : (str (leL 4 D.size)).size ≤ 4 := by rw [str_size]; omega
              have z3 : (str (leL 4 Y)).size ≤ 4 := by rw [str_size]; omega
              clear ha hb0 hbb u4 u5 u6 u7 HPN
              generalize str (preW l k) = S at *
              generalize str (leL 4 a) = P0 at *
              generalize str (leL 4 b) = P1 at *
              generalize str (leL 4 D.size) = P2 at *
              generalize str (leL 4 Y) = P3 at *
              have q0 := add_ok9 z0 z1 (by omega)
              have q1 := add_ok9 (add_size9 z0 z1) z2 (by omega)
              have q2 := add_ok9 (add_size9 (add_size9 z0 z1) z2) z3 (by omega)
              have q3 := add_ok9 (add_size9 (add_size9 (add_size9 z0 z1) z2) z3) hD4 (by omega)
              have q4 := add_ok9 zS (add_size9 (add_size9 (add_size9 (add_size9 z0 z1) z2) z3) hD4) (by omega)
              have r1 : (9223372036854775807 < P0.size + P1.size + P2.size) = False := by simp only [eq_iff_iff, iff_false]; omega
              have r2 : (9223372036854775807 < P0.size + P1.size + P2.size + P3.size) = False := by simp only [eq_iff_iff, iff_false]; omega
              have r3 : (9223372036854775807 < P0.size + P1.size + P2.size + P3.size + D.size) = False := by simp only [eq_iff_iff, iff_false]; omega
              have r4 : (9223372036854775807 < S.size + (P0.size + P1.size + P2.size + P3.size + D.size)) = False := by simp only [eq_iff_iff, iff_false]; omega
              refine wp_region_pick (fun w' => Below w2.heap.size w2 w') (by kernel_rfl) (by kernel_rfl) (Below.refl _ _) ⟨rfl, rfl, rfl, Nat.le_refl _, fun _ _ => rfl⟩ (fun pw hp hq => ?_)
              have pp0 : ∀ u, (pw u).cell? ⟨gb, 0, none⟩ = some (.int .i64 (T : Int)) := fun u => (Cells.cell (show Cells (pw u) gb 33 #[.int .i64 (T : Int), .int .i64 (Y : Int), .string D] from ((hp u).block gb HX2.out.lt).trans HX2.out) 0).trans rfl
              have pp1 : ∀ u, (pw u).cell? ⟨gb, 1, none⟩ = some (.int .i64 (Y : Int)) := fun u => (Cells.cell (show Cells (pw u) gb 33 #[.int .i64 (T : Int), .int .i64 (Y : Int), .string D] from ((hp u).block gb HX2.out.lt).trans HX2.out) 1).trans rfl
              have pp2 : ∀ u, (pw u).cell? ⟨gb, 2, none⟩ = some (.string D) := fun u => (Cells.cell (show Cells (pw u) gb 33 #[.int .i64 (T : Int), .int .i64 (Y : Int), .string D] from ((hp u).block gb HX2.out.lt).trans HX2.out) 2).trans rfl
              have HP := Lib.hid hp
              have HQ := Lib.hid hq
              clear hp hq
              repeat (go_big_quiet_step ((first | with_reducible exact Calls.pick_of HQ.out (fun W' hb => (HP.out _).trans (hb.mono (HP.out _).size)) (J0.out _) | with_reducible exact Calls.pick_of HQ.out (fun W' hb => (HP.out _).trans (hb.mono (HP.out _).size)) (J1.out _) | with_reducible exact Calls.pick_of HQ.out (fun W' hb => (HP.out _).trans (hb.mono (HP.out _).size)) (J2.out _) | with_reducible exact Calls.pick_of HQ.out (fun W' hb => (HP.out _).trans (hb.mono (HP.out _).size)) (J3.out _))))
              refine wpQuiet_nil ?_
              rintro _ ⟨u, rfl⟩
              have HX3 := Lib.hid (show Cells (pw u) gb 33 #[.int .i64 (T : Int), .int .i64 (Y : Int), .string D] from ((HP.out u).block gb HX2.out.lt).trans HX2.out)
              have HB3 := Lib.hid (HB2.out.trans ((HP.out u).mono HB2.out.size))
              generalize pw u = w3 at *
              clear HP HQ pp0 pp1 pp2 HX2 HB2
              go_wp2_with fail
              go_roundw
              case rel => exact ⟨k1, by rw [← HFIN.out], by go_num, k1n, HPL1, HWN, HB3⟩
              case measure => have := HK1.out; simp [intOf]; omega
            · have dk : decide ((0 : Int) < (k : Int)) = true := by simp; omega
              have nk : (0 : Int) < (k : Int) := by omega
              have nk2 : 0 < k := by omega
              have dk2 : decide (0 < k) = true := by simp; omega
              obtain ⟨kp, hkp⟩ : ∃ kp, k = kp + 1 := ⟨k - 1, by omega⟩
              obtain ⟨t, ht, hrow⟩ := HLAST.out kp hkp
              have kpi : (k : Int) - 1 = (kp : Int) := by omega
              have kpn : (kp : Int) < (n : Int) := by omega
              have hrow2 := Lib.hid hrow
              have HE3 := Lib.hid (show E1 = if (T : Int) < t then 12 else 0 by rw [HE2.out, ht]; rfl)
              clear HE2 HPZ HLAST hkp ht hrow
              by_cases hlt2 : (T : Int) < t
              · have hR2 := Lib.hid (HBAD.out 11 (by rw [HE3.out, if_pos hlt2]))
                have dt : decide ((T : Int) < t) = true := by simp; omega
                clear HBAD HE3
                refine wp_region_pick (fun w' => Below W1.heap.size W1 w') (by kernel_rfl) (by kernel_rfl) (Below.refl _ _) ⟨rfl, rfl, rfl, Nat.le_refl _, fun _ _ => rfl⟩ (fun pw hp hq => ?_)
                have pp0 : ∀ u, (pw u).cell? ⟨gb, 0, none⟩ = some (.int .i64 (T : Int)) := fun u => (Cells.cell (show Cells (pw u) gb 33 #[.int .i64 (T : Int), .int .i64 (Y : Int), .string D] from ((hp u).block gb HX1.out.lt).trans HX1.out) 0).trans rfl
                have pp1 : ∀ u, (pw u).cell? ⟨g, ob + kp * 3, none⟩ = some (.int .i64 t) := fun u => hrow2.out _ (HB1.out.trans ((hp u).mono HB1.out.size))
                have HP := Lib.hid hp
                have HQ := Lib.hid hq
                clear hp hq
                repeat (go_big_quiet_step ((first | fail)))
                refine wpQuiet_nil ?_
                rintro _ ⟨u, rfl⟩
                have HX2 := Lib.hid (show Cells (pw u) gb 33 #[.int .i64 (T : Int), .int .i64 (Y : Int), .string D] from ((HP.out u).block gb HX1.out.lt).trans HX1.out)
                have HB2 := Lib.hid (HB1.out.trans ((HP.out u).mono HB1.out.size))
                generalize pw u = w2 at *
                clear HP HQ pp0 pp1 HX1 HB1
                go_wp2_with fail
                go_ret2
                exact ⟨by rw [hR2.out]; rfl, HB2.out⟩
              · have hz := Lib.hid (show E1 = 0 by rw [HE3.out, if_neg hlt2])
                have dt : decide ((T : Int) < t) = false := by simp; omega
                clear HBAD HE3
                refine wp_region_pick (fun w' => Below W1.heap.size W1 w') (by kernel_rfl) (by kernel_rfl) (Below.refl _ _) ⟨rfl, rfl, rfl, Nat.le_refl _, fun _ _ => rfl⟩ (fun pw hp hq => ?_)
                have pp0 : ∀ u, (pw u).cell? ⟨gb, 0, none⟩ = some (.int .i64 (T : Int)) := fun u => (Cells.cell (show Cells (pw u) gb 33 #[.int .i64 (T : Int), .int .i64 (Y : Int), .string D] from ((hp u).block gb HX1.out.lt).trans HX1.out) 0).trans rfl
                have pp1 : ∀ u, (pw u).cell? ⟨g, ob + kp * 3, none⟩ = some (.int .i64 t) := fun u => hrow2.out _ (HB1.out.trans ((hp u).mono HB1.out.size))
                have HP := Lib.hid hp
                have HQ := Lib.hid hq
                clear hp hq
                repeat (go_big_quiet_step ((first | fail)))
                refine wpQuiet_nil ?_
                rintro _ ⟨u, rfl⟩
                have HX2 := Lib.hid (show Cells (pw u) gb 33 #[.int .i64 (T : Int), .int .i64 (Y : Int), .string D] from ((HP.out u).block gb HX1.out.lt).trans HX1.out)
                have HB2 := Lib.hid (HB1.out.trans ((HP.out u).mono HB1.out.size))
                generalize pw u = w2 at *
                clear HP HQ pp0 pp1 HX1 HB1
                go_wp2_with fail
                have HWN := Lib.hid (show wErr none l = wErr (prevW l k1) (l.drop k1) by rw [HWE.out, HWS.out, hz.out, if_neg (by decide)])
                obtain ⟨a, ha⟩ : ∃ a, a = T / 1000 := ⟨_, rfl⟩
                obtain ⟨b0, hb0⟩ : ∃ b, b = T % 1000 := ⟨_, rfl⟩
                obtain ⟨b, hbb⟩ : ∃ b1, b1 = b0 * 1000 := ⟨_, rfl⟩
                have ka : (T : Int) / 1000 = (a : Int) := by omega
                have kb0 : (T : Int) % 1000 = (b0 : Int) := by omega
                have kb : (b0 : Int) * 1000 = (b : Int) := by omega
                have hb0l : b0 < 1000 := by omega
                have hbl : b < 1000000 := by omega
                have hal : a ≤ 1099511628 := by omega
                have xb : IntKind.i64.wrap ((b0 : Int) * 1000) = (b : Int) := by rw [IntKind.wrap_i64]; omega
                have yb : IntKind.i64.wrap (b : Int) = (b : Int) := by rw [IntKind.wrap_i64]; omega
                have J0 := Lib.hid (fun W => rput9_at a 4 a 4 rfl rfl W (by omega) (by decide))
                have J1 := Lib.hid (fun W => rput9_at b 4 b 4 rfl rfl W (by omega) (by decide))
                have J2 := Lib.hid (fun W => rput9_at D.size 4 D.size 4 rfl rfl W (by omega) (by decide))
                have J3 := Lib.hid (fun W => rput9_at Y 4 Y 4 rfl rfl W (by omega) (by decide))
                have HFIN := Lib.hid (show str (preW l k) ++ (str (leL 4 a) ++ str (leL 4 b) ++ str (leL 4 D.size) ++ str (leL 4 Y) ++ D) = str (preW l k1) by
                  rw [HPN.out, ← HD.out, str_app5, str_size, ha, hbb, hb0]
                  rfl)
                have HPL1 := Lib.hid (show (preW l k1).length ≤ 24 + 4112 * k1 by
                  rw [HPN.out, List.length_append, wRec_len]
                  have h1 := HPL.out
                  have h2 := HK1.out
                  have h3 : dat.length ≤ 4096 := by have := HSO.out; omega
                  simp only
                  omega)
                have u4 := leL_length 4 a
                have u5 := leL_length 4 b
                have u6 := leL_length 4 D.size
                have u7 := leL_length 4 Y
                have zS : (str (preW l k)).size ≤ 8300000 := by rw [str_size]; have := HPL.out; omega
                have z0 : (str (leL 4 a)).size ≤ 4 := by rw [str_size]; omega
                have z1 : (str (leL 4 b)).size ≤ 4 := by rw [str_size]; omega
                have z2 : (str (leL 4 D.size)).size ≤ 4 := by rw [str_size]; omega
                have z3 : (str (leL 4 Y)).size ≤ 4 := by rw [str_size]; omega
                clear ha hb0 hbb u4 u5 u6 u7 HPN
                generalize str (preW l k) = S at *
                generalize str (leL 4 a) = P0 at *
                generalize str (leL 4 b) = P1 at *
                generalize str (leL 4 D.size) = P2 at *
                generalize str (leL 4 Y) = P3 at *
                have q0 := add_ok9 z0 z1 (by omega)
                have q1 := add_ok9 (add_size9 z0 z1) z2 (by omega)
                have q2 := add_ok9 (add_size9 (add_size9 z0 z1) z2) z3 (by omega)
                have q3 := add_ok9 (add_size9 (add_size9 (add_size9 z0 z1) z2) z3) hD4 (by omega)
                have q4 := add_ok9 zS (add_size9 (add_size9 (add_size9 (add_size9 z0 z1) z2) z3) hD4) (by omega)
                have r1 : (9223372036854775807 < P0.size + P1.size + P2.size) = False := by simp only [eq_iff_iff, iff_false]; omega
                have r2 : (9223372036854775807 < P0.size + P1.size + P2.size + P3.size) = False := by simp only [eq_iff_iff, iff_false]; omega
                have r3 : (9223372036854775807 < P0.size + P1.size + P2.size + P3.size + D.size) = False := by simp only [eq_iff_iff, iff_false]; omega
                have r4 : (9223372036854775807 < S.size + (P0.size + P1.size + P2.size + P3.size + D.size)) = False := by simp only [eq_iff_iff, iff_false]; omega
                refine wp_region_pick (fun w' => Below w2.heap.size w2 w') (by kernel_rfl) (by kernel_rfl) (Below.refl _ _) ⟨rfl, rfl, rfl, Nat.le_refl _, fun _ _ => rfl⟩ (fun pw hp hq => ?_)
                have pp0 : ∀ u, (pw u).cell? ⟨gb, 0, none⟩ = some (.int .i64 (T : Int)) := fun u => (Cells.cell (show Cells (pw u) gb 33 #[.int .i64 (T : Int), .int .i64 (Y : Int), .string D] from ((hp u).block gb HX2.out.lt).trans HX2.out) 0).trans rfl
                have pp1 : ∀ u, (pw u).cell? ⟨gb, 1, none⟩ = some (.int .i64 (Y : Int)) := fun u => (Cells.cell (show Cells (pw u) gb 33 #[.int .i64 (T : Int), .int .i64 (Y : Int), .string D] from ((hp u).block gb HX2.out.lt).trans HX2.out) 1).trans rfl
                have pp2 : ∀ u, (pw u).cell? ⟨gb, 2, none⟩ = some (.string D) := fun u => (Cells.cell (show Cells (pw u) gb 33 #[.int .i64 (T : Int), .int .i64 (Y : Int), .string D] from ((hp u).block gb HX2.out.lt).trans HX2.out) 2).trans rfl
                have HP := Lib.hid hp
                have HQ := Lib.hid hq
                clear hp hq
                repeat (go_big_quiet_step ((first | with_reducible exact Calls.pick_of HQ.out (fun W' hb => (HP.out _).trans (hb.mono (HP.out _).size)) (J0.out _) | with_reducible exact Calls.pick_of HQ.out (fun W' hb => (HP.out _).trans (hb.mono (HP.out _).size)) (J1.out _) | with_reducible exact Calls.pick_of HQ.out (fun W' hb => (HP.out _).trans (hb.mono (HP.out _).size)) (J2.out _) | with_reducible exact Calls.pick_of HQ.out (fun W' hb => (HP.out _).trans (hb.mono (HP.out _).size)) (J3.out _))))
                refine wpQuiet_nil ?_
                rintro _ ⟨u, rfl⟩
                have HX3 := Lib.hid (show Cells (pw u) gb 33 #[.int .i64 (T : Int), .int .i64 (Y : Int), .string D] from ((HP.out u).block gb HX2.out.lt).trans HX2.out)
                have HB3 := Lib.hid (HB2.out.trans ((HP.out u).mono HB2.out.size))
                generalize pw u = w3 at *
                clear HP HQ pp0 pp1 pp2 HX2 HB2
                go_wp2_with fail
                go_roundw
                case rel => exact ⟨k1, by rw [← HFIN.out], by go_num, k1n, HPL1, HWN, HB3⟩
                case measure => have := HK1.out; simp [intOf]; omega
      · have dlt : decide ((k : Int) < (n : Int)) = false := by simp; omega
        have nlt : ¬ (k : Int) < (n : Int) := by omega
        have hkl : k = l.length := by have := HN.out; omega
        have HF := Lib.hid (show R = (preW l k, 0) by
          rw [HR1.out, HWE.out, hkl, List.drop_length, if_neg (by simp [wErr])]
          unfold preW
          rw [List.take_length])
        clear hkl hk1'
        go_wp2_with fail
        go_ret2
        exact ⟨by rw [HF.out]; rfl, HBr.out⟩
end Go.Proofs.Ytnckcdngmffahaa

/- Contracts of the reference of layer 9: Merge, Same, Long. -/
namespace Go.Proofs.Ytnckcdngmffahaa
open Go.ChangeShapes Go.WideShapes Go.ChangeAt Go.RowKit
set_option linter.unusedVariables false

theorem rec_at9 {w0 w : World} {g ob : Nat} {l : List CRec} {k : Nat} {x : CRec} (h : RowL ERec w0 (some ⟨g, ob, none⟩) l) (hx : l[k]? = some x) (hb : Below w0.heap.size w0 w) :
    w.cell? ⟨g, ob + k * 3, none⟩ = some (.int .i64 x.tm) ∧ w.cell? ⟨g, ob + k * 3 + 1, none⟩ = some (.int .i64 x.sz) ∧ w.cell? ⟨g, ob + k * 3 + 2, none⟩ = some (.string (str x.dat)) :=
  ⟨h.at_ hx hb 0 _ rfl, h.at_ hx hb 1 _ rfl, h.at_ hx hb 2 _ rfl⟩
theorem RowL.shape9 {w : World} {A : Option Addr} {l : List CRec} (h : RowL ERec w A l) (hp : 0 < l.length) : ∃ g ob, A = some ⟨g, ob, none⟩ ∧ g < w.heap.size := by
  obtain ⟨g, ob, e, hg, _⟩ := h hp
  exact ⟨g, ob, e, hg⟩
theorem below_drewN9 {b : Nat} {w w' : World} (h : Below b w w') (q : Nat) : Below b w (w'.drewN q) := ⟨h.os, h.tape, h.output, h.size, h.block⟩
/-- What is left of two lists. -/
theorem merge_a {l m : List CRec} {i k : Nat} {x : CRec} (hx : l[i]? = some x) (hk : m.length ≤ k) : mergeC (l.drop i) (m.drop k) = x :: mergeC (l.drop (i + 1)) (m.drop k) := by
  obtain ⟨hi, rfl⟩ := List.getElem?_eq_some_iff.1 hx
  rw [List.drop_eq_nil_of_le hk, merge_nil, merge_nil, List.drop_eq_getElem_cons hi]
theorem merge_ab {l m : List CRec} {i k : Nat} {x y : CRec} (hx : l[i]? = some x) (hy : m[k]? = some y) : mergeC (l.drop i) (m.drop k) = if x.tm ≤ y.tm then x :: mergeC (l.drop (i + 1)) (m.drop k) else y :: mergeC (l.drop i) (m.drop (k + 1)) := by
  obtain ⟨hi, rfl⟩ := List.getElem?_eq_some_iff.1 hx
  obtain ⟨hk, rfl⟩ := List.getElem?_eq_some_iff.1 hy
  rw [List.drop_eq_getElem_cons hi, List.drop_eq_getElem_cons hk, mergeC]
theorem merge_b {l m : List CRec} {i k : Nat} {y : CRec} (hi : l.length ≤ i) (hy : m[k]? = some y) : mergeC (l.drop i) (m.drop k) = y :: mergeC (l.drop i) (m.drop (k + 1)) := by
  obtain ⟨hk, rfl⟩ := List.getElem?_eq_some_iff.1 hy
  rw [List.drop_eq_nil_of_le hi, nil_merge, nil_merge, List.drop_eq_getElem_cons hk]
/-- What Merge leaves. -/
def MrgP (w : World) (l : List CRec) (e : Ending) (w' : World) : Prop :=
  ∃ A cap, e = .returned (.slice A l.length cap) ∧ w'.ownsRow w.heap.size 33 3 (.slice A l.length cap) l.length (ERec.cells l) ∧ Below w.heap.size w w'
set_option maxHeartbeats 8000000 in
set_option maxRecDepth 20000 in
theorem rmerge9_any (A B : Option Addr) (ca cb : Nat) (l m : List CRec) (w : World) (h1 : RowL ERec w A l) (h2 : RowL ERec w B m) (hl : l.length + m.length ≤ 1000000) :
    Calls Try.prog 19 #[.slice A l.length ca, .slice B m.length cb] w (MrgP w (mergeC l m)) := by
  obtain ⟨R, hR⟩ : ∃ R, R = mergeC l m := ⟨_, rfl⟩
  rw [← hR]
  obtain ⟨p, hp⟩ : ∃ p, p = l.length := ⟨_, rfl⟩
  obtain ⟨q, hq⟩ : ∃ q, q = m.length := ⟨_, rfl⟩
  rw [← hp, ← hq] at hl ⊢
  have HRL := Lib.hid (show R.length = p + q by rw [hR, merge_len, hp, hq])
  have HR0 := Lib.hid (show R = ([] : List CRec) ++ mergeC (l.drop 0) (m.drop 0) by rw [hR]; rfl)
  have HPL := Lib.hid hp
  have HQL := Lib.hid hq
  have H1 := Lib.hid h1
  have H2 := Lib.hid h2
  clear hR hp hq h1 h2
  go_enter Try.func19, Try.ntmps19
  go_wp2_with fail
  go_loopw [5, 6, 7] (fun v5 v6 v7 wr => ∃ (i k n : Nat) (A' : Option Addr) (c' : Nat) (out : List CRec), v5 = .slice A' n c' ∧ v6 = .int .i64 i ∧ v7 = .int .i64 k ∧ i ≤ p ∧ k ≤ q ∧ Hid (n = i + k) ∧ Hid (R = out ++ mergeC (l.drop i) (m.drop k)) ∧ Hid (wr.ownsRow w.heap.size 33 3 (.slice A' n c') n (ERec.cells out)) ∧ Hid (Below w.heap.size w wr)) (fun _ v6 v7 _ => (p - (intOf v6).toNat) + (q - (intOf v7).toNat))
  case atStart => exact ⟨0, 0, 0, none, 0, [], rfl, rfl, rfl, Nat.zero_le _, Nat.zero_le _, Lib.hid rfl, HR0, Lib.hid (World.ownsRow_nil w _ _ _), Lib.hid (Below.refl _ _)⟩
  case round =>
    clear HR0
    obtain ⟨i, k, n, A', c', out, rfl, rfl, rfl, hip, hkq, hn, HRR, HO, HB⟩ := hrel
    obtain ⟨i1, hi1⟩ : ∃ i1, i1 = i + 1 := ⟨_, rfl⟩
    obtain ⟨k1, hk1⟩ : ∃ k1, k1 = k + 1 := ⟨_, rfl⟩
    have i1i : (i : Int) + 1 = (i1 : Int) := by omega
    have k1i : (k : Int) + 1 = (k1 : Int) := by omega
    have HI1 := Lib.hid hi1
    have HK1 := Lib.hid hk1
    clear hi1 hk1
    have hi0 : (0 : Int) ≤ (i : Int) := by omega
    have hk0 : (0 : Int) ≤ (k : Int) := by omega
    by_cases hi : i < p
    · have di : decide ((i : Int) < (p : Int)) = true := by simp; omega
      have hii : (i : Int) < (p : Int) := by omega
      have hn7 : n + 1 ≤ 1000000 := by have := hn.out; omega
      obtain ⟨x, hx⟩ : ∃ x, l[i]? = some x := ⟨l[i]'(by have := HPL.out; omega), List.getElem?_eq_getElem _⟩
      obtain ⟨ga, oa, rfl, hga⟩ := H1.out.shape9 (by have := HPL.out; omega)
      have HXC := Lib.hid (fun (W : World) (hb : Below w.heap.size w W) => rec_at9 H1.out hx hb)
      by_cases hk : k < q
      · have dk : decide ((k : Int) < (q : Int)) = true := by simp; omega
        have hki : (k : Int) < (q : Int) := by omega
        have ek : ((k : Int) == (q : Int)) = false := by rw [beq_eq_false_iff_ne]; omega
        have nk : ¬ (k : Int) = (q : Int) := by omega
        obtain ⟨y, hy⟩ : ∃ y, m[k]? = some y := ⟨m[k]'(by have := HQL.out; omega), List.getElem?_eq_getElem _⟩
        obtain ⟨gb, ob, rfl, hgb⟩ := H2.out.shape9 (by have := HQL.out; omega)
        have HYC := Lib.hid (fun (W : World) (hb : Below w.heap.size w W) => rec_at9 H2.out hy hb)
        have HM := Lib.hid (merge_ab hx hy)
        obtain ⟨xt, xs, xd⟩ := x
        obtain ⟨yt, ys, yd⟩ := y
        simp only at HXC HYC HM
        by_cases hle : xt ≤ yt
        · have dle : decide (xt ≤ yt) = true := by simp; omega
          have HN := Lib.hid (show R = (out ++ [⟨xt, xs, xd⟩]) ++ mergeC (l.drop i1) (m.drop k) by rw [HRR.out, HM.out, if_pos hle, HI1.out]; simp)
          clear HM HRR hx hy
          go_wp2_with fail
          refine wp_region_pick (fun w' => Below wr.heap.size wr w') (by kernel_rfl) (by kernel_rfl) (Below.refl _ _) ⟨rfl, rfl, rfl, Nat.le_refl _, fun _ _ => rfl⟩ (fun pw hp hq => ?_)
          have pp0 : ∀ u, (pw u).cell? ⟨ga, oa + i * 3, none⟩ = some (.int .i64 xt) := fun u => (HXC.out _ (HB.out.trans ((hp u).mono HB.out.size))).1
          have pp1 : ∀ u, (pw u).cell? ⟨gb, ob + k * 3, none⟩ = some (.int .i64 yt) := fun u => (HYC.out _ (HB.out.trans ((hp u).mono HB.out.size))).1
          have HP := Lib.hid hp
          have HQ := Lib.hid hq
          clear hp hq
          repeat (go_big_quiet_step (fail))
          refine wpQuiet_nil ?_
          rintro _ ⟨u, rfl⟩
          have HB2 := Lib.hid (HB.out.trans ((HP.out u).mono HB.out.size))
          have HO2 := Lib.hid (own_kept HO.out (HP.out u) (Nat.le_refl _))
          generalize pw u = w2 at *
          clear HP HQ pp0 pp1 HO HB
          obtain ⟨c0, c1, c2⟩ := HXC.out _ HB2.out
          have HCS := Lib.hid (show (#[.int .i64 xt, .int .i64 xs, .string (str xd)] : Array Value).toList = ERec.cells [⟨xt, xs, xd⟩] from rfl)
          obtain ⟨D, hD⟩ : ∃ D, D = str xd := ⟨_, rfl⟩
          rw [← hD] at c2 HCS
          clear hD
          go_wp2_with (at_builtin; refine wpList_push (E := ERec) rcTy (by rfl) _ _ (by rfl) w.heap.size _ n out [⟨xt, xs, xd⟩] (by rfl) (HO2.out.alloc _) _ 1 1 #[.int .i64 xt, .int .i64 xs, .string D] (0, 0) (by rfl) (heap_alloc_new _ _) HCS.out rfl (by omega) (by omega) (by decide) ?hb ?_)
          case hb => have := HB2.out.size; simp; omega
          intro g2 cap2 w9 hown hgrow hat hlt2
          have HB9 := Lib.hid ((HB2.out.alloc HB2.out.size (.cells #[.int .i64 xt, .int .i64 xs, .string D] 33)).grown hgrow (by have := HB2.out.size; simp; omega) (fun j hj => (HO2.out.lt j hj).1))
          have HO9 := Lib.hid hown
          clear hown hgrow hat hlt2 HB2 HO2 c0 c1 c2
          go_wp2_with fail
          go_roundw
          case rel => exact ⟨i1, k, n + 1, some ⟨g2, 0, none⟩, cap2, _, rfl, by go_num, rfl, by omega, by omega, Lib.hid (by have := hn.out; omega), HN, HO9, HB9⟩
          case measure => simp [intOf]; omega
        · have dle : decide (xt ≤ yt) = false := by simp; omega
          have HN := Lib.hid (show R = (out ++ [⟨yt, ys, yd⟩]) ++ mergeC (l.drop i) (m.drop k1) by rw [HRR.out, HM.out, if_neg hle, HK1.out]; simp)
          clear HM HRR hx hy
          go_wp2_with fail
          refine wp_region_pick (fun w' => Below wr.heap.size wr w') (by kernel_rfl) (by kernel_rfl) (Below.refl _ _) ⟨rfl, rfl, rfl, Nat.le_refl _, fun _ _ => rfl⟩ (fun pw hp hq => ?_)
          have pp0 : ∀ u, (pw u).cell? ⟨ga, oa + i * 3, none⟩ = some (.int .i64 xt) := fun u => (HXC.out _ (HB.out.trans ((hp u).mono HB.out.size))).1
          have pp1 : ∀ u, (pw u).cell? ⟨gb, ob + k * 3, none⟩ = some (.int .i64 yt) := fun u => (HYC.out _ (HB.out.trans ((hp u).mono HB.out.size))).1
          have HP := Lib.hid hp
          have HQ := Lib.hid hq
          clear hp hq
          repeat (go_big_quiet_step (fail))
          refine wpQuiet_nil ?_
          rintro _ ⟨u, rfl⟩
          have HB2 := Lib.hid (HB.out.trans ((HP.out u).mono HB.out.size))
          have HO2 := Lib.hid (own_kept HO.out (HP.out u) (Nat.le_refl _))
          generalize pw u = w2 at *
          clear HP HQ pp0 pp1 HO HB
          obtain ⟨c0, c1, c2⟩ := HYC.out _ HB2.out
          have HCS := Lib.hid (show (#[.int .i64 yt, .int .i64 ys, .string (str yd)] : Array Value).toList = ERec.cells [⟨yt, ys, yd⟩] from rfl)
          obtain ⟨D, hD⟩ : ∃ D, D = str yd := ⟨_, rfl⟩
          rw [← hD] at c2 HCS
          clear hD
          go_wp2_with (at_builtin; refine wpList_push (E := ERec) rcTy (by rfl) _ _ (by rfl) w.heap.size _ n out [⟨yt, ys, yd⟩] (by rfl) (HO2.out.alloc _) _ 1 1 #[.int .i64 yt, .int .i64 ys, .string D] (0, 0) (by rfl) (heap_alloc_new _ _) HCS.out rfl (by omega) (by omega) (by decide) ?hb ?_)
          case hb => have := HB2.out.size; simp; omega
          intro g2 cap2 w9 hown hgrow hat hlt2
          have HB9 := Lib.hid ((HB2.out.alloc HB2.out.size (.cells #[.int .i64 yt, .int .i64 ys, .string D] 33)).grown hgrow (by have := HB2.out.size; simp; omega) (fun j hj => (HO2.out.lt j hj).1))
          have HO9 := Lib.hid hown
          clear hown hgrow hat hlt2 HB2 HO2 c0 c1 c2
          go_wp2_with fail
          go_roundw
          case rel => exact ⟨i, k1, n + 1, some ⟨g2, 0, none⟩, cap2, _, rfl, rfl, by go_num, by omega, by omega, Lib.hid (by have := hn.out; omega), HN, HO9, HB9⟩
          case measure => simp [intOf]; omega
      · have dk : decide ((k : Int) < (q : Int)) = false := by simp; omega
        have nk : ¬ (k : Int) < (q : Int) := by omega
        have ek : ((k : Int) == (q : Int)) = true := by rw [beq_iff_eq]; omega
        have HN := Lib.hid (show R = (out ++ [x]) ++ mergeC (l.drop i1) (m.drop k) by rw [HRR.out, merge_a hx (by have := HQL.out; omega), HI1.out]; simp)
        obtain ⟨xt, xs, xd⟩ := x
        simp only at HXC
        clear HRR hx
        go_wp2_with fail
        refine wp_region_pick (fun w' => Below wr.heap.size wr w') (by kernel_rfl) (by kernel_rfl) (Below.refl _ _) ⟨rfl, rfl, rfl, Nat.le_refl _, fun _ _ => rfl⟩ (fun pw hp hq => ?_)
        have HP := Lib.hid hp
        have HQ := Lib.hid hq
        clear hp hq
        repeat (go_big_quiet_step (fail))
        refine wpQuiet_nil ?_
        rintro _ ⟨u, rfl⟩
        have HB2 := Lib.hid (HB.out.trans ((HP.out u).mono HB.out.size))
        have HO2 := Lib.hid (own_kept HO.out (HP.out u) (Nat.le_refl _))
        generalize pw u = w2 at *
        clear HP HQ HO HB
        obtain ⟨c0, c1, c2⟩ := HXC.out _ HB2.out
        have HCS := Lib.hid (show (#[.int .i64 xt, .int .i64 xs, .string (str xd)] : Array Value).toList = ERec.cells [⟨xt, xs, xd⟩] from rfl)
        obtain ⟨D, hD⟩ : ∃ D, D = str xd := ⟨_, rfl⟩
        rw [← hD] at c2 HCS
        clear hD
        go_wp2_with (at_builtin; refine wpList_push (E := ERec) rcTy (by rfl) _ _ (by rfl) w.heap.size _ n out [⟨xt, xs, xd⟩] (by rfl) (HO2.out.alloc _) _ 1 1 #[.int .i64 xt, .int .i64 xs, .string D] (0, 0) (by rfl) (heap_alloc_new _ _) HCS.out rfl (by omega) (by omega) (by decide) ?hb ?_)
        case hb => have := HB2.out.size; simp; omega
        intro g2 cap2 w9 hown hgrow hat hlt2
        have HB9 := Lib.hid ((HB2.out.alloc HB2.out.size (.cells #[.int .i64 xt, .int .i64 xs, .string D] 33)).grown hgrow (by have := HB2.out.size; simp; omega) (fun j hj => (HO2.out.lt j hj).1))
        have HO9 := Lib.hid hown
        clear hown hgrow hat hlt2 HB2 HO2 c0 c1 c2
        go_wp2_with fail
        go_roundw
        case rel => exact ⟨i1, k, n + 1, some ⟨g2, 0, none⟩, cap2, _, rfl, by go_num, rfl, by omega, by omega, Lib.hid (by have := hn.out; omega), HN, HO9, HB9⟩
        case measure => simp [intOf]; omega
    · have di : decide ((i : Int) < (p : Int)) = false := by simp; omega
      have ni : ¬ (i : Int) < (p : Int) := by omega
      by_cases hk : k < q
      · have dk : decide ((k : Int) < (q : Int)) = true := by simp; omega
        have hki : (k : Int) < (q : Int) := by omega
        have hn7 : n + 1 ≤ 1000000 := by have := hn.out; omega
        have ek : ((k : Int) == (q : Int)) = false := by rw [beq_eq_false_iff_ne]; omega
        have nk : ¬ (k : Int) = (q : Int) := by omega
        obtain ⟨y, hy⟩ : ∃ y, m[k]? = some y := ⟨m[k]'(by have := HQL.out; omega), List.getElem?_eq_getElem _⟩
        obtain ⟨gb, ob, rfl, hgb⟩ := H2.out.shape9 (by have := HQL.out; omega)
        have HYC := Lib.hid (fun (W : World) (hb : Below w.heap.size w W) => rec_at9 H2.out hy hb)
        have HN := Lib.hid (show R = (out ++ [y]) ++ mergeC (l.drop i) (m.drop k1) by rw [HRR.out, merge_b (by have := HPL.out; omega) hy, HK1.out]; simp)
        obtain ⟨yt, ys, yd⟩ := y
        simp only at HYC
        clear HRR hy
        go_wp2_with fail
        refine wp_region_pick (fun w' => Below wr.heap.size wr w') (by kernel_rfl) (by kernel_rfl) (Below.refl _ _) ⟨rfl, rfl, rfl, Nat.le_refl _, fun _ _ => rfl⟩ (fun pw hp hq => ?_)
        have HP := Lib.hid hp
        have HQ := Lib.hid hq
        clear hp hq
        repeat (go_big_quiet_step (fail))
        refine wpQuiet_nil ?_
        rintro _ ⟨u, rfl⟩
        have HB2 := Lib.hid (HB.out.trans ((HP.out u).mono HB.out.size))
        have HO2 := Lib.hid (own_kept HO.out (HP.out u) (Nat.le_refl _))
        generalize pw u = w2 at *
        clear HP HQ HO HB
        obtain ⟨c0, c1, c2⟩ := HYC.out _ HB2.out
        have HCS := Lib.hid (show (#[.int .i64 yt, .int .i64 ys, .string (str yd)] : Array Value).toList = ERec.cells [⟨yt, ys, yd⟩] from rfl)
        obtain ⟨D, hD⟩ : ∃ D, D = str yd := ⟨_, rfl⟩
        rw [← hD] at c2 HCS
        clear hD
        go_wp2_with (at_builtin; refine wpList_push (E := ERec) rcTy (by rfl) _ _ (by rfl) w.heap.size _ n out [⟨yt, ys, yd⟩] (by rfl) (HO2.out.alloc _) _ 1 1 #[.int .i64 yt, .int .i64 ys, .string D] (0, 0) (by rfl) (heap_alloc_new _ _) HCS.out rfl (by omega) (by omega) (by decide) ?hb ?_)
        case hb => have := HB2.out.size; simp; omega
        intro g2 cap2 w9 hown hgrow hat hlt2
        have HB9 := Lib.hid ((HB2.out.alloc HB2.out.size (.cells #[.int .i64 yt, .int .i64 ys, .string D] 33)).grown hgrow (by have := HB2.out.size; simp; omega) (fun j hj => (HO2.out.lt j hj).1))
        have HO9 := Lib.hid hown
        clear hown hgrow hat hlt2 HB2 HO2 c0 c1 c2
        go_wp2_with fail
        go_roundw
        case rel => exact ⟨i, k1, n + 1, some ⟨g2, 0, none⟩, cap2, _, rfl, rfl, by go_num, by omega, by omega, Lib.hid (by have := hn.out; omega), HN, HO9, HB9⟩
        case measure => simp [intOf]; omega
      · have dk : decide ((k : Int) < (q : Int)) = false := by simp; omega
        have nk : ¬ (k : Int) < (q : Int) := by omega
        have HF := Lib.hid (show R = out by rw [HRR.out, List.drop_eq_nil_of_le (by have := HPL.out; omega), nil_merge, List.drop_eq_nil_of_le (by have := HQL.out; omega), List.append_nil])
        have HNL := Lib.hid (show n = R.length by rw [HRL.out]; have := hn.out; omega)
        clear HRR
        go_wp2_with fail
        go_ret
        refine ⟨A', c', by rw [← HNL.out]; rfl, ?_, HB.out⟩
        rw [← HNL.out, HF.out]
        exact HO.out
theorem rec_guard : Try.prog.eqGuardType Try.prog.depth 33 = false := by kernel_rfl
set_option maxRecDepth 20000 in
theorem rec_neq (a b : Int) (t : ByteArray) (W : World) :
    (binOp .neq 33 (.agg #[.int .i64 a, .int .i64 b, .string t]) (.agg #[.int .i64 a, .int .i64 b, .string t])).run Try.prog W = .ok (.bool false) W := by
  have u3 := Try.underlying3
  have a3 := Try.isAgg3
  have z3 := Try.sizeOf3
  have u9 := Try.underlying9
  have a9 := Try.isAgg9
  have z9 := Try.sizeOf9
  have hS : Try.prog.underlying 33 = some (.struct (Try.prog.fieldsOf 33)) := by kernel_rfl
  have hp : Try.prog.stoodInHeld 33 = false := by kernel_rfl
  rw [run_neq_struct, show (10000 : Nat) = 9999 + 1 from rfl, run_equalIn_agg W 9999 33 _ _ hS hp]
  simp only [Program.fieldsOf, Try.underlying33]
  go_simp
set_option maxRecDepth 20000 in
/-- Same of equal lists. -/
theorem rsame9_any (A1 A2 : Option Addr) (c1 c2 : Nat) (l : List CRec) (w : World) (h1 : RowL ERec w A1 l) (h2 : RowL ERec w A2 l) (hl : l.length ≤ 1000000) :
    Calls Try.prog 14 #[.slice A1 l.length c1, .slice A2 l.length c2] w fun e w' => e = .returned (.bool true) ∧ Below w.heap.size w w' := by
  have hm := rec_guard
  obtain ⟨n, hn⟩ : ∃ n, n = l.length := ⟨_, rfl⟩
  rw [← hn]
  have HN := Lib.hid hn
  have H1 := Lib.hid h1
  have H2 := Lib.hid h2
  have hn6 : n ≤ 1000000 := by omega
  clear h1 h2 hl hn
  go_enter Try.func14, Try.ntmps14
  go_wp2_with fail
  go_loopw [5] (fun i wr => ∃ k : Nat, k ≤ n ∧ i = .int .i64 k ∧ Hid (Below w.heap.size w wr)) (fun i _ => n - (intOf i).toNat)
  case atStart => exact ⟨0, Nat.zero_le _, rfl, Lib.hid (Below.refl _ _)⟩
  case round =>
    obtain ⟨k, hk, rfl, HB⟩ := hrel
    by_cases hlt : k < n
    · obtain ⟨x, hget⟩ : ∃ x, l[k]? = some x := ⟨l[k]'(by have := HN.out; omega), List.getElem?_eq_getElem _⟩
      obtain ⟨g1, o1, rfl, hg1⟩ := H1.out.shape9 (by have := HN.out; omega)
      obtain ⟨g2, o2, rfl, hg2⟩ := H2.out.shape9 (by have := HN.out; omega)
      obtain ⟨a0, a1, a2⟩ := rec_at9 H1.out hget HB.out
      obtain ⟨b0, b1, b2⟩ := rec_at9 H2.out hget HB.out
      obtain ⟨tm, sz, dat⟩ := x
      simp only at a0 a1 a2 b0 b1 b2
      generalize str dat = D at *
      have q1 := fun W => rec_neq tm sz D W
      have hki : (k : Int) < (n : Int) := by omega
      have hki0 : (0 : Int) ≤ (k : Int) := by omega
      clear hget
      go_wp2_with fail
      go_quiet (fail)
      have HB2 := Lib.hid (below_drewN9 HB.out nq)
      clear HB a0 a1 a2 b0 b1 b2 q1
      generalize wr.drewN nq = w2 at *
      go_wp2_with fail
      go_roundw
      case rel => exact ⟨k + 1, by omega, by go_num, HB2⟩
      case measure => simp [intOf]; omega
    · obtain rfl : k = n := by omega
      have hd : decide ((k : Int) < (k : Int)) = false := by simp
      go_wp2_with fail
      go_ret
      exact ⟨rfl, HB.out⟩
/-- What Long answers: if no, there are at most 40 records of at most 5000 bytes. -/
def LongR (l : List CRec) (w : World) (e : Ending) (w' : World) : Prop := ∃ b : Bool, e = .returned (.bool b) ∧ w = w' ∧ (b = false → l.length ≤ 40 ∧ ∀ x ∈ l, x.dat.length ≤ 5000)
theorem rlong9_any (A : Option Addr) (cap : Nat) (l : List CRec) (w : World) (h : RowL ERec w A l) (hl : l.length ≤ 9223372036854775807) (hd : ∀ x ∈ l, x.dat.length ≤ 9223372036854775807) :
    Calls Try.prog 15 #[.slice A l.length cap] w (LongR l w) := by
  obtain ⟨n, hn⟩ : ∃ n, n = l.length := ⟨_, rfl⟩
  rw [← hn] at hl ⊢
  have H := Lib.hid h
  have HN := Lib.hid hn
  have HD := Lib.hid hd
  clear h hn hd
  go_enter Try.func15, Try.ntmps15
  go_wp2_with fail
  go_loop [3] (fun i => ∃ k : Nat, k ≤ n ∧ k ≤ 41 ∧ i = .int .i64 k ∧ Hid (∀ x ∈ l.take k, x.dat.length ≤ 5000)) (fun i => n - (intOf i).toNat)
  case atStart => exact ⟨0, Nat.zero_le _, by omega, rfl, Lib.hid (by simp)⟩
  case round =>
    obtain ⟨k, hk, hk41, rfl, HT⟩ := hrel
    obtain ⟨k1, hk1⟩ : ∃ k1, k1 = k + 1 := ⟨_, rfl⟩
    have k1i : (k : Int) + 1 = (k1 : Int) := by omega
    have HK1 := Lib.hid hk1
    clear hk1
    have hki0 : (0 : Int) ≤ (k : Int) := by omega
    by_cases hlt : k < n
    · have hki : (k : Int) < (n : Int) := by omega
      have dlt : decide ((k : Int) < (n : Int)) = true := by simp; omega
      by_cases h41 : k < 41
      · have d41 : decide ((k : Int) < (41 : Int)) = true := by simp; omega
        have e41 : (k : Int) < (41 : Int) := by omega
        obtain ⟨x, hget⟩ : ∃ x, l[k]? = some x := ⟨l[k]'(by have := HN.out; omega), List.getElem?_eq_getElem _⟩
        obtain ⟨g, ob, rfl, hg⟩ := H.out.shape9 (by have := HN.out; omega)
        obtain ⟨a0, a1, a2⟩ := rec_at9 H.out hget (Below.refl _ _)
        have HX := Lib.hid hget
        have hdx : x.dat.length ≤ 9223372036854775807 := HD.out x (List.mem_of_getElem? hget)
        obtain ⟨tm, sz, dat⟩ := x
        simp only at a0 a1 a2 hdx
        have HS := Lib.hid (str_size dat)
        by_cases hbig : 5000 < dat.length
        · have db : decide ((5000 : Int) < ((str dat).size : Int)) = true := by simp [str_size]; omega
          have eb : (5000 : Int) < ((str dat).size : Int) := by rw [str_size]; omega
          generalize str dat = D at *
          clear hget hbig hdx
          go_wp2_with fail
          go_ret
          exact ⟨true, rfl, rfl, by simp⟩
        · have db : decide ((5000 : Int) < ((str dat).size : Int)) = false := by simp [str_size]; omega
          have eb : ¬ (5000 : Int) < ((str dat).size : Int) := by rw [str_size]; omega
          have HT2 := Lib.hid (show ∀ x ∈ l.take k1, x.dat.length ≤ 5000 from by
            obtain ⟨hkl, e⟩ := List.getElem?_eq_some_iff.1 HX.out
            rw [HK1.out, List.take_succ_eq_append_getElem hkl, e]
            intro y hy
            rcases List.mem_append.1 hy with h1 | h1
            · exact HT.out y h1
            · obtain rfl := List.mem_singleton.1 h1
              show dat.length ≤ 5000
              omega)
          generalize str dat = D at *
          clear hget hbig hdx
          go_wp2_with fail
          go_round
          case rel => exact ⟨k1, by omega, by omega, by go_num, HT2⟩
          case measure => have := HK1.out; simp [intOf]; omega
      · have d41 : decide ((k : Int) < (41 : Int)) = false := by simp; omega
        have e41 : ¬ (k : Int) < (41 : Int) := by omega
        have d40 : decide ((40 : Int) < (n : Int)) = true := by simp; omega
        have e40 : (40 : Int) < (n : Int) := by omega
        go_wp2_with fail
        go_ret
        exact ⟨true, rfl, rfl, by simp⟩
    · have nlt : ¬ (k : Int) < (n : Int) := by omega
      have dlt : decide ((k : Int) < (n : Int)) = false := by simp; omega
      have HE := Lib.hid (show l.take k = l by rw [List.take_of_length_le]; have := HN.out; omega)
      by_cases h40 : 40 < n
      · have d40 : decide ((40 : Int) < (n : Int)) = true := by simp; omega
        have e40 : (40 : Int) < (n : Int) := by omega
        clear h40
        go_wp2_with fail
        go_ret
        exact ⟨true, rfl, rfl, by simp⟩
      · have d40 : decide ((40 : Int) < (n : Int)) = false := by simp; omega
        have e40 : ¬ (40 : Int) < (n : Int) := by omega
        have HL := Lib.hid (show l.length ≤ 40 by have := HN.out; omega)
        clear h40
        go_wp2_with fail
        go_ret
        refine ⟨false, rfl, rfl, fun _ => ⟨HL.out, ?_⟩⟩
        have := HT.out
        rwa [HE.out] at this
end Go.Proofs.Ytnckcdngmffahaa

/- What the laws about captures ask of the program's functions: forms of results; what a call leaves alone. -/
namespace Go.Proofs.Ytnckcdngmffahaa
open Go.ChangeShapes Go.WideShapes Go.ChangeAt Go.RowKit
set_option linter.unusedVariables false

/-- A list of records as a result. -/
def RcQ (w : World) (l : List CRec) (A : Option Addr) (cap : Nat) (w' : World) : Prop := RowL ERec w' A l ∧ (A = none → cap = 0) ∧ Below w.heap.size w w'
def ReadQ (w : World) (R : List CRec × Nat × Nat) (e : Ending) (w' : World) : Prop :=
  ∃ A cap, e = .returned (.tuple #[.slice A R.1.length cap, .int .i64 (R.2.1 : Int), .int .i64 (R.2.2 : Int)]) ∧ RcQ w R.1 A cap w'
def MrgQ (w : World) (l : List CRec) (e : Ending) (w' : World) : Prop := ∃ A cap, e = .returned (.slice A l.length cap) ∧ RcQ w l A cap w'
theorem ReadP.q {w : World} {R : List CRec × Nat × Nat} {e : Ending} {w' : World} (h : ReadP w R e w') : ReadQ w R e w' := by
  obtain ⟨A, cap, h1, h2, h3⟩ := h
  exact ⟨A, cap, h1, rowl_of_own (E := ERec) h2 rfl, fun hA => by subst hA; exact (own_none h2).2, h3⟩
theorem MrgP.q {w : World} {l : List CRec} {e : Ending} {w' : World} (h : MrgP w l e w') : MrgQ w l e w' := by
  obtain ⟨A, cap, h1, h2, h3⟩ := h
  exact ⟨A, cap, h1, rowl_of_own (E := ERec) h2 rfl, fun hA => by subst hA; exact (own_none h2).2, h3⟩
/-- Only the blocks S (and what is new) have been written. -/
structure KeepB (S : Nat → Prop) (w w' : World) : Prop where
  os : w'.os = w.os
  tape : w'.tape = w.tape
  output : w'.output = w.output
  size : w.heap.size ≤ w'.heap.size
  block : ∀ k, k < w.heap.size → ¬ S k → w'.heap[k]? = w.heap[k]?
theorem KeepB.of_below {S : Nat → Prop} {w w' : World} (h : Below w.heap.size w w') : KeepB S w w' := ⟨h.os, h.tape, h.output, h.size, fun k hk _ => h.block k hk⟩
theorem KeepB.below {S : Nat → Prop} {w0 w w' : World} (h : KeepB S w w') (hb : Below w0.heap.size w0 w) (hS : ∀ k, S k → w0.heap.size ≤ k) : Below w0.heap.size w0 w' :=
  hb.trans ⟨h.os, h.tape, h.output, h.size, fun k hk => h.block k (Nat.lt_of_lt_of_le hk hb.size) (fun e => Nat.not_lt.2 (hS k e) hk)⟩
theorem KeepB.grown {w w' : World} {g : Nat} (h : w.grownBy w' (some g)) : KeepB (fun k => k = g) w w' := ⟨h.os, h.tape, h.output, h.size, fun k hk hn => h.block k hk (fun e => hn (Option.some.inj e))⟩
theorem KeepB.refl (S : Nat → Prop) (w : World) : KeepB S w w := ⟨rfl, rfl, rfl, Nat.le_refl _, fun _ _ _ => rfl⟩
theorem KeepB.trans {S T : Nat → Prop} {a b c : World} (h : KeepB S a b) (k : KeepB T b c) (hT : ∀ j, T j → S j ∨ a.heap.size ≤ j) : KeepB S a c :=
  ⟨k.os.trans h.os, k.tape.trans h.tape, k.output.trans h.output, Nat.le_trans h.size k.size, fun j hj hn => (k.block j (Nat.lt_of_lt_of_le hj h.size) (fun e => (hT j e).elim hn (fun hh => Nat.not_lt.2 hh hj))).trans (h.block j hj hn)⟩
theorem RowL.keep {w w' : World} {S : Nat → Prop} {A : Option Addr} {α : Type} {E : Enc α} {l : List α} (h : RowL E w A l) (hk : KeepB S w w') (hn : ∀ a, A = some a → ¬ S a.block) : RowL E w' A l := fun hp => by
  obtain ⟨g, o, e, hg, hc⟩ := h hp
  refine ⟨g, o, e, Nat.lt_of_lt_of_le hg hk.size, fun i x hx j v hv => ?_⟩
  rw [World.cell?_of_block (w := w) (w' := w') (a := ⟨g, o + i * E.k + j, none⟩) (hk.block g hg (hn _ e))]
  exact hc i x hx j v hv
/-- What a Feed of the program's reader leaves; P is the reader in memory, over the blocks that are its own. -/
def FeedQ (P : World → (Nat → Prop) → Nat → RdC → Prop) (w : World) (S : Nat → Prop) (g : Nat) (F : List CRec × Nat × RdC) (e : Ending) (w' : World) : Prop :=
  ∃ A cap S', e = .returned (.tuple #[.slice A F.1.length cap, .int .i64 (F.2.1 : Int)]) ∧ RowL ERec w' A F.1 ∧ (A = none → cap = 0) ∧ (∀ a, A = some a → S' a.block ∨ w.heap.size ≤ a.block) ∧ P w' S' g F.2.2 ∧ (∀ k, S' k → S k ∨ w.heap.size ≤ k) ∧ KeepB S w w'
def CloseQ (P : World → (Nat → Prop) → Nat → RdC → Prop) (w : World) (S : Nat → Prop) (g : Nat) (r : RdC) (e : Ending) (w' : World) : Prop :=
  ∃ S', e = .returned (.int .i64 (closeC r : Int)) ∧ P w' S' g ⟨r.S, r.q, true⟩ ∧ (∀ k, S' k → S k ∨ w.heap.size ≤ k) ∧ KeepB S w w'
theorem RdM.keep {w w' : World} {g : Nat} {r : RdC} {S : Nat → Prop} (h : RdM w g r) (hk : KeepB S w w') (hn : ¬ S g) : RdM w' g r := by
  have hg := h.lt
  have hb := hk.block g hg hn
  unfold RdM at h ⊢
  split at h
  · obtain ⟨b, h⟩ := h
    exact ⟨b, hb.trans h⟩
  · exact hb.trans h
/-- The reference's Feed, in the same words. -/
theorem FeedP.q {w : World} {g : Nat} {F : List CRec × Nat × RdC} {e : Ending} {w' : World} (h : FeedP w g F e w') :
    ∃ A cap, e = .returned (.tuple #[.slice A F.1.length cap, .int .i64 (F.2.1 : Int)]) ∧ RowL ERec w' A F.1 ∧ (A = none → cap = 0) ∧ RdM w' g F.2.2 ∧ KeepB (fun k => k = g) w w' := by
  obtain ⟨A, cap, h1, h2, h3, h4⟩ := h
  exact ⟨A, cap, h1, rowl_of_own (E := ERec) h2 rfl, fun hA => by subst hA; exact (own_none h2).2, h3, KeepB.grown h4⟩
theorem own_keepB {w w' : World} {base : Nat} {e : TypeId} {size : Nat} {v : Value} {n : Nat} {xs : List Value} {S : Nat → Prop} (h : w.ownsRow base e size v n xs) (hk : KeepB S w w') (hne : ∀ c, v.ownBlock = some c → ¬ S c) : w'.ownsRow base e size v n xs := by
  refine ⟨h.1, ?_⟩
  rcases h.2 with hn | ⟨g, cap, cur, hv, hb, hh, rest⟩
  · exact .inl hn
  · exact .inr ⟨g, cap, cur, hv, hb, (hk.block g (Array.getElem?_eq_some_iff.1 hh).1 (hne g (by rw [hv]; rfl))).trans hh, rest⟩
theorem own_blk_lt {w : World} {base : Nat} {e : TypeId} {size : Nat} {v : Value} {n : Nat} {xs : List Value} (h : w.ownsRow base e size v n xs) : ∀ c, v.ownBlock = some c → base ≤ c ∧ c < w.heap.size := fun c hc => by
  rcases h.2 with ⟨h1, h2⟩ | ⟨g, cap, cur, hv, hb, hh, _⟩
  · rw [h1] at hc; cases hc
  · rw [hv] at hc
    obtain rfl := Option.some.inj hc
    exact ⟨hb, (Array.getElem?_eq_some_iff.1 hh).1⟩
/-- append(out, l...), and where the result lies. -/
theorem wpList_cat9 {α : Type} {E : Enc α} {t e : TypeId} {bytes : Nat} {w : World} {ops : Array Oper} {rest : List Oper} {o : Oper} {a : Act} {Q : Exit → Act → World → Prop} (T : ElemTy t e E.k bytes) (hgd : o.guard = none) (s x : Operand)
    (ho : o.op = .call { callee := .builtin .append, args := #[s, x], argTypes := #[t, t] })
    (base : Nat) (v : Value) (n : Nat) (xs l : List α) (hs : a.eval s = v) (hown : w.ownsRow base e E.k v n (E.cells xs))
    (A : Option Addr) (m c : Nat) (hx : a.eval x = .slice A m c) (hm : m = l.length) (hA : A = none → c = 0) (hl : RowL E w A l) (hn : n + m ≤ 1000000) (hby : bytes ≤ 1000) (hbase : base ≤ w.heap.size)
    (h : ∀ A' c' w', w'.ownsRow base e E.k (.slice A' (n + m) c') (n + m) (E.cells (xs ++ l)) → w.grownBy w' v.ownBlock → (∀ b, (Value.slice A' (n + m) c').ownBlock = some b → v.ownBlock = some b ∨ b = w.heap.size) → wpList Try.prog ops Q rest (a.put o.dst (.slice A' (n + m) c')) w') : wpList Try.prog ops Q (o :: rest) a w := by
  obtain ⟨i, z, h1, h2, h3, h4, h5⟩ := T.info
  cases A with
  | none =>
    have hl0 : l = [] := by
      cases l with
      | nil => rfl
      | cons y r =>
        obtain ⟨g, o, e, _⟩ := hl (by simp)
        cases e
    subst hl0
    obtain rfl := hA rfl
    have hm0 : m = 0 := by simpa using hm
    subst hm0
    obtain ⟨A', c', rfl⟩ := own_shape hown
    refine wpList_append_own_none hgd s x t ho base e i E.k T.und h1 _ n (E.cells xs) hs hown hx ?_
    refine h A' c' w ?_ ⟨rfl, rfl, rfl, Nat.le_refl _, fun _ _ _ => rfl⟩ (fun b hb => .inl hb)
    simpa using hown
  | some ad =>
    refine wpList_append_own_at w hgd s x t ho base e i z E.k bytes T.und h1 h2 h3 h4 h5 E.pos v n (E.cells xs) hs hown ad m c (E.cells l) hx (by rw [E.cells_length, hm]) hl.news (E.cells_one' l) (by unfold maxLen; omega) ?_ hbase ?_
    · have : (n + m) * bytes ≤ 1000000 * 1000 := Nat.mul_le_mul hn hby
      omega
    · intro v' w' hown' hgr _ hat
      obtain ⟨A', c', rfl⟩ := own_shape hown'
      rw [← E.cells_append] at hown'
      exact h A' c' w' hown' hgr (fun b hb => by
        rcases hat with h1 | h1
        · rw [h1] at hb; exact .inl hb
        · rw [h1] at hb; exact .inr (Option.some.inj hb).symm)
end Go.Proofs.Ytnckcdngmffahaa

/- The program's reader of captures in memory: its cells, its queue of bytes. -/
namespace Go.Proofs.Ytnckcdngmffahaa
open Go.ChangeShapes Go.WideShapes Go.ChangeAt Go.RowKit
open Go.Maps (Keyed)
set_option linter.unusedVariables false

theorem kInt9 : Keyed Try.prog 3 := Go.Maps.int_keyed Try.underlying3
theorem zStr9 (w : World) : (zeroValue 9).run Try.prog w = .ok (.string ⟨#[]⟩) w := by kernel_rfl
def kq (i : Nat) : Lit := .int .i64 (i : Int)
theorem kq_ne {i j : Nat} (h : i ≠ j) : kq i ≠ kq j := fun e => h (by unfold kq at e; injection e with _ e2; omega)
theorem kq_of {i : Nat} (h : i ≤ 9000000000) : keyOf Try.prog 3 (.int .i64 (i : Int)) = some (kq i) := Go.Maps.keyOf_int_mk Try.underlying3 (WalkArith.wf_i64 (by omega))
theorem kq_key (i : Nat) : WideAt.IsKeyLit (kq i) := trivial
theorem pl_str9 (x : List UInt8) (h : x.length ≤ 9000000000) : plainElem (H := Unit) Try.prog 9 (.string (str x)) = some (.lit (.string x), []) := by
  have := plainElem_string (H := Unit) (P := Try.prog) Try.underlying9 (s := str x) (by rw [str_size]; unfold maxLen; omega)
  rw [str_toList] at this
  exact this
/-- Pieces under the numbers from fi on. -/
def MQ (w : World) (M : Option Nat) (fi : Nat) (pcs : List (List UInt8)) (n : Nat) : Prop :=
  (M = none ∧ pcs = []) ∨ ∃ b, ∃ D : DataW Unit, M = some b ∧ w.ownsMap Try.prog 3 (plainElem Try.prog 9) b n D ∧ ∀ j x, pcs[j]? = some x → D.atKey (kq (fi + j)) (.lit (.string [])) = .lit (.string x)
variable {w w' : World} {b fi n : Nat} {M : Option Nat} {x : List UInt8} {r pcs : List (List UInt8)}
theorem MQ.nil (w : World) (fi n : Nat) : MQ w none fi [] n := .inl ⟨rfl, rfl⟩
theorem MQ.made (w : World) (fi : Nat) : MQ (w.alloc (.map #[] 0)) (some w.heap.size) fi [] 0 := .inr ⟨_, .map [], rfl, World.ownsMap_made _ _ _ _, fun j x h => by simp at h⟩
theorem MQ.lt (h : MQ w (some b) fi pcs n) : b < w.heap.size := by
  rcases h with ⟨h, _⟩ | ⟨b', D, e, ho, _⟩
  · cases h
  · cases e; exact ho.lt
theorem MQ.kept {row : Option Nat} (h : MQ w M fi pcs n) (hg : w.grownBy w' row) (hn : ∀ b, M = some b → some b ≠ row) : MQ w' M fi pcs n := by
  rcases h with h | ⟨b', D, e, ho, hj⟩
  · exact .inl h
  · exact .inr ⟨b', D, e, ho.kept hg (hn _ e), hj⟩
theorem MQ.same (h : MQ w M fi pcs n) (hb : ∀ b, M = some b → w'.heap[b]? = w.heap[b]?) : MQ w' M fi pcs n := by
  rcases h with h | ⟨b', D, e, ⟨es, clock, h1, rest⟩, hj⟩
  · exact .inl h
  · exact .inr ⟨b', D, e, ⟨es, clock, (hb _ e).trans h1, rest⟩, hj⟩
theorem MQ.drewN (h : MQ w M fi pcs n) (q : Nat) : MQ (w.drewN q) M fi pcs n := h
theorem MQ.look (h : MQ w (some b) fi (x :: r) n) (hf : fi ≤ 9000000000) : (Instr.lookup 46 (.map (some b)) (.int .i64 (fi : Int)) false).run Try.prog w = .ok (.string (str x)) w := by
  rcases h with ⟨h, _⟩ | ⟨b', D, e, ho, hj⟩
  · cases h
  · obtain rfl := Option.some.inj e
    obtain ⟨v, ps, hrun, hv⟩ := ho.lookup kInt9 Try.underlying46 (zStr9 w) (pl_str9 [] (by simp)) (kq_of hf)
    have h0 := hj 0 x rfl
    rw [Nat.add_zero] at h0
    rw [h0] at hv
    obtain ⟨s, rfl, hz, _⟩ := plainElem_string_inv Try.underlying9 hv
    simp only [Prod.mk.injEq] at hz
    have e2 : x = s.data.toList := by have := hz.1; injection this with this; injection this
    rw [hrun, e2, str_of]
theorem MQ.put {nx : Nat} (h : MQ w (some b) fi pcs n) (hn : n ≤ 9000000000) (hx : x.length ≤ 9000000000) (hk : nx = fi + pcs.length) (hnx : nx ≤ 9000000000) :
    ∃ w', (Instr.mapUpdate 46 (.map (some b)) (.int .i64 (nx : Int)) (.string (str x))).run Try.prog w = .ok () w' ∧ MQ w' (some b) fi (pcs ++ [x]) (n + 1) ∧ w.mapTurned w' b := by
  rcases h with ⟨h, _⟩ | ⟨b', D, e, ho, hj⟩
  · cases h
  · obtain rfl := Option.some.inj e
    obtain ⟨w', hrun, ho', ht⟩ := ho.store kInt9 Try.underlying46 (by unfold maxLen; omega) (kq_of hnx) (pl_str9 x hx)
    refine ⟨w', hrun, .inr ⟨b, _, rfl, ho', fun j y hy => ?_⟩, ht⟩
    by_cases hj2 : j < pcs.length
    · rw [List.getElem?_append_left hj2] at hy
      rw [Go.Maps.atKey_put_other (kq_ne (by omega)), hj j y hy]
    · rw [List.getElem?_append_right (by omega)] at hy
      have hj3 : j = pcs.length := by
        have := (List.getElem?_eq_some_iff.1 hy).1
        simp at this
        omega
      subst hj3
      simp at hy
      subst hy
      rw [← hk, Go.Maps.atKey_put_same ho.isMap (kq_key _)]
theorem MQ.front {y : List UInt8} (h : MQ w (some b) fi (x :: r) n) (hn : n ≤ 9000000000) (hy : y.length ≤ 9000000000) (hf : fi ≤ 9000000000) :
    ∃ w', (Instr.mapUpdate 46 (.map (some b)) (.int .i64 (fi : Int)) (.string (str y))).run Try.prog w = .ok () w' ∧ MQ w' (some b) fi (y :: r) (n + 1) ∧ w.mapTurned w' b := by
  rcases h with ⟨h, _⟩ | ⟨b', D, e, ho, hj⟩
  · cases h
  · obtain rfl := Option.some.inj e
    obtain ⟨w', hrun, ho', ht⟩ := ho.store kInt9 Try.underlying46 (by unfold maxLen; omega) (kq_of hf) (pl_str9 y hy)
    refine ⟨w', hrun, .inr ⟨b, _, rfl, ho', fun j z hz => ?_⟩, ht⟩
    cases j with
    | zero =>
      simp at hz
      subst hz
      exact Go.Maps.atKey_put_same ho.isMap (kq_key _) _ _
    | succ j =>
      rw [Go.Maps.atKey_put_other (kq_ne (by omega))]
      exact hj (j + 1) z (by simpa using hz)
/-- delete(q.pieces, q.first) at a step of a region that draws. -/
theorem step_pop {ops : Array Oper} {o : Oper} {a : Act} {K : Act → World → Prop} {Q : Exit → Act → World → Prop} {F : Prop} (hg : o.guard = none) (m k : Operand)
    (hop : o.op = Op.call { callee := Callee.builtin Builtin.delete, args := #[m, k], argTypes := #[46, 3] })
    (h : MQ w (some b) fi (x :: r) n) (hf : fi ≤ 9000000000) (hm : a.eval m = .map (some b)) (hk : a.eval k = .int .i64 (fi : Int))
    (hK : ∀ w', MQ w' (some b) (fi + 1) r n → w.mapTurned w' b → K (a.put o.dst (.tuple #[])) w') :
    if Region.wanted o (yielded ops a.tmps) = true then Oper.wp Try.prog o a w K Q else F := by
  have hw : Region.wanted o (yielded ops a.tmps) = true := by simp [Region.wanted, hg]
  rw [if_pos hw]
  rcases h with ⟨h, _⟩ | ⟨b', D, e, ho, hj⟩
  · cases h
  · obtain rfl := Option.some.inj e
    obtain ⟨w', hrun, r1, r2⟩ := ho.drop kInt9 Try.underlying46 (kq_of hf) o.type
    unfold Oper.wp
    simp [execOp, hop, resolve, invoke, builtin, hm, hk, hrun, Result.andThen]
    refine hK w' (.inr ⟨b, _, rfl, r1, fun j z hz => ?_⟩) r2
    rw [Go.Maps.atKey_del_other (kq_ne (by omega))]
    have := hj (j + 1) z (by simpa using hz)
    rwa [show fi + (j + 1) = fi + 1 + j by omega] at this

/-! ### The reader's cells -/
def PRc (w : World) (g : Nat) (M : Option Nat) (fi nx sz nd : Nat) (gv : Value) (op : Bool) (ra rz : Int) (rd : ByteArray) (cnt la : Nat) (en : Bool) : Prop :=
  Cells w g 51 #[.map M, .int .i64 (fi : Int), .int .i64 (nx : Int), .int .i64 (sz : Int), .int .i64 (nd : Int), gv, .bool op, .int .i64 ra, .int .i64 rz, .string rd, .int .i64 (cnt : Int), .int .i64 (la : Int), .bool en]
variable {g nx sz nd cnt la : Nat} {gv : Value} {op en : Bool} {ra rz : Int} {rd : ByteArray}
theorem PRc.lt (h : PRc w g M fi nx sz nd gv op ra rz rd cnt la en) : g < w.heap.size := Cells.lt h
theorem PRc.c0 (h : PRc w g M fi nx sz nd gv op ra rz rd cnt la en) : w.cell? ⟨g, 0, none⟩ = some (.map M) := (Cells.cell h 0).trans rfl
theorem PRc.c1 (h : PRc w g M fi nx sz nd gv op ra rz rd cnt la en) : w.cell? ⟨g, 1, none⟩ = some (.int .i64 (fi : Int)) := (Cells.cell h 1).trans rfl
theorem PRc.c2 (h : PRc w g M fi nx sz nd gv op ra rz rd cnt la en) : w.cell? ⟨g, 2, none⟩ = some (.int .i64 (nx : Int)) := (Cells.cell h 2).trans rfl
theorem PRc.c3 (h : PRc w g M fi nx sz nd gv op ra rz rd cnt la en) : w.cell? ⟨g, 3, none⟩ = some (.int .i64 (sz : Int)) := (Cells.cell h 3).trans rfl
theorem PRc.c4 (h : PRc w g M fi nx sz nd gv op ra rz rd cnt la en) : w.cell? ⟨g, 4, none⟩ = some (.int .i64 (nd : Int)) := (Cells.cell h 4).trans rfl
theorem PRc.c5 (h : PRc w g M fi nx sz nd gv op ra rz rd cnt la en) : w.cell? ⟨g, 5, none⟩ = some gv := (Cells.cell h 5).trans rfl
theorem PRc.c6 (h : PRc w g M fi nx sz nd gv op ra rz rd cnt la en) : w.cell? ⟨g, 6, none⟩ = some (.bool op) := (Cells.cell h 6).trans rfl
theorem PRc.c7 (h : PRc w g M fi nx sz nd gv op ra rz rd cnt la en) : w.cell? ⟨g, 7, none⟩ = some (.int .i64 ra) := (Cells.cell h 7).trans rfl
theorem PRc.c8 (h : PRc w g M fi nx sz nd gv op ra rz rd cnt la en) : w.cell? ⟨g, 8, none⟩ = some (.int .i64 rz) := (Cells.cell h 8).trans rfl
theorem PRc.c9 (h : PRc w g M fi nx sz nd gv op ra rz rd cnt la en) : w.cell? ⟨g, 9, none⟩ = some (.string rd) := (Cells.cell h 9).trans rfl
theorem PRc.c10 (h : PRc w g M fi nx sz nd gv op ra rz rd cnt la en) : w.cell? ⟨g, 10, none⟩ = some (.int .i64 (cnt : Int)) := (Cells.cell h 10).trans rfl
theorem PRc.c11 (h : PRc w g M fi nx sz nd gv op ra rz rd cnt la en) : w.cell? ⟨g, 11, none⟩ = some (.int .i64 (la : Int)) := (Cells.cell h 11).trans rfl
theorem PRc.c12 (h : PRc w g M fi nx sz nd gv op ra rz rd cnt la en) : w.cell? ⟨g, 12, none⟩ = some (.bool en) := (Cells.cell h 12).trans rfl
theorem PRc.f (h : PRc w g M fi nx sz nd gv op ra rz rd cnt la en) (i : Nat) : w.frozen? ⟨g, i, none⟩ = false := Cells.frozen h i
theorem PRc.same (h : PRc w g M fi nx sz nd gv op ra rz rd cnt la en) (hb : w'.heap[g]? = w.heap[g]?) : PRc w' g M fi nx sz nd gv op ra rz rd cnt la en := hb.trans h
theorem PRc.only (h : PRc w g M fi nx sz nd gv op ra rz rd cnt la en) {row : Option Nat} (hg : w.grownBy w' row) (hne : some g ≠ row) : PRc w' g M fi nx sz nd gv op ra rz rd cnt la en := Cells.only h hg hne
theorem PRc.setM (h : PRc w g M fi nx sz nd gv op ra rz rd cnt la en) (M' : Option Nat) : PRc (w.setCell ⟨g, 0, none⟩ (.map M')) g M' fi nx sz nd gv op ra rz rd cnt la en := Cells.set h 0 _
theorem PRc.setFi (h : PRc w g M fi nx sz nd gv op ra rz rd cnt la en) (v : Nat) : PRc (w.setCell ⟨g, 1, none⟩ (.int .i64 (v : Int))) g M v nx sz nd gv op ra rz rd cnt la en := Cells.set h 1 _
theorem PRc.setNx (h : PRc w g M fi nx sz nd gv op ra rz rd cnt la en) (v : Nat) : PRc (w.setCell ⟨g, 2, none⟩ (.int .i64 (v : Int))) g M fi v sz nd gv op ra rz rd cnt la en := Cells.set h 2 _
theorem PRc.setSz (h : PRc w g M fi nx sz nd gv op ra rz rd cnt la en) (v : Nat) : PRc (w.setCell ⟨g, 3, none⟩ (.int .i64 (v : Int))) g M fi nx v nd gv op ra rz rd cnt la en := Cells.set h 3 _
theorem PRc.setNd (h : PRc w g M fi nx sz nd gv op ra rz rd cnt la en) (v : Nat) : PRc (w.setCell ⟨g, 4, none⟩ (.int .i64 (v : Int))) g M fi nx sz v gv op ra rz rd cnt la en := Cells.set h 4 _
theorem PRc.setGv (h : PRc w g M fi nx sz nd gv op ra rz rd cnt la en) (v : Value) : PRc (w.setCell ⟨g, 5, none⟩ v) g M fi nx sz nd v op ra rz rd cnt la en := Cells.set h 5 _
theorem PRc.setOp (h : PRc w g M fi nx sz nd gv op ra rz rd cnt la en) (v : Bool) : PRc (w.setCell ⟨g, 6, none⟩ (.bool v)) g M fi nx sz nd gv v ra rz rd cnt la en := Cells.set h 6 _
theorem PRc.setRa (h : PRc w g M fi nx sz nd gv op ra rz rd cnt la en) (v : Int) : PRc (w.setCell ⟨g, 7, none⟩ (.int .i64 v)) g M fi nx sz nd gv op v rz rd cnt la en := Cells.set h 7 _
theorem PRc.setRz (h : PRc w g M fi nx sz nd gv op ra rz rd cnt la en) (v : Int) : PRc (w.setCell ⟨g, 8, none⟩ (.int .i64 v)) g M fi nx sz nd gv op ra v rd cnt la en := Cells.set h 8 _
theorem PRc.setRd (h : PRc w g M fi nx sz nd gv op ra rz rd cnt la en) (v : ByteArray) : PRc (w.setCell ⟨g, 9, none⟩ (.string v)) g M fi nx sz nd gv op ra rz v cnt la en := Cells.set h 9 _
theorem PRc.setCnt (h : PRc w g M fi nx sz nd gv op ra rz rd cnt la en) (v : Nat) : PRc (w.setCell ⟨g, 10, none⟩ (.int .i64 (v : Int))) g M fi nx sz nd gv op ra rz rd v la en := Cells.set h 10 _
theorem PRc.setLa (h : PRc w g M fi nx sz nd gv op ra rz rd cnt la en) (v : Nat) : PRc (w.setCell ⟨g, 11, none⟩ (.int .i64 (v : Int))) g M fi nx sz nd gv op ra rz rd cnt v en := Cells.set h 11 _
theorem PRc.setEn (h : PRc w g M fi nx sz nd gv op ra rz rd cnt la en) (v : Bool) : PRc (w.setCell ⟨g, 12, none⟩ (.bool v)) g M fi nx sz nd gv op ra rz rd cnt la v := Cells.set h 12 _
theorem MQ.setCell (h : MQ w M fi pcs n) (hM : ∀ b, M = some b → b ≠ g) (i : Nat) (u : Value) : MQ (w.setCell ⟨g, i, none⟩ u) M fi pcs n :=
  h.same fun b hb => Below.heap_setCell w ⟨g, i, none⟩ u b (hM b hb)
/-- What one call may write: the reader's block, its map, new blocks. -/
def QW (g : Nat) (M : Option Nat) : Nat → Prop := fun k => k = g ∨ M = some k
theorem KeepB.setCell {S : Nat → Prop} {g : Nat} (h : KeepB S w w') (hg : S g) (i : Nat) (u : Value) : KeepB S w (w'.setCell ⟨g, i, none⟩ u) :=
  ⟨h.os, h.tape, h.output, by rw [size_set]; exact h.size, fun k hk hn => (Below.heap_setCell w' ⟨g, i, none⟩ u k (fun e => hn (by rw [show k = g from e]; exact hg))).trans (h.block k hk hn)⟩
theorem KeepB.drewN {S : Nat → Prop} (h : KeepB S w w') (q : Nat) : KeepB S w (w'.drewN q) := ⟨h.os, h.tape, h.output, h.size, h.block⟩
theorem KeepB.drew {S : Nat → Prop} (h : KeepB S w w') : KeepB S w w'.drew := ⟨h.os, h.tape, h.output, h.size, h.block⟩
theorem KeepB.grownBy {S : Nat → Prop} {w2 : World} {row : Option Nat} (h : KeepB S w w') (hg : w'.grownBy w2 row) (hr : ∀ j, row = some j → S j ∨ w.heap.size ≤ j) : KeepB S w w2 :=
  ⟨hg.os.trans h.os, hg.tape.trans h.tape, hg.output.trans h.output, Nat.le_trans h.size hg.size, fun k hk hn => (hg.block k (Nat.lt_of_lt_of_le hk h.size) (fun e => (hr k e.symm).elim hn (fun hh => Nat.not_lt.2 hh hk))).trans (h.block k hk hn)⟩
theorem KeepB.step {S : Nat → Prop} {w2 : World} (h : KeepB S w w') (hb : Below w'.heap.size w' w2) : KeepB S w w2 :=
  ⟨hb.os.trans h.os, hb.tape.trans h.tape, hb.output.trans h.output, Nat.le_trans h.size hb.size, fun k hk hn => (hb.block k (Nat.lt_of_lt_of_le hk h.size)).trans (h.block k hk hn)⟩
theorem KeepB.mono {S T : Nat → Prop} (h : KeepB S w w') (hS : ∀ k, S k → T k) : KeepB T w w' := ⟨h.os, h.tape, h.output, h.size, fun k hk hn => h.block k hk (fun e => hn (hS k e))⟩
theorem isE9 (s : ByteArray) : s.toList.isEmpty = s.data.toList.isEmpty := by rw [ByteArray.toList_eq]
end Go.Proofs.Ytnckcdngmffahaa

/- Contracts of the program of layer 9: NewReader, put, end. -/
namespace Go.Proofs.Ytnckcdngmffahaa
open Go.ChangeShapes Go.WideShapes Go.ChangeAt Go.RowKit
set_option linter.unusedVariables false

theorem newr9_any (w : World) : Calls Try.prog 20 #[] w fun e w' => ∃ g, e = .returned (.pointer (some ⟨g, 0, none⟩)) ∧ PRc w' g none 0 0 0 24 .nilFunc false 0 0 ⟨#[]⟩ 0 0 false ∧ w.heap.size ≤ g ∧ Below w.heap.size w w' := by
  go_enter Try.func20, Try.ntmps20
  go_wp2_with fail
  go_ret
  exact ⟨_, rfl, heap_alloc_new w _, Nat.le_refl _, below_alloc6 w _⟩

theorem mapNil9 (M : Option Nat) (w : World) : (binOp BinOp.eql 46 (.map M) (.map none)).run Try.prog w = .ok (.bool M.isNone) w := by
  cases M <;> kernel_rfl
/-- What put leaves. -/
def PutP (w : World) (g : Nat) (M : Option Nat) (fi nx sz n : Nat) (pcs : List (List UInt8)) (nd : Nat) (gv : Value) (op : Bool) (ra rz : Int) (rd : ByteArray) (cnt la : Nat) (en : Bool) (s : List UInt8) (e : Ending) (w' : World) : Prop :=
  ∃ M' nx' sz' n' pcs', e = .returned (.tuple #[]) ∧ PRc w' g M' fi nx' sz' nd gv op ra rz rd cnt la en ∧ MQ w' M' fi pcs' n' ∧ nx' = fi + pcs'.length ∧ nx' ≤ nx + s.length ∧ sz' = sz + s.length ∧ pcs'.flatten = pcs.flatten ++ s ∧ (∀ p ∈ pcs', p ≠ []) ∧ n' ≤ n + s.length ∧ (∀ b, M' = some b → M = some b ∨ w.heap.size ≤ b) ∧ (∀ b, M' = some b → b ≠ g) ∧ KeepB (QW g M) w w'
set_option maxHeartbeats 4000000 in
set_option maxRecDepth 20000 in
theorem qput9_any (g : Nat) (M : Option Nat) (fi nx sz n : Nat) (pcs : List (List UInt8)) (nd : Nat) (gv : Value) (op : Bool) (ra rz : Int) (rd : ByteArray) (cnt la : Nat) (en : Bool) (s : List UInt8) (w : World)
    (h : PRc w g M fi nx sz nd gv op ra rz rd cnt la en) (hm : MQ w M fi pcs n) (hnx : nx = fi + pcs.length) (hp : ∀ p ∈ pcs, p ≠ []) (hM : ∀ b, M = some b → b ≠ g) (hb : nx ≤ 3000000 ∧ sz ≤ 3000000 ∧ n ≤ 3000000 ∧ s.length ≤ 3000000) :
    Calls Try.prog 29 #[.pointer (some ⟨g, 0, none⟩), .string (str s)] w (PutP w g M fi nx sz n pcs nd gv op ra rz rd cnt la en s) := by
  obtain ⟨hb1, hb2, hb3, hb4⟩ := hb
  have hsz := str_size s
  have hie : (str s).toList.isEmpty = s.isEmpty := by rw [isE9, str_toList]
  have H := Lib.hid h
  have HM := Lib.hid hm
  have HNX := Lib.hid hnx
  have HP := Lib.hid hp
  have HMG := Lib.hid hM
  have HK := Lib.hid (KeepB.refl (QW g M) w)
  by_cases hs : s = []
  · subst hs
    have he : (str []).toList.isEmpty = true := by rw [hie]; rfl
    clear h hm hnx hp hM hie hsz
    go_enter Try.func29, Try.ntmps29
    go_wp2_with fail
    go_end0
    exact ⟨M, nx, sz, n, pcs, rfl, H.out, HM.out, HNX.out, by omega, by simp, by simp, HP.out, by omega, fun b hb => .inl hb, HMG.out, HK.out⟩
  · have he : (str s).toList.isEmpty = false := by
      rw [hie]
      cases s with
      | nil => exact absurd rfl hs
      | cons a r => rfl
    have hpos : 0 < s.length := List.length_pos_iff.2 hs
    have HS := Lib.hid hs
    obtain ⟨k, hk⟩ : ∃ k, k = s.length := ⟨_, rfl⟩
    rw [← hk] at hsz hpos hb4
    have HKK := Lib.hid hk
    have c1 := h.c1
    have c2 := h.c2
    have c3 := h.c3
    have f0 := h.f 0
    have f2 := h.f 2
    have f3 := h.f 3
    have hgl := h.lt
    have hnil := mapNil9 M
    cases M with
    | none =>
      have HPN := Lib.hid (show pcs = [] from by
        rcases hm with ⟨_, e⟩ | ⟨b, D, e, _⟩
        · exact e
        · cases e)
      have c0 := h.c0
      obtain ⟨B, hB⟩ : ∃ B, B = w.heap.size := ⟨_, rfl⟩
      obtain ⟨W1, hW1⟩ : ∃ W, W = (w.setCell ⟨g, 0, none⟩ (.map (some w.heap.size))).alloc (.map #[] 0) := ⟨_, rfl⟩
      have hgB : g ≠ B := by omega
      have hBs : B = (w.setCell ⟨g, 0, none⟩ (.map (some w.heap.size))).heap.size := by rw [size_set]; exact hB
      have HR1 := Lib.hid (show PRc W1 g (some B) fi nx sz nd gv op ra rz rd cnt la en by rw [hW1, hB]; exact (h.setM _).same ((below_alloc6 _ _).block g (by rw [size_set]; exact hgl)))
      have HM1 := Lib.hid (show MQ W1 (some B) fi [] 0 by rw [hW1, hBs]; exact MQ.made _ fi)
      have HK1 := Lib.hid (show KeepB (QW g none) w W1 by rw [hW1]; exact ((KeepB.refl (QW g none) w).setCell (.inl rfl) 0 _).step (below_alloc6 _ _))
      obtain ⟨w2, hup, hm2, ht2⟩ := (show MQ W1.drew (some B) fi [] 0 from HM1.out).put (nx := nx) (x := s) (by omega) (by omega) (by rw [hnx, HPN.out]) (by omega)
      have HRD := Lib.hid ((show PRc W1.drew g (some B) fi nx sz nd gv op ra rz rd cnt la en from HR1.out).only ht2.grown (fun e => hgB (Option.some.inj e)))
      have HM2 := Lib.hid hm2
      have HK2 := Lib.hid (HK1.out.drew.grownBy ht2.grown (fun j hj => .inr (by obtain rfl := Option.some.inj hj; omega)))
      have HBB := Lib.hid hB
      have hmm := @run_makeMap Try.prog
      have e0 := HR1.out.c0
      have e2 := HR1.out.c2
      rw [hB] at hup e0
      clear h hm hp hM hie hs hk c1 c2 c3 f2 f3 hnx hm2 ht2 HR1 HM1 HK1 hgB hB hBs
      go_enter Try.func29, Try.ntmps29
      go_wp2_with fail
      rw [← hW1]
      clear c0 f0 hW1
      go_region
      clear e0 e2 hup hmm hnil
      have c2 := HRD.out.c2
      have c3 := HRD.out.c3
      have f2 := HRD.out.f 2
      have f3 := HRD.out.f 3
      have hgl2 := HRD.out.lt
      go_wp2_with fail
      go_end0
      have hr4 := (HRD.out.setNx (nx + 1)).setSz (sz + k)
      have hm4 := (HM2.out.setCell (g := g) (fun b e => by obtain rfl := Option.some.inj e; have := HBB.out; omega) 2 (.int .i64 ((nx + 1 : Nat) : Int))).setCell (g := g) (fun b e => by obtain rfl := Option.some.inj e; have := HBB.out; omega) 3 (.int .i64 ((sz + k : Nat) : Int))
      have hk4 := (HK2.out.setCell (g := g) (.inl rfl) 2 (.int .i64 ((nx + 1 : Nat) : Int))).setCell (g := g) (.inl rfl) 3 (.int .i64 ((sz + k : Nat) : Int))
      have e1 : ((nx + 1 : Nat) : Int) = (nx : Int) + 1 := by omega
      have e2 : ((sz + k : Nat) : Int) = (sz : Int) + (k : Int) := by omega
      rw [e1, e2] at hm4 hk4
      unfold PRc at hr4
      rw [e1, e2] at hr4
      have hkl := HKK.out
      have hnn := HNX.out
      have hpn := HPN.out
      refine ⟨some B, nx + 1, sz + k, 1, [s], rfl, ?_, hm4, ?_, by omega, by omega, ?_, ?_, by omega, ?_, ?_, hk4⟩
      · unfold PRc; rw [e1, e2]; exact hr4
      · rw [hnn, hpn]; rfl
      · rw [hpn]; simp
      · intro p hp; simp at hp; rw [hp]; exact HS.out
      · intro b e; obtain rfl := Option.some.inj e; right; have := HBB.out; omega
      · intro b e; obtain rfl := Option.some.inj e; have := HBB.out; omega
    | some B =>
      have c0 := h.c0
      have hgB := hM B rfl
      obtain ⟨w2, hup, hm2, ht2⟩ := (show MQ w.drew (some B) fi pcs n from hm).put (nx := nx) (x := s) (by omega) (by omega) hnx (by omega)
      have HRD := Lib.hid ((show PRc w.drew g (some B) fi nx sz nd gv op ra rz rd cnt la en from h).only ht2.grown (fun e => hgB (Option.some.inj e).symm))
      have HM2 := Lib.hid hm2
      have HK2 := Lib.hid ((KeepB.refl (QW g (some B)) w).drew.grownBy ht2.grown (fun j hj => .inl (.inr hj)))
      clear h hm hp hM hie hs hk hm2 ht2 hgB f0 hnx
      go_enter Try.func29, Try.ntmps29
      go_wp2_with fail
      go_region
      clear c0 c1 c2 c3 f2 f3 hup hnil
      have c2 := HRD.out.c2
      have c3 := HRD.out.c3
      have f2 := HRD.out.f 2
      have f3 := HRD.out.f 3
      have hgl2 := HRD.out.lt
      go_wp2_with fail
      go_end0
      have hr4 := (HRD.out.setNx (nx + 1)).setSz (sz + k)
      have hm4 := (HM2.out.setCell (g := g) HMG.out 2 (.int .i64 ((nx + 1 : Nat) : Int))).setCell (g := g) HMG.out 3 (.int .i64 ((sz + k : Nat) : Int))
      have hk4 := (HK2.out.setCell (g := g) (.inl rfl) 2 (.int .i64 ((nx + 1 : Nat) : Int))).setCell (g := g) (.inl rfl) 3 (.int .i64 ((sz + k : Nat) : Int))
      have e1 : ((nx + 1 : Nat) : Int) = (nx : Int) + 1 := by omega
      have e2 : ((sz + k : Nat) : Int) = (sz : Int) + (k : Int) := by omega
      rw [e1, e2] at hm4 hk4
      unfold PRc at hr4
      rw [e1, e2] at hr4
      have hkl := HKK.out
      have hnn := HNX.out
      refine ⟨some B, nx + 1, sz + k, n + 1, pcs ++ [s], rfl, ?_, hm4, ?_, by omega, by omega, ?_, ?_, by omega, fun b hb => .inl hb, HMG.out, hk4⟩
      · unfold PRc; rw [e1, e2]; exact hr4
      · rw [hnn, List.length_append]; rfl
      · simp
      · intro p hp
        rcases List.mem_append.1 hp with hp | hp
        · exact HP.out p hp
        · simp at hp; rw [hp]; exact HS.out
end Go.Proofs.Ytnckcdngmffahaa

/- Structs in boxes, of any type: stored whole, returned. -/
namespace Go.Proofs.Ytnckcdngmffahaa
open Go.ChangeShapes Go.WideShapes Go.ChangeAt Go.RowKit
set_option linter.unusedVariables false

/-- The stores of values, from cell k on. -/
def putB (w : World) (g : Nat) : Nat → List Value → World
  | _, [] => w
  | k, v :: r => putB (w.setCell ⟨g, k, none⟩ v) g (k + 1) r
theorem set_take {α : Type} (l : List α) (k : Nat) (v : α) (h : k < l.length) : (l.set k v).take (k + 1) = l.take k ++ [v] := by
  rw [List.take_succ_eq_append_getElem (by simpa using h), List.take_set_of_le (Nat.le_refl _)]
  simp
theorem cells_putB {t : TypeId} {g : Nat} : ∀ (vs : List Value) (k : Nat) (cs : Array Value) (w : World), Cells w g t cs → k + vs.length = cs.size → Cells (putB w g k vs) g t (cs.toList.take k ++ vs).toArray
  | [], k, cs, w, h, hk => by
    have : (cs.toList.take k ++ []).toArray = cs := by
      rw [List.append_nil, List.take_of_length_le (by simp at hk ⊢; omega)]
    rw [this]
    exact h
  | v :: r, k, cs, w, h, hk => by
    have h1 := cells_putB r (k + 1) (cs.setIfInBounds k v) (w.setCell ⟨g, k, none⟩ v) (Cells.set h k v) (by simp at hk ⊢; omega)
    have e : (cs.setIfInBounds k v).toList.take (k + 1) ++ r = cs.toList.take k ++ v :: r := by
      rw [Array.toList_setIfInBounds, set_take _ _ _ (by simp at hk ⊢; omega)]
      simp
    rw [e] at h1
    exact h1
/-- A struct stored over another. -/
theorem Cells.put {t : TypeId} {g : Nat} {cs : Array Value} {w : World} (h : Cells w g t cs) (vs : List Value) (hl : vs.length = cs.size) : Cells (putB w g 0 vs) g t vs.toArray := by
  have := cells_putB vs 0 cs w h (by omega)
  rwa [List.take_zero, List.nil_append] at this
theorem putB_below {B : Nat} {a : World} {g : Nat} (hg : B ≤ g) : ∀ (vs : List Value) (k : Nat) (w : World), Below B a w → Below B a (putB w g k vs)
  | [], _, _, h => h
  | v :: r, k, w, h => putB_below hg r (k + 1) (w.setCell ⟨g, k, none⟩ v) (h.setCell hg _)
theorem putB_far {g b : Nat} (hne : b ≠ g) : ∀ (vs : List Value) (k : Nat) (w : World), (putB w g k vs).heap[b]? = w.heap[b]?
  | [], _, _ => rfl
  | v :: r, k, w => (putB_far hne r (k + 1) (w.setCell ⟨g, k, none⟩ v)).trans (Below.heap_setCell w ⟨g, k, none⟩ v b hne)
theorem putB_size {g : Nat} : ∀ (vs : List Value) (k : Nat) (w : World), (putB w g k vs).heap.size = w.heap.size
  | [], _, _ => rfl
  | v :: r, k, w => by rw [putB, putB_size r (k + 1)]; simp [World.setCell]
theorem Cells.kept {t : TypeId} {w w' : World} {g B : Nat} {cs : Array Value} (h : Cells w g t cs) (hb : Below B w w') (hg : g < B) : Cells w' g t cs := (hb.block _ hg).trans h
theorem Cells.drew {t : TypeId} {w : World} {g : Nat} {cs : Array Value} (h : Cells w g t cs) : Cells w.drew g t cs := h
theorem Cells.far {t : TypeId} {w : World} {g b i : Nat} {cs : Array Value} (h : Cells w g t cs) (hne : g ≠ b) (u : Value) : Cells (w.setCell ⟨b, i, none⟩ u) g t cs := (Below.heap_setCell w ⟨b, i, none⟩ u g hne).trans h
/-- What the program says of a struct's type. -/
structure BoxTy (t : TypeId) (n : Nat) : Prop where
  und : ∃ fs, Try.prog.underlying t = some (.struct fs)
  size : (Try.prog.info? t).map (·.size) = some n
theorem res_box1 {t : TypeId} {cs : Array Value} (T : BoxTy t cs.size) {fn : Func} {p : Tmp} (h : fn.results = #[.cell p t]) (tmps : Array Value) (w : World) {g : Nat} (hp : tmps.getD p undef = .pointer (some ⟨g, 0, none⟩)) (ht : Cells w g t cs) :
    (results fn tmps).run Try.prog w = .ok (.agg cs) w := by
  obtain ⟨⟨fs, h1⟩, h3⟩ := T
  have hp' : tmps[p]?.getD undef = .pointer (some ⟨g, 0, none⟩) := by simpa using hp
  simp [results, h, hp', asAddr, run_loadVar_row w g t t cs (0, 0) (.struct fs) ht h1 rfl h3]
theorem res_box2 {t : TypeId} {cs : Array Value} (T : BoxTy t cs.size) {fn : Func} {p u : Tmp} (h : fn.results = #[.cell p t, .tmp u]) (tmps : Array Value) (w : World) {g : Nat} (hp : tmps.getD p undef = .pointer (some ⟨g, 0, none⟩)) (ht : Cells w g t cs) :
    (results fn tmps).run Try.prog w = .ok (.tuple #[.agg cs, tmps.getD u undef]) w := by
  obtain ⟨⟨fs, h1⟩, h3⟩ := T
  have hp' : tmps[p]?.getD undef = .pointer (some ⟨g, 0, none⟩) := by simpa using hp
  simp [results, h, hp', asAddr, run_loadVar_row w g t t cs (0, 0) (.struct fs) ht h1 rfl h3]
theorem res_box3 {t : TypeId} {cs : Array Value} (T : BoxTy t cs.size) {fn : Func} {p u v : Tmp} (h : fn.results = #[.cell p t, .tmp u, .tmp v]) (tmps : Array Value) (w : World) {g : Nat} (hp : tmps.getD p undef = .pointer (some ⟨g, 0, none⟩)) (ht : Cells w g t cs) :
    (results fn tmps).run Try.prog w = .ok (.tuple #[.agg cs, tmps.getD u undef, tmps.getD v undef]) w := by
  obtain ⟨⟨fs, h1⟩, h3⟩ := T
  have hp' : tmps[p]?.getD undef = .pointer (some ⟨g, 0, none⟩) := by simpa using hp
  simp [results, h, hp', asAddr, run_loadVar_row w g t t cs (0, 0) (.struct fs) ht h1 rfl h3]
theorem alloc2_0 (w : World) (a b : Obj) : ((w.alloc a).alloc b).heap[w.heap.size]? = some a :=
  ((below_alloc6 (w.alloc a) b).block w.heap.size (by simp)).trans (heap_alloc_new w a)
theorem alloc2_below (w : World) (a b : Obj) : Below w.heap.size w ((w.alloc a).alloc b) := (below_alloc6 w a).trans ((below_alloc6 _ b).mono (by simp))
/-- Ints as elements. -/
def EInt : Enc Int := ⟨1, by decide, fun x => [.int .i64 x], fun _ => rfl, fun s v hv => by
  simp only [List.mem_cons, List.not_mem_nil, or_false] at hv
  subst hv
  rfl⟩
theorem EInt.at_ {w0 w : World} {g ob : Nat} {l : List Int} {k : Nat} {x : Int} (h : RowL EInt w0 (some ⟨g, ob, none⟩) l) (hx : l[k]? = some x) (hb : Below w0.heap.size w0 w) : w.cell? ⟨g, ob + k, none⟩ = some (.int .i64 x) := by
  have := RowL.at_ h hx hb 0 _ rfl
  rwa [show ob + k * EInt.k + 0 = ob + k from by show ob + k * 1 + 0 = ob + k; omega] at this
theorem RowL.shapeA {α : Type} {E : Enc α} {w : World} {A : Option Addr} {l : List α} (h : RowL E w A l) (hp : 0 < l.length) : ∃ g ob, A = some ⟨g, ob, none⟩ ∧ g < w.heap.size := by
  obtain ⟨g, ob, e, hg, _⟩ := h hp
  exact ⟨g, ob, e, hg⟩
theorem own_blk_in {w : World} {base : Nat} {e : TypeId} {size : Nat} {v : Value} {n : Nat} {xs : List Value} (h : w.ownsRow base e size v n xs) : ∀ c, v.ownBlock = some c → base ≤ c ∧ c < w.heap.size := fun c hc => by
  rcases h.2 with ⟨h1, h2⟩ | ⟨g, cap, cur, hv, hb, hh, _⟩
  · rw [h1] at hc; cases hc
  · rw [hv] at hc
    obtain rfl := Option.some.inj hc
    exact ⟨hb, (Array.getElem?_eq_some_iff.1 hh).1⟩
/-- A store below the base leaves a row that the call owns. -/
theorem own_setb {w : World} {base g i : Nat} {e : TypeId} {size : Nat} {v : Value} {n : Nat} {xs : List Value} (h : w.ownsRow base e size v n xs) (hg : g < base) (u : Value) : (w.setCell ⟨g, i, none⟩ u).ownsRow base e size v n xs :=
  own_blocks h (fun b hb _ => Below.heap_setCell w ⟨g, i, none⟩ u b (fun e => by simp only at e; omega))
theorem own_putb {base g : Nat} {e : TypeId} {size : Nat} {v : Value} {n : Nat} {xs : List Value} {w : World} (h : w.ownsRow base e size v n xs) (hg : g < base) (vs : List Value) (k : Nat) : (putB w g k vs).ownsRow base e size v n xs :=
  own_blocks h (fun b hb _ => putB_far (by omega) vs k w)
end Go.Proofs.Ytnckcdngmffahaa

/- Contracts of the program of layer 9: take, end. -/
namespace Go.Proofs.Ytnckcdngmffahaa
open Go.ChangeShapes Go.WideShapes Go.ChangeAt Go.RowKit
set_option linter.unusedVariables false

def lenV : Value → Nat
  | .slice _ n _ => n
  | _ => 0
/-- What take leaves. -/
def TakeP (w : World) (g : Nat) (M : Option Nat) (nx sz n : Nat) (F : List UInt8) (nd : Nat) (gv : Value) (op : Bool) (ra rz : Int) (rd : ByteArray) (cnt la : Nat) (en : Bool) (m : Nat) (e : Ending) (w' : World) : Prop :=
  ∃ fi' n' pcs' sz', e = .returned (.string (str (F.take m))) ∧ PRc w' g M fi' nx sz' nd gv op ra rz rd cnt la en ∧ MQ w' M fi' pcs' n' ∧ nx = fi' + pcs'.length ∧ sz = sz' + m ∧ pcs'.flatten = F.drop m ∧ (∀ p ∈ pcs', p ≠ []) ∧ n' ≤ n + m ∧ KeepB (QW g M) w w'
/-- Where take stands: k bytes are taken. -/
structure TkI (w0 wr : World) (g : Nat) (M : Option Nat) (nx sz n : Nat) (F : List UInt8) (nd : Nat) (gv : Value) (op : Bool) (ra rz : Int) (rd : ByteArray) (cnt la : Nat) (en : Bool) (k fi n' : Nat) (pcs : List (List UInt8)) (v : Value) : Prop where
  cells : PRc wr g M fi nx sz nd gv op ra rz rd cnt la en
  map : MQ wr M fi pcs n'
  nx_ : nx = fi + pcs.length
  flat : pcs.flatten = F.drop k
  pos : ∀ p ∈ pcs, p ≠ []
  cnt_ : n' ≤ n + k
  keep : KeepB (QW g M) w0 wr
  own : wr.ownsRow w0.heap.size 5 1 v k (cellsOf (F.take k))
theorem TkI.drewN {w0 wr : World} {g : Nat} {M : Option Nat} {nx sz n : Nat} {F : List UInt8} {nd : Nat} {gv : Value} {op : Bool} {ra rz : Int} {rd : ByteArray} {cnt la : Nat} {en : Bool} {k fi n' : Nat} {pcs : List (List UInt8)} {v : Value}
    (h : TkI w0 wr g M nx sz n F nd gv op ra rz rd cnt la en k fi n' pcs v) (q : Nat) : TkI w0 (wr.drewN q) g M nx sz n F nd gv op ra rz rd cnt la en k fi n' pcs v :=
  ⟨h.cells, h.map, h.nx_, h.flat, h.pos, h.cnt_, h.keep.drewN q, h.own⟩
theorem own_w9 {w w' : World} {base : Nat} {e : TypeId} {size : Nat} {v : Value} {n : Nat} {xs : List Value} (h : w.ownsRow base e size v n xs) (hb : ∀ c, base ≤ c → c < w.heap.size → w'.heap[c]? = w.heap[c]?) : w'.ownsRow base e size v n xs := own_blocks h hb
theorem extract9 (x : List UInt8) (a c : Nat) : (str x).extract a c = str ((x.drop a).take (c - a)) := by
  have : str ((str x).extract a c).data.toList = (str x).extract a c := str_of _
  rw [← this]
  congr 1
  have e := str_toList x
  simp only [ByteArray.data_extract, Array.toList_extract, List.extract_eq_take_drop, e]
set_option maxHeartbeats 8000000 in
set_option maxRecDepth 20000 in
theorem qtake9_any (g : Nat) (M : Option Nat) (fi nx sz n : Nat) (pcs : List (List UInt8)) (nd : Nat) (gv : Value) (op : Bool) (ra rz : Int) (rd : ByteArray) (cnt la : Nat) (en : Bool) (m : Nat) (w : World)
    (h : PRc w g M fi nx sz nd gv op ra rz rd cnt la en) (hm : MQ w M fi pcs n) (hnx : nx = fi + pcs.length) (hp : ∀ p ∈ pcs, p ≠ []) (hM : ∀ b, M = some b → b ≠ g) (hMl : ∀ b, M = some b → b < w.heap.size) (hs : sz = pcs.flatten.length) (hb : nx ≤ 3000000 ∧ sz ≤ 3000000 ∧ n ≤ 3000000 ∧ m ≤ sz) :
    Calls Try.prog 34 #[.pointer (some ⟨g, 0, none⟩), .int .i64 (m : Int)] w (TakeP w g M nx sz n pcs.flatten nd gv op ra rz rd cnt la en m) := by
  obtain ⟨hb1, hb2, hb3, hb4⟩ := hb
  obtain ⟨i0, hi, hz0, hz1, hz2⟩ := info_parts info5
  obtain ⟨F, hF⟩ : ∃ F, F = pcs.flatten := ⟨_, rfl⟩
  have HFL := Lib.hid (show sz = F.length by rw [hF]; exact hs)
  have HG := Lib.hid h.lt
  have HMG := Lib.hid hM
  have HML := Lib.hid hMl
  have HI := Lib.hid (fun (v : Value) (w0 : World) (ho : w0.ownsRow w.heap.size 5 1 v 0 []) (hg : w.grownBy w0 none) => (show TkI w w0 g M nx sz n F nd gv op ra rz rd cnt la en 0 fi n pcs v from
    ⟨h.only hg (by simp), hm.kept hg (by simp), hnx, by rw [hF]; rfl, hp, Nat.le_refl _, (KeepB.refl (QW g M) w).grownBy hg (fun j hj => by cases hj), ho⟩))
  have HFF := Lib.hid hF
  clear h hm hnx hp hM hMl hs hF
  rw [← HFF.out]
  clear HFF
  go_enter Try.func34, Try.ntmps34
  go_wp2_with (at_make; refine wpList_make_own _ rfl _ _ 52 rfl w.heap.size 5 i0 (.int .u8 0) 1 Try.underlying52 hi hz0 hz1 .i64 .i64 _ m rfl rfl (by rfl) (by rw [hz2]; omega) (by unfold maxLen; omega) (Nat.le_refl _) ?_; intro w0 hown0 hgrow0)
  have HI0 := Lib.hid (HI.out _ _ hown0 hgrow0)
  clear hown0 hgrow0 HI
  go_loopw [5] (fun v5 wr => ∃ k fi n' : Nat, ∃ A c, ∃ pcs, v5 = .slice A k c ∧ k ≤ m ∧ Hid (TkI w wr g M nx sz n F nd gv op ra rz rd cnt la en k fi n' pcs (.slice A k c))) (fun v5 _ => m - lenV v5)
  case atStart => exact ⟨0, fi, n, _, _, pcs, rfl, Nat.zero_le _, HI0⟩
  case round =>
    clear HI0
    obtain ⟨k, fi, n', A, c, pcs, rfl, hk, HT⟩ := hrel
    by_cases hlt : k < m
    · have dlt : decide ((k : Int) < (m : Int)) = true := by simp; omega
      obtain ⟨x, r, rfl⟩ : ∃ x r, pcs = x :: r := by
        cases pcs with
        | nil =>
          have := congrArg List.length HT.out.flat
          rw [List.length_drop, ← HFL.out] at this
          simp at this
          omega
        | cons x r => exact ⟨x, r, rfl⟩
      obtain ⟨b, rfl⟩ : ∃ b, M = some b := by
        rcases HT.out.map with ⟨_, e⟩ | ⟨b, D, e, _⟩
        · cases e
        · exact ⟨b, e⟩
      have hx0 : 0 < x.length := List.length_pos_iff.2 (HT.out.pos x (by simp))
      have hfl := congrArg List.length HT.out.flat
      rw [List.length_drop, ← HFL.out] at hfl
      simp only [List.flatten_cons, List.length_append] at hfl
      have hfn := HT.out.nx_
      rw [List.length_cons] at hfn
      have hlk : ∀ q, (Instr.lookup 46 (.map (some b)) (.int .i64 (fi : Int)) false).run Try.prog (wr.drewN q) = .ok (.string (str x)) (wr.drewN q) := fun q => MQ.look (HT.out.map.drewN q) (by omega)
      have c0 := HT.out.cells.c0
      have c1 := HT.out.cells.c1
      have hn4 := HT.out.cnt_
      obtain ⟨lx, hlx⟩ : ∃ l, l = x.length := ⟨_, rfl⟩
      have hsx : (str x).size = lx := by rw [str_size, hlx]
      rw [← hlx] at hx0 hfl
      have HLX := Lib.hid hlx
      clear hlx
      go_wp2_with fail
      go_quiet (fail)
      have HT2 := Lib.hid (HT.out.drewN nq)
      clear HT hlk c0 c1
      generalize wr.drewN nq = w2 at *
      obtain ⟨d, hd⟩ : ∃ d, d = m - k := ⟨_, rfl⟩
      have hmk : (m : Int) - (k : Int) = (d : Int) := by omega
      have hd0 : 0 < d := by omega
      have HD := Lib.hid hd
      have HRN := Lib.hid (show lx + r.flatten.length = sz - k from hfl)
      have HNB := Lib.hid (show ∀ j, (Value.slice A k c).ownBlock = some j → w.heap.size ≤ j from fun j hj => (own_blk_in HT2.out.own j hj).1)
      by_cases hdl : d < lx
      · have hmn : min (d : Int) (lx : Int) = (d : Int) := by omega
        have hdi : (d : Int) < (lx : Int) := by omega
        have ddl : decide ((d : Int) < (lx : Int)) = true := by simp; omega
        have hex0 : (str x).extract 0 d = str (x.take d) := by rw [extract9]; rfl
        have hex1 : (str x).extract d lx = str (x.drop d) := by rw [extract9, List.take_of_length_le (by rw [List.length_drop, ← HLX.out]; exact Nat.le_refl _)]
        have hus : (str (x.take d)).size = d := by rw [str_size, List.length_take, ← HLX.out]; omega
        have HSC := Lib.hid (show cellsOf (F.take k) ++ Lib.strCells (str (x.take d)) = cellsOf (F.take m) by
          unfold Lib.strCells
          rw [str_toList]
          have e1 : F.take m = F.take k ++ x.take d := by
            have e2 : F.take m = F.take k ++ (F.drop k).take d := by rw [hd, show m = k + (m - k) by omega, List.take_add]; simp
            rw [e2, ← HT2.out.flat, List.flatten_cons, List.take_append_of_le_length (by rw [← HLX.out]; omega)]
          rw [e1]
          unfold cellsOf
          rw [List.map_append])
        have HFD := Lib.hid (show (x.drop d :: r).flatten = F.drop m by
          have e1 : F.drop m = (F.drop k).drop d := by rw [List.drop_drop, hd]; congr 1; omega
          rw [e1, ← HT2.out.flat, List.flatten_cons, List.flatten_cons, List.drop_append_of_le_length (by rw [← HLX.out]; omega)])
        have HYN := Lib.hid (show x.drop d ≠ [] from fun e => by have := congrArg List.length e; rw [List.length_drop, ← HLX.out] at this; simp at this; omega)
        have hyl : (x.drop d).length ≤ 9000000000 := by rw [List.length_drop, ← HLX.out]; omega
        generalize x.drop d = y at *
        generalize hU : str (x.take d) = U at *
        generalize hT : str x = T at *
        clear hU hT hd hfl
        go_wp2_with (at_builtin; refine Lib.wpList_append_own_string _ rfl _ _ 52 9 rfl w.heap.size 5 i0 Try.underlying52 Try.underlying9 hi hz0 hz1 hz2 _ k (cellsOf (F.take k)) rfl HT2.out.own U rfl ?c3 ?c4 ?c5 ?_)
        case c3 => unfold maxLen; omega
        case c4 => omega
        case c5 => exact HT2.out.keep.size
        intro v' w3 hown3 hgrow _
        rw [HSC.out] at hown3
        rw [show k + d = m by have := HD.out; omega] at hown3
        obtain ⟨A3, c3, rfl⟩ := own_shape hown3
        have HP3 := Lib.hid (HT2.out.cells.only hgrow (fun e => by have h1 := HNB.out _ e.symm; have := HG.out; omega))
        have HM3 := Lib.hid (HT2.out.map.kept hgrow (fun c hc e => by have h1 := HNB.out _ e.symm; have := HML.out _ hc; omega))
        have HK3 := Lib.hid (HT2.out.keep.grownBy hgrow (fun j hj => .inr (HNB.out j hj)))
        have HO3 := Lib.hid hown3
        have HNX := Lib.hid HT2.out.nx_
        have HPO := Lib.hid HT2.out.pos
        clear hown3 hgrow HT2 HSC HNB
        obtain ⟨w4, hup, hm4, ht4⟩ := (show MQ w3.drew (some b) fi (x :: r) n' from HM3.out).front (y := y) (by omega) hyl (by omega)
        have HM4 := Lib.hid hm4
        have HP4 := Lib.hid ((show PRc w3.drew g (some b) fi nx sz nd gv op ra rz rd cnt la en from HP3.out).only ht4.grown (fun e => by have := HMG.out b rfl; exact this (Option.some.inj e).symm))
        have HK4 := Lib.hid (HK3.out.drew.grownBy ht4.grown (fun j hj => .inl (.inr hj)))
        have HO4 := Lib.hid (own_w9 (w := w3.drew) HO3.out (fun c hc hl => ht4.grown.block c hl (fun e => by obtain rfl := Option.some.inj e; have := HML.out _ rfl; omega)))
        have c0 := HP3.out.c0
        have c1 := HP3.out.c1
        generalize hY : str y = Y at *
        clear hY hm4 ht4 HP3 HM3 HK3 HO3
        go_wp2_with fail
        go_region
        clear c0 c1 hup
        go_wp2_with fail
        go_roundw
        case rel => exact ⟨m, fi, n' + 1, A3, c3, y :: r, rfl, Nat.le_refl _, Lib.hid ⟨HP4.out, HM4.out, by rw [HNX.out]; rfl, HFD.out, fun p hp => by
          rcases List.mem_cons.1 hp with rfl | hp
          · exact HYN.out
          · exact HPO.out p (List.mem_cons_of_mem _ hp), by have := HD.out; omega, HK4.out, HO4.out⟩⟩
        case measure => simp [lenV]; omega
      · have hmn : min (d : Int) (lx : Int) = (lx : Int) := by omega
        have hdi : ¬ (lx : Int) < (lx : Int) := by omega
        have ddl : decide ((lx : Int) < (lx : Int)) = false := by simp
        have hex0 : (str x).extract 0 lx = str x := by rw [extract9]; simp [HLX.out]
        obtain ⟨k1, hk1⟩ : ∃ k1, k1 = k + lx := ⟨_, rfl⟩
        have hk1m : k1 ≤ m := by omega
        have hk1k : k < k1 := by omega
        have HK1 := Lib.hid hk1
        have HSC := Lib.hid (show cellsOf (F.take k) ++ Lib.strCells (str x) = cellsOf (F.take k1) by
          unfold Lib.strCells
          rw [str_toList]
          have e1 : F.take k1 = F.take k ++ x := by
            have e2 : F.take k1 = F.take k ++ (F.drop k).take lx := by rw [hk1, List.take_add]
            rw [e2, ← HT2.out.flat, List.flatten_cons, List.take_append_of_le_length (by rw [← HLX.out]; exact Nat.le_refl _), List.take_of_length_le (l := x) (by rw [← HLX.out]; exact Nat.le_refl _)]
          rw [e1]
          unfold cellsOf
          rw [List.map_append])
        have HFD := Lib.hid (show r.flatten = F.drop k1 by
          have e1 : F.drop k1 = (F.drop k).drop lx := by rw [List.drop_drop, hk1]
          rw [e1, ← HT2.out.flat, List.flatten_cons, List.drop_append_of_le_length (by rw [← HLX.out]; exact Nat.le_refl _), List.drop_of_length_le (by rw [← HLX.out]; exact Nat.le_refl _), List.nil_append])
        have HPO := Lib.hid (show ∀ p ∈ r, p ≠ [] from fun p hp => HT2.out.pos p (List.mem_cons_of_mem _ hp))
        generalize hT : str x = T at *
        clear hT hd hfl hdl hk1
        go_wp2_with (at_builtin; refine Lib.wpList_append_own_string _ rfl _ _ 52 9 rfl w.heap.size 5 i0 Try.underlying52 Try.underlying9 hi hz0 hz1 hz2 _ k (cellsOf (F.take k)) rfl HT2.out.own T rfl ?c3 ?c4 ?c5 ?_)
        case c3 => unfold maxLen; omega
        case c4 => omega
        case c5 => exact HT2.out.keep.size
        intro v' w3 hown3 hgrow _
        rw [HSC.out] at hown3
        rw [show k + lx = k1 by have := HK1.out; omega] at hown3
        obtain ⟨A3, c3, rfl⟩ := own_shape hown3
        have HP3 := Lib.hid (HT2.out.cells.only hgrow (fun e => by have h1 := HNB.out _ e.symm; have := HG.out; omega))
        have HM3 := Lib.hid (HT2.out.map.kept hgrow (fun c hc e => by have h1 := HNB.out _ e.symm; have := HML.out _ hc; omega))
        have HK3 := Lib.hid (HT2.out.keep.grownBy hgrow (fun j hj => .inr (HNB.out j hj)))
        have HO3 := Lib.hid hown3
        have HNX := Lib.hid HT2.out.nx_
        clear hown3 hgrow HT2 HSC HNB
        have c0 := HP3.out.c0
        have c1 := HP3.out.c1
        go_wp2_with fail
        go_region_law ((refine step_pop (w := w3.drew) rfl _ _ rfl HM3.out (by omega) rfl rfl ?_; intro w4 hm4 ht4))
        all_goals
          have HM4 := Lib.hid hm4
          have HP4 := Lib.hid ((show PRc w3.drew g (some b) fi nx sz nd gv op ra rz rd cnt la en from HP3.out).only ht4.grown (fun e => by have := HMG.out b rfl; exact this (Option.some.inj e).symm))
          have HK4 := Lib.hid (HK3.out.drew.grownBy ht4.grown (fun j hj => .inl (.inr hj)))
          have HO4 := Lib.hid (own_w9 (w := w3.drew) HO3.out (fun c hc hl => ht4.grown.block c hl (fun e => by obtain rfl := Option.some.inj e; have := HML.out _ rfl; omega)))
          clear c0 c1 HP3 HM3 HK3 HO3 hm4 ht4
          have c1 := HP4.out.c1
          have f1 := HP4.out.f 1
          go_wp2_with fail
          go_roundw
          case rel => exact ⟨k1, fi + 1, n', A3, c3, r, rfl, hk1m, Lib.hid ⟨HP4.out.setFi (fi + 1), HM4.out.setCell HMG.out 1 _, by have := HNX.out; rw [List.length_cons] at this; omega, HFD.out, HPO.out, by omega, HK4.out.setCell (.inl rfl) 1 _, own_setb HO4.out HG.out _⟩⟩
          case measure => simp [lenV]; omega
    · obtain rfl : k = m := by omega
      have dlt : decide ((k : Int) < (k : Int)) = false := by simp
      have nlt : ¬ (k : Int) < (k : Int) := by omega
      have hkl : (F.take k).length = k := by rw [List.length_take, ← HFL.out]; omega
      have hcv := bs_string (bs_of_own (A := A) (cap := c) (l := F.take k) (w := wr) (base := w.heap.size) (by rw [hkl]; exact HT.out.own))
      rw [hkl] at hcv
      have hcv2 : ∀ v, (convert 52 9 (.slice A k c)).run Try.prog (wr.setCell ⟨g, 3, none⟩ v) = .ok (.string (str (F.take k))) (wr.setCell ⟨g, 3, none⟩ v) := fun v => by
        have := bs_string (bs_of_own (A := A) (cap := c) (l := F.take k) (w := wr.setCell ⟨g, 3, none⟩ v) (base := w.heap.size) (by rw [hkl]; exact own_setb HT.out.own HG.out v))
        rwa [hkl] at this
      clear hcv
      generalize hS : str (F.take k) = S at *
      have HSS := Lib.hid hS
      clear hS
      have c3' := HT.out.cells.c3
      have f3' := HT.out.cells.f 3
      have hgl := HT.out.cells.lt
      obtain ⟨z, hz⟩ : ∃ z, z = sz - k := ⟨_, rfl⟩
      have hzi : (sz : Int) - (k : Int) = (z : Int) := by omega
      have HZ := Lib.hid (show sz = z + k by omega)
      clear hz
      go_wp2_with fail
      go_ret
      exact ⟨fi, n', pcs, z, by rw [HSS.out]; rfl, HT.out.cells.setSz z, HT.out.map.setCell HMG.out 3 _, HT.out.nx_, HZ.out, HT.out.flat, HT.out.pos, HT.out.cnt_, HT.out.keep.setCell (.inl rfl) 3 _⟩
set_option maxRecDepth 20000 in
theorem rend9_any (g : Nat) (M : Option Nat) (fi nx sz nd : Nat) (gv : Value) (op : Bool) (ra rz : Int) (rd : ByteArray) (cnt la : Nat) (en : Bool) (w : World) (h : PRc w g M fi nx sz nd gv op ra rz rd cnt la en) :
    Calls Try.prog 35 #[.pointer (some ⟨g, 0, none⟩)] w fun e w' => e = .returned (.tuple #[]) ∧ PRc w' g none 0 0 0 nd gv op ra rz rd cnt la true ∧ KeepB (fun k => k = g) w w' := by
  have H := Lib.hid h
  have c0 := h.c0
  have c1 := h.c1
  have c2 := h.c2
  have c3 := h.c3
  have c12 := h.c12
  have f0 := h.f 0
  have f1 := h.f 1
  have f2 := h.f 2
  have f3 := h.f 3
  have f12 := h.f 12
  have hgl := h.lt
  clear h
  go_enter Try.func35, Try.ntmps35
  go_wp2_with fail
  go_end0
  exact ⟨rfl, ((((H.out.setEn true).setM none).setFi 0).setNx 0).setSz 0, (((((KeepB.refl (fun k => k = g) w).setCell rfl 12 _).setCell rfl 0 _).setCell rfl 1 _).setCell rfl 2 _).setCell rfl 3 _⟩
end Go.Proofs.Ytnckcdngmffahaa
