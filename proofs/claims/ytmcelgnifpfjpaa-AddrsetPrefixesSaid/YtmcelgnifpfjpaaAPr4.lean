/- Contracts of the functions, part 4: SetStk, SetGIM, SetLay, SetPCmp, SetAddM, SetSort, Pick, SetHas, SetOwn, SetPNor. -/
import Derived.Deep.RegionLaw
import Derived.Shelf.SlLaysF0
import Derived.Shelf.SlLaysH0
import Derived.Shelf.Lays8
import Derived.Test.YtmcelgnifpfjpaaProg
import Derived.Shelf.SlSortCmp.WholeK
import Derived.Shelf.SlicesQ.IndexFunc
import Derived.Laws.OwnMore
import Derived.Deep.QuietTactic
import Derived.Test.YtmcelgnifpfjpaaAPr2
import Derived.Test.YtmcelgnifpfjpaaAPr3
/- Contracts of the program's stacks of layer 7: put, take, for ranges and for prefixes. -/
namespace Go.Proofs.Ytmcelgnifpfjpaa
open Go.ChangeShapes Go.WideShapes Go.ChangeAt Go.RowKit
set_option linter.unusedVariables false

theorem res_rng2 {fn : Func} {p u : Tmp} (h : fn.results = #[.cell p 43, .tmp u]) (tmps : Array Value) (w : World) {g : Nat} {v1 : Bool} {h1 l1 : Nat} {v2 : Bool} {h2 l2 : Nat} (hp : tmps.getD p undef = .pointer (some ⟨g, 0, none⟩)) (ht : RB w g v1 h1 l1 v2 h2 l2) :
    (results fn tmps).run Try.prog w = .ok (.tuple #[.agg #[.bool v1, .int .u64 h1, .int .u64 l1, .bool v2, .int .u64 h2, .int .u64 l2], tmps.getD u undef]) w := by
  have hp' : tmps[p]?.getD undef = .pointer (some ⟨g, 0, none⟩) := by simpa using hp
  simp [results, h, hp', asAddr, run_loadVar_row w g 43 43 _ (0, 0) _ ht Try.underlying43 rfl rng_size]
theorem grown_trans {w w1 w2 : World} {row : Option Nat} (h1 : w.grownBy w1 row) (h2 : w1.grownBy w2 row) : w.grownBy w2 row := ⟨h2.os.trans h1.os, h2.tape.trans h1.tape, h2.output.trans h1.output, Nat.le_trans h1.size h2.size, fun k hk hne => (h2.block k (Nat.lt_of_lt_of_le hk h1.size) hne).trans (h1.block k hk hne)⟩
theorem grown_below {w w' : World} (h : Below w.heap.size w w') (row : Option Nat) : w.grownBy w' row := ⟨h.os, h.tape, h.output, h.size, fun k hk _ => h.block k hk⟩
theorem grown_set {w : World} {b i : Nat} (u : Value) : w.grownBy (w.setCell ⟨b, i, none⟩ u) (some b) := ⟨rfl, rfl, rfl, by simp, fun k _ hk => heap_setCell_other w ⟨b, i, none⟩ k u (fun e => hk (by simp [e]))⟩
/-- What a put leaves: all but the stack's box and its row. -/
structure Kept2 (w w' : World) (b : Nat) (row : Option Nat) : Prop where
  os : w'.os = w.os
  tape : w'.tape = w.tape
  output : w'.output = w.output
  size : w.heap.size ≤ w'.heap.size
  block : ∀ y, y < w.heap.size → y ≠ b → some y ≠ row → w'.heap[y]? = w.heap[y]?
theorem Kept2.app {w wr wz : World} {b : Nat} {row own : Option Nat} {o : Obj} (h : Kept2 w wr b row) (hg : (wr.alloc o).drew.grownBy wz own) (hne : ∀ j, own = some j → j ≠ b ∧ (row = some j ∨ w.heap.size ≤ j)) (u : Value) : Kept2 w (wz.setCell ⟨b, 0, none⟩ u) b row := by
  have hs : (wr.alloc o).drew.heap.size = wr.heap.size + 1 := by simp
  have hsz := hg.size
  have h1 := h.size
  refine ⟨hg.os.trans h.os, hg.tape.trans h.tape, hg.output.trans h.output, ?_, fun y hy hb hr => ?_⟩
  · have : (wz.setCell ⟨b, 0, none⟩ u).heap.size = wz.heap.size := by simp
    omega
  · rw [heap_setCell_other wz ⟨b, 0, none⟩ y u (fun e => hb (by simpa using e))]
    rw [hg.block y (by omega) (fun e => by
      rcases (hne y e.symm).2 with h2 | h2
      · exact hr h2.symm
      · omega)]
    rw [show (wr.alloc o).drew.heap[y]? = wr.heap[y]? from (below_alloc6 wr o).block y (by omega)]
    exact h.block y hy hb hr
theorem own_g {g n c j : Nat} (h : (Value.slice (some ⟨g, 0, none⟩) n c).ownBlock = some j) : j = g := by simpa [Value.ownBlock] using h.symm
/-- The box of a stack. -/
def SBR (w : World) (b : Nat) (A : Option Addr) (n c : Nat) : Prop := Cells w b 55 #[.slice A n c]
theorem SBR.c {w : World} {b n c : Nat} {A : Option Addr} (h : SBR w b A n c) : w.cell? ⟨b, 0, none⟩ = some (.slice A n c) := (Cells.cell h 0).trans rfl
theorem SBR.f {w : World} {b n c : Nat} {A : Option Addr} (h : SBR w b A n c) : w.frozen? ⟨b, 0, none⟩ = false := Cells.frozen h 0
theorem SBR.lt {w : World} {b n c : Nat} {A : Option Addr} (h : SBR w b A n c) : b < w.heap.size := Cells.lt h
theorem SBR.set {w : World} {b n c : Nat} {A : Option Addr} (h : SBR w b A n c) (A' : Option Addr) (n' c' : Nat) : SBR (w.setCell ⟨b, 0, none⟩ (.slice A' n' c')) b A' n' c' := Cells.set h 0 _
theorem SBR.kept {w w' : World} {b n c : Nat} {A : Option Addr} (h : SBR w b A n c) (hb : Below w.heap.size w w') : SBR w' b A n c := (hb.block _ h.lt).trans h
set_option maxHeartbeats 2000000 in
set_option maxRecDepth 20000 in
theorem putR_any (b base : Nat) (A Al : Option Addr) (n c m cl : Nat) (I l : List Rg) (w : World) (hb : SBR w b A n c) (hbb : b < base ∨ True) (ho : OwnR w base A n c I) (hl : RowL ER w Al l) (hm : m = l.length) (hn : n + m ≤ 900000) (hbase : base ≤ w.heap.size)
    (hne : ∀ j, (Value.slice A n c).ownBlock = some j → j ≠ b) (hnl : ∀ a, Al = some a → a.block ≠ b ∧ some a.block ≠ (Value.slice A n c).ownBlock) :
    Calls Try.prog 49 #[.pointer (some ⟨b, 0, none⟩), .slice Al m cl] w fun e w' => e = .returned (.tuple #[]) ∧ ∃ A' c', SBR w' b A' (n + m) c' ∧ OwnR w' base A' (n + m) c' (I ++ l.reverse) ∧ Kept2 w w' b (Value.slice A n c).ownBlock ∧ (∀ j, (Value.slice A' (n + m) c').ownBlock = some j → j ≠ b ∧ ((Value.slice A n c).ownBlock = some j ∨ w.heap.size ≤ j)) := by
  have HB := Lib.hid hb
  have HO := Lib.hid ho
  have HL := Lib.hid hl
  have HM := Lib.hid hm
  have HNL := Lib.hid hnl
  have HK0 := Lib.hid (show Kept2 w w b (Value.slice A n c).ownBlock from ⟨rfl, rfl, rfl, Nat.le_refl _, fun _ _ _ _ => rfl⟩)
  have HN0 := Lib.hid (show ∀ j, (Value.slice A n c).ownBlock = some j → j ≠ b ∧ ((Value.slice A n c).ownBlock = some j ∨ w.heap.size ≤ j) from fun j hj => ⟨hne j hj, .inl hj⟩)
  obtain ⟨row, hrow⟩ : ∃ r, r = (Value.slice A n c).ownBlock := ⟨_, rfl⟩
  rw [← hrow] at HK0 HN0 HNL ⊢
  have HI0 := Lib.hid (show I = I ++ (l.drop m).reverse by rw [hm]; simp)
  have HRW := Lib.hid hrow
  have hwm : IntKind.i64.wrap ((m : Int) - 1) = (m : Int) - 1 := IntWalk.i64_in _ (by omega)
  clear hb ho hl hm hne hnl hbb hrow
  go_enter Try.func49, Try.ntmps49
  go_wp2_with fail
  go_loopw [4] (fun s4 wr => ∃ q n' c' : Nat, ∃ A' : Option Addr, ∃ I' : List Rg, q ≤ m ∧ s4 = .int .i64 ((q : Int) - 1) ∧ n' + q = n + m ∧ Hid (I' = I ++ (l.drop q).reverse) ∧ Hid (SBR wr b A' n' c') ∧ Hid (OwnR wr base A' n' c' I') ∧ Hid (Kept2 w wr b row) ∧ Hid (∀ j, (Value.slice A' n' c').ownBlock = some j → j ≠ b ∧ (row = some j ∨ w.heap.size ≤ j))) (fun s4 _ => (intOf s4 + 1).toNat)
  case atStart => exact ⟨m, n, c, A, I, by omega, rfl, rfl, HI0, HB, HO, HK0, Lib.hid (fun j hj => HN0.out j (HRW.out.trans hj))⟩
  case round =>
    clear HI0 HB HO HK0 HN0
    obtain ⟨q, n', c', A', I', hq, rfl, hnq, HI, HB, HO, HK, HNE⟩ := hrel
    by_cases hq0 : 0 < q
    · obtain ⟨p, rfl⟩ : ∃ p, q = p + 1 := ⟨q - 1, by omega⟩
      have hpl : p < l.length := by have := HM.out; omega
      obtain ⟨⟨⟨v1, h1, l1⟩, ⟨v2, h2, l2⟩⟩, hget⟩ : ∃ s, l[p]? = some s := ⟨l[p], List.getElem?_eq_getElem hpl⟩
      obtain ⟨g, o, rfl, hg⟩ := HL.out.shape (by omega)
      have hgn := HNL.out _ rfl
      have hlw : RowL ER wr (some ⟨g, o, none⟩) l := fun hp => by
        obtain ⟨g', o', e, h1, hc⟩ := HL.out hp
        simp only [Option.some.injEq, Addr.mk.injEq, and_true] at e
        obtain ⟨rfl, rfl⟩ := e
        refine ⟨g, o, rfl, Nat.lt_of_lt_of_le h1 HK.out.size, fun i x hx j v hv => ?_⟩
        rw [World.cell?_of_block (w := w) (w' := wr) (a := ⟨g, o + i * ER.k + j, none⟩) (HK.out.block g h1 hgn.1 hgn.2)]
        exact hc i x hx j v hv
      obtain ⟨c0, c1, c2, c3, c4, c5⟩ := rg_at hlw hget (Below.refl _ _)
      have e1 : ((p + 1 : Nat) : Int) - 1 = (p : Int) := by omega
      have hpi : (0 : Int) ≤ (p : Int) := by omega
      have hpm : (p : Int) < (m : Int) := by omega
      have hwp : IntKind.i64.wrap ((p : Int) - 1) = (p : Int) - 1 := IntWalk.i64_in _ (by omega)
      have HI2 := Lib.hid (show I' ++ [⟨⟨v1, h1, l1⟩, ⟨v2, h2, l2⟩⟩] = I ++ (l.drop p).reverse by
        obtain ⟨h1, h2⟩ := List.getElem?_eq_some_iff.1 hget
        rw [HI.out, List.drop_eq_getElem_cons hpl, List.reverse_cons, h2, List.append_assoc])
      have b0 := HB.out.c
      have bf := HB.out.f
      have bl := HB.out.lt
      have hgl : g < wr.heap.size := Nat.lt_of_lt_of_le hg HK.out.size
      have hgb : g ≠ b := hgn.1
      have hbw : base ≤ wr.heap.size := Nat.le_trans hbase HK.out.size
      rw [e1]
      clear hget hlw hpl hg hgn HI e1
      go_wp2_with fail
      go_region_law ((refine step_push (E := ER) rgTy (by rfl) _ _ (by rfl) base (.slice A' n' c') n' I' [⟨⟨v1, h1, l1⟩, ⟨v2, h2, l2⟩⟩] (by rfl) (HO.out.al _).2 wr.heap.size 1 1 #[.bool v1, .int .u64 h1, .int .u64 l1, .bool v2, .int .u64 h2, .int .u64 l2] (0, 0) (by rfl) (heap_alloc_new wr _) rfl rfl (by omega) (by omega) (by decide) (by simp; omega) ?_; intro g2 cap2 wz hown hgrow hat hlt2; have hbz : SBR wz b A' n' c' := (hgrow.block b (by simp; omega) (fun e => (HNE.out b e.symm).1 rfl)).trans (show (wr.alloc (.cells #[.bool v1, .int .u64 h1, .int .u64 l1, .bool v2, .int .u64 h2, .int .u64 l2] 43)).heap[b]? = _ from HB.out.kept (below_alloc6 wr _)); have z0 := hbz.c; have zf := hbz.f; have zl := hbz.lt))
      all_goals
        have hs9 : (wr.alloc (.cells #[.bool v1, .int .u64 h1, .int .u64 l1, .bool v2, .int .u64 h2, .int .u64 l2] 43)).drew.heap.size = wr.heap.size + 1 := by simp
        have hg2b : g2 ≠ b ∧ (row = some g2 ∨ w.heap.size ≤ g2) := by
          rcases hat with hat | hat
          · exact HNE.out g2 hat
          · have := HK.out.size
            exact ⟨by omega, .inr (by omega)⟩
        have HO9 := Lib.hid (show OwnR (wz.setCell ⟨b, 0, none⟩ (.slice (some ⟨g2, 0, none⟩) (n' + 1) cap2)) base (some ⟨g2, 0, none⟩) (n' + 1) cap2 (I' ++ [⟨⟨v1, h1, l1⟩, ⟨v2, h2, l2⟩⟩]) from (HO.out.push rfl hown).far2 (fun j hj => by rw [own_g hj]; exact hg2b.1) _)
        have HB9 := Lib.hid (hbz.set (some ⟨g2, 0, none⟩) (n' + 1) cap2)
        have HK9 := Lib.hid (HK.out.app hgrow HNE.out (.slice (some ⟨g2, 0, none⟩) (n' + 1) cap2))
        have HN9 := Lib.hid (show ∀ j, (Value.slice (some ⟨g2, 0, none⟩) (n' + 1) cap2).ownBlock = some j → j ≠ b ∧ (row = some j ∨ w.heap.size ≤ j) from fun j hj => by rw [own_g hj]; exact hg2b)
        clear hs9 hg2b hown hgrow hat hlt2 hbz z0 zf zl HO HB HK HNE b0 bf bl hgl hgb hbw c0 c1 c2 c3 c4 c5
        generalize wz.setCell ⟨b, 0, none⟩ (.slice (some ⟨g2, 0, none⟩) (n' + 1) cap2) = W9 at *
        go_wp2_with fail
        go_roundw
        case rel => exact ⟨p, n' + 1, cap2, some ⟨g2, 0, none⟩, I' ++ [⟨⟨v1, h1, l1⟩, ⟨v2, h2, l2⟩⟩], by omega, by rfl, by omega, HI2, HB9, HO9, HK9, HN9⟩
        case measure => simp [intOf] <;> omega
    · have hq1 : q = 0 := by omega
      subst hq1
      have e1 : ((0 : Nat) : Int) - 1 = -1 := by omega
      have HI2 := Lib.hid (show I' = I ++ l.reverse by have := HI.out; rwa [List.drop_zero] at this)
      obtain rfl : n' = n + m := by omega
      rw [e1]
      clear HI e1
      go_wp2_with fail
      go_end0
      exact ⟨rfl, A', c', HB.out, by rw [← HI2.out]; exact HO.out, HK.out, HNE.out⟩
set_option maxHeartbeats 1000000 in
set_option maxRecDepth 20000 in
theorem takeR_none (b : Nat) (A : Option Addr) (c : Nat) (w : World) (hb : SBR w b A 0 c) :
    Calls Try.prog 51 #[.pointer (some ⟨b, 0, none⟩)] w fun e w' => e = .returned (.tuple #[.agg #[.bool false, .int .u64 0, .int .u64 0, .bool false, .int .u64 0, .int .u64 0], .bool false]) ∧ Below w.heap.size w w' := by
  have HX := Lib.hid (rb_new w false 0 0 false 0 0)
  have HB := Lib.hid (hb.kept (below_alloc6 w (.cells #[.bool false, .int .u64 0, .int .u64 0, .bool false, .int .u64 0, .int .u64 0] 43)))
  have HW := Lib.hid (below_alloc6 w (.cells #[.bool false, .int .u64 0, .int .u64 0, .bool false, .int .u64 0, .int .u64 0] 43))
  have hbl := hb.lt
  have b0 := hb.c
  clear hb
  have hw1 : IntKind.i64.wrap (((0 : Nat) : Int) - 1) = -1 := by decide
  go_enter Try.func51, Try.ntmps51
  go_wp2_with fail
  exact bodyPost_ret (res_rng2 rfl _ _ rfl (HX.out.al _)) rfl ⟨rfl, (HW.out.trans ((below_alloc6 _ _).mono HW.out.size))⟩
set_option maxHeartbeats 1000000 in
set_option maxRecDepth 20000 in
theorem takeR_any (b base : Nat) (A : Option Addr) (n c : Nat) (I : List Rg) (x : Rg) (w : World) (hb : SBR w b A n c) (ho : OwnR w base A n c (I ++ [x])) (hn : n ≤ 1000000) (hne : ∀ j, (Value.slice A n c).ownBlock = some j → j ≠ b) :
    Calls Try.prog 51 #[.pointer (some ⟨b, 0, none⟩)] w fun e w' => e = .returned (.tuple #[.agg #[.bool x.lo.v, .int .u64 x.lo.h, .int .u64 x.lo.l, .bool x.hi.v, .int .u64 x.hi.h, .int .u64 x.hi.l], .bool true]) ∧ SBR w' b A (n - 1) c ∧ w.grownBy w' (some b) := by
  obtain ⟨m, rfl⟩ : ∃ m, n = m + 1 := ⟨n - 1, by have := ho.1; simp at this; omega⟩
  obtain ⟨⟨⟨v1, h1, l1⟩, ⟨v2, h2, l2⟩⟩, rfl⟩ : ∃ y, y = x := ⟨x, rfl⟩
  have hc := own_cap ho.2
  obtain ⟨g, cg, hf, hgb, hgl⟩ := World.ownsRow.form ho.2 (by omega)
  simp only [Value.slice.injEq, true_and] at hf
  obtain ⟨rfl, rfl⟩ := hf
  have hgb2 := hne g rfl
  have hget : (I ++ [⟨⟨v1, h1, l1⟩, ⟨v2, h2, l2⟩⟩])[m]? = some ⟨⟨v1, h1, l1⟩, ⟨v2, h2, l2⟩⟩ := by
    have : I.length = m := by have := ho.1; simp at this; omega
    rw [← this]; simp
  obtain ⟨c0, c1, c2, c3, c4, c5⟩ := rg_at ho.row hget (Below.refl _ _)
  simp only [Nat.zero_add] at c0 c1 c2 c3 c4 c5
  have HX := Lib.hid (rb_new w false 0 0 false 0 0)
  have b0 := hb.c
  have bf := hb.f
  have hbl := hb.lt
  have e1 : ((m + 1 : Nat) : Int) - 1 = (m : Int) := by omega
  have hw1 : IntKind.i64.wrap (((m + 1 : Nat) : Int) - 1) = (m : Int) := by rw [e1]; exact IntWalk.i64_in _ (by omega)
  have hmi : (0 : Int) ≤ (m : Int) := by omega
  have dm : decide ((m : Int) < 0) = false := by simp
  have dmn : ¬ (m : Int) < 0 := by omega
  have hmm : (m : Int) < ((m + 1 : Nat) : Int) := by omega
  have hcm : (m : Int) ≤ (c : Int) := by have := hc.1; omega
  have hcmN : m ≤ c := by have := hc.1; omega
  have hc9 : c ≤ 9223372036854775807 := hc.2
  have HB := Lib.hid hb
  show Calls _ _ _ _ fun e w' => _ ∧ SBR w' b _ m _ ∧ _
  clear ho hget hgb hc hb hne
  go_enter Try.func51, Try.ntmps51
  go_wp2_with fail
  have hW : (w.setCell ⟨b, 0, none⟩ (.slice (some ⟨g, 0, none⟩) m c)).heap.size = w.heap.size := by simp
  have hx := rb_new (w.setCell ⟨b, 0, none⟩ (.slice (some ⟨g, 0, none⟩) m c)) v1 h1 l1 v2 h2 l2
  rw [hW] at hx
  have hb9 := (below_alloc6 (w.setCell ⟨b, 0, none⟩ (.slice (some ⟨g, 0, none⟩) m c)) (.cells #[.bool v1, .int .u64 h1, .int .u64 l1, .bool v2, .int .u64 h2, .int .u64 l2] 43)).trans ((below_alloc6 _ (.cells #[.bool v1, .int .u64 h1, .int .u64 l1, .bool v2, .int .u64 h2, .int .u64 l2] 43)).mono (by simp))
  exact bodyPost_ret (res_rng2 rfl _ _ rfl (hx.al _)) rfl ⟨rfl, (HB.out.set _ _ _).kept hb9, grown_trans (grown_set _) (grown_below hb9 _)⟩
/-- The box of a stack. -/
def SBP (w : World) (b : Nat) (A : Option Addr) (n c : Nat) : Prop := Cells w b 76 #[.slice A n c]
theorem SBP.c {w : World} {b n c : Nat} {A : Option Addr} (h : SBP w b A n c) : w.cell? ⟨b, 0, none⟩ = some (.slice A n c) := (Cells.cell h 0).trans rfl
theorem SBP.f {w : World} {b n c : Nat} {A : Option Addr} (h : SBP w b A n c) : w.frozen? ⟨b, 0, none⟩ = false := Cells.frozen h 0
theorem SBP.lt {w : World} {b n c : Nat} {A : Option Addr} (h : SBP w b A n c) : b < w.heap.size := Cells.lt h
theorem SBP.set {w : World} {b n c : Nat} {A : Option Addr} (h : SBP w b A n c) (A' : Option Addr) (n' c' : Nat) : SBP (w.setCell ⟨b, 0, none⟩ (.slice A' n' c')) b A' n' c' := Cells.set h 0 _
theorem SBP.kept {w w' : World} {b n c : Nat} {A : Option Addr} (h : SBP w b A n c) (hb : Below w.heap.size w w') : SBP w' b A n c := (hb.block _ h.lt).trans h
set_option maxHeartbeats 2000000 in
set_option maxRecDepth 20000 in
theorem putP_any (b base : Nat) (A Al : Option Addr) (n c m cl : Nat) (I l : List Pf) (w : World) (hb : SBP w b A n c) (hbb : b < base ∨ True) (ho : OwnP w base A n c I) (hl : RowL EP w Al l) (hm : m = l.length) (hn : n + m ≤ 900000) (hbase : base ≤ w.heap.size)
    (hne : ∀ j, (Value.slice A n c).ownBlock = some j → j ≠ b) (hnl : ∀ a, Al = some a → a.block ≠ b ∧ some a.block ≠ (Value.slice A n c).ownBlock) :
    Calls Try.prog 70 #[.pointer (some ⟨b, 0, none⟩), .slice Al m cl] w fun e w' => e = .returned (.tuple #[]) ∧ ∃ A' c', SBP w' b A' (n + m) c' ∧ OwnP w' base A' (n + m) c' (I ++ l.reverse) ∧ Kept2 w w' b (Value.slice A n c).ownBlock ∧ (∀ j, (Value.slice A' (n + m) c').ownBlock = some j → j ≠ b ∧ ((Value.slice A n c).ownBlock = some j ∨ w.heap.size ≤ j)) := by
  have HB := Lib.hid hb
  have HO := Lib.hid ho
  have HL := Lib.hid hl
  have HM := Lib.hid hm
  have HNL := Lib.hid hnl
  have HK0 := Lib.hid (show Kept2 w w b (Value.slice A n c).ownBlock from ⟨rfl, rfl, rfl, Nat.le_refl _, fun _ _ _ _ => rfl⟩)
  have HN0 := Lib.hid (show ∀ j, (Value.slice A n c).ownBlock = some j → j ≠ b ∧ ((Value.slice A n c).ownBlock = some j ∨ w.heap.size ≤ j) from fun j hj => ⟨hne j hj, .inl hj⟩)
  obtain ⟨row, hrow⟩ : ∃ r, r = (Value.slice A n c).ownBlock := ⟨_, rfl⟩
  rw [← hrow] at HK0 HN0 HNL ⊢
  have HI0 := Lib.hid (show I = I ++ (l.drop m).reverse by rw [hm]; simp)
  have HRW := Lib.hid hrow
  have hwm : IntKind.i64.wrap ((m : Int) - 1) = (m : Int) - 1 := IntWalk.i64_in _ (by omega)
  clear hb ho hl hm hne hnl hbb hrow
  go_enter Try.func70, Try.ntmps70
  go_wp2_with fail
  go_loopw [4] (fun s4 wr => ∃ q n' c' : Nat, ∃ A' : Option Addr, ∃ I' : List Pf, q ≤ m ∧ s4 = .int .i64 ((q : Int) - 1) ∧ n' + q = n + m ∧ Hid (I' = I ++ (l.drop q).reverse) ∧ Hid (SBP wr b A' n' c') ∧ Hid (OwnP wr base A' n' c' I') ∧ Hid (Kept2 w wr b row) ∧ Hid (∀ j, (Value.slice A' n' c').ownBlock = some j → j ≠ b ∧ (row = some j ∨ w.heap.size ≤ j))) (fun s4 _ => (intOf s4 + 1).toNat)
  case atStart => exact ⟨m, n, c, A, I, by omega, rfl, rfl, HI0, HB, HO, HK0, Lib.hid (fun j hj => HN0.out j (HRW.out.trans hj))⟩
  case round =>
    clear HI0 HB HO HK0 HN0
    obtain ⟨q, n', c', A', I', hq, rfl, hnq, HI, HB, HO, HK, HNE⟩ := hrel
    by_cases hq0 : 0 < q
    · obtain ⟨p, rfl⟩ : ∃ p, q = p + 1 := ⟨q - 1, by omega⟩
      have hpl : p < l.length := by have := HM.out; omega
      obtain ⟨⟨v1, h1, l1, b1⟩, hget⟩ : ∃ s, l[p]? = some s := ⟨l[p], List.getElem?_eq_getElem hpl⟩
      obtain ⟨g, o, rfl, hg⟩ := HL.out.shape (by omega)
      have hgn := HNL.out _ rfl
      have hlw : RowL EP wr (some ⟨g, o, none⟩) l := fun hp => by
        obtain ⟨g', o', e, h1, hc⟩ := HL.out hp
        simp only [Option.some.injEq, Addr.mk.injEq, and_true] at e
        obtain ⟨rfl, rfl⟩ := e
        refine ⟨g, o, rfl, Nat.lt_of_lt_of_le h1 HK.out.size, fun i x hx j v hv => ?_⟩
        rw [World.cell?_of_block (w := w) (w' := wr) (a := ⟨g, o + i * EP.k + j, none⟩) (HK.out.block g h1 hgn.1 hgn.2)]
        exact hc i x hx j v hv
      obtain ⟨c0, c1, c2, c3⟩ := pf_at hlw hget (Below.refl _ _)
      have e1 : ((p + 1 : Nat) : Int) - 1 = (p : Int) := by omega
      have hpi : (0 : Int) ≤ (p : Int) := by omega
      have hpm : (p : Int) < (m : Int) := by omega
      have hwp : IntKind.i64.wrap ((p : Int) - 1) = (p : Int) - 1 := IntWalk.i64_in _ (by omega)
      have HI2 := Lib.hid (show I' ++ [⟨v1, h1, l1, b1⟩] = I ++ (l.drop p).reverse by
        obtain ⟨h1, h2⟩ := List.getElem?_eq_some_iff.1 hget
        rw [HI.out, List.drop_eq_getElem_cons hpl, List.reverse_cons, h2, List.append_assoc])
      have b0 := HB.out.c
      have bf := HB.out.f
      have bl := HB.out.lt
      have hgl : g < wr.heap.size := Nat.lt_of_lt_of_le hg HK.out.size
      have hgb : g ≠ b := hgn.1
      have hbw : base ≤ wr.heap.size := Nat.le_trans hbase HK.out.size
      rw [e1]
      clear hget hlw hpl hg hgn HI e1
      go_wp2_with fail
      go_region_law ((refine step_push (E := EP) pfTy (by rfl) _ _ (by rfl) base (.slice A' n' c') n' I' [⟨v1, h1, l1, b1⟩] (by rfl) (HO.out.al _).2 wr.heap.size 1 1 #[.bool v1, .int .u64 h1, .int .u64 l1, .int .i64 b1] (0, 0) (by rfl) (heap_alloc_new wr _) rfl rfl (by omega) (by omega) (by decide) (by simp; omega) ?_; intro g2 cap2 wz hown hgrow hat hlt2; have hbz : SBP wz b A' n' c' := (hgrow.block b (by simp; omega) (fun e => (HNE.out b e.symm).1 rfl)).trans (show (wr.alloc (.cells #[.bool v1, .int .u64 h1, .int .u64 l1, .int .i64 b1] 37)).heap[b]? = _ from HB.out.kept (below_alloc6 wr _)); have z0 := hbz.c; have zf := hbz.f; have zl := hbz.lt))
      all_goals
        have hs9 : (wr.alloc (.cells #[.bool v1, .int .u64 h1, .int .u64 l1, .int .i64 b1] 37)).drew.heap.size = wr.heap.size + 1 := by simp
        have hg2b : g2 ≠ b ∧ (row = some g2 ∨ w.heap.size ≤ g2) := by
          rcases hat with hat | hat
          · exact HNE.out g2 hat
          · have := HK.out.size
            exact ⟨by omega, .inr (by omega)⟩
        have HO9 := Lib.hid (show OwnP (wz.setCell ⟨b, 0, none⟩ (.slice (some ⟨g2, 0, none⟩) (n' + 1) cap2)) base (some ⟨g2, 0, none⟩) (n' + 1) cap2 (I' ++ [⟨v1, h1, l1, b1⟩]) from (HO.out.push rfl hown).far2 (fun j hj => by rw [own_g hj]; exact hg2b.1) _)
        have HB9 := Lib.hid (hbz.set (some ⟨g2, 0, none⟩) (n' + 1) cap2)
        have HK9 := Lib.hid (HK.out.app hgrow HNE.out (.slice (some ⟨g2, 0, none⟩) (n' + 1) cap2))
        have HN9 := Lib.hid (show ∀ j, (Value.slice (some ⟨g2, 0, none⟩) (n' + 1) cap2).ownBlock = some j → j ≠ b ∧ (row = some j ∨ w.heap.size ≤ j) from fun j hj => by rw [own_g hj]; exact hg2b)
        clear hs9 hg2b hown hgrow hat hlt2 hbz z0 zf zl HO HB HK HNE b0 bf bl hgl hgb hbw c0 c1 c2 c3
        generalize wz.setCell ⟨b, 0, none⟩ (.slice (some ⟨g2, 0, none⟩) (n' + 1) cap2) = W9 at *
        go_wp2_with fail
        go_roundw
        case rel => exact ⟨p, n' + 1, cap2, some ⟨g2, 0, none⟩, I' ++ [⟨v1, h1, l1, b1⟩], by omega, by rfl, by omega, HI2, HB9, HO9, HK9, HN9⟩
        case measure => simp [intOf] <;> omega
    · have hq1 : q = 0 := by omega
      subst hq1
      have e1 : ((0 : Nat) : Int) - 1 = -1 := by omega
      have HI2 := Lib.hid (show I' = I ++ l.reverse by have := HI.out; rwa [List.drop_zero] at this)
      obtain rfl : n' = n + m := by omega
      rw [e1]
      clear HI e1
      go_wp2_with fail
      go_end0
      exact ⟨rfl, A', c', HB.out, by rw [← HI2.out]; exact HO.out, HK.out, HNE.out⟩
set_option maxHeartbeats 1000000 in
set_option maxRecDepth 20000 in
theorem takeP_none (b : Nat) (A : Option Addr) (c : Nat) (w : World) (hb : SBP w b A 0 c) :
    Calls Try.prog 71 #[.pointer (some ⟨b, 0, none⟩)] w fun e w' => e = .returned (.tuple #[.agg #[.bool false, .int .u64 0, .int .u64 0, .int .i64 0], .bool false]) ∧ Below w.heap.size w w' := by
  have HX := Lib.hid (pb_new w false 0 0 0)
  have HB := Lib.hid (hb.kept (below_alloc6 w (.cells #[.bool false, .int .u64 0, .int .u64 0, .int .i64 0] 37)))
  have HW := Lib.hid (below_alloc6 w (.cells #[.bool false, .int .u64 0, .int .u64 0, .int .i64 0] 37))
  have hbl := hb.lt
  have b0 := hb.c
  clear hb
  have hw1 : IntKind.i64.wrap (((0 : Nat) : Int) - 1) = -1 := by decide
  go_enter Try.func71, Try.ntmps71
  go_wp2_with fail
  exact bodyPost_ret (res_pfx2 rfl _ _ rfl (HX.out.al _)) rfl ⟨rfl, (HW.out.trans ((below_alloc6 _ _).mono HW.out.size))⟩
set_option maxHeartbeats 1000000 in
set_option maxRecDepth 20000 in
theorem takeP_any (b base : Nat) (A : Option Addr) (n c : Nat) (I : List Pf) (x : Pf) (w : World) (hb : SBP w b A n c) (ho : OwnP w base A n c (I ++ [x])) (hn : n ≤ 1000000) (hne : ∀ j, (Value.slice A n c).ownBlock = some j → j ≠ b) :
    Calls Try.prog 71 #[.pointer (some ⟨b, 0, none⟩)] w fun e w' => e = .returned (.tuple #[.agg #[.bool x.v, .int .u64 x.h, .int .u64 x.l, .int .i64 x.k], .bool true]) ∧ SBP w' b A (n - 1) c ∧ w.grownBy w' (some b) := by
  obtain ⟨m, rfl⟩ : ∃ m, n = m + 1 := ⟨n - 1, by have := ho.1; simp at this; omega⟩
  obtain ⟨⟨v1, h1, l1, b1⟩, rfl⟩ : ∃ y, y = x := ⟨x, rfl⟩
  have hc := own_cap ho.2
  obtain ⟨g, cg, hf, hgb, hgl⟩ := World.ownsRow.form ho.2 (by omega)
  simp only [Value.slice.injEq, true_and] at hf
  obtain ⟨rfl, rfl⟩ := hf
  have hgb2 := hne g rfl
  have hget : (I ++ [⟨v1, h1, l1, b1⟩])[m]? = some ⟨v1, h1, l1, b1⟩ := by
    have : I.length = m := by have := ho.1; simp at this; omega
    rw [← this]; simp
  obtain ⟨c0, c1, c2, c3⟩ := pf_at ho.row hget (Below.refl _ _)
  simp only [Nat.zero_add] at c0 c1 c2 c3
  have HX := Lib.hid (pb_new w false 0 0 0)
  have b0 := hb.c
  have bf := hb.f
  have hbl := hb.lt
  have e1 : ((m + 1 : Nat) : Int) - 1 = (m : Int) := by omega
  have hw1 : IntKind.i64.wrap (((m + 1 : Nat) : Int) - 1) = (m : Int) := by rw [e1]; exact IntWalk.i64_in _ (by omega)
  have hmi : (0 : Int) ≤ (m : Int) := by omega
  have dm : decide ((m : Int) < 0) = false := by simp
  have dmn : ¬ (m : Int) < 0 := by omega
  have hmm : (m : Int) < ((m + 1 : Nat) : Int) := by omega
  have hcm : (m : Int) ≤ (c : Int) := by have := hc.1; omega
  have hcmN : m ≤ c := by have := hc.1; omega
  have hc9 : c ≤ 9223372036854775807 := hc.2
  have HB := Lib.hid hb
  show Calls _ _ _ _ fun e w' => _ ∧ SBP w' b _ m _ ∧ _
  clear ho hget hgb hc hb hne
  go_enter Try.func71, Try.ntmps71
  go_wp2_with fail
  have hW : (w.setCell ⟨b, 0, none⟩ (.slice (some ⟨g, 0, none⟩) m c)).heap.size = w.heap.size := by simp
  have hx := pb_new (w.setCell ⟨b, 0, none⟩ (.slice (some ⟨g, 0, none⟩) m c)) v1 h1 l1 b1
  rw [hW] at hx
  have hb9 := (below_alloc6 (w.setCell ⟨b, 0, none⟩ (.slice (some ⟨g, 0, none⟩) m c)) (.cells #[.bool v1, .int .u64 h1, .int .u64 l1, .int .i64 b1] 37)).trans ((below_alloc6 _ (.cells #[.bool v1, .int .u64 h1, .int .u64 l1, .int .i64 b1] 37)).mono (by simp))
  exact bodyPost_ret (res_pfx2 rfl _ _ rfl (hx.al _)) rfl ⟨rfl, (HB.out.set _ _ _).kept hb9, grown_trans (grown_set _) (grown_below hb9 _)⟩
end Go.Proofs.Ytmcelgnifpfjpaa

/- The state of the program's greatestIn in memory, and how each step turns it. -/
namespace Go.Proofs.Ytmcelgnifpfjpaa
open Go.ChangeShapes Go.WideShapes Go.ChangeAt Go.RowKit
set_option linter.unusedVariables false

theorem RB.grown {w w' : World} {g : Nat} {v1 : Bool} {h1 l1 : Nat} {v2 : Bool} {h2 l2 : Nat} {row : Option Nat} (h : RB w g v1 h1 l1 v2 h2 l2) (hg : w.grownBy w' row) (hne : some g ≠ row) : RB w' g v1 h1 l1 v2 h2 l2 := (hg.block g h.lt hne).trans h
theorem PB.grown {w w' : World} {g : Nat} {v : Bool} {h l : Nat} {k : Int} {row : Option Nat} (hp : PB w g v h l k) (hg : w.grownBy w' row) (hne : some g ≠ row) : PB w' g v h l k := (hg.block g (PB.lt hp) hne).trans hp
/-- The state: t tells the blocks apart. -/
structure GI (w W : World) (t : Nat → Nat) (bs : Nat) (As : Option Addr) (ns cs : Nat) (I : List Pf) (Ao : Option Addr) (no co : Nat) (F : List Pf) (gr : Nat) (v1 : Bool) (h1 l1 : Nat) (v2 : Bool) (h2 l2 : Nat) (gp : Nat) (pv : Bool) (ph pl : Nat) (pk : Int) : Prop where
  B : Below w.heap.size w W
  bge : w.heap.size ≤ bs
  gge : w.heap.size ≤ gp
  sb : SBP W bs As ns cs
  sr : OwnP W w.heap.size As ns cs I
  or : OwnP W w.heap.size Ao no co F
  rb : RB W gr v1 h1 l1 v2 h2 l2
  pb : PB W gp pv ph pl pk
  t1 : t bs = 1
  t2 : ∀ j, (Value.slice As ns cs).ownBlock = some j → t j = 2
  t3 : ∀ j, (Value.slice Ao no co).ownBlock = some j → t j = 3
  t4 : t gr = 4
  t5 : t gp = 5
variable {w W : World} {t : Nat → Nat} {bs : Nat} {As : Option Addr} {ns cs : Nat} {I : List Pf} {Ao : Option Addr} {no co : Nat} {F : List Pf} {gr : Nat} {v1 : Bool} {h1 l1 : Nat} {v2 : Bool} {h2 l2 : Nat} {gp : Nat} {pv : Bool} {ph pl : Nat} {pk : Int}
theorem GI.kept {W' : World} (h : GI w W t bs As ns cs I Ao no co F gr v1 h1 l1 v2 h2 l2 gp pv ph pl pk) (hb : Below W.heap.size W W') : GI w W' t bs As ns cs I Ao no co F gr v1 h1 l1 v2 h2 l2 gp pv ph pl pk :=
  { h with B := h.B.trans (hb.mono h.B.size), sb := h.sb.kept hb, sr := h.sr.kept hb, or := h.or.kept hb, rb := h.rb.kept hb h.rb.lt, pb := PB.kept h.pb hb (PB.lt h.pb) }
theorem GI.al (h : GI w W t bs As ns cs I Ao no co F gr v1 h1 l1 v2 h2 l2 gp pv ph pl pk) (o : Obj) : GI w (W.alloc o) t bs As ns cs I Ao no co F gr v1 h1 l1 v2 h2 l2 gp pv ph pl pk := h.kept (below_alloc6 W o)
/-- A new box for the prefix at hand. -/
theorem GI.newp (h : GI w W t bs As ns cs I Ao no co F gr v1 h1 l1 v2 h2 l2 gp pv ph pl pk) (qv : Bool) (qh ql : Nat) (qk : Int) : ∃ t', GI w (W.alloc (.cells #[.bool qv, .int .u64 qh, .int .u64 ql, .int .i64 qk] 37)) t' bs As ns cs I Ao no co F gr v1 h1 l1 v2 h2 l2 W.heap.size qv qh ql qk := by
  have h2 := h.al (.cells #[.bool qv, .int .u64 qh, .int .u64 ql, .int .i64 qk] 37)
  refine ⟨fun y => if y < W.heap.size then t y else 5, h2.B, h.bge, h.B.size, h2.sb, h2.sr, h2.or, h2.rb, pb_new W qv qh ql qk, ?_, fun j hj => ?_, fun j hj => ?_, ?_, ?_⟩
  · simp only [if_pos h.sb.lt]; exact h.t1
  · have := (h.sr.2.lt j hj).2
    simp only [if_pos this]; exact h.t2 j hj
  · have := (h.or.2.lt j hj).2
    simp only [if_pos this]; exact h.t3 j hj
  · simp only [if_pos h.rb.lt]; exact h.t4
  · simp
/-- The top of the stack is taken. -/
theorem GI.took {W' : World} {x : Pf} (h : GI w W t bs As ns cs (I ++ [x]) Ao no co F gr v1 h1 l1 v2 h2 l2 gp pv ph pl pk) (hs : SBP W' bs As (ns - 1) cs) (hg : W.grownBy W' (some bs)) : GI w W' t bs As (ns - 1) cs I Ao no co F gr v1 h1 l1 v2 h2 l2 gp pv ph pl pk := by
  have hI : ns = I.length + 1 := by have := h.sr.1; simpa using this
  have hown : (Value.slice As (ns - 1) cs).ownBlock = (Value.slice As ns cs).ownBlock := by cases As <;> rfl
  have ns2 : ∀ j, (Value.slice As ns cs).ownBlock = some j → j ≠ bs := fun j hj e => by have a := h.t2 j hj; rw [e, h.t1] at a; omega
  have no2 : ∀ j, (Value.slice Ao no co).ownBlock = some j → j ≠ bs := fun j hj e => by have a := h.t3 j hj; rw [e, h.t1] at a; omega
  have ng : gr ≠ bs := fun e => by have a := h.t4; rw [e, h.t1] at a; omega
  have np : gp ≠ bs := fun e => by have a := h.t5; rw [e, h.t1] at a; omega
  refine ⟨h.B.grown hg h.B.size (fun k hk => by cases hk; exact h.bge), h.bge, h.gge, hs, ⟨by omega, ?_⟩, ⟨h.or.1, own_only h.or.2 hg (fun c hc e => no2 c hc (Option.some.inj e))⟩, h.rb.grown hg (fun e => ng (Option.some.inj e)), h.pb.grown hg (fun e => np (Option.some.inj e)), h.t1, fun j hj => h.t2 j (hown ▸ hj), h.t3, h.t4, h.t5⟩
  have h3 := own_cut (E := EP) (m := ns - 1) (own_only h.sr.2 hg (fun c hc e => ns2 c hc (Option.some.inj e))) h.sr.1 (by omega)
  rwa [show (I ++ [x]).take (ns - 1) = I by rw [show ns - 1 = I.length by omega]; simp] at h3
/-- A prefix was found. -/
theorem GI.found {wz : World} {g2 cap2 : Nat} {o : Obj} {x : Pf} (h : GI w W t bs As ns cs I Ao no co F gr v1 h1 l1 v2 h2 l2 gp pv ph pl pk) (hown : wz.ownsRow w.heap.size 37 4 (.slice (some ⟨g2, 0, none⟩) (no + 1) cap2) (no + 1) (EP.cells (F ++ [x]))) (hg : (W.alloc o).grownBy wz (Value.slice Ao no co).ownBlock) (hat : (Value.slice Ao no co).ownBlock = some g2 ∨ g2 = W.heap.size + 1) : ∃ t', GI w wz t' bs As ns cs I (some ⟨g2, 0, none⟩) (no + 1) cap2 (F ++ [x]) gr v1 h1 l1 v2 h2 l2 gp pv ph pl pk := by
  have ha := h.al o
  have hz : (W.alloc o).heap.size = W.heap.size + 1 := by simp
  have no1 : some bs ≠ (Value.slice Ao no co).ownBlock := fun e => by have a := h.t3 bs e.symm; rw [h.t1] at a; omega
  have no2 : ∀ j, (Value.slice As ns cs).ownBlock = some j → some j ≠ (Value.slice Ao no co).ownBlock := fun j hj e => by have a := h.t2 j hj; have b := h.t3 j e.symm; omega
  have no4 : some gr ≠ (Value.slice Ao no co).ownBlock := fun e => by have a := h.t3 gr e.symm; rw [h.t4] at a; omega
  have no5 : some gp ≠ (Value.slice Ao no co).ownBlock := fun e => by have a := h.t3 gp e.symm; rw [h.t5] at a; omega
  refine ⟨fun y => if y < W.heap.size then t y else 3, h.or.below h.B h.B.size (Nat.le_refl _) hg, h.bge, h.gge, (hg.block bs ha.sb.lt no1).trans ha.sb, ⟨h.sr.1, own_only ha.sr.2 hg no2⟩, ⟨by rw [List.length_append, ← h.or.1]; rfl, hown⟩, ha.rb.grown hg no4, ha.pb.grown hg no5, ?_, fun j hj => ?_, fun j hj => ?_, ?_, ?_⟩
  · simp only [if_pos h.sb.lt]; exact h.t1
  · simp only [if_pos (h.sr.2.lt j hj).2]; exact h.t2 j hj
  · rw [own_g hj]
    rcases hat with hat | hat
    · simp only [if_pos (h.or.2.lt g2 hat).2]; exact h.t3 g2 hat
    · simp only [if_neg (show ¬ g2 < W.heap.size by omega)]
  · simp only [if_pos h.rb.lt]; exact h.t4
  · simp only [if_pos (PB.lt h.pb)]; exact h.t5
/-- Prefixes were put onto the stack. -/
theorem GI.put {W' : World} {A' : Option Addr} {n' c' : Nat} {J : List Pf} (h : GI w W t bs As ns cs I Ao no co F gr v1 h1 l1 v2 h2 l2 gp pv ph pl pk) (hs : SBP W' bs A' n' c') (ho : OwnP W' w.heap.size A' n' c' J) (hk : Kept2 W W' bs (Value.slice As ns cs).ownBlock) (hn : ∀ j, (Value.slice A' n' c').ownBlock = some j → j ≠ bs ∧ ((Value.slice As ns cs).ownBlock = some j ∨ W.heap.size ≤ j)) : ∃ t', GI w W' t' bs A' n' c' J Ao no co F gr v1 h1 l1 v2 h2 l2 gp pv ph pl pk := by
  have no1 : ∀ j, (Value.slice Ao no co).ownBlock = some j → j ≠ bs ∧ some j ≠ (Value.slice As ns cs).ownBlock := fun j hj => ⟨fun e => by have a := h.t3 j hj; rw [e, h.t1] at a; omega, fun e => by have a := h.t3 j hj; have b := h.t2 j e.symm; omega⟩
  have no4 : gr ≠ bs ∧ some gr ≠ (Value.slice As ns cs).ownBlock := ⟨fun e => by have a := h.t4; rw [e, h.t1] at a; omega, fun e => by have a := h.t2 gr e.symm; rw [h.t4] at a; omega⟩
  have no5 : gp ≠ bs ∧ some gp ≠ (Value.slice As ns cs).ownBlock := ⟨fun e => by have a := h.t5; rw [e, h.t1] at a; omega, fun e => by have a := h.t2 gp e.symm; rw [h.t5] at a; omega⟩
  refine ⟨fun y => if y < W.heap.size then t y else 2, ?_, h.bge, h.gge, hs, ho, ?_, (hk.block gr h.rb.lt no4.1 no4.2).trans h.rb, (hk.block gp (PB.lt h.pb) no5.1 no5.2).trans h.pb, ?_, fun j hj => ?_, fun j hj => ?_, ?_, ?_⟩
  · refine h.B.trans ⟨hk.os, hk.tape, hk.output, hk.size, fun y hy => hk.block y (Nat.lt_of_lt_of_le hy h.B.size) (fun e => by have := h.bge; omega) (fun e => by have := (h.sr.2.lt y e.symm).1; omega)⟩
  · refine ⟨h.or.1, h.or.2.1, ?_⟩
    rcases h.or.2.2 with hh | ⟨g, cap, cur, hv, hb, hh, rest⟩
    · exact .inl hh
    · have := no1 g (by rw [hv]; rfl)
      exact .inr ⟨g, cap, cur, hv, hb, (hk.block g (Array.getElem?_eq_some_iff.1 hh).1 this.1 this.2).trans hh, rest⟩
  · simp only [if_pos h.sb.lt]; exact h.t1
  · rcases (hn j hj).2 with h3 | h3
    · simp only [if_pos (h.sr.2.lt j h3).2]; exact h.t2 j h3
    · simp only [if_neg (show ¬ j < W.heap.size by omega)]
  · simp only [if_pos (h.or.2.lt j hj).2]; exact h.t3 j hj
  · simp only [if_pos h.rb.lt]; exact h.t4
  · simp only [if_pos (PB.lt h.pb)]; exact h.t5
/-- The prefix at hand is stored anew. -/
theorem GI.setp (h : GI w W t bs As ns cs I Ao no co F gr v1 h1 l1 v2 h2 l2 gp pv ph pl pk) (qv : Bool) (qh ql : Nat) (qk : Int) : GI w (pset W gp qv qh ql qk) t bs As ns cs I Ao no co F gr v1 h1 l1 v2 h2 l2 gp qv qh ql qk := by
  have hg : W.grownBy (pset W gp qv qh ql qk) (some gp) := grown_trans (grown_trans (grown_trans (grown_set _) (grown_set _)) (grown_set _)) (grown_set _)
  have n1 : some bs ≠ some gp := fun e => by have a := h.t1; rw [Option.some.inj e, h.t5] at a; omega
  have n2 : ∀ j, (Value.slice As ns cs).ownBlock = some j → some j ≠ some gp := fun j hj e => by have a := h.t2 j hj; rw [Option.some.inj e, h.t5] at a; omega
  have n3 : ∀ j, (Value.slice Ao no co).ownBlock = some j → some j ≠ some gp := fun j hj e => by have a := h.t3 j hj; rw [Option.some.inj e, h.t5] at a; omega
  have n4 : some gr ≠ some gp := fun e => by have a := h.t4; rw [Option.some.inj e, h.t5] at a; omega
  exact ⟨h.B.grown hg h.B.size (fun k hk => by cases hk; exact h.gge), h.bge, h.gge, (hg.block bs h.sb.lt n1).trans h.sb, ⟨h.sr.1, own_only h.sr.2 hg n2⟩, ⟨h.or.1, own_only h.or.2 hg n3⟩, h.rb.grown hg n4, PB.set h.pb qv qh ql qk, h.t1, h.t2, h.t3, h.t4, h.t5⟩
end Go.Proofs.Ytmcelgnifpfjpaa

/- The library's contracts laid at this seat at ranges of addresses (SortFunc, ContainsFunc, Grow), in plain words. -/
namespace Go.Proofs.Ytmcelgnifpfjpaa
open Go.Shelf
def layRs_ren : Go.Shelf.Ren := ⟨fun | 6 => 35 | 15 => 62 | 14 => 61 | 28 => 85 | 29 => 86 | 20 => 77 | 21 => 78 | 22 => 79 | 23 => 80 | 24 => 81 | 25 => 82 | 26 => 83 | 27 => 84 | 46 => 89 | 47 => 90 | 48 => 91 | 49 => 92 | 50 => 93 | 57 => 94 | n => n, fun | 22 => 22 | 24 => 43 | 25 => 47 | 3 => 3 | 39 => 69 | 0 => 0 | 53 => 97 | 55 => 23 | 4 => 4 | 46 => 90 | 45 => 89 | 50 => 94 | 5 => 5 | 9 => 9 | 66 => 101 | 70 => 105 | 76 => 107 | 77 => 108 | n => n, fun | n => n⟩
theorem layRs : Go.Proofs.SlLaysF0.n6 Try.prog layRs_ren := {
  mixed := by kernel_rfl
  f6 := ⟨Try.f35.name, by decide, Try.func35.trans (congrArg some (by kernel_rfl))⟩
  f14 := ⟨Try.f61.name, by decide, Try.func61.trans (congrArg some (by kernel_rfl))⟩
  f15 := Try.func62.trans (congrArg some (by kernel_rfl))
  f20 := ⟨Try.f77.name, by decide, Try.func77.trans (congrArg some (by kernel_rfl))⟩
  f21 := ⟨Try.f78.name, by decide, Try.func78.trans (congrArg some (by kernel_rfl))⟩
  f22 := ⟨Try.f79.name, by decide, Try.func79.trans (congrArg some (by kernel_rfl))⟩
  f23 := ⟨Try.f80.name, by decide, Try.func80.trans (congrArg some (by kernel_rfl))⟩
  f24 := ⟨Try.f81.name, by decide, Try.func81.trans (congrArg some (by kernel_rfl))⟩
  f25 := ⟨Try.f82.name, by decide, Try.func82.trans (congrArg some (by kernel_rfl))⟩
  f26 := ⟨Try.f83.name, by decide, Try.func83.trans (congrArg some (by kernel_rfl))⟩
  f27 := ⟨Try.f84.name, by decide, Try.func84.trans (congrArg some (by kernel_rfl))⟩
  f28 := Try.func85.trans (congrArg some (by kernel_rfl))
  f29 := Try.func86.trans (congrArg some (by kernel_rfl))
  f46 := ⟨Try.f89.name, by decide, Try.func89.trans (congrArg some (by kernel_rfl))⟩
  f47 := Try.func90.trans (congrArg some (by kernel_rfl))
  f48 := Try.func91.trans (congrArg some (by kernel_rfl))
  f49 := ⟨Try.f92.name, by decide, Try.func92.trans (congrArg some (by kernel_rfl))⟩
  f50 := ⟨Try.f93.name, by decide, Try.func93.trans (congrArg some (by kernel_rfl))⟩
  f57 := ⟨Try.f94.name, by decide, Try.func94.trans (congrArg some (by kernel_rfl))⟩
  t0 := Try.underlying0
  a0 := Try.isAgg0
  z0 := Try.sizeOf0
  v0 := Try.zeroValue0
  t3 := Try.underlying3
  a3 := Try.isAgg3
  z3 := Try.sizeOf3
  v3 := Try.zeroValue3
  t4 := Try.underlying4
  a4 := Try.isAgg4
  z4 := Try.sizeOf4
  v4 := Try.zeroValue4
  t5 := Try.underlying5
  a5 := Try.isAgg5
  z5 := Try.sizeOf5
  v5 := Try.zeroValue5
  t9 := Try.underlying9
  a9 := Try.isAgg9
  z9 := Try.sizeOf9
  v9 := Try.zeroValue9
  t22 := Try.underlying22
  a22 := Try.isAgg22
  z22 := Try.sizeOf22
  v22 := Try.zeroValue22
  t25 := Try.underlying47
  a25 := Try.isAgg47
  z25 := Try.sizeOf47
  v25 := Try.zeroValue47
  t39 := Try.underlying69
  a39 := Try.isAgg69
  z39 := Try.sizeOf69
  v39 := Try.zeroValue69
  t45 := Try.underlying89
  a45 := Try.isAgg89
  z45 := Try.sizeOf89
  v45 := Try.zeroValue89
  t46 := Try.underlying90
  a46 := Try.isAgg90
  z46 := Try.sizeOf90
  v46 := Try.zeroValue90
  t50 := Try.underlying94
  a50 := Try.isAgg94
  z50 := Try.sizeOf94
  v50 := Try.zeroValue94
  t53 := Try.underlying97
  a53 := Try.isAgg97
  z53 := Try.sizeOf97
  v53 := Try.zeroValue97
  t55 := Try.underlying23
  a55 := Try.isAgg23
  z55 := Try.sizeOf23
  v55 := Try.zeroValue23
  t66 := Try.underlying101
  a66 := Try.isAgg101
  z66 := Try.sizeOf101
  v66 := Try.zeroValue101
  t70 := Try.underlying105
  a70 := Try.isAgg105
  z70 := Try.sizeOf105
  v70 := Try.zeroValue105
  t76 := Try.underlying107
  a76 := Try.isAgg107
  z76 := Try.sizeOf107
  v76 := Try.zeroValue107
  t77 := Try.underlying108
  a77 := Try.isAgg108
  z77 := Try.sizeOf108
  v77 := Try.zeroValue108 }
def layRc_ren : Go.Shelf.Ren := ⟨fun | 8 => 45 | 6 => 65 | n => n, fun | 22 => 22 | 23 => 43 | 25 => 44 | 4 => 4 | 3 => 3 | 0 => 0 | n => n, fun | n => n⟩
theorem layRc : Go.Proofs.SlLaysH0.n8 Try.prog layRc_ren := {
  mixed := by kernel_rfl
  f6 := ⟨Try.f65.name, by decide, Try.func65.trans (congrArg some (by kernel_rfl))⟩
  f8 := ⟨Try.f45.name, by decide, Try.func45.trans (congrArg some (by kernel_rfl))⟩
  t0 := Try.underlying0
  a0 := Try.isAgg0
  z0 := Try.sizeOf0
  v0 := Try.zeroValue0
  t3 := Try.underlying3
  a3 := Try.isAgg3
  z3 := Try.sizeOf3
  v3 := Try.zeroValue3
  t4 := Try.underlying4
  a4 := Try.isAgg4
  z4 := Try.sizeOf4
  v4 := Try.zeroValue4
  t22 := Try.underlying22
  a22 := Try.isAgg22
  z22 := Try.sizeOf22
  v22 := Try.zeroValue22
  t25 := Try.underlying44
  a25 := Try.isAgg44
  z25 := Try.sizeOf44
  v25 := Try.zeroValue44 }
def layRg_ren : Go.Shelf.Ren := ⟨fun | 4 => 66 | n => n, fun | 0 => 0 | 3 => 3 | 4 => 4 | 9 => 9 | 20 => 20 | 22 => 22 | 25 => 43 | n => n, fun | n => n⟩
theorem layRg : Go.Proofs.Lays8.n4 Try.prog layRg_ren := {
  mixed := by kernel_rfl
  f4 := ⟨Try.f66.name, by decide, Try.func66.trans (congrArg some (by kernel_rfl))⟩
  t0 := Try.underlying0
  a0 := Try.isAgg0
  z0 := Try.sizeOf0
  v0 := Try.zeroValue0
  t3 := Try.underlying3
  a3 := Try.isAgg3
  z3 := Try.sizeOf3
  v3 := Try.zeroValue3
  t4 := Try.underlying4
  a4 := Try.isAgg4
  z4 := Try.sizeOf4
  v4 := Try.zeroValue4
  t9 := Try.underlying9
  a9 := Try.isAgg9
  z9 := Try.sizeOf9
  v9 := Try.zeroValue9
  t20 := Try.underlying20
  a20 := Try.isAgg20
  z20 := Try.sizeOf20
  v20 := Try.zeroValue20
  t22 := Try.underlying22
  a22 := Try.isAgg22
  z22 := Try.sizeOf22
  v22 := Try.zeroValue22 }
end Go.Proofs.Ytmcelgnifpfjpaa

/- The program's comparison of ranges, as a sort asks for it: nothing turns, blocks are laid. -/
namespace Go.Proofs.Ytmcelgnifpfjpaa
open Go.ChangeShapes Go.WideShapes Go.ChangeAt Go.RowKit Go.Sort Go.Lib
set_option linter.unusedVariables false

theorem grow_al (w : World) (os : Array Obj) (o : Obj) : (grow w os).alloc o = grow w (os ++ #[o]) := by rw [alloc_eq_grow, grow_grow]
set_option maxHeartbeats 1000000 in
set_option maxRecDepth 20000 in
theorem qbefore_lays (b1 : Bool) (h1 l1 : Nat) (b2 : Bool) (h2 l2 : Nat) (w : World) :
    Calls Try.prog 63 #[.agg #[.bool b1, .int .u64 h1, .int .u64 l1], .agg #[.bool b2, .int .u64 h2, .int .u64 l2]] w fun e w' => e = .returned (.bool (befB b1 b2 (decide ((h1 : Int) < (h2 : Int))) ((h1 : Int) == (h2 : Int)) (decide ((l1 : Int) < (l2 : Int))))) ∧ w' = (w.alloc (.cells #[.bool b1, .int .u64 h1, .int .u64 l1] 25)).alloc (.cells #[.bool b2, .int .u64 h2, .int .u64 l2] 25) := by
  obtain ⟨p, dp⟩ : ∃ p, decide ((h1 : Int) < (h2 : Int)) = p := ⟨_, rfl⟩
  obtain ⟨q, dq⟩ : ∃ p, ((h1 : Int) == (h2 : Int)) = p := ⟨_, rfl⟩
  obtain ⟨r, dr⟩ : ∃ p, decide ((l1 : Int) < (l2 : Int)) = p := ⟨_, rfl⟩
  rw [dp, dq, dr]
  have dp2 : decide (h1 < h2) = p := by rw [← dp]; simp
  have dr2 : decide (l1 < l2) = r := by rw [← dr]; simp
  cases b1 <;> cases b2
  case false.true =>
    clear dp dq dr dp2 dr2
    go_enter Try.func63, Try.ntmps63
    go_wp2_with fail
    go_ret
    exact ⟨rfl, rfl⟩
  case true.false =>
    clear dp dq dr dp2 dr2
    go_enter Try.func63, Try.ntmps63
    go_wp2_with fail
    go_ret
    exact ⟨rfl, rfl⟩
  all_goals
    cases q
    all_goals
      cases p <;> cases r
      all_goals
        go_enter Try.func63, Try.ntmps63
        go_wp2_with fail
        go_ret
        exact ⟨rfl, rfl⟩
set_option maxHeartbeats 1000000 in
set_option maxRecDepth 20000 in
theorem qcmp_lays (b1 : Bool) (h1 l1 : Nat) (b2 : Bool) (h2 l2 : Nat) (w : World) :
    Calls Try.prog 37 #[.agg #[.bool b1, .int .u64 h1, .int .u64 l1], .agg #[.bool b2, .int .u64 h2, .int .u64 l2]] w fun e w' => e = .returned (.int .i64 (cmpA b1 h1 l1 b2 h2 l2)) ∧ ∃ os, w' = grow w os := by
  have hm := addr_guard
  have HX := Lib.hid (ab_new w b1 h1 l1 |>.kept (below_alloc6 _ (.cells #[.bool b2, .int .u64 h2, .int .u64 l2] 25)) (alloc_lt6 w _))
  have HY := Lib.hid (ab2 w (.cells #[.bool b1, .int .u64 h1, .int .u64 l1] 25) b2 h2 l2)
  have HBF := Lib.hid (fun W => qbefore_lays b1 h1 l1 b2 h2 l2 W)
  have qe := fun W => addr_eql b1 b2 h1 h2 l1 l2 W
  have HG := Lib.hid (show ∃ os, (w.alloc (.cells #[.bool b1, .int .u64 h1, .int .u64 l1] 25)).alloc (.cells #[.bool b2, .int .u64 h2, .int .u64 l2] 25) = grow w os from ⟨_, by rw [alloc_eq_grow w, grow_al]⟩)
  have HG2 := Lib.hid (show ∀ a b c d : Obj, ∃ os, (((w.alloc a).alloc b).alloc c).alloc d = grow w os from fun a b c d => ⟨_, by rw [alloc_eq_grow w, grow_al, grow_al, grow_al]⟩)
  unfold cmpA
  have hpq : ¬ (decide ((h1 : Int) < (h2 : Int)) = true ∧ ((h1 : Int) == (h2 : Int)) = true) := by simp; omega
  rw [cmpB_before _ _ _ _ _ _ hpq]
  clear hpq
  generalize befB b1 b2 (decide ((h1 : Int) < (h2 : Int))) ((h1 : Int) == (h2 : Int)) (decide ((l1 : Int) < (l2 : Int))) = z at *
  generalize (b1 == b2 && ((h1 : Int) == (h2 : Int) && (l1 : Int) == (l2 : Int))) = y at *
  cases y with
  | true =>
    clear HBF
    go_enter Try.func37, Try.ntmps37
    go_wp2_with fail
    go_ret
    exact ⟨rfl, HG.out⟩
  | false =>
    go_enter Try.func37, Try.ntmps37
    go_wp2_with fail
    refine (HBF.out _).mono ?_
    rintro e w3 ⟨rfl, rfl⟩
    cases z with
    | true =>
      go_wp2_with fail
      go_ret
      exact ⟨rfl, HG2.out _ _ _ _⟩
    | false =>
      go_wp2_with fail
      go_ret
      exact ⟨rfl, HG2.out _ _ _ _⟩
/-- The order of the sort. -/
def cmpR (x y : Rg) : Int := cmpA x.lo.v x.lo.h x.lo.l y.lo.v y.lo.h y.lo.l
theorem swoR : SWO (ltOf cmpR) where
  irrefl x := by
    unfold ltOf cmpR
    rw [decide_eq_false_iff_not, cmp_lt]
    rintro (⟨h1, h2⟩ | ⟨_, h⟩)
    · rw [h1] at h2; cases h2
    · omega
  trans x y z h1 h2 := by
    unfold ltOf cmpR at *
    rw [decide_eq_true_eq, cmp_lt] at *
    rcases h1 with ⟨a, b⟩ | ⟨a, b⟩ <;> rcases h2 with ⟨c, d⟩ | ⟨c, d⟩
    · rw [b] at c; cases c
    · exact .inl ⟨a, c ▸ b⟩
    · exact .inl ⟨a.trans c, d⟩
    · exact .inr ⟨a.trans c, by omega⟩
  ntrans x y z h1 h2 := by
    unfold ltOf cmpR at *
    rw [decide_eq_false_iff_not, cmp_lt] at *
    obtain ⟨⟨xv, xh, xl⟩, xx⟩ := x
    obtain ⟨⟨yv, yh, yl⟩, yy⟩ := y
    obtain ⟨⟨zv, zh, zl⟩, zz⟩ := z
    simp only at *
    cases xv <;> cases yv <;> cases zv <;> simp_all <;> omega
set_option maxRecDepth 20000 in
theorem pcmpR_any (x y : Rg) (W : World) : Calls Try.prog 36 #[.agg (rgC x).toArray, .agg (rgC y).toArray] W fun e w' => e = .returned (.int .i64 (cmpR x y)) ∧ ∃ q os', w' = grow (W.drewN q) os' := by
  obtain ⟨⟨v1, h1, l1⟩, ⟨v2, h2, l2⟩⟩ := x
  obtain ⟨⟨v3, h3, l3⟩, ⟨v4, h4, l4⟩⟩ := y
  have HC := Lib.hid (fun W => qcmp_lays v1 h1 l1 v3 h3 l3 W)
  unfold cmpR
  simp only
  generalize cmpA v1 h1 l1 v3 h3 l3 = r at *
  show Calls Try.prog 36 #[.agg #[.bool v1, .int .u64 h1, .int .u64 l1, .bool v2, .int .u64 h2, .int .u64 l2], .agg #[.bool v3, .int .u64 h3, .int .u64 l3, .bool v4, .int .u64 h4, .int .u64 l4]] W _
  go_enter Try.func36, Try.ntmps36
  go_wp2_with fail
  refine (HC.out _).mono ?_
  rintro e w3 ⟨rfl, os, rfl⟩
  have HG := Lib.hid (show ∃ q os', grow ((W.alloc (.cells #[.bool v1, .int .u64 h1, .int .u64 l1, .bool v2, .int .u64 h2, .int .u64 l2] 43)).alloc (.cells #[.bool v3, .int .u64 h3, .int .u64 l3, .bool v4, .int .u64 h4, .int .u64 l4] 43)) os = grow (W.drewN q) os' from ⟨0, _, by rw [alloc_eq_grow W, grow_al, grow_grow]; rfl⟩)
  generalize grow ((W.alloc (.cells #[.bool v1, .int .u64 h1, .int .u64 l1, .bool v2, .int .u64 h2, .int .u64 l2] 43)).alloc (.cells #[.bool v3, .int .u64 h3, .int .u64 l3, .bool v4, .int .u64 h4, .int .u64 l4] 43)) os = w4 at *
  go_wp2_with fail
  go_ret
  exact ⟨rfl, HG.out⟩
end Go.Proofs.Ytmcelgnifpfjpaa

/- Plain mathematics of the reference's add of layer 7: no Go in sight. -/
namespace Go.Proofs.Ytmcelgnifpfjpaa
set_option linter.unusedVariables false

theorem okL_all {M : Int} : ∀ {l : List Spn} {d : Int}, okL M d l → ∀ t ∈ l, d ≤ t.lo
  | [], _, _, t, ht => by simp at ht
  | s :: r, d, ⟨h1, h2, h3, h4⟩, t, ht => by
    rcases List.mem_cons.1 ht with rfl | ht
    · exact h1
    · have := okL_all h4 t ht; omega
theorem okL_cut {M : Int} : ∀ (a : List Spn) {s : Spn} {b : List Spn} {c : Int}, okL M c (a ++ s :: b) → okL M (s.hi + 2) b
  | [], _, _, _, ⟨_, _, _, h⟩ => h
  | x :: a, _, _, _, ⟨_, _, _, h⟩ => okL_cut a h
theorem good_later {l : List Rg} {k : Nat} {x : Rg} (h : GoodL l) (hx : l[k]? = some x) : ∀ y ∈ l.drop (k + 1), kA x.hi + 2 ≤ kA y.lo := fun y hy => by
  obtain ⟨hk, e⟩ := List.getElem?_eq_some_iff.1 hx
  have h2 := h.2
  rw [← List.take_append_drop k l, List.drop_eq_getElem_cons hk, e, List.map_append, List.map_cons] at h2
  exact okL_all (okL_cut _ h2) (spn y) (List.mem_map.2 ⟨y, hy, rfl⟩)
theorem good_mem {l : List Rg} {k : Nat} {x : Rg} (h : GoodL l) (hx : l[k]? = some x) : someR x = true ∧ x.fits := h.1 x (List.mem_of_getElem? hx)
theorem drop_two {l : List Rg} {k : Nat} {x : Rg} (hx : l[k]? = some x) : x ∈ l.drop k ∧ ∀ y ∈ l.drop (k + 1), y ∈ l.drop k := by
  obtain ⟨hk, e⟩ := List.getElem?_eq_some_iff.1 hx
  rw [List.drop_eq_getElem_cons hk, e]
  exact ⟨by simp, fun t ht => by simp [ht]⟩
theorem take_anyR {l : List Rg} {k : Nat} {x : Rg} (hx : l[k]? = some x) (m : Int) : anyS ((l.take (k + 1)).map spn) m = (anyS ((l.take k).map spn) m || inS (spn x) m) := by
  obtain ⟨hk, e⟩ := List.getElem?_eq_some_iff.1 hx
  rw [List.take_succ_eq_append_getElem hk, e, List.map_append, anyS_append]
  simp [anyS]
theorem any_snocR (l : List Rg) (x : Rg) (m : Int) : anyS ((l ++ [x]).map spn) m = (anyS (l.map spn) m || inS (spn x) m) := by
  rw [List.map_append, anyS_append]
  simp [anyS]
theorem good_snoc {l : List Rg} {x : Rg} (h : GoodL l) (hs : someR x = true) (hf : x.fits) (hn : nxt 0 (l.map spn) ≤ kA x.lo) : GoodL (l ++ [x]) := by
  refine ⟨fun r hr => ?_, ?_⟩
  · rw [List.mem_append, List.mem_singleton] at hr
    rcases hr with hr | rfl
    · exact h.1 r hr
    · exact ⟨hs, hf⟩
  · rw [List.map_append, List.map_singleton, okL_snoc]
    have := someR_span hs hf
    exact ⟨h.2, hn, this.2.1, this.2.2⟩
theorem nxt_snocR (l : List Rg) (x : Rg) : nxt 0 ((l ++ [x]).map spn) = kA x.hi + 2 := by
  rw [List.map_append, List.map_singleton, nxt_snoc]; rfl
/-- The adding of r to the set l under way: k ranges are past; d: r is in. -/
structure AddI (l : List Rg) (r : Rg) (k : Nat) (d : Bool) (r' : Rg) (out : List Rg) : Prop where
  good : GoodL out
  next : ∀ x ∈ l.drop k, nxt 0 (out.map spn) ≤ kA x.lo
  fits : r'.fits
  some : someR r' = true
  here : d = false → nxt 0 (out.map spn) ≤ kA r'.lo
  any : ∀ m, (anyS (out.map spn) m || (!d && inS (spn r') m)) = (anyS ((l.take k).map spn) m || inS (spn r) m)
theorem addI_start {l : List Rg} {r : Rg} (hl : GoodL l) (hs : someR r = true) (hf : r.fits) : AddI l r 0 false r [] := ⟨good_nil, fun x hx => kA_pos _, hf, hs, fun _ => kA_pos _, fun m => by simp [anyS]⟩
theorem addI_keep {l : List Rg} {r : Rg} {k : Nat} {d : Bool} {r' x : Rg} {out : List Rg} (h : AddI l r k d r' out) (hl : GoodL l) (hx : l[k]? = some x) (hc : d = false → kA x.hi + 1 < kA r'.lo) : AddI l r (k + 1) d r' (out ++ [x]) := by
  have hm := good_mem hl hx
  refine ⟨good_snoc h.good hm.1 hm.2 (h.next x (drop_two hx).1), fun y hy => ?_, h.fits, h.some, fun e => ?_, fun m => ?_⟩
  · rw [nxt_snocR]; exact good_later hl hx y hy
  · rw [nxt_snocR]; have := hc e; omega
  · rw [any_snocR, take_anyR hx]
    have := h.any m
    cases h1 : anyS (out.map spn) m <;> cases h2 : inS (spn x) m <;> cases h3 : (!d && inS (spn r') m) <;> simp_all
theorem addI_insert {l : List Rg} {r : Rg} {k : Nat} {r' x : Rg} {out : List Rg} (h : AddI l r k false r' out) (hl : GoodL l) (hx : l[k]? = some x) (hc : kA r'.hi + 1 < kA x.lo) : AddI l r (k + 1) true r' (out ++ [r', x]) := by
  have hm := good_mem hl hx
  have g1 := good_snoc h.good h.some h.fits (h.here rfl)
  have e : out ++ [r', x] = (out ++ [r']) ++ [x] := by simp
  rw [e]
  refine ⟨good_snoc g1 hm.1 hm.2 (by rw [nxt_snocR]; omega), fun y hy => ?_, h.fits, h.some, fun e => Bool.noConfusion e, fun m => ?_⟩
  · rw [nxt_snocR]; exact good_later hl hx y hy
  · rw [any_snocR, any_snocR, take_anyR hx]
    have := h.any m
    cases h1 : anyS (out.map spn) m <;> cases h2 : inS (spn x) m <;> cases h3 : inS (spn r') m <;> simp_all
theorem merge_some {r x : Rg} {a b : Ad} (hs : someR r = true) (hf : r.fits) (hx : someR x = true) (hxf : x.fits) (h1 : kA r.lo ≤ kA x.hi + 1) (h2 : kA x.lo ≤ kA r.hi + 1)
    (ha : a = if kA x.lo < kA r.lo then x.lo else r.lo) (hb : b = if kA r.hi < kA x.hi then x.hi else r.hi) : someR ⟨a, b⟩ = true ∧ (⟨a, b⟩ : Rg).fits ∧ ∀ m, inS (spn ⟨a, b⟩) m = (inS (spn r) m || inS (spn x) m) := by
  obtain ⟨r1, r2, r3, r4⟩ := someR_iff.1 hs
  obtain ⟨x1, x2, x3, x4⟩ := someR_iff.1 hx
  have hv : r.lo.v = x.lo.v := by
    by_cases c : kA r.lo ≤ kA x.lo
    · by_cases d : kA x.lo ≤ kA r.hi
      · exact (between_v hf.1 hxf.1 hf.2 r3 c d).symm
      · rw [r3]; exact near_v hf.2 hxf.1 r2 x1 (by omega) h2
    · by_cases d : kA r.lo ≤ kA x.hi
      · exact between_v hxf.1 hf.1 hxf.2 x3 (by omega) d
      · rw [x3]; exact near_v hf.1 hxf.2 r1 x2 h1 (by omega)
  refine ⟨?_, ?_, fun m => ?_⟩
  · rw [someR_iff]
    simp only [ha, hb]
    split <;> split
    · exact ⟨x1, x2, x3, x4⟩
    · exact ⟨x1, r2, by rw [← hv, r3], by omega⟩
    · exact ⟨r1, x2, by rw [hv, x3], by omega⟩
    · exact ⟨r1, r2, r3, r4⟩
  · refine ⟨?_, ?_⟩
    · simp only [ha]
      split
      · exact hxf.1
      · exact hf.1
    · simp only [hb]
      split
      · exact hxf.2
      · exact hf.2
  · rw [Bool.eq_iff_iff, Bool.or_eq_true, inS_iff, inS_iff, inS_iff]
    simp only [spn, ha, hb]
    split <;> split <;> omega
theorem addI_merge {l : List Rg} {r : Rg} {k : Nat} {r' x : Rg} {out : List Rg} {a b : Ad} (h : AddI l r k false r' out) (hl : GoodL l) (hx : l[k]? = some x) (h1 : kA r'.lo ≤ kA x.hi + 1) (h2 : kA x.lo ≤ kA r'.hi + 1)
    (ha : a = if kA x.lo < kA r'.lo then x.lo else r'.lo) (hb : b = if kA r'.hi < kA x.hi then x.hi else r'.hi) : AddI l r (k + 1) false ⟨a, b⟩ out := by
  have hm := good_mem hl hx
  obtain ⟨g1, g2, g3⟩ := merge_some h.some h.fits hm.1 hm.2 h1 h2 ha hb
  refine ⟨h.good, fun y hy => h.next y ((drop_two hx).2 y hy), g2, g1, fun _ => ?_, fun m => ?_⟩
  · have i1 := h.next x (drop_two hx).1
    have i2 := h.here rfl
    simp only [ha]
    split <;> assumption
  · rw [g3, take_anyR hx]
    have := h.any m
    cases h1 : anyS (out.map spn) m <;> cases h2 : inS (spn x) m <;> cases h3 : inS (spn r') m <;> simp_all
theorem addI_end {l : List Rg} {r : Rg} {d : Bool} {r' : Rg} {out : List Rg} (h : AddI l r l.length d r' out) : GoodL (if d then out else out ++ [r']) ∧ ∀ m, anyS ((if d then out else out ++ [r']).map spn) m = (anyS (l.map spn) m || inS (spn r) m) := by
  cases d with
  | true =>
    refine ⟨h.good, fun m => ?_⟩
    have := h.any m
    rw [List.take_length] at this
    simpa using this
  | false =>
    refine ⟨good_snoc h.good h.some h.fits (h.here rfl), fun m => ?_⟩
    have := h.any m
    rw [List.take_length] at this
    rw [if_neg (by decide), any_snocR]
    simpa using this
/-- Apart, by the reference's tests. -/
theorem apart_tests {a b : Ad} (fa : a.fits) (fb : b.fits) (va : vA a = true) (vb : vA b = true) (h1 : kA a < kA b) (h2 : (a.v == b.v && decide (kA b ≤ kA a + 1)) = false) : kA a + 1 < kA b := by
  rw [Bool.and_eq_false_iff] at h2
  rcases h2 with h2 | h2
  · by_cases c : kA b ≤ kA a + 1
    · exact absurd (near_v fa fb va vb (by omega) c) (by simpa using h2)
    · omega
  · have := of_decide_eq_false h2; omega
theorem joined_tests {a b : Ad} (h2 : (a.v == b.v && decide (kA b ≤ kA a + 1)) = true) : kA b ≤ kA a + 1 := by
  rw [Bool.and_eq_true, decide_eq_true_eq] at h2
  exact h2.2
end Go.Proofs.Ytmcelgnifpfjpaa

/- Sorting of ranges by the library's contract; the plain mathematics of merging sorted ranges. -/
namespace Go.Proofs.Ytmcelgnifpfjpaa
open Go.ChangeShapes Go.WideShapes Go.ChangeAt Go.RowKit Go.Sort Go.Lib
set_option linter.unusedVariables false

theorem bang7 {α : Type} [Inhabited α] {l : List α} {j : Nat} (h : j < l.length) : l[j]? = some l[j]! := by
  rw [List.getElem?_eq_getElem h]
  congr 1
  rw [getElem!_pos l j h]
instance : Inhabited Ad := ⟨⟨false, 0, 0⟩⟩
instance : Inhabited Rg := ⟨⟨default, default⟩⟩
theorem enc_split {α : Type} [Inhabited α] (E : Enc α) (l : List α) (j : Nat) (h : j < l.length * E.k) : (E.cells l)[j]? = some ((E.c l[j / E.k]!)[j % E.k]!) := by
  have hi : j / E.k < l.length := by rw [Nat.div_lt_iff_lt_mul E.pos]; exact h
  have hm := Nat.mod_lt j E.pos
  have hg := E.cells_get l (j / E.k) l[j / E.k]! (j % E.k) (bang7 hi) hm
  rw [Nat.mul_comm, Nat.div_add_mod] at hg
  rw [hg]
  exact bang7 (by rw [E.len]; exact hm)
theorem holds7 {α : Type} [Inhabited α] {E : Enc α} {w : World} {base g cap : Nat} {e : TypeId} {D : List α} (h : w.ownsRow base e E.k (.slice (some ⟨g, 0, none⟩) D.length cap) D.length (E.cells D)) : HoldsK E.c E.k w g 0 D.toArray := fun j hj => by
  rw [size_flatK, List.size_toArray] at hj
  rw [Nat.zero_add]
  refine ⟨?_, h.frozenAt j⟩
  rw [h.cellAt j hj, get_flatK _ _ _ _ (by simpa using hj), enc_split E D j hj]
  simp
theorem below_sort7 {α : Type} [Inhabited α] {E : Enc α} {base g n : Nat} {w : World} {d : Array α} {os : Array Obj} (hg : base ≤ g) (hg2 : g < w.heap.size) : RowKit.Below base w (sortWorldK E.c E.k w g 0 n d os) := by
  refine ⟨rfl, rfl, rfl, ?_, fun k hk => ?_⟩
  · simp [sortWorldK, putRowK, putRow, mapBlock, Sort.ahead]
  · unfold sortWorldK
    have hs : (putRowK E.c E.k (Sort.ahead w n) g 0 d).heap.size = w.heap.size := by simp [putRowK, putRow, mapBlock, Sort.ahead]
    have ho : (putRowK E.c E.k (Sort.ahead w n) g 0 d).heap[k]? = w.heap[k]? := by
      simp [putRowK, putRow, mapBlock, Sort.ahead, Array.getElem?_modify, show g ≠ k by omega]
    rw [heap_grow_old _ _ (by rw [hs]; omega), ho]
/-- Ranges in the order of their beginnings. -/
def sortedR (l : List Rg) : Prop := ∀ (i j : Nat) (s t : Rg), i ≤ j → l[i]? = some s → l[j]? = some t → kA s.lo ≤ kA t.lo
theorem cmpLays7 (blk off size : Nat) (w : World) : CmpLays Try.prog 36 #[] rgC 6 cmpR blk off size w :=
  fun _ _ _ _ x y => pcmpR_any x y _
theorem psortR_some (g cap base : Nat) (D : List Rg) (w : World) (hown : w.ownsRow base 43 6 (.slice (some ⟨g, 0, none⟩) D.length cap) D.length (ER.cells D)) (hf : ∀ r ∈ D, r.fits) (hl : D.length ≤ 1000000) :
    Calls Try.prog 35 #[.slice (some ⟨g, 0, none⟩) D.length cap, .func (.func 36) #[] #[]] w fun e w' => e = .returned (.tuple #[]) ∧ ∃ D' : List Rg, D'.Perm D ∧ sortedR D' ∧ RowL ER w' (some ⟨g, 0, none⟩) D' ∧ RowKit.Below base w w' := by
  have eg : ∀ args w, (callFunc 36 args).run Try.prog w = .ok (.enter 36 args) w := enters_of Try.func36 (by kernel_rfl) rfl
  have hlt := hown.lt g rfl
  have hH : HoldsK rgC 6 w g 0 D.toArray := holds7 (E := ER) hown
  have hcon := AnyQ.slices_SortFunc layRs 6 Try.isAgg43 Try.sizeOf43 rgC (fun _ => rfl) (fun x v hv => ER.one x v hv) cmpR swoR 36 #[] g 0 cap D.toArray w eg (cmpLays7 g 0 _ w) hH hlt.2 (by rw [List.size_toArray]; omega)
  rw [List.size_toArray] at hcon
  refine hcon.mono ?_
  rintro e w' ⟨rfl, d', n, os, hp, hs, rfl⟩
  have hsz : d'.size = D.length := by rw [hp.1, List.size_toArray]
  have hperm : d'.toList.Perm D := by
    have h3 := hp.2.2
    have e1 : d'.extract 0 D.length = d' := by rw [← hsz]; simp
    have e2 : D.toArray.extract 0 D.length = D.toArray := by simp
    rw [e1, e2] at h3
    exact h3
  refine ⟨rfl, d'.toList, hperm, ?_, ?_, below_sort7 (E := ER) hlt.1 hlt.2⟩
  · intro i j s t hij hi hj
    have hi1 := (Array.getElem?_eq_some_iff.1 (by simpa using hi))
    have hj1 := (Array.getElem?_eq_some_iff.1 (by simpa using hj))
    obtain ⟨hil, hie⟩ := hi1
    obtain ⟨hjl, hje⟩ := hj1
    by_cases e : i = j
    · subst e
      rw [hie] at hje
      subst hje
      exact Int.le_refl _
    · have h4 := hs i j (Nat.zero_le _) (by omega) (by omega)
      rw [getElem!_pos d' i hil, getElem!_pos d' j hjl, hie, hje] at h4
      unfold ltOf cmpR at h4
      have hft := hf t (hperm.mem_iff.1 (List.mem_of_getElem? hj))
      have hfs := hf s (hperm.mem_iff.1 (List.mem_of_getElem? hi))
      rw [cmp_key hft.1 hfs.1] at h4
      have := of_decide_eq_false h4
      omega
  · intro _
    have hK := holdsK_sortWorldK_c rgC 6 w g 0 D.toArray d' n os hH hlt.2 hp.1
    refine ⟨g, 0, rfl, ?_, fun i s hi j v hv => ?_⟩
    · simp [sortWorldK, putRowK, putRow, mapBlock, Sort.ahead]
      have := hlt.2
      omega
    · obtain ⟨hil, hie⟩ := Array.getElem?_eq_some_iff.1 (show d'[i]? = some s by simpa using hi)
      have hj : j < 6 := by
        have := (List.getElem?_eq_some_iff.1 hv).1
        rwa [ER.len] at this
      have h1 := (hK.cell (i := i) (c := j) hil hj).1
      rw [getElem!_pos d' i hil, hie] at h1
      have h2 : (rgC s)[j]! = v := by
        have h3 : (rgC s)[j]? = some v := hv
        rw [List.getElem!_eq_getElem?_getD, h3]
        rfl
      rw [h2] at h1
      exact h1
set_option maxRecDepth 20000 in
theorem pinsR_nil (A : Option Addr) (cap : Nat) (fv : Value) (w : World) :
    Calls Try.prog 77 #[.slice A 0 cap, .int .i64 0, .int .i64 0, fv] w fun e w' => e = .returned (.tuple #[]) ∧ w' = w := by
  go_enter Try.func77, Try.ntmps77
  go_wp2_with fail
  refine wp_loop_rounds 1 ?_
  rw [rounds_succ]
  go_wp2_with fail
  go_end0
  exact ⟨rfl, rfl⟩
set_option maxRecDepth 20000 in
theorem ppdqR_nil (A : Option Addr) (cap : Nat) (lim : Int) (fv : Value) (w : World) :
    Calls Try.prog 61 #[.slice A 0 cap, .int .i64 0, .int .i64 0, .int .i64 lim, fv] w fun e w' => e = .returned (.tuple #[]) ∧ w' = w := by
  have H := Lib.hid (pinsR_nil A cap fv)
  go_enter Try.func61, Try.ntmps61
  go_wp2_with fail
  refine wp_loop_rounds 1 ?_
  rw [rounds_succ]
  go_wp2_with (go_at_call 77; refine (H.out _).mono ?_; rintro e w' ⟨rfl, rfl⟩)
  (try simp only [Exit.inBlock, Exit.then]); refine bodyPost_ret (results_none rfl _ _ _) rfl ?_
  exact ⟨rfl, rfl⟩
set_option maxRecDepth 20000 in
theorem psortR_nil (A : Option Addr) (cap : Nat) (fv : Value) (w : World) :
    Calls Try.prog 35 #[.slice A 0 cap, fv] w fun e w' => e = .returned (.tuple #[]) ∧ w' = w := by
  have H := Lib.hid (fun lim W => ppdqR_nil A cap lim fv W)
  have hl : ∀ W, Calls Try.prog 62 #[.int .u64 0] W fun e w' => e = .returned (.int .i64 (Lib.bitLen 0 : Nat)) ∧ w' = W := fun W => by
    have h := Any.bits_Len (SlLaysF0.n15.bits (P := Try.prog) (ρ := layRs_ren) { layRs with }) 0 W (by omega) (by omega)
    exact h
  have HL := Lib.hid hl
  clear hl
  generalize (Lib.bitLen 0) = bl at *
  go_enter Try.func35, Try.ntmps35
  go_wp2_with (first | (go_at_call 62; refine (HL.out _).mono ?_; rintro e w' ⟨rfl, rfl⟩) | (go_at_call 61; refine (H.out _ _).mono ?_; rintro e w' ⟨rfl, rfl⟩))
  go_end0
  exact ⟨rfl, rfl⟩
/-- The sort of a slice that the call owns. -/
theorem psortR_any (base : Nat) (A : Option Addr) (n cap : Nat) (D : List Rg) (w : World) (h : OwnR w base A n cap D) (hf : ∀ r ∈ D, r.fits) (hl : n ≤ 1000000) :
    Calls Try.prog 35 #[.slice A n cap, .func (.func 36) #[] #[]] w fun e w' => e = .returned (.tuple #[]) ∧ ∃ D' : List Rg, D'.Perm D ∧ sortedR D' ∧ RowL ER w' A D' ∧ RowKit.Below base w w' := by
  obtain ⟨rfl, hown⟩ := h
  cases A with
  | none =>
    have h0 := (own_none hown).1
    have hD : D = [] := List.length_eq_zero_iff.1 h0
    subst hD
    refine (psortR_nil none cap _ w).mono ?_
    rintro e w' ⟨rfl, rfl⟩
    exact ⟨rfl, [], List.Perm.refl _, fun i j s t _ hi _ => by simp at hi, RowL.nil _ _, RowKit.Below.refl _ _⟩
  | some a =>
    obtain ⟨g, c, cur, hv, _⟩ := (hown.2.resolve_left fun hh => by simp at hh)
    simp only [Value.slice.injEq, Option.some.injEq, true_and] at hv
    obtain ⟨rfl, rfl⟩ := hv
    exact psortR_some g cap base D w hown hf hl
theorem perm_any7 {a b : List Spn} (h : a.Perm b) (m : Int) : anyS a m = anyS b m := by
  unfold anyS
  rw [Bool.eq_iff_iff, List.any_eq_true, List.any_eq_true]
  exact ⟨fun ⟨x, hx, h2⟩ => ⟨x, h.mem_iff.1 hx, h2⟩, fun ⟨x, hx, h2⟩ => ⟨x, h.mem_iff.2 hx, h2⟩⟩
/-- The merging of sorted ranges under way: out from the first k of D. -/
structure MrgR (D out : List Rg) (k : Nat) : Prop where
  good : GoodL out
  any : ∀ m, anyS (out.map spn) m = anyS ((D.take k).map spn) m
  low : ∀ x, out.getLast? = some x → ∀ s ∈ D.drop k, kA x.lo ≤ kA s.lo
  len : out.length ≤ k
theorem mrgR_start (D : List Rg) : MrgR D [] 0 := ⟨good_nil, fun m => by simp [anyS], fun x h => by simp at h, Nat.le_refl _⟩
theorem sortedR_drop {D : List Rg} {k : Nat} {s : Rg} (h : sortedR D) (hs : D[k]? = some s) : ∀ t ∈ D.drop (k + 1), kA s.lo ≤ kA t.lo := fun t ht => by
  obtain ⟨j, hj, e⟩ := List.getElem_of_mem ht
  have h2 : D[k + 1 + j]? = some t := by rw [← List.getElem?_drop, List.getElem?_eq_getElem hj, e]
  exact h k (k + 1 + j) s t (by omega) hs h2
theorem mrgR_append {D out : List Rg} {k : Nat} {s : Rg} (h : MrgR D out k) (hD : sortedR D) (hG : ∀ r ∈ D, someR r = true ∧ r.fits) (hs : D[k]? = some s) (hl : ∀ x, out.getLast? = some x → kA x.hi + 1 < kA s.lo) : MrgR D (out ++ [s]) (k + 1) := by
  have hg := hG s (List.mem_of_getElem? hs)
  refine ⟨good_snoc h.good hg.1 hg.2 ?_, fun m => ?_, fun x hx => ?_, ?_⟩
  · rcases List.eq_nil_or_concat out with rfl | ⟨i, x, rfl⟩
    · exact kA_pos _
    · rw [List.concat_eq_append, nxt_snocR]
      have := hl x (by simp)
      omega
  · rw [any_snocR, h.any, take_anyR hs]
  · simp at hx
    subst hx
    exact sortedR_drop hD hs
  · have := h.len; simp; omega
theorem mrgR_grow {D i : List Rg} {x : Rg} {k : Nat} {s : Rg} {b : Ad} (h : MrgR D (i ++ [x]) k) (hD : sortedR D) (hG : ∀ r ∈ D, someR r = true ∧ r.fits) (hs : D[k]? = some s) (hl : kA s.lo ≤ kA x.hi + 1) (hb : b = if kA x.hi < kA s.hi then s.hi else x.hi) : MrgR D (i ++ [⟨x.lo, b⟩]) (k + 1) := by
  have hg := hG s (List.mem_of_getElem? hs)
  have hx := h.good.1 x (by simp)
  have hlo := h.low x (by simp) s (drop_two hs).1
  have hsp := someR_span hg.1 hg.2
  obtain ⟨m1, m2, m3⟩ := merge_some (a := x.lo) (b := b) hx.1 hx.2 hg.1 hg.2 (by omega) hl (by rw [if_neg (by omega)]) hb
  have hgi : GoodL i := ⟨fun r hr => h.good.1 r (by simp [hr]), by
    have := h.good.2
    rw [List.map_append] at this
    exact okL_front _ _ _ this⟩
  have hni : nxt 0 (i.map spn) ≤ kA x.lo := by
    have := h.good.2
    rw [List.map_append, List.map_singleton, okL_snoc] at this
    exact this.2.1
  refine ⟨good_snoc hgi m1 m2 hni, fun m => ?_, fun y hy => ?_, ?_⟩
  · have ha := h.any m
    rw [any_snocR] at ha
    rw [any_snocR, take_anyR hs, ← ha, m3, Bool.or_assoc]
  · simp at hy
    subst hy
    exact fun t ht => h.low x (by simp) t ((drop_two hs).2 t ht)
  · have := h.len; simp at this ⊢; omega
end Go.Proofs.Ytmcelgnifpfjpaa

/- A region that draws its order, whose calls make memory and whose guards may be false: one walk of the lexical order, over any class of worlds (Deep/Quiet's law), the class written as the worlds 'p u' of a function p. -/
namespace Go.Proofs.Ytmcelgnifpfjpaa
open Go.ChangeShapes Go.WideShapes Go.ChangeAt Go.RowKit
set_option linter.unusedVariables false

theorem wp_region_pick {P : Program} {id : Nat} {Q : Exit → Act → World → Prop} {a : Act} {w : World} {l : List Oper} (S : World → Prop) (hm : P.follows .mixedOrders = true) (hB : Region.lexB .any l.toArray = true) (hS : S w) (hD : S { w with drawn := w.drawn + 1 })
    (h : ∀ p : World → World, (∀ u, S (p u)) → (∀ W, S W → ∃ u, W = p u) → wpQuiet P l.toArray (fun w' => ∃ u, w' = p u) (fun a' => ∀ w', (∃ u, w' = p u) → Q .normal a' w') l a) : (Code.region id l.toArray true).wp P Q a w := by
  classical
  have h1 : ∀ u, S ((fun u => if S u then u else w) u) := fun u => by
    show S (if S u then u else w)
    split
    · assumption
    · exact hS
  have h2 : ∀ W, S W → ∃ u, W = (fun u => if S u then u else w) u := fun W hW => ⟨W, by show W = if S W then W else w; rw [if_pos hW]⟩
  exact wp_region_quiet (C := fun w' => ∃ u, w' = (fun u => if S u then u else w) u) hm hB (h2 _ hD) (by simpa using h _ h1 h2)
/-- A callee's contract, met in a world of the class. -/
theorem Calls.pick_of {P : Program} {f : FuncId} {args : Array Value} {S : World → Prop} {p : World → World} {u : World} {v : Value} (hq : ∀ W, S W → ∃ u, W = p u) (hs : ∀ W', Below (p u).heap.size (p u) W' → S W')
    (h : Calls P f args (p u) fun e w' => e = .returned v ∧ Below (p u).heap.size (p u) w') : Calls P f args (p u) fun e w'' => e = .returned v ∧ ∃ u', w'' = p u' :=
  h.mono fun _ _ ⟨he, hb⟩ => ⟨he, hq _ (hs _ hb)⟩
end Go.Proofs.Ytmcelgnifpfjpaa

/- Contracts of the program of layer 7: hasAddresses, isApart. -/
namespace Go.Proofs.Ytmcelgnifpfjpaa
open Go.ChangeShapes Go.WideShapes Go.ChangeAt Go.RowKit
set_option linter.unusedVariables false

theorem someR_tests (a b : Ad) (f1 : a.fits) (f2 : b.fits) : someR ⟨a, b⟩ = (vA a && (vA b && (a.v == b.v && !decide (kA b < kA a)))) := by
  unfold someR
  rw [show decide (kA a ≤ kA b) = !decide (kA b < kA a) by rw [Bool.eq_iff_iff]; simp]
set_option maxHeartbeats 1000000 in
set_option maxRecDepth 20000 in
theorem phas_any (v1 : Bool) (h1 l1 : Nat) (v2 : Bool) (h2 l2 : Nat) (w : World) (f1 : (⟨v1, h1, l1⟩ : Ad).fits) (f2 : (⟨v2, h2, l2⟩ : Ad).fits) :
    Calls Try.prog 34 #[.agg #[.bool v1, .int .u64 h1, .int .u64 l1, .bool v2, .int .u64 h2, .int .u64 l2]] w fun e w' => e = .returned (.bool (someR ⟨⟨v1, h1, l1⟩, ⟨v2, h2, l2⟩⟩)) ∧ Below w.heap.size w w' := by
  rw [someR_tests _ _ f1 f2]
  have HV1 := Lib.hid (fun W => qvalid_any v1 h1 l1 W)
  have HV2 := Lib.hid (fun W => qvalid_any v2 h2 l2 W)
  have HC := Lib.hid (fun W => pbef_key f2 f1 W)
  rw [show vldA v1 h1 l1 = vA ⟨v1, h1, l1⟩ from rfl] at HV1
  rw [show vldA v2 h2 l2 = vA ⟨v2, h2, l2⟩ from rfl] at HV2
  simp only at HC ⊢
  generalize vA ⟨v1, h1, l1⟩ = b1 at *
  generalize vA ⟨v2, h2, l2⟩ = b2 at *
  generalize decide (kA ⟨v2, h2, l2⟩ < kA ⟨v1, h1, l1⟩) = b4 at *
  obtain ⟨b3, d3⟩ : ∃ b, (v1 == v2) = b := ⟨_, rfl⟩
  rw [d3]
  clear f1 f2
  obtain ⟨W0, hW0⟩ : ∃ W, W = w.alloc (.cells #[.bool v1, .int .u64 h1, .int .u64 l1, .bool v2, .int .u64 h2, .int .u64 l2] 43) := ⟨_, rfl⟩
  have HE0 := Lib.hid (show RB W0 w.heap.size v1 h1 l1 v2 h2 l2 from by rw [hW0]; exact rb_new w v1 h1 l1 v2 h2 l2)
  have HB0 := Lib.hid (show Below w.heap.size w W0 by rw [hW0]; exact below_alloc6 w _)
  cases b1
  case false =>
    go_enter Try.func34, Try.ntmps34
    go_wp2_with fail
    rw [← hW0]
    clear hW0
    refine (HV1.out _).mono ?_
    rintro e w1 ⟨rfl, hb⟩
    have HE1 := Lib.hid (show RB w1 w.heap.size v1 h1 l1 v2 h2 l2 from HE0.out.kept hb HE0.out.lt)
    have HB1 := Lib.hid (HB0.out.trans (hb.mono HB0.out.size))
    clear hb HE0 HB0 
    have f0_0 : w1.cell? ⟨w.heap.size, 0, none⟩ = some (.bool v1) := (HE1.out.c 0).trans rfl
    have f0_1 : w1.cell? ⟨w.heap.size, 1, none⟩ = some (.int .u64 h1) := (HE1.out.c 1).trans rfl
    have f0_2 : w1.cell? ⟨w.heap.size, 2, none⟩ = some (.int .u64 l1) := (HE1.out.c 2).trans rfl
    have f0_3 : w1.cell? ⟨w.heap.size, 3, none⟩ = some (.bool v2) := (HE1.out.c 3).trans rfl
    have f0_4 : w1.cell? ⟨w.heap.size, 4, none⟩ = some (.int .u64 h2) := (HE1.out.c 4).trans rfl
    have f0_5 : w1.cell? ⟨w.heap.size, 5, none⟩ = some (.int .u64 l2) := (HE1.out.c 5).trans rfl
    have fl0 := HE1.out.lt
    go_wp2_with fail
    go_ret
    exact ⟨rfl, HB1.out⟩
  cases b2
  case false =>
    go_enter Try.func34, Try.ntmps34
    go_wp2_with fail
    rw [← hW0]
    clear hW0
    refine (HV1.out _).mono ?_
    rintro e w1 ⟨rfl, hb⟩
    have HE1 := Lib.hid (show RB w1 w.heap.size v1 h1 l1 v2 h2 l2 from HE0.out.kept hb HE0.out.lt)
    have HB1 := Lib.hid (HB0.out.trans (hb.mono HB0.out.size))
    clear hb HE0 HB0 
    have f0_0 : w1.cell? ⟨w.heap.size, 0, none⟩ = some (.bool v1) := (HE1.out.c 0).trans rfl
    have f0_1 : w1.cell? ⟨w.heap.size, 1, none⟩ = some (.int .u64 h1) := (HE1.out.c 1).trans rfl
    have f0_2 : w1.cell? ⟨w.heap.size, 2, none⟩ = some (.int .u64 l1) := (HE1.out.c 2).trans rfl
    have f0_3 : w1.cell? ⟨w.heap.size, 3, none⟩ = some (.bool v2) := (HE1.out.c 3).trans rfl
    have f0_4 : w1.cell? ⟨w.heap.size, 4, none⟩ = some (.int .u64 h2) := (HE1.out.c 4).trans rfl
    have f0_5 : w1.cell? ⟨w.heap.size, 5, none⟩ = some (.int .u64 l2) := (HE1.out.c 5).trans rfl
    have fl0 := HE1.out.lt
    go_wp2_with fail
    clear f0_0 f0_1 f0_2 f0_3 f0_4 f0_5 fl0
    refine (HV2.out _).mono ?_
    rintro e w2 ⟨rfl, hb⟩
    have HE2 := Lib.hid (show RB w2 w.heap.size v1 h1 l1 v2 h2 l2 from HE1.out.kept hb HE1.out.lt)
    have HB2 := Lib.hid (HB1.out.trans (hb.mono HB1.out.size))
    clear hb HE1 HB1 
    have f0_0 : w2.cell? ⟨w.heap.size, 0, none⟩ = some (.bool v1) := (HE2.out.c 0).trans rfl
    have f0_1 : w2.cell? ⟨w.heap.size, 1, none⟩ = some (.int .u64 h1) := (HE2.out.c 1).trans rfl
    have f0_2 : w2.cell? ⟨w.heap.size, 2, none⟩ = some (.int .u64 l1) := (HE2.out.c 2).trans rfl
    have f0_3 : w2.cell? ⟨w.heap.size, 3, none⟩ = some (.bool v2) := (HE2.out.c 3).trans rfl
    have f0_4 : w2.cell? ⟨w.heap.size, 4, none⟩ = some (.int .u64 h2) := (HE2.out.c 4).trans rfl
    have f0_5 : w2.cell? ⟨w.heap.size, 5, none⟩ = some (.int .u64 l2) := (HE2.out.c 5).trans rfl
    have fl0 := HE2.out.lt
    go_wp2_with fail
    go_ret
    exact ⟨rfl, HB2.out⟩
  cases b3
  case false =>
    go_enter Try.func34, Try.ntmps34
    go_wp2_with fail
    rw [← hW0]
    clear hW0
    refine (HV1.out _).mono ?_
    rintro e w1 ⟨rfl, hb⟩
    have HE1 := Lib.hid (show RB w1 w.heap.size v1 h1 l1 v2 h2 l2 from HE0.out.kept hb HE0.out.lt)
    have HB1 := Lib.hid (HB0.out.trans (hb.mono HB0.out.size))
    clear hb HE0 HB0 
    have f0_0 : w1.cell? ⟨w.heap.size, 0, none⟩ = some (.bool v1) := (HE1.out.c 0).trans rfl
    have f0_1 : w1.cell? ⟨w.heap.size, 1, none⟩ = some (.int .u64 h1) := (HE1.out.c 1).trans rfl
    have f0_2 : w1.cell? ⟨w.heap.size, 2, none⟩ = some (.int .u64 l1) := (HE1.out.c 2).trans rfl
    have f0_3 : w1.cell? ⟨w.heap.size, 3, none⟩ = some (.bool v2) := (HE1.out.c 3).trans rfl
    have f0_4 : w1.cell? ⟨w.heap.size, 4, none⟩ = some (.int .u64 h2) := (HE1.out.c 4).trans rfl
    have f0_5 : w1.cell? ⟨w.heap.size, 5, none⟩ = some (.int .u64 l2) := (HE1.out.c 5).trans rfl
    have fl0 := HE1.out.lt
    go_wp2_with fail
    clear f0_0 f0_1 f0_2 f0_3 f0_4 f0_5 fl0
    refine (HV2.out _).mono ?_
    rintro e w2 ⟨rfl, hb⟩
    have HE2 := Lib.hid (show RB w2 w.heap.size v1 h1 l1 v2 h2 l2 from HE1.out.kept hb HE1.out.lt)
    have HB2 := Lib.hid (HB1.out.trans (hb.mono HB1.out.size))
    clear hb HE1 HB1 
    have f0_0 : w2.cell? ⟨w.heap.size, 0, none⟩ = some (.bool v1) := (HE2.out.c 0).trans rfl
    have f0_1 : w2.cell? ⟨w.heap.size, 1, none⟩ = some (.int .u64 h1) := (HE2.out.c 1).trans rfl
    have f0_2 : w2.cell? ⟨w.heap.size, 2, none⟩ = some (.int .u64 l1) := (HE2.out.c 2).trans rfl
    have f0_3 : w2.cell? ⟨w.heap.size, 3, none⟩ = some (.bool v2) := (HE2.out.c 3).trans rfl
    have f0_4 : w2.cell? ⟨w.heap.size, 4, none⟩ = some (.int .u64 h2) := (HE2.out.c 4).trans rfl
    have f0_5 : w2.cell? ⟨w.heap.size, 5, none⟩ = some (.int .u64 l2) := (HE2.out.c 5).trans rfl
    have fl0 := HE2.out.lt
    go_wp2_with fail
    go_ret
    exact ⟨rfl, HB2.out⟩
  cases b4
  all_goals
    go_enter Try.func34, Try.ntmps34
    go_wp2_with fail
    rw [← hW0]
    clear hW0
    refine (HV1.out _).mono ?_
    rintro e w1 ⟨rfl, hb⟩
    have HE1 := Lib.hid (show RB w1 w.heap.size v1 h1 l1 v2 h2 l2 from HE0.out.kept hb HE0.out.lt)
    have HB1 := Lib.hid (HB0.out.trans (hb.mono HB0.out.size))
    clear hb HE0 HB0 
    have f0_0 : w1.cell? ⟨w.heap.size, 0, none⟩ = some (.bool v1) := (HE1.out.c 0).trans rfl
    have f0_1 : w1.cell? ⟨w.heap.size, 1, none⟩ = some (.int .u64 h1) := (HE1.out.c 1).trans rfl
    have f0_2 : w1.cell? ⟨w.heap.size, 2, none⟩ = some (.int .u64 l1) := (HE1.out.c 2).trans rfl
    have f0_3 : w1.cell? ⟨w.heap.size, 3, none⟩ = some (.bool v2) := (HE1.out.c 3).trans rfl
    have f0_4 : w1.cell? ⟨w.heap.size, 4, none⟩ = some (.int .u64 h2) := (HE1.out.c 4).trans rfl
    have f0_5 : w1.cell? ⟨w.heap.size, 5, none⟩ = some (.int .u64 l2) := (HE1.out.c 5).trans rfl
    have fl0 := HE1.out.lt
    go_wp2_with fail
    clear f0_0 f0_1 f0_2 f0_3 f0_4 f0_5 fl0
    refine (HV2.out _).mono ?_
    rintro e w2 ⟨rfl, hb⟩
    have HE2 := Lib.hid (show RB w2 w.heap.size v1 h1 l1 v2 h2 l2 from HE1.out.kept hb HE1.out.lt)
    have HB2 := Lib.hid (HB1.out.trans (hb.mono HB1.out.size))
    clear hb HE1 HB1 
    have f0_0 : w2.cell? ⟨w.heap.size, 0, none⟩ = some (.bool v1) := (HE2.out.c 0).trans rfl
    have f0_1 : w2.cell? ⟨w.heap.size, 1, none⟩ = some (.int .u64 h1) := (HE2.out.c 1).trans rfl
    have f0_2 : w2.cell? ⟨w.heap.size, 2, none⟩ = some (.int .u64 l1) := (HE2.out.c 2).trans rfl
    have f0_3 : w2.cell? ⟨w.heap.size, 3, none⟩ = some (.bool v2) := (HE2.out.c 3).trans rfl
    have f0_4 : w2.cell? ⟨w.heap.size, 4, none⟩ = some (.int .u64 h2) := (HE2.out.c 4).trans rfl
    have f0_5 : w2.cell? ⟨w.heap.size, 5, none⟩ = some (.int .u64 l2) := (HE2.out.c 5).trans rfl
    have fl0 := HE2.out.lt
    go_wp2_with fail
    clear f0_0 f0_1 f0_2 f0_3 f0_4 f0_5 fl0
    refine (HC.out _).mono ?_
    rintro e w3 ⟨rfl, hb⟩
    have HE3 := Lib.hid (show RB w3 w.heap.size v1 h1 l1 v2 h2 l2 from HE2.out.kept hb HE2.out.lt)
    have HB3 := Lib.hid (HB2.out.trans (hb.mono HB2.out.size))
    clear hb HE2 HB2 
    have f0_0 : w3.cell? ⟨w.heap.size, 0, none⟩ = some (.bool v1) := (HE3.out.c 0).trans rfl
    have f0_1 : w3.cell? ⟨w.heap.size, 1, none⟩ = some (.int .u64 h1) := (HE3.out.c 1).trans rfl
    have f0_2 : w3.cell? ⟨w.heap.size, 2, none⟩ = some (.int .u64 l1) := (HE3.out.c 2).trans rfl
    have f0_3 : w3.cell? ⟨w.heap.size, 3, none⟩ = some (.bool v2) := (HE3.out.c 3).trans rfl
    have f0_4 : w3.cell? ⟨w.heap.size, 4, none⟩ = some (.int .u64 h2) := (HE3.out.c 4).trans rfl
    have f0_5 : w3.cell? ⟨w.heap.size, 5, none⟩ = some (.int .u64 l2) := (HE3.out.c 5).trans rfl
    have fl0 := HE3.out.lt
    go_wp2_with fail
    go_ret
    exact ⟨rfl, HB3.out⟩
set_option maxHeartbeats 1000000 in
set_option maxRecDepth 20000 in
theorem papart_ne (v1 : Bool) (h1 l1 : Nat) (v2 : Bool) (h2 l2 : Nat) (w : World) (f1 : (⟨v1, h1, l1⟩ : Ad).fits) (f2 : (⟨v2, h2, l2⟩ : Ad).fits) (a1 : vA ⟨v1, h1, l1⟩ = true) (a2 : vA ⟨v2, h2, l2⟩ = true) (hv : (v1 == v2) = false) :
    Calls Try.prog 38 #[.agg #[.bool v1, .int .u64 h1, .int .u64 l1], .agg #[.bool v2, .int .u64 h2, .int .u64 l2]] w fun e w' => e = .returned (.bool (decide (kA ⟨v1, h1, l1⟩ + 1 < kA ⟨v2, h2, l2⟩))) ∧ Below w.heap.size w w' := by
  have HC := Lib.hid (fun W => pbef_key f1 f2 W)
  have e : decide (kA ⟨v1, h1, l1⟩ < kA ⟨v2, h2, l2⟩) = decide (kA ⟨v1, h1, l1⟩ + 1 < kA ⟨v2, h2, l2⟩) := by
    rw [decide_eq_decide]
    have := @near_v ⟨v1, h1, l1⟩ ⟨v2, h2, l2⟩ f1 f2 a1 a2
    simp only at this
    have hne : ¬ v1 = v2 := by simpa using hv
    constructor
    · intro h
      by_cases c : kA ⟨v1, h1, l1⟩ + 1 < kA ⟨v2, h2, l2⟩
      · exact c
      · exact absurd (this (by omega) (by omega)) hne
    · intro h; omega
  rw [← e]
  simp only at HC
  generalize decide (kA ⟨v1, h1, l1⟩ < kA ⟨v2, h2, l2⟩) = b at *
  clear e a1 a2 f1 f2
  have hne : (!(v1 == v2)) = true := by rw [hv]; rfl
  obtain ⟨W0, hW0⟩ : ∃ W, W = (w.alloc (.cells #[.bool v1, .int .u64 h1, .int .u64 l1] 25)).alloc (.cells #[.bool v2, .int .u64 h2, .int .u64 l2] 25) := ⟨_, rfl⟩
  have HB0 := Lib.hid (show Below w.heap.size w W0 by rw [hW0]; exact below2 w _ _)
  have HE0 := Lib.hid (show AB W0 w.heap.size v1 h1 l1 ∧ AB W0 (w.heap.size + 1) v2 h2 l2 from by rw [hW0]; exact ⟨(ab_new w v1 h1 l1).al _, ab2 w _ v2 h2 l2⟩)
  go_enter Try.func38, Try.ntmps38
  go_wp2_with fail
  rw [← hW0]
  clear hW0
  refine (HC.out _).mono ?_
  rintro e w1 ⟨rfl, hb⟩
  have HE1 := Lib.hid (show AB w1 w.heap.size v1 h1 l1 ∧ AB w1 (w.heap.size + 1) v2 h2 l2 from ⟨HE0.out.1.kept hb HE0.out.1.lt , HE0.out.2.kept hb HE0.out.2.lt⟩)
  have HB1 := Lib.hid (HB0.out.trans (hb.mono HB0.out.size))
  clear hb HE0 HB0 
  have f0_0 := HE1.out.1.c0
  have f0_1 := HE1.out.1.c1
  have f0_2 := HE1.out.1.c2
  have fl0 := HE1.out.1.lt
  have f1_0 := HE1.out.2.c0
  have f1_1 := HE1.out.2.c1
  have f1_2 := HE1.out.2.c2
  have fl1 := HE1.out.2.lt
  go_wp2_with fail
  go_ret
  exact ⟨rfl, HB1.out⟩
set_option maxHeartbeats 1000000 in
set_option maxRecDepth 20000 in
theorem papart_last (v1 : Bool) (h1 l1 : Nat) (v2 : Bool) (h2 l2 : Nat) (w : World) (f1 : (⟨v1, h1, l1⟩ : Ad).fits) (f2 : (⟨v2, h2, l2⟩ : Ad).fits) (a1 : vA ⟨v1, h1, l1⟩ = true) (a2 : vA ⟨v2, h2, l2⟩ = true) (hv : (v1 == v2) = true) (hn : nxtA v1 h1 l1 = none) :
    Calls Try.prog 38 #[.agg #[.bool v1, .int .u64 h1, .int .u64 l1], .agg #[.bool v2, .int .u64 h2, .int .u64 l2]] w fun e w' => e = .returned (.bool (decide (kA ⟨v1, h1, l1⟩ + 1 < kA ⟨v2, h2, l2⟩))) ∧ Below w.heap.size w w' := by
  have hne : (!(v1 == v2)) = false := by rw [hv]; rfl
  have HN := Lib.hid (fun W => qnext_any v1 h1 l1 W f1.1 f1.2 a1)
  rw [hn] at HN
  unfold aRes at HN
  simp only at HN
  have hE : decide (kA ⟨v1, h1, l1⟩ + 1 < kA ⟨v2, h2, l2⟩) = false := by
    rw [decide_eq_false_iff_not]
    have hv' : v1 = v2 := by simpa using hv
    subst hv'
    have t2 := kA_top f2
    rcases nxt_key f1 a1 with ⟨_, h | h⟩ | ⟨b, h, _⟩
    · intro hlt
      cases v1 with
      | true => have := kA_v6 f1 rfl; omega
      | false => have := kA_v4 a2 rfl; omega
    · omega
    · simp only at h; rw [hn] at h; cases h
  rw [hE]
  clear hE hn a1 a2 f1 f2 hv
  obtain ⟨W0, hW0⟩ : ∃ W, W = (w.alloc (.cells #[.bool v1, .int .u64 h1, .int .u64 l1] 25)).alloc (.cells #[.bool v2, .int .u64 h2, .int .u64 l2] 25) := ⟨_, rfl⟩
  have HB0 := Lib.hid (show Below w.heap.size w W0 by rw [hW0]; exact below2 w _ _)
  have HE0 := Lib.hid (show AB W0 w.heap.size v1 h1 l1 ∧ AB W0 (w.heap.size + 1) v2 h2 l2 from by rw [hW0]; exact ⟨(ab_new w v1 h1 l1).al _, ab2 w _ v2 h2 l2⟩)
  go_enter Try.func38, Try.ntmps38
  go_wp2_with fail
  rw [← hW0]
  clear hW0
  refine (HN.out _).mono ?_
  rintro e w1 ⟨rfl, hb⟩
  obtain ⟨gn, hgn⟩ : ∃ g, g = w1.heap.size := ⟨_, rfl⟩
  obtain ⟨W1, hW1⟩ : ∃ W, W = w1.alloc (.cells #[.bool false, .int .u64 0, .int .u64 0] 25) := ⟨_, rfl⟩
  have HE1 := Lib.hid (show AB W1 w.heap.size v1 h1 l1 ∧ AB W1 (w.heap.size + 1) v2 h2 l2 ∧ AB W1 gn false 0 0 from by rw [hW1, hgn]; exact ⟨(HE0.out.1.kept hb HE0.out.1.lt).al _ , (HE0.out.2.kept hb HE0.out.2.lt).al _ , ab_new w1 false 0 0⟩)
  have HB1 := Lib.hid (show Below w.heap.size w W1 by rw [hW1]; exact (HB0.out.trans (hb.mono HB0.out.size)).trans ((below_alloc6 w1 _).mono (HB0.out.trans (hb.mono HB0.out.size)).size))
  have hx := HE0.out.1.kept hb HE0.out.1.lt
  have f0_0 := hx.c0
  have f0_1 := hx.c1
  have f0_2 := hx.c2
  have fl0 := hx.lt
  clear hx
  have hx := HE0.out.2.kept hb HE0.out.2.lt
  have f1_0 := hx.c0
  have f1_1 := hx.c1
  have f1_2 := hx.c2
  have fl1 := hx.lt
  clear hx
  clear hb HE0 HB0 
  go_wp2_with fail
  first | rw [← hW1, ← hgn] | rw [← hW1] | skip
  clear hW1 hgn
  have f0_0 := HE1.out.1.c0
  have f0_1 := HE1.out.1.c1
  have f0_2 := HE1.out.1.c2
  have fl0 := HE1.out.1.lt
  have f1_0 := HE1.out.2.1.c0
  have f1_1 := HE1.out.2.1.c1
  have f1_2 := HE1.out.2.1.c2
  have fl1 := HE1.out.2.1.lt
  have f2_0 := HE1.out.2.2.c0
  have f2_1 := HE1.out.2.2.c1
  have f2_2 := HE1.out.2.2.c2
  have fl2 := HE1.out.2.2.lt
  try (go_wp2_with fail)
  go_ret
  exact ⟨rfl, HB1.out⟩
set_option maxHeartbeats 1000000 in
set_option maxRecDepth 20000 in
theorem papart_next (v1 : Bool) (h1 l1 : Nat) (v2 : Bool) (h2 l2 : Nat) (w : World) (f1 : (⟨v1, h1, l1⟩ : Ad).fits) (f2 : (⟨v2, h2, l2⟩ : Ad).fits) (a1 : vA ⟨v1, h1, l1⟩ = true) (a2 : vA ⟨v2, h2, l2⟩ = true) (hv : (v1 == v2) = true) (v3 : Bool) (h3 l3 : Nat) (f3 : (⟨v3, h3, l3⟩ : Ad).fits) (hn : nxtA v1 h1 l1 = some (v3, h3, l3)) (hk : kA ⟨v3, h3, l3⟩ = kA ⟨v1, h1, l1⟩ + 1) :
    Calls Try.prog 38 #[.agg #[.bool v1, .int .u64 h1, .int .u64 l1], .agg #[.bool v2, .int .u64 h2, .int .u64 l2]] w fun e w' => e = .returned (.bool (decide (kA ⟨v1, h1, l1⟩ + 1 < kA ⟨v2, h2, l2⟩))) ∧ Below w.heap.size w w' := by
  have hne : (!(v1 == v2)) = false := by rw [hv]; rfl
  have HN := Lib.hid (fun W => qnext_any v1 h1 l1 W f1.1 f1.2 a1)
  rw [hn] at HN
  unfold aRes at HN
  simp only at HN
  have HC := Lib.hid (fun W => pbef_key f3 f2 W)
  rw [hk] at HC
  simp only at HC
  generalize decide (kA ⟨v1, h1, l1⟩ + 1 < kA ⟨v2, h2, l2⟩) = b at *
  clear hn hk a1 a2 f1 f2 f3 hv
  obtain ⟨W0, hW0⟩ : ∃ W, W = (w.alloc (.cells #[.bool v1, .int .u64 h1, .int .u64 l1] 25)).alloc (.cells #[.bool v2, .int .u64 h2, .int .u64 l2] 25) := ⟨_, rfl⟩
  have HB0 := Lib.hid (show Below w.heap.size w W0 by rw [hW0]; exact below2 w _ _)
  have HE0 := Lib.hid (show AB W0 w.heap.size v1 h1 l1 ∧ AB W0 (w.heap.size + 1) v2 h2 l2 from by rw [hW0]; exact ⟨(ab_new w v1 h1 l1).al _, ab2 w _ v2 h2 l2⟩)
  go_enter Try.func38, Try.ntmps38
  go_wp2_with fail
  rw [← hW0]
  clear hW0
  refine (HN.out _).mono ?_
  rintro e w1 ⟨rfl, hb⟩
  obtain ⟨gn, hgn⟩ : ∃ g, g = w1.heap.size := ⟨_, rfl⟩
  obtain ⟨W1, hW1⟩ : ∃ W, W = w1.alloc (.cells #[.bool v3, .int .u64 h3, .int .u64 l3] 25) := ⟨_, rfl⟩
  have HE1 := Lib.hid (show AB W1 w.heap.size v1 h1 l1 ∧ AB W1 (w.heap.size + 1) v2 h2 l2 ∧ AB W1 gn v3 h3 l3 from by rw [hW1, hgn]; exact ⟨(HE0.out.1.kept hb HE0.out.1.lt).al _ , (HE0.out.2.kept hb HE0.out.2.lt).al _ , ab_new w1 v3 h3 l3⟩)
  have HB1 := Lib.hid (show Below w.heap.size w W1 by rw [hW1]; exact (HB0.out.trans (hb.mono HB0.out.size)).trans ((below_alloc6 w1 _).mono (HB0.out.trans (hb.mono HB0.out.size)).size))
  have hx := HE0.out.1.kept hb HE0.out.1.lt
  have f0_0 := hx.c0
  have f0_1 := hx.c1
  have f0_2 := hx.c2
  have fl0 := hx.lt
  clear hx
  have hx := HE0.out.2.kept hb HE0.out.2.lt
  have f1_0 := hx.c0
  have f1_1 := hx.c1
  have f1_2 := hx.c2
  have fl1 := hx.lt
  clear hx
  clear hb HE0 HB0 
  go_wp2_with fail
  first | rw [← hW1, ← hgn] | rw [← hW1] | skip
  clear hW1 hgn
  have f0_0 := HE1.out.1.c0
  have f0_1 := HE1.out.1.c1
  have f0_2 := HE1.out.1.c2
  have fl0 := HE1.out.1.lt
  have f1_0 := HE1.out.2.1.c0
  have f1_1 := HE1.out.2.1.c1
  have f1_2 := HE1.out.2.1.c2
  have fl1 := HE1.out.2.1.lt
  have f2_0 := HE1.out.2.2.c0
  have f2_1 := HE1.out.2.2.c1
  have f2_2 := HE1.out.2.2.c2
  have fl2 := HE1.out.2.2.lt
  try (go_wp2_with fail)
  clear f0_0 f0_1 f0_2 fl0 f1_0 f1_1 f1_2 fl1 f2_0 f2_1 f2_2 fl2
  refine (HC.out _).mono ?_
  rintro e w2 ⟨rfl, hb⟩
  have HE2 := Lib.hid (show AB w2 w.heap.size v1 h1 l1 ∧ AB w2 (w.heap.size + 1) v2 h2 l2 ∧ AB w2 gn v3 h3 l3 from ⟨HE1.out.1.kept hb HE1.out.1.lt , HE1.out.2.1.kept hb HE1.out.2.1.lt , HE1.out.2.2.kept hb HE1.out.2.2.lt⟩)
  have HB2 := Lib.hid (HB1.out.trans (hb.mono HB1.out.size))
  clear hb HE1 HB1 
  have f0_0 := HE2.out.1.c0
  have f0_1 := HE2.out.1.c1
  have f0_2 := HE2.out.1.c2
  have fl0 := HE2.out.1.lt
  have f1_0 := HE2.out.2.1.c0
  have f1_1 := HE2.out.2.1.c1
  have f1_2 := HE2.out.2.1.c2
  have fl1 := HE2.out.2.1.lt
  have f2_0 := HE2.out.2.2.c0
  have f2_1 := HE2.out.2.2.c1
  have f2_2 := HE2.out.2.2.c2
  have fl2 := HE2.out.2.2.lt
  go_wp2_with fail
  go_ret
  exact ⟨rfl, HB2.out⟩
/-- Is a range apart from the one that ends at a? -/
theorem papart_any (v1 : Bool) (h1 l1 : Nat) (v2 : Bool) (h2 l2 : Nat) (w : World) (f1 : (⟨v1, h1, l1⟩ : Ad).fits) (f2 : (⟨v2, h2, l2⟩ : Ad).fits) (a1 : vA ⟨v1, h1, l1⟩ = true) (a2 : vA ⟨v2, h2, l2⟩ = true) :
    Calls Try.prog 38 #[.agg #[.bool v1, .int .u64 h1, .int .u64 l1], .agg #[.bool v2, .int .u64 h2, .int .u64 l2]] w fun e w' => e = .returned (.bool (decide (kA ⟨v1, h1, l1⟩ + 1 < kA ⟨v2, h2, l2⟩))) ∧ Below w.heap.size w w' := by
  cases hv : (v1 == v2) with
  | false => exact papart_ne v1 h1 l1 v2 h2 l2 w f1 f2 a1 a2 hv
  | true =>
    rcases nxt_key f1 a1 with ⟨h, _⟩ | ⟨b, h, _, hf, _, hk⟩
    · exact papart_last v1 h1 l1 v2 h2 l2 w f1 f2 a1 a2 hv h
    · exact papart_next v1 h1 l1 v2 h2 l2 w f1 f2 a1 a2 hv b.v b.h b.l hf h hk
end Go.Proofs.Ytmcelgnifpfjpaa

/- Results that are sets, with the row they lie in. -/
namespace Go.Proofs.Ytmcelgnifpfjpaa
open Go.ChangeShapes Go.WideShapes Go.ChangeAt Go.RowKit
set_option linter.unusedVariables false

/-- A result that is the set of the numbers with f, in blocks from base on. -/
def SetO (w : World) (base : Nat) (f : Int → Bool) (b : Nat) (e : Ending) (w' : World) : Prop :=
  ∃ L : List Rg, ∃ A, ∃ n c : Nat, GoodL L ∧ (∀ m, anyS (L.map spn) m = f m) ∧ n ≤ b ∧ e = .returned (.slice A n c) ∧ OwnR w' base A n c L ∧ Below w.heap.size w w'
theorem SetA.own {w : World} {f : Int → Bool} {b : Nat} {e : Ending} {w' : World} (h : SetA w f b e w') {base : Nat} (hb : base ≤ w.heap.size) : SetO w base f b e w' := by
  obtain ⟨L, A, cap, h1, h2, h3, h4, h5, h6⟩ := h
  exact ⟨L, A, L.length, cap, h1, h2, h3, h4, ⟨rfl, own_mono h5 hb⟩, h6⟩
theorem SetO.set {w : World} {f : Int → Bool} {b : Nat} {e : Ending} {w' : World} (h : SetO w w.heap.size f b e w') : SetA w f b e w' := by
  obtain ⟨L, A, n, cap, h1, h2, h3, h4, h5, h6⟩ := h
  obtain ⟨rfl, h5⟩ := h5
  exact ⟨L, A, cap, h1, h2, h3, h4, h5, h6⟩
theorem spnL_take {l : List Rg} {k : Nat} {x : Rg} (hx : l[k]? = some x) (m : Int) : anyS (spnL (l.take (k + 1))) m = (anyS (spnL (l.take k)) m || (someR x && inS (spn x) m)) := by
  obtain ⟨hk, e⟩ := List.getElem?_eq_some_iff.1 hx
  rw [List.take_succ_eq_append_getElem hk, e, spnL_snoc]
theorem spnL_nil (m : Int) : anyS (spnL []) m = false := rfl
end Go.Proofs.Ytmcelgnifpfjpaa

/- Contract of the program of layer 7: Normal. -/
namespace Go.Proofs.Ytmcelgnifpfjpaa
open Go.ChangeShapes Go.WideShapes Go.ChangeAt Go.RowKit
set_option linter.unusedVariables false

theorem rgCells_setHi : ∀ (l : List Rg) (q : Nat) (y : Rg) (b : Ad), l[q]? = some y → (((ER.cells l).set (q * 6 + 3) (.bool b.v)).set (q * 6 + 4) (.int .u64 b.h)).set (q * 6 + 5) (.int .u64 b.l) = ER.cells (l.set q ⟨y.lo, b⟩)
  | [], q, y, b, h => by simp at h
  | x :: r, 0, y, b, h => by
    simp only [List.getElem?_cons_zero, Option.some.injEq] at h
    subst h
    rfl
  | x :: r, q + 1, y, b, h => by
    have ih := rgCells_setHi r q y b (by simpa using h)
    rw [List.set_cons_succ, ER.cells_cons, ER.cells_cons, ← ih]
    have e : ER.c x = [.bool x.lo.v, .int .u64 x.lo.h, .int .u64 x.lo.l, .bool x.hi.v, .int .u64 x.hi.h, .int .u64 x.hi.l] := rfl
    rw [e, show (q + 1) * 6 + 5 = (q * 6 + 5) + 6 by omega, show (q + 1) * 6 + 4 = (q * 6 + 4) + 6 by omega, show (q + 1) * 6 + 3 = (q * 6 + 3) + 6 by omega]
    rfl
theorem OwnR.setHi {w : World} {base g n c q : Nat} {l : List Rg} {y : Rg} (h : OwnR w base (some ⟨g, 0, none⟩) n c l) (hq : l[q]? = some y) (b : Ad) : OwnR (((w.setCell ⟨g, q * 6 + 3, none⟩ (.bool b.v)).setCell ⟨g, q * 6 + 4, none⟩ (.int .u64 b.h)).setCell ⟨g, q * 6 + 5, none⟩ (.int .u64 b.l)) base (some ⟨g, 0, none⟩) n c (l.set q ⟨y.lo, b⟩) := by
  refine ⟨by rw [List.length_set]; exact h.1, ?_⟩
  rw [← rgCells_setHi l q y b hq]
  exact (((h.2.stored (q * 6 + 3) (.bool b.v)).1.stored (q * 6 + 4) (.int .u64 b.h)).1.stored (q * 6 + 5) (.int .u64 b.l)).1
theorem OwnR.cells {w : World} {base g n c q : Nat} {l : List Rg} {v1 v2 : Bool} {h1 l1 h2 l2 : Nat} (h : OwnR w base (some ⟨g, 0, none⟩) n c l) (hs : l[q]? = some ⟨⟨v1, h1, l1⟩, ⟨v2, h2, l2⟩⟩) :
    w.cell? ⟨g, q * 6 + 3, none⟩ = some (.bool v2) ∧ w.cell? ⟨g, q * 6 + 4, none⟩ = some (.int .u64 h2) ∧ w.cell? ⟨g, q * 6 + 5, none⟩ = some (.int .u64 l2) := by
  have := rg_at h.row hs (Below.refl _ _)
  rw [Nat.zero_add] at this
  exact this.2.2.2
theorem filt_take {l : List Rg} {k : Nat} {x : Rg} (hx : l[k]? = some x) : (l.take (k + 1)).filter someR = (l.take k).filter someR ++ if someR x = true then [x] else [] := by
  obtain ⟨hk, e⟩ := List.getElem?_eq_some_iff.1 hx
  rw [List.take_succ_eq_append_getElem hk, e, List.filter_append]
  congr 1
  rw [List.filter_cons]
  cases someR x <;> simp
theorem set_same {α : Type} {l : List α} {q : Nat} {y : α} (h : l[q]? = some y) : l.set q y = l := by
  apply List.ext_getElem?
  intro i
  by_cases e : q = i
  · subst e
    rw [List.getElem?_set_self (List.getElem?_eq_some_iff.1 h).1, h]
  · rw [List.getElem?_set_ne e]
/-- A cell of a block that lies. -/
def YC (w : World) (g i : Nat) (v : Value) : Prop := g < w.heap.size ∧ w.cell? ⟨g, i, none⟩ = some v
theorem YC.kept {w w' : World} {g i : Nat} {v : Value} (h : YC w g i v) (hb : Below w.heap.size w w') : YC w' g i v := ⟨Nat.lt_of_lt_of_le h.1 hb.size, (hb.cell (p := ⟨g, i, none⟩) h.1).trans h.2⟩
theorem YC.al {w : World} {g i : Nat} {v : Value} (h : YC w g i v) (o : Obj) : YC (w.alloc o) g i v := h.kept (below_alloc6 w o)
theorem last_snoc {out : List Rg} {q : Nat} {y : Rg} (hl : out.length = q + 1) (hy : out[q]? = some y) : ∃ I, out = I ++ [y] ∧ I.length = q := by
  refine ⟨out.take q, ?_, by rw [List.length_take]; omega⟩
  obtain ⟨hq, e⟩ := List.getElem?_eq_some_iff.1 hy
  have := List.take_succ_eq_append_getElem hq
  rw [e] at this
  rw [← this, List.take_of_length_le (by omega)]
set_option maxHeartbeats 8000000 in
set_option maxRecDepth 20000 in
theorem pnormal_any (A : Option Addr) (cap : Nat) (l : List Rg) (w : World) (h : RowL ER w A l) (hf : ∀ r ∈ l, r.fits) (hl : l.length ≤ 100000) :
    Calls Try.prog 11 #[.slice A l.length cap] w (SetO w w.heap.size (fun m => anyS (spnL l) m) l.length) := by
  obtain ⟨N, hN⟩ : ∃ n, n = l.length := ⟨_, rfl⟩
  have hn6 : N ≤ 100000 := by omega
  rw [← hN]
  have H := Lib.hid h
  have HF := Lib.hid hf
  have HN := Lib.hid hN
  have HB0 := Lib.hid (Below.refl w.heap.size w)
  have HO0 := Lib.hid (OwnR.nil w w.heap.size)
  clear h hf hl hN
  go_enter Try.func11, Try.ntmps11
  go_wp2_with fail
  go_loopw [3, 12] (fun s3 s12 wr => ∃ k n c' : Nat, ∃ A' : Option Addr, ∃ out : List Rg, k ≤ N ∧ n ≤ k ∧ s12 = .int .i64 k ∧ s3 = .slice A' n c' ∧ Hid (out = (l.take k).filter someR) ∧ Hid (Below w.heap.size w wr) ∧ Hid (OwnR wr w.heap.size A' n c' out)) (fun _ s12 _ => N - (intOf s12).toNat)
  case atStart => exact ⟨0, 0, 0, none, [], by omega, by omega, rfl, rfl, Lib.hid rfl, HB0, HO0⟩
  case round =>
    clear HB0 HO0
    obtain ⟨k, n, c', A', out, hk, hnk, rfl, rfl, HA, HB, HO⟩ := hrel
    by_cases hlt : k < N
    · have hkl : k < l.length := by rw [← HN.out]; exact hlt
      obtain ⟨g, o, rfl, hg⟩ := H.out.shape (by omega)
      obtain ⟨⟨⟨v3, h3, l3⟩, ⟨v4, h4, l4⟩⟩, hget⟩ : ∃ s, l[k]? = some s := ⟨l[k], List.getElem?_eq_getElem hkl⟩
      obtain ⟨c0, c1, c2, c3, c4, c5⟩ := rg_at H.out hget HB.out
      have hki : (k : Int) < (N : Int) := by omega
      have hki0 : (0 : Int) ≤ (k : Int) := by omega
      have hxf := HF.out _ (List.mem_of_getElem? hget)
      have HS := Lib.hid (fun W => phas_any v3 h3 l3 v4 h4 l4 W hxf.1 hxf.2)
      have HT := Lib.hid (filt_take hget)
      rcases Bool.eq_false_or_eq_true (someR ⟨⟨v3, h3, l3⟩, ⟨v4, h4, l4⟩⟩) with hs | hs
      · rw [hs] at HS
        have HA2 := Lib.hid (show out ++ [⟨⟨v3, h3, l3⟩, ⟨v4, h4, l4⟩⟩] = (l.take (k + 1)).filter someR from by rw [HT.out, HA.out, if_pos hs])
        have hszw := HB.out.size
        clear hs hget hg hkl hxf HT HA
        go_wp2_with fail
        clear c0 c1 c2 c3 c4 c5
        obtain ⟨W12, hW12⟩ : ∃ W, W = wr.alloc (.cells #[.bool v3, .int .u64 h3, .int .u64 l3, .bool v4, .int .u64 h4, .int .u64 l4] 43) := ⟨_, rfl⟩
        obtain ⟨gx, hgx⟩ : ∃ g, g = wr.heap.size := ⟨_, rfl⟩
        have HO_1 := Lib.hid (show OwnR W12 w.heap.size A' n c' out from by rw [hW12]; exact HO.out.al _)
        have Lgx := Lib.hid (show w.heap.size ≤ gx from by rw [hgx]; exact HB.out.size)
        have HX := Lib.hid (show RB W12 gx v3 h3 l3 v4 h4 l4 from by rw [hW12, hgx]; exact rb_new wr v3 h3 l3 v4 h4 l4)
        have HB_1 := Lib.hid (show Below w.heap.size w W12 by rw [hW12]; exact HB.out.alloc HB.out.size _)
        clear HO HB
        rw [← hW12, ← hgx]
        clear hW12 hgx
        have y1_0 : W12.cell? ⟨gx, 0, none⟩ = some (.bool v3) := (HX.out.c 0).trans rfl
        have y1_1 : W12.cell? ⟨gx, 1, none⟩ = some (.int .u64 h3) := (HX.out.c 1).trans rfl
        have y1_2 : W12.cell? ⟨gx, 2, none⟩ = some (.int .u64 l3) := (HX.out.c 2).trans rfl
        have y1_3 : W12.cell? ⟨gx, 3, none⟩ = some (.bool v4) := (HX.out.c 3).trans rfl
        have y1_4 : W12.cell? ⟨gx, 4, none⟩ = some (.int .u64 h4) := (HX.out.c 4).trans rfl
        have y1_5 : W12.cell? ⟨gx, 5, none⟩ = some (.int .u64 l4) := (HX.out.c 5).trans rfl
        have yl1 := HX.out.lt
        clear y1_0 y1_1 y1_2 y1_3 y1_4 y1_5 yl1
        refine (HS.out _).mono ?_
        rintro e w12 ⟨rfl, hb⟩
        have HO_2 := Lib.hid (show OwnR w12 w.heap.size A' n c' out from HO_1.out.kept hb)
        have HX_2 := Lib.hid (show RB w12 gx v3 h3 l3 v4 h4 l4 from HX.out.kept hb HX.out.lt)
        have HB_2 := Lib.hid (HB_1.out.trans (hb.mono HB_1.out.size))
        clear hb HO_1 HX HB_1
        have y1_0 : w12.cell? ⟨gx, 0, none⟩ = some (.bool v3) := (HX_2.out.c 0).trans rfl
        have y1_1 : w12.cell? ⟨gx, 1, none⟩ = some (.int .u64 h3) := (HX_2.out.c 1).trans rfl
        have y1_2 : w12.cell? ⟨gx, 2, none⟩ = some (.int .u64 l3) := (HX_2.out.c 2).trans rfl
        have y1_3 : w12.cell? ⟨gx, 3, none⟩ = some (.bool v4) := (HX_2.out.c 3).trans rfl
        have y1_4 : w12.cell? ⟨gx, 4, none⟩ = some (.int .u64 h4) := (HX_2.out.c 4).trans rfl
        have y1_5 : w12.cell? ⟨gx, 5, none⟩ = some (.int .u64 l4) := (HX_2.out.c 5).trans rfl
        have yl1 := HX_2.out.lt
        have hsza := HB_2.out.size
        go_wp2_with (at_builtin; refine wpList_push (E := ER) rgTy (by rfl) _ _ (by rfl) (w.heap.size) _ n out [⟨⟨v3, h3, l3⟩, ⟨v4, h4, l4⟩⟩] (by rfl) (HO_2.out.al _).2 _ 1 1 #[.bool v3, .int .u64 h3, .int .u64 l3, .bool v4, .int .u64 h4, .int .u64 l4] (0, 0) (by rfl) (heap_alloc_new _ _) rfl rfl (by omega) (by omega) (by decide) ?hb ?_)
        case hb => simp; omega
        intro g2 cap2 wz hown hgrow hat hlt2
        have HO9 := Lib.hid (HO_2.out.push rfl hown)
        have HB9 := Lib.hid (HO_2.out.below HB_2.out HB_2.out.size HB_2.out.size (Nat.le_refl _) hgrow)
        clear hown hgrow hat hlt2
        clear y1_0 y1_1 y1_2 y1_3 y1_4 y1_5 yl1
        go_wp2_with fail
        go_roundw
        case rel => exact ⟨k + 1, n + 1, cap2, some ⟨g2, 0, none⟩, out ++ [⟨⟨v3, h3, l3⟩, ⟨v4, h4, l4⟩⟩], by omega, by omega, by go_num, rfl, HA2, HB9, HO9⟩
        case measure => simp [intOf]; omega
      · rw [hs] at HS
        have HA2 := Lib.hid (show out = (l.take (k + 1)).filter someR from by rw [HT.out, HA.out, if_neg (by rw [hs]; decide), List.append_nil])
        clear hs hget hg hkl hxf HT HA
        go_wp2_with fail
        clear c0 c1 c2 c3 c4 c5
        obtain ⟨W12, hW12⟩ : ∃ W, W = wr.alloc (.cells #[.bool v3, .int .u64 h3, .int .u64 l3, .bool v4, .int .u64 h4, .int .u64 l4] 43) := ⟨_, rfl⟩
        obtain ⟨gx, hgx⟩ : ∃ g, g = wr.heap.size := ⟨_, rfl⟩
        have HO_1 := Lib.hid (show OwnR W12 w.heap.size A' n c' out from by rw [hW12]; exact HO.out.al _)
        have Lgx := Lib.hid (show w.heap.size ≤ gx from by rw [hgx]; exact HB.out.size)
        have HX := Lib.hid (show RB W12 gx v3 h3 l3 v4 h4 l4 from by rw [hW12, hgx]; exact rb_new wr v3 h3 l3 v4 h4 l4)
        have HB_1 := Lib.hid (show Below w.heap.size w W12 by rw [hW12]; exact HB.out.alloc HB.out.size _)
        clear HO HB
        rw [← hW12, ← hgx]
        clear hW12 hgx
        have y1_0 : W12.cell? ⟨gx, 0, none⟩ = some (.bool v3) := (HX.out.c 0).trans rfl
        have y1_1 : W12.cell? ⟨gx, 1, none⟩ = some (.int .u64 h3) := (HX.out.c 1).trans rfl
        have y1_2 : W12.cell? ⟨gx, 2, none⟩ = some (.int .u64 l3) := (HX.out.c 2).trans rfl
        have y1_3 : W12.cell? ⟨gx, 3, none⟩ = some (.bool v4) := (HX.out.c 3).trans rfl
        have y1_4 : W12.cell? ⟨gx, 4, none⟩ = some (.int .u64 h4) := (HX.out.c 4).trans rfl
        have y1_5 : W12.cell? ⟨gx, 5, none⟩ = some (.int .u64 l4) := (HX.out.c 5).trans rfl
        have yl1 := HX.out.lt
        clear y1_0 y1_1 y1_2 y1_3 y1_4 y1_5 yl1
        refine (HS.out _).mono ?_
        rintro e w12 ⟨rfl, hb⟩
        have HO_2 := Lib.hid (show OwnR w12 w.heap.size A' n c' out from HO_1.out.kept hb)
        have HX_2 := Lib.hid (show RB w12 gx v3 h3 l3 v4 h4 l4 from HX.out.kept hb HX.out.lt)
        have HB_2 := Lib.hid (HB_1.out.trans (hb.mono HB_1.out.size))
        clear hb HO_1 HX HB_1
        have y1_0 : w12.cell? ⟨gx, 0, none⟩ = some (.bool v3) := (HX_2.out.c 0).trans rfl
        have y1_1 : w12.cell? ⟨gx, 1, none⟩ = some (.int .u64 h3) := (HX_2.out.c 1).trans rfl
        have y1_2 : w12.cell? ⟨gx, 2, none⟩ = some (.int .u64 l3) := (HX_2.out.c 2).trans rfl
        have y1_3 : w12.cell? ⟨gx, 3, none⟩ = some (.bool v4) := (HX_2.out.c 3).trans rfl
        have y1_4 : w12.cell? ⟨gx, 4, none⟩ = some (.int .u64 h4) := (HX_2.out.c 4).trans rfl
        have y1_5 : w12.cell? ⟨gx, 5, none⟩ = some (.int .u64 l4) := (HX_2.out.c 5).trans rfl
        have yl1 := HX_2.out.lt
        go_wp2_with fail
        clear y1_0 y1_1 y1_2 y1_3 y1_4 y1_5 yl1
        go_roundw
        case rel => exact ⟨k + 1, n, c', A', out, by omega, by omega, by go_num, rfl, HA2, HB_2, HO_2⟩
        case measure => simp [intOf]; omega
    · have hkn : k = l.length := by have := HN.out; omega
      have hout : out = l.filter someR := by rw [HA.out, hkn, List.take_length]
      have HG0 := Lib.hid (show ∀ r ∈ out, someR r = true ∧ r.fits from fun r hr => by
        rw [hout] at hr
        obtain ⟨h1, h2⟩ := List.mem_filter.1 hr
        exact ⟨h2, HF.out r h1⟩)
      have HAL := Lib.hid (show ∀ m, anyS (out.map spn) m = anyS (spnL l) m from fun m => by rw [hout]; rfl)
      have HSO := Lib.hid (psortR_any w.heap.size A' n c' out wr HO.out (fun r hr => (HG0.out r hr).2) (by omega))
      have HNO := Lib.hid HO.out.1
      have HNN := Lib.hid (show n ≤ N by omega)
      have hd : decide ((k : Int) < (N : Int)) = false := by simp; omega
      have hn5 : n ≤ 100000 := by omega
      clear hkn hout HO hk hnk
      go_wp2_with fail
      refine HSO.out.mono ?_
      rintro e w6 ⟨rfl, D, hperm, hsort, hsp, hb6⟩
      have HS := Lib.hid hsp
      have HSRT := Lib.hid hsort
      have HGD := Lib.hid (show ∀ r ∈ D, someR r = true ∧ r.fits from fun r hr => HG0.out r (hperm.mem_iff.1 hr))
      have HAD := Lib.hid (show ∀ m, anyS (D.map spn) m = anyS (spnL l) m from fun m => (perm_any7 (hperm.map spn) m).trans (HAL.out m))
      have HND := Lib.hid (show n = D.length by rw [HNO.out]; exact hperm.length_eq.symm)
      have HB6 := Lib.hid (HB.out.trans hb6)
      clear hperm hsort hsp hb6 HSO HB HG0 HAL HNO hd hlt
      go_wp2_with fail
      have HO := Lib.hid (OwnR.nil w6 w6.heap.size)
      have HB := Lib.hid (Below.refl w6.heap.size w6)
      have HM := Lib.hid (mrgR_start D)
      obtain ⟨np, hnp⟩ : ∃ np, np = n := ⟨_, rfl⟩
      rw [← hnp] at HND HNN hn5 ⊢
      clear hnp
      go_loopw [6, 27] (fun s6 s27 wr => ∃ k n c' : Nat, ∃ A' : Option Addr, ∃ out : List Rg, k ≤ np ∧ n ≤ k ∧ s27 = .int .i64 k ∧ s6 = .slice A' n c' ∧ Hid (MrgR D out k) ∧ Hid (Below w6.heap.size w6 wr) ∧ Hid (OwnR wr w6.heap.size A' n c' out)) (fun _ s27 _ => np - (intOf s27).toNat)
      case atStart => exact ⟨0, 0, 0, none, [], by omega, by omega, rfl, rfl, HM, HB, HO⟩
      case round =>
        clear HM HB HO
        obtain ⟨k, n, c', A3, out, hk, hnk, rfl, rfl, HM, HB, HO⟩ := hrel
        by_cases hlt : k < np
        · obtain ⟨⟨⟨v3, h3, l3⟩, ⟨v4, h4, l4⟩⟩, hget⟩ : ∃ s, D[k]? = some s := ⟨D[k]'(by have := HND.out; omega), List.getElem?_eq_getElem _⟩
          obtain ⟨g, o, rfl, hg⟩ := HS.out.shape (by have := HND.out; omega)
          obtain ⟨c0, c1, c2, c3, c4, c5⟩ := rg_at HS.out hget HB.out
          have hki : (k : Int) < (np : Int) := by omega
          have hki0 : (0 : Int) ≤ (k : Int) := by omega
          have hxg := HGD.out _ (List.mem_of_getElem? hget)
          have hxv := someR_iff.1 hxg.1
          have HGT := Lib.hid hget
          have hszw := HB.out.size
          rcases Nat.eq_zero_or_pos n with hn0 | hnp
          · subst hn0
            have hout : out = [] := List.length_eq_zero_iff.1 HO.out.1.symm
            have HM2 := Lib.hid (show MrgR D (out ++ [⟨⟨v3, h3, l3⟩, ⟨v4, h4, l4⟩⟩]) (k + 1) from mrgR_append HM.out HSRT.out HGD.out hget (fun x hx => by rw [hout] at hx; simp at hx))
            have hw0 : IntKind.i64.wrap (((0 : Nat) : Int) - 1) = -1 := by decide
            clear hout hget hg hxg hxv HM HGT
            go_wp2_with fail
            clear c0 c1 c2 c3 c4 c5
            obtain ⟨W12, hW12⟩ : ∃ W, W = wr.alloc (.cells #[.bool v3, .int .u64 h3, .int .u64 l3, .bool v4, .int .u64 h4, .int .u64 l4] 43) := ⟨_, rfl⟩
            obtain ⟨gx, hgx⟩ : ∃ g, g = wr.heap.size := ⟨_, rfl⟩
            have HO_1 := Lib.hid (show OwnR W12 w6.heap.size A3 0 c' out from by rw [hW12]; exact HO.out.al _)
            have Lgx := Lib.hid (show w6.heap.size ≤ gx from by rw [hgx]; exact HB.out.size)
            have HX := Lib.hid (show RB W12 gx v3 h3 l3 v4 h4 l4 from by rw [hW12, hgx]; exact rb_new wr v3 h3 l3 v4 h4 l4)
            have HB_1 := Lib.hid (show Below w6.heap.size w6 W12 by rw [hW12]; exact HB.out.alloc HB.out.size _)
            clear HO HB
            rw [← hW12, ← hgx]
            clear hW12 hgx
            have y1_0 : W12.cell? ⟨gx, 0, none⟩ = some (.bool v3) := (HX.out.c 0).trans rfl
            have y1_1 : W12.cell? ⟨gx, 1, none⟩ = some (.int .u64 h3) := (HX.out.c 1).trans rfl
            have y1_2 : W12.cell? ⟨gx, 2, none⟩ = some (.int .u64 l3) := (HX.out.c 2).trans rfl
            have y1_3 : W12.cell? ⟨gx, 3, none⟩ = some (.bool v4) := (HX.out.c 3).trans rfl
            have y1_4 : W12.cell? ⟨gx, 4, none⟩ = some (.int .u64 h4) := (HX.out.c 4).trans rfl
            have y1_5 : W12.cell? ⟨gx, 5, none⟩ = some (.int .u64 l4) := (HX.out.c 5).trans rfl
            have yl1 := HX.out.lt
            refine wp_region_pick (fun w' => Below W12.heap.size W12 w') (by kernel_rfl) (by kernel_rfl) (Below.refl _ _) ⟨rfl, rfl, rfl, Nat.le_refl _, fun _ _ => rfl⟩ (fun p hp hq => ?_)
            have pp0 : ∀ u, (p u).cell? ⟨gx, 0, none⟩ = some (.bool v3) := fun u => ((HX.out.kept (hp u) HX.out.lt).c 0).trans rfl
            have pp1 : ∀ u, (p u).cell? ⟨gx, 1, none⟩ = some (.int .u64 h3) := fun u => ((HX.out.kept (hp u) HX.out.lt).c 1).trans rfl
            have pp2 : ∀ u, (p u).cell? ⟨gx, 2, none⟩ = some (.int .u64 l3) := fun u => ((HX.out.kept (hp u) HX.out.lt).c 2).trans rfl
            have pp3 : ∀ u, (p u).cell? ⟨gx, 3, none⟩ = some (.bool v4) := fun u => ((HX.out.kept (hp u) HX.out.lt).c 3).trans rfl
            have pp4 : ∀ u, (p u).cell? ⟨gx, 4, none⟩ = some (.int .u64 h4) := fun u => ((HX.out.kept (hp u) HX.out.lt).c 4).trans rfl
            have pp5 : ∀ u, (p u).cell? ⟨gx, 5, none⟩ = some (.int .u64 l4) := fun u => ((HX.out.kept (hp u) HX.out.lt).c 5).trans rfl
            have HP := Lib.hid hp
            have HQ := Lib.hid hq
            clear hp hq
            repeat (go_big_quiet_step (fail))
            refine wpQuiet_nil ?_
            rintro _ ⟨u, rfl⟩
            have hbp := HP.out u
            generalize p u = wp1 at *
            clear HP HQ pp0 pp1 pp2 pp3 pp4 pp5
            clear y1_0 y1_1 y1_2 y1_3 y1_4 y1_5 yl1
            have HO_2 := Lib.hid (show OwnR wp1 w6.heap.size A3 0 c' out from HO_1.out.kept hbp)
            have HX_2 := Lib.hid (show RB wp1 gx v3 h3 l3 v4 h4 l4 from HX.out.kept hbp HX.out.lt)
            have HB_2 := Lib.hid (HB_1.out.trans (hbp.mono HB_1.out.size))
            clear hbp HO_1 HX HB_1
            have y1_0 : wp1.cell? ⟨gx, 0, none⟩ = some (.bool v3) := (HX_2.out.c 0).trans rfl
            have y1_1 : wp1.cell? ⟨gx, 1, none⟩ = some (.int .u64 h3) := (HX_2.out.c 1).trans rfl
            have y1_2 : wp1.cell? ⟨gx, 2, none⟩ = some (.int .u64 l3) := (HX_2.out.c 2).trans rfl
            have y1_3 : wp1.cell? ⟨gx, 3, none⟩ = some (.bool v4) := (HX_2.out.c 3).trans rfl
            have y1_4 : wp1.cell? ⟨gx, 4, none⟩ = some (.int .u64 h4) := (HX_2.out.c 4).trans rfl
            have y1_5 : wp1.cell? ⟨gx, 5, none⟩ = some (.int .u64 l4) := (HX_2.out.c 5).trans rfl
            have yl1 := HX_2.out.lt
            have hsza := HB_2.out.size
            go_wp2_with (at_builtin; refine wpList_push (E := ER) rgTy (by rfl) _ _ (by rfl) (w6.heap.size) _ 0 out [⟨⟨v3, h3, l3⟩, ⟨v4, h4, l4⟩⟩] (by rfl) (HO_2.out.al _).2 _ 1 1 #[.bool v3, .int .u64 h3, .int .u64 l3, .bool v4, .int .u64 h4, .int .u64 l4] (0, 0) (by rfl) (heap_alloc_new _ _) rfl rfl (by omega) (by omega) (by decide) ?hb ?_)
            case hb => simp; omega
            intro g2 cap2 wz hown hgrow hat hlt2
            have HO9 := Lib.hid (HO_2.out.push rfl hown)
            have HB9 := Lib.hid (HO_2.out.below HB_2.out HB_2.out.size HB_2.out.size (Nat.le_refl _) hgrow)
            clear hown hgrow hat hlt2
            clear y1_0 y1_1 y1_2 y1_3 y1_4 y1_5 yl1
            go_wp2_with fail
            go_roundw
            case rel => exact ⟨k + 1, 1, cap2, some ⟨g2, 0, none⟩, out ++ [⟨⟨v3, h3, l3⟩, ⟨v4, h4, l4⟩⟩], by omega, by omega, by go_num, rfl, HM2, HB9, HO9⟩
            case measure => simp [intOf]; omega
          · obtain ⟨q, rfl⟩ : ∃ q, n = q + 1 := ⟨n - 1, by omega⟩
            have hol : out.length = q + 1 := HO.out.1.symm
            obtain ⟨⟨⟨u3, p3, q3⟩, ⟨u4, p4, q4⟩⟩, hgy⟩ : ∃ s, out[q]? = some s := ⟨out[q]'(by omega), List.getElem?_eq_getElem _⟩
            obtain ⟨I, hI, hIl⟩ := last_snoc hol hgy
            have hyg := HM.out.good.1 _ (List.mem_of_getElem? hgy)
            have hyv := someR_iff.1 hyg.1
            obtain ⟨gs, rfl, hgsb, hgsl⟩ : ∃ gs, A3 = some ⟨gs, 0, none⟩ ∧ w6.heap.size ≤ gs ∧ gs < wr.heap.size := by
              obtain ⟨gs, cg, hf, h1, h2⟩ := World.ownsRow.form HO.out.2 (by omega)
              simp only [Value.slice.injEq, true_and] at hf
              exact ⟨gs, hf.1, h1, h2⟩
            obtain ⟨y3, y4, y5⟩ := HO.out.cells hgy
            have HAP := Lib.hid (fun W => papart_any u4 p4 q4 v3 h3 l3 W hyg.2.2 hxg.2.1 hyv.2.1 hxv.1)
            have HTB := Lib.hid (fun W => pbef_key hyg.2.2 hxg.2.2 W)
            simp only at HTB
            have HMA := Lib.hid (show kA ⟨u4, p4, q4⟩ + 1 < kA ⟨v3, h3, l3⟩ → MrgR D (out ++ [⟨⟨v3, h3, l3⟩, ⟨v4, h4, l4⟩⟩]) (k + 1) from fun hh => mrgR_append HM.out HSRT.out HGD.out HGT.out (fun x hx => by
              rw [hI] at hx
              simp at hx
              subst hx
              exact hh))
            have HMG := Lib.hid (show ∀ b, kA ⟨v3, h3, l3⟩ ≤ kA ⟨u4, p4, q4⟩ + 1 → (b = if kA ⟨u4, p4, q4⟩ < kA ⟨v4, h4, l4⟩ then (⟨v4, h4, l4⟩ : Ad) else ⟨u4, p4, q4⟩) → MrgR D (out.set q ⟨⟨u3, p3, q3⟩, b⟩) (k + 1) from fun b h1 h2 => by
              have hm := HM.out
              rw [hI] at hm ⊢
              rw [← hIl, List.set_append_right _ _ (Nat.le_refl _), Nat.sub_self, List.set_cons_zero]
              exact mrgR_grow hm HSRT.out HGD.out HGT.out h1 h2)
            have HST := Lib.hid (fun (W : World) (hW : OwnR W w6.heap.size (some ⟨gs, 0, none⟩) (q + 1) c' out) => hW.setHi hgy ⟨v4, h4, l4⟩)
            have HSAME := Lib.hid (show out.set q ⟨⟨u3, p3, q3⟩, ⟨u4, p4, q4⟩⟩ = out from set_same hgy)
            have hqi : ((q + 1 : Nat) : Int) - 1 = (q : Int) := by omega
            have hw1 : IntKind.i64.wrap (((q + 1 : Nat) : Int) - 1) = (q : Int) := by rw [hqi]; exact IntWalk.i64_in _ (by omega)
            have hq0 : (0 : Int) ≤ (q : Int) := by omega
            have dq : decide ((q : Int) < 0) = false := by simp
            have dqn : ¬ (q : Int) < 0 := by omega
            obtain ⟨nq, hnq⟩ : ∃ nq, nq = q + 1 := ⟨_, rfl⟩
            have hqlt : (q : Int) < (nq : Int) := by omega
            rw [← hnq] at HO HST hqi hw1 hnk ⊢
            have HNQ := Lib.hid hnq
            clear hol hgy hI hIl hyg hyv hget hg hxg hxv HM HGT hnq hnp
            rcases Bool.eq_false_or_eq_true (decide (kA ⟨u4, p4, q4⟩ + 1 < kA ⟨v3, h3, l3⟩)) with ta | ta
            · rw [ta] at HAP
              have HM2 := Lib.hid (HMA.out (of_decide_eq_true ta))
              clear ta HMA HMG HST HSAME HTB
              have HY3 := Lib.hid (show YC wr gs (q * 6 + 3) (.bool u4) from ⟨hgsl, y3⟩)
              have HY4 := Lib.hid (show YC wr gs (q * 6 + 4) (.int .u64 p4) from ⟨hgsl, y4⟩)
              have HY5 := Lib.hid (show YC wr gs (q * 6 + 5) (.int .u64 q4) from ⟨hgsl, y5⟩)
              clear y3 y4 y5
              have y3 := HY3.out.2
              have y4 := HY4.out.2
              have y5 := HY5.out.2
              have yf3 := HO.out.2.frozenAt (q * 6 + 3)
              have yf4 := HO.out.2.frozenAt (q * 6 + 4)
              have yf5 := HO.out.2.frozenAt (q * 6 + 5)
              go_wp2_with fail
              clear c0 c1 c2 c3 c4 c5 y3 y4 y5 yf3 yf4 yf5
              obtain ⟨W12, hW12⟩ : ∃ W, W = wr.alloc (.cells #[.bool v3, .int .u64 h3, .int .u64 l3, .bool v4, .int .u64 h4, .int .u64 l4] 43) := ⟨_, rfl⟩
              obtain ⟨gx, hgx⟩ : ∃ g, g = wr.heap.size := ⟨_, rfl⟩
              have HO_1 := Lib.hid (show OwnR W12 w6.heap.size (some ⟨gs, 0, none⟩) nq c' out from by rw [hW12]; exact HO.out.al _)
              have HY3_1 := Lib.hid (show YC W12 gs (q * 6 + 3) (.bool u4) from by rw [hW12]; exact HY3.out.al _)
              have HY4_1 := Lib.hid (show YC W12 gs (q * 6 + 4) (.int .u64 p4) from by rw [hW12]; exact HY4.out.al _)
              have HY5_1 := Lib.hid (show YC W12 gs (q * 6 + 5) (.int .u64 q4) from by rw [hW12]; exact HY5.out.al _)
              have Lgx := Lib.hid (show w6.heap.size ≤ gx from by rw [hgx]; exact HB.out.size)
              have HX := Lib.hid (show RB W12 gx v3 h3 l3 v4 h4 l4 from by rw [hW12, hgx]; exact rb_new wr v3 h3 l3 v4 h4 l4)
              have HB_1 := Lib.hid (show Below w6.heap.size w6 W12 by rw [hW12]; exact HB.out.alloc HB.out.size _)
              clear HO HY3 HY4 HY5 HB
              rw [← hW12, ← hgx]
              clear hW12 hgx
              have y4_0 : W12.cell? ⟨gx, 0, none⟩ = some (.bool v3) := (HX.out.c 0).trans rfl
              have y4_1 : W12.cell? ⟨gx, 1, none⟩ = some (.int .u64 h3) := (HX.out.c 1).trans rfl
              have y4_2 : W12.cell? ⟨gx, 2, none⟩ = some (.int .u64 l3) := (HX.out.c 2).trans rfl
              have y4_3 : W12.cell? ⟨gx, 3, none⟩ = some (.bool v4) := (HX.out.c 3).trans rfl
              have y4_4 : W12.cell? ⟨gx, 4, none⟩ = some (.int .u64 h4) := (HX.out.c 4).trans rfl
              have y4_5 : W12.cell? ⟨gx, 5, none⟩ = some (.int .u64 l4) := (HX.out.c 5).trans rfl
              have yl4 := HX.out.lt
              refine wp_region_pick (fun w' => Below W12.heap.size W12 w') (by kernel_rfl) (by kernel_rfl) (Below.refl _ _) ⟨rfl, rfl, rfl, Nat.le_refl _, fun _ _ => rfl⟩ (fun p hp hq => ?_)
              have pp0 : ∀ u, (p u).cell? ⟨gx, 0, none⟩ = some (.bool v3) := fun u => ((HX.out.kept (hp u) HX.out.lt).c 0).trans rfl
              have pp1 : ∀ u, (p u).cell? ⟨gx, 1, none⟩ = some (.int .u64 h3) := fun u => ((HX.out.kept (hp u) HX.out.lt).c 1).trans rfl
              have pp2 : ∀ u, (p u).cell? ⟨gx, 2, none⟩ = some (.int .u64 l3) := fun u => ((HX.out.kept (hp u) HX.out.lt).c 2).trans rfl
              have pp3 : ∀ u, (p u).cell? ⟨gx, 3, none⟩ = some (.bool v4) := fun u => ((HX.out.kept (hp u) HX.out.lt).c 3).trans rfl
              have pp4 : ∀ u, (p u).cell? ⟨gx, 4, none⟩ = some (.int .u64 h4) := fun u => ((HX.out.kept (hp u) HX.out.lt).c 4).trans rfl
              have pp5 : ∀ u, (p u).cell? ⟨gx, 5, none⟩ = some (.int .u64 l4) := fun u => ((HX.out.kept (hp u) HX.out.lt).c 5).trans rfl
              have pp6 : ∀ u, (p u).cell? ⟨gs, q * 6 + 3, none⟩ = some (.bool u4) := fun u => (HY3_1.out.kept (hp u)).2
              have pp7 : ∀ u, (p u).cell? ⟨gs, q * 6 + 4, none⟩ = some (.int .u64 p4) := fun u => (HY4_1.out.kept (hp u)).2
              have pp8 : ∀ u, (p u).cell? ⟨gs, q * 6 + 5, none⟩ = some (.int .u64 q4) := fun u => (HY5_1.out.kept (hp u)).2
              have HP := Lib.hid hp
              have HQ := Lib.hid hq
              clear hp hq
              repeat (go_big_quiet_step ((first | with_reducible exact Calls.pick_of HQ.out (fun W' hb => (HP.out _).trans (hb.mono (HP.out _).size)) (HAP.out _))))
              refine wpQuiet_nil ?_
              rintro _ ⟨u, rfl⟩
              have hbp := HP.out u
              generalize p u = wp1 at *
              clear HP HQ pp0 pp1 pp2 pp3 pp4 pp5 pp6 pp7 pp8
              clear y4_0 y4_1 y4_2 y4_3 y4_4 y4_5 yl4
              have HO_2 := Lib.hid (show OwnR wp1 w6.heap.size (some ⟨gs, 0, none⟩) nq c' out from HO_1.out.kept hbp)
              have HY3_2 := Lib.hid (show YC wp1 gs (q * 6 + 3) (.bool u4) from HY3_1.out.kept hbp)
              have HY4_2 := Lib.hid (show YC wp1 gs (q * 6 + 4) (.int .u64 p4) from HY4_1.out.kept hbp)
              have HY5_2 := Lib.hid (show YC wp1 gs (q * 6 + 5) (.int .u64 q4) from HY5_1.out.kept hbp)
              have HX_2 := Lib.hid (show RB wp1 gx v3 h3 l3 v4 h4 l4 from HX.out.kept hbp HX.out.lt)
              have HB_2 := Lib.hid (HB_1.out.trans (hbp.mono HB_1.out.size))
              clear hbp HO_1 HY3_1 HY4_1 HY5_1 HX HB_1
              have y4_0 : wp1.cell? ⟨gx, 0, none⟩ = some (.bool v3) := (HX_2.out.c 0).trans rfl
              have y4_1 : wp1.cell? ⟨gx, 1, none⟩ = some (.int .u64 h3) := (HX_2.out.c 1).trans rfl
              have y4_2 : wp1.cell? ⟨gx, 2, none⟩ = some (.int .u64 l3) := (HX_2.out.c 2).trans rfl
              have y4_3 : wp1.cell? ⟨gx, 3, none⟩ = some (.bool v4) := (HX_2.out.c 3).trans rfl
              have y4_4 : wp1.cell? ⟨gx, 4, none⟩ = some (.int .u64 h4) := (HX_2.out.c 4).trans rfl
              have y4_5 : wp1.cell? ⟨gx, 5, none⟩ = some (.int .u64 l4) := (HX_2.out.c 5).trans rfl
              have yl4 := HX_2.out.lt
              have y3 := HY3_2.out.2
              have y4 := HY4_2.out.2
              have y5 := HY5_2.out.2
              have hsza := HB_2.out.size
              go_wp2_with (at_builtin; refine wpList_push (E := ER) rgTy (by rfl) _ _ (by rfl) (w6.heap.size) _ nq out [⟨⟨v3, h3, l3⟩, ⟨v4, h4, l4⟩⟩] (by rfl) (HO_2.out.al _).2 _ 1 1 #[.bool v3, .int .u64 h3, .int .u64 l3, .bool v4, .int .u64 h4, .int .u64 l4] (0, 0) (by rfl) (heap_alloc_new _ _) rfl rfl (by omega) (by omega) (by decide) ?hb ?_)
              case hb => simp; omega
              intro g2 cap2 wz hown hgrow hat hlt2
              have HO9 := Lib.hid (HO_2.out.push rfl hown)
              have HB9 := Lib.hid (HO_2.out.below HB_2.out HB_2.out.size HB_2.out.size (Nat.le_refl _) hgrow)
              clear hown hgrow hat hlt2
              clear y4_0 y4_1 y4_2 y4_3 y4_4 y4_5 yl4 y3 y4 y5
              go_wp2_with fail
              go_roundw
              case rel => exact ⟨k + 1, nq + 1, cap2, some ⟨g2, 0, none⟩, out ++ [⟨⟨v3, h3, l3⟩, ⟨v4, h4, l4⟩⟩], by omega, by omega, by go_num, rfl, HM2, HB9, HO9⟩
              case measure => simp [intOf]; omega
            · rw [ta] at HAP
              have hle : kA ⟨v3, h3, l3⟩ ≤ kA ⟨u4, p4, q4⟩ + 1 := by have := of_decide_eq_false ta; omega
              rcases Bool.eq_false_or_eq_true (decide (kA ⟨u4, p4, q4⟩ < kA ⟨v4, h4, l4⟩)) with tb | tb
              · rw [tb] at HTB
                have HM2 := Lib.hid (HMG.out ⟨v4, h4, l4⟩ hle (by rw [if_pos (of_decide_eq_true tb)]))
                clear ta tb hle HMA HMG HSAME
                have HY3 := Lib.hid (show YC wr gs (q * 6 + 3) (.bool u4) from ⟨hgsl, y3⟩)
                have HY4 := Lib.hid (show YC wr gs (q * 6 + 4) (.int .u64 p4) from ⟨hgsl, y4⟩)
                have HY5 := Lib.hid (show YC wr gs (q * 6 + 5) (.int .u64 q4) from ⟨hgsl, y5⟩)
                clear y3 y4 y5
                have y3 := HY3.out.2
                have y4 := HY4.out.2
                have y5 := HY5.out.2
                have yf3 := HO.out.2.frozenAt (q * 6 + 3)
                have yf4 := HO.out.2.frozenAt (q * 6 + 4)
                have yf5 := HO.out.2.frozenAt (q * 6 + 5)
                go_wp2_with fail
                clear c0 c1 c2 c3 c4 c5 y3 y4 y5 yf3 yf4 yf5
                obtain ⟨W12, hW12⟩ : ∃ W, W = wr.alloc (.cells #[.bool v3, .int .u64 h3, .int .u64 l3, .bool v4, .int .u64 h4, .int .u64 l4] 43) := ⟨_, rfl⟩
                obtain ⟨gx, hgx⟩ : ∃ g, g = wr.heap.size := ⟨_, rfl⟩
                have HO_1 := Lib.hid (show OwnR W12 w6.heap.size (some ⟨gs, 0, none⟩) nq c' out from by rw [hW12]; exact HO.out.al _)
                have HY3_1 := Lib.hid (show YC W12 gs (q * 6 + 3) (.bool u4) from by rw [hW12]; exact HY3.out.al _)
                have HY4_1 := Lib.hid (show YC W12 gs (q * 6 + 4) (.int .u64 p4) from by rw [hW12]; exact HY4.out.al _)
                have HY5_1 := Lib.hid (show YC W12 gs (q * 6 + 5) (.int .u64 q4) from by rw [hW12]; exact HY5.out.al _)
                have Lgx := Lib.hid (show w6.heap.size ≤ gx from by rw [hgx]; exact HB.out.size)
                have HX := Lib.hid (show RB W12 gx v3 h3 l3 v4 h4 l4 from by rw [hW12, hgx]; exact rb_new wr v3 h3 l3 v4 h4 l4)
                have HB_1 := Lib.hid (show Below w6.heap.size w6 W12 by rw [hW12]; exact HB.out.alloc HB.out.size _)
                clear HO HY3 HY4 HY5 HB
                rw [← hW12, ← hgx]
                clear hW12 hgx
                have y4_0 : W12.cell? ⟨gx, 0, none⟩ = some (.bool v3) := (HX.out.c 0).trans rfl
                have y4_1 : W12.cell? ⟨gx, 1, none⟩ = some (.int .u64 h3) := (HX.out.c 1).trans rfl
                have y4_2 : W12.cell? ⟨gx, 2, none⟩ = some (.int .u64 l3) := (HX.out.c 2).trans rfl
                have y4_3 : W12.cell? ⟨gx, 3, none⟩ = some (.bool v4) := (HX.out.c 3).trans rfl
                have y4_4 : W12.cell? ⟨gx, 4, none⟩ = some (.int .u64 h4) := (HX.out.c 4).trans rfl
                have y4_5 : W12.cell? ⟨gx, 5, none⟩ = some (.int .u64 l4) := (HX.out.c 5).trans rfl
                have yl4 := HX.out.lt
                refine wp_region_pick (fun w' => Below W12.heap.size W12 w') (by kernel_rfl) (by kernel_rfl) (Below.refl _ _) ⟨rfl, rfl, rfl, Nat.le_refl _, fun _ _ => rfl⟩ (fun p hp hq => ?_)
                have pp0 : ∀ u, (p u).cell? ⟨gx, 0, none⟩ = some (.bool v3) := fun u => ((HX.out.kept (hp u) HX.out.lt).c 0).trans rfl
                have pp1 : ∀ u, (p u).cell? ⟨gx, 1, none⟩ = some (.int .u64 h3) := fun u => ((HX.out.kept (hp u) HX.out.lt).c 1).trans rfl
                have pp2 : ∀ u, (p u).cell? ⟨gx, 2, none⟩ = some (.int .u64 l3) := fun u => ((HX.out.kept (hp u) HX.out.lt).c 2).trans rfl
                have pp3 : ∀ u, (p u).cell? ⟨gx, 3, none⟩ = some (.bool v4) := fun u => ((HX.out.kept (hp u) HX.out.lt).c 3).trans rfl
                have pp4 : ∀ u, (p u).cell? ⟨gx, 4, none⟩ = some (.int .u64 h4) := fun u => ((HX.out.kept (hp u) HX.out.lt).c 4).trans rfl
                have pp5 : ∀ u, (p u).cell? ⟨gx, 5, none⟩ = some (.int .u64 l4) := fun u => ((HX.out.kept (hp u) HX.out.lt).c 5).trans rfl
                have pp6 : ∀ u, (p u).cell? ⟨gs, q * 6 + 3, none⟩ = some (.bool u4) := fun u => (HY3_1.out.kept (hp u)).2
                have pp7 : ∀ u, (p u).cell? ⟨gs, q * 6 + 4, none⟩ = some (.int .u64 p4) := fun u => (HY4_1.out.kept (hp u)).2
                have pp8 : ∀ u, (p u).cell? ⟨gs, q * 6 + 5, none⟩ = some (.int .u64 q4) := fun u => (HY5_1.out.kept (hp u)).2
                have HP := Lib.hid hp
                have HQ := Lib.hid hq
                clear hp hq
                repeat (go_big_quiet_step ((first | with_reducible exact Calls.pick_of HQ.out (fun W' hb => (HP.out _).trans (hb.mono (HP.out _).size)) (HAP.out _))))
                refine wpQuiet_nil ?_
                rintro _ ⟨u, rfl⟩
                have hbp := HP.out u
                generalize p u = wp1 at *
                clear HP HQ pp0 pp1 pp2 pp3 pp4 pp5 pp6 pp7 pp8
                clear y4_0 y4_1 y4_2 y4_3 y4_4 y4_5 yl4
                have HO_2 := Lib.hid (show OwnR wp1 w6.heap.size (some ⟨gs, 0, none⟩) nq c' out from HO_1.out.kept hbp)
                have HY3_2 := Lib.hid (show YC wp1 gs (q * 6 + 3) (.bool u4) from HY3_1.out.kept hbp)
                have HY4_2 := Lib.hid (show YC wp1 gs (q * 6 + 4) (.int .u64 p4) from HY4_1.out.kept hbp)
                have HY5_2 := Lib.hid (show YC wp1 gs (q * 6 + 5) (.int .u64 q4) from HY5_1.out.kept hbp)
                have HX_2 := Lib.hid (show RB wp1 gx v3 h3 l3 v4 h4 l4 from HX.out.kept hbp HX.out.lt)
                have HB_2 := Lib.hid (HB_1.out.trans (hbp.mono HB_1.out.size))
                clear hbp HO_1 HY3_1 HY4_1 HY5_1 HX HB_1
                have y4_0 : wp1.cell? ⟨gx, 0, none⟩ = some (.bool v3) := (HX_2.out.c 0).trans rfl
                have y4_1 : wp1.cell? ⟨gx, 1, none⟩ = some (.int .u64 h3) := (HX_2.out.c 1).trans rfl
                have y4_2 : wp1.cell? ⟨gx, 2, none⟩ = some (.int .u64 l3) := (HX_2.out.c 2).trans rfl
                have y4_3 : wp1.cell? ⟨gx, 3, none⟩ = some (.bool v4) := (HX_2.out.c 3).trans rfl
                have y4_4 : wp1.cell? ⟨gx, 4, none⟩ = some (.int .u64 h4) := (HX_2.out.c 4).trans rfl
                have y4_5 : wp1.cell? ⟨gx, 5, none⟩ = some (.int .u64 l4) := (HX_2.out.c 5).trans rfl
                have yl4 := HX_2.out.lt
                have y3 := HY3_2.out.2
                have y4 := HY4_2.out.2
                have y5 := HY5_2.out.2
                go_wp2_with fail
                refine wp_region_pick (fun w' => Below wp1.heap.size wp1 w') (by kernel_rfl) (by kernel_rfl) (Below.refl _ _) ⟨rfl, rfl, rfl, Nat.le_refl _, fun _ _ => rfl⟩ (fun p hp hq => ?_)
                have pp0 : ∀ u, (p u).cell? ⟨gx, 0, none⟩ = some (.bool v3) := fun u => ((HX_2.out.kept (hp u) HX_2.out.lt).c 0).trans rfl
                have pp1 : ∀ u, (p u).cell? ⟨gx, 1, none⟩ = some (.int .u64 h3) := fun u => ((HX_2.out.kept (hp u) HX_2.out.lt).c 1).trans rfl
                have pp2 : ∀ u, (p u).cell? ⟨gx, 2, none⟩ = some (.int .u64 l3) := fun u => ((HX_2.out.kept (hp u) HX_2.out.lt).c 2).trans rfl
                have pp3 : ∀ u, (p u).cell? ⟨gx, 3, none⟩ = some (.bool v4) := fun u => ((HX_2.out.kept (hp u) HX_2.out.lt).c 3).trans rfl
                have pp4 : ∀ u, (p u).cell? ⟨gx, 4, none⟩ = some (.int .u64 h4) := fun u => ((HX_2.out.kept (hp u) HX_2.out.lt).c 4).trans rfl
                have pp5 : ∀ u, (p u).cell? ⟨gx, 5, none⟩ = some (.int .u64 l4) := fun u => ((HX_2.out.kept (hp u) HX_2.out.lt).c 5).trans rfl
                have pp6 : ∀ u, (p u).cell? ⟨gs, q * 6 + 3, none⟩ = some (.bool u4) := fun u => (HY3_2.out.kept (hp u)).2
                have pp7 : ∀ u, (p u).cell? ⟨gs, q * 6 + 4, none⟩ = some (.int .u64 p4) := fun u => (HY4_2.out.kept (hp u)).2
                have pp8 : ∀ u, (p u).cell? ⟨gs, q * 6 + 5, none⟩ = some (.int .u64 q4) := fun u => (HY5_2.out.kept (hp u)).2
                have HP := Lib.hid hp
                have HQ := Lib.hid hq
                clear hp hq
                repeat (go_big_quiet_step ((first | with_reducible exact Calls.pick_of HQ.out (fun W' hb => (HP.out _).trans (hb.mono (HP.out _).size)) (HTB.out _))))
                refine wpQuiet_nil ?_
                rintro _ ⟨u, rfl⟩
                have hbp := HP.out u
                generalize p u = wp2 at *
                clear HP HQ pp0 pp1 pp2 pp3 pp4 pp5 pp6 pp7 pp8
                clear y4_0 y4_1 y4_2 y4_3 y4_4 y4_5 yl4 y3 y4 y5
                have HO_3 := Lib.hid (show OwnR wp2 w6.heap.size (some ⟨gs, 0, none⟩) nq c' out from HO_2.out.kept hbp)
                have HY3_3 := Lib.hid (show YC wp2 gs (q * 6 + 3) (.bool u4) from HY3_2.out.kept hbp)
                have HY4_3 := Lib.hid (show YC wp2 gs (q * 6 + 4) (.int .u64 p4) from HY4_2.out.kept hbp)
                have HY5_3 := Lib.hid (show YC wp2 gs (q * 6 + 5) (.int .u64 q4) from HY5_2.out.kept hbp)
                have HX_3 := Lib.hid (show RB wp2 gx v3 h3 l3 v4 h4 l4 from HX_2.out.kept hbp HX_2.out.lt)
                have HB_3 := Lib.hid (HB_2.out.trans (hbp.mono HB_2.out.size))
                clear hbp HO_2 HY3_2 HY4_2 HY5_2 HX_2 HB_2
                have y4_0 : wp2.cell? ⟨gx, 0, none⟩ = some (.bool v3) := (HX_3.out.c 0).trans rfl
                have y4_1 : wp2.cell? ⟨gx, 1, none⟩ = some (.int .u64 h3) := (HX_3.out.c 1).trans rfl
                have y4_2 : wp2.cell? ⟨gx, 2, none⟩ = some (.int .u64 l3) := (HX_3.out.c 2).trans rfl
                have y4_3 : wp2.cell? ⟨gx, 3, none⟩ = some (.bool v4) := (HX_3.out.c 3).trans rfl
                have y4_4 : wp2.cell? ⟨gx, 4, none⟩ = some (.int .u64 h4) := (HX_3.out.c 4).trans rfl
                have y4_5 : wp2.cell? ⟨gx, 5, none⟩ = some (.int .u64 l4) := (HX_3.out.c 5).trans rfl
                have yl4 := HX_3.out.lt
                have y3 := HY3_3.out.2
                have y4 := HY4_3.out.2
                have y5 := HY5_3.out.2
                obtain ⟨W99, hW99⟩ : ∃ W, W = ((wp2.setCell ⟨gs, q * 6 + 3, none⟩ (.bool v4)).setCell ⟨gs, q * 6 + 4, none⟩ (.int .u64 h4)).setCell ⟨gs, q * 6 + 5, none⟩ (.int .u64 l4) := ⟨_, rfl⟩
                have HO9 := Lib.hid (show OwnR W99 w6.heap.size (some ⟨gs, 0, none⟩) nq c' (out.set q ⟨⟨u3, p3, q3⟩, ⟨v4, h4, l4⟩⟩) from by rw [hW99]; exact HST.out wp2 HO_3.out)
                have HB9 := Lib.hid (show Below w6.heap.size w6 W99 from by rw [hW99]; exact ((HB_3.out.setCell (p := ⟨gs, q * 6 + 3, none⟩) hgsb _).setCell (p := ⟨gs, q * 6 + 4, none⟩) hgsb _).setCell (p := ⟨gs, q * 6 + 5, none⟩) hgsb _)
                have yf3 := HO_3.out.2.frozenAt (q * 6 + 3)
                have yf4 := HO_3.out.2.frozenAt (q * 6 + 4)
                have yf5 := HO_3.out.2.frozenAt (q * 6 + 5)
                have hgl0 := HY3_3.out.1
                go_wp2_with fail
                rw [← hW99]
                clear hW99 HO_3 HB_3
                clear y4_0 y4_1 y4_2 y4_3 y4_4 y4_5 yl4 y3 y4 y5 yf3 yf4 yf5 hgl0
                go_roundw
                case rel => exact ⟨k + 1, nq, c', some ⟨gs, 0, none⟩, out.set q ⟨⟨u3, p3, q3⟩, ⟨v4, h4, l4⟩⟩, by omega, by omega, by go_num, rfl, HM2, HB9, HO9⟩
                case measure => simp [intOf]; omega
              · rw [tb] at HTB
                have HM2 := Lib.hid (show MrgR D out (k + 1) from by have := HMG.out ⟨u4, p4, q4⟩ hle (by rw [if_neg (of_decide_eq_false tb)]); rwa [HSAME.out] at this)
                clear ta tb hle HMA HMG HSAME HST
                have HY3 := Lib.hid (show YC wr gs (q * 6 + 3) (.bool u4) from ⟨hgsl, y3⟩)
                have HY4 := Lib.hid (show YC wr gs (q * 6 + 4) (.int .u64 p4) from ⟨hgsl, y4⟩)
                have HY5 := Lib.hid (show YC wr gs (q * 6 + 5) (.int .u64 q4) from ⟨hgsl, y5⟩)
                clear y3 y4 y5
                have y3 := HY3.out.2
                have y4 := HY4.out.2
                have y5 := HY5.out.2
                have yf3 := HO.out.2.frozenAt (q * 6 + 3)
                have yf4 := HO.out.2.frozenAt (q * 6 + 4)
                have yf5 := HO.out.2.frozenAt (q * 6 + 5)
                go_wp2_with fail
                clear c0 c1 c2 c3 c4 c5 y3 y4 y5 yf3 yf4 yf5
                obtain ⟨W12, hW12⟩ : ∃ W, W = wr.alloc (.cells #[.bool v3, .int .u64 h3, .int .u64 l3, .bool v4, .int .u64 h4, .int .u64 l4] 43) := ⟨_, rfl⟩
                obtain ⟨gx, hgx⟩ : ∃ g, g = wr.heap.size := ⟨_, rfl⟩
                have HO_1 := Lib.hid (show OwnR W12 w6.heap.size (some ⟨gs, 0, none⟩) nq c' out from by rw [hW12]; exact HO.out.al _)
                have HY3_1 := Lib.hid (show YC W12 gs (q * 6 + 3) (.bool u4) from by rw [hW12]; exact HY3.out.al _)
                have HY4_1 := Lib.hid (show YC W12 gs (q * 6 + 4) (.int .u64 p4) from by rw [hW12]; exact HY4.out.al _)
                have HY5_1 := Lib.hid (show YC W12 gs (q * 6 + 5) (.int .u64 q4) from by rw [hW12]; exact HY5.out.al _)
                have Lgx := Lib.hid (show w6.heap.size ≤ gx from by rw [hgx]; exact HB.out.size)
                have HX := Lib.hid (show RB W12 gx v3 h3 l3 v4 h4 l4 from by rw [hW12, hgx]; exact rb_new wr v3 h3 l3 v4 h4 l4)
                have HB_1 := Lib.hid (show Below w6.heap.size w6 W12 by rw [hW12]; exact HB.out.alloc HB.out.size _)
                clear HO HY3 HY4 HY5 HB
                rw [← hW12, ← hgx]
                clear hW12 hgx
                have y4_0 : W12.cell? ⟨gx, 0, none⟩ = some (.bool v3) := (HX.out.c 0).trans rfl
                have y4_1 : W12.cell? ⟨gx, 1, none⟩ = some (.int .u64 h3) := (HX.out.c 1).trans rfl
                have y4_2 : W12.cell? ⟨gx, 2, none⟩ = some (.int .u64 l3) := (HX.out.c 2).trans rfl
                have y4_3 : W12.cell? ⟨gx, 3, none⟩ = some (.bool v4) := (HX.out.c 3).trans rfl
                have y4_4 : W12.cell? ⟨gx, 4, none⟩ = some (.int .u64 h4) := (HX.out.c 4).trans rfl
                have y4_5 : W12.cell? ⟨gx, 5, none⟩ = some (.int .u64 l4) := (HX.out.c 5).trans rfl
                have yl4 := HX.out.lt
                refine wp_region_pick (fun w' => Below W12.heap.size W12 w') (by kernel_rfl) (by kernel_rfl) (Below.refl _ _) ⟨rfl, rfl, rfl, Nat.le_refl _, fun _ _ => rfl⟩ (fun p hp hq => ?_)
                have pp0 : ∀ u, (p u).cell? ⟨gx, 0, none⟩ = some (.bool v3) := fun u => ((HX.out.kept (hp u) HX.out.lt).c 0).trans rfl
                have pp1 : ∀ u, (p u).cell? ⟨gx, 1, none⟩ = some (.int .u64 h3) := fun u => ((HX.out.kept (hp u) HX.out.lt).c 1).trans rfl
                have pp2 : ∀ u, (p u).cell? ⟨gx, 2, none⟩ = some (.int .u64 l3) := fun u => ((HX.out.kept (hp u) HX.out.lt).c 2).trans rfl
                have pp3 : ∀ u, (p u).cell? ⟨gx, 3, none⟩ = some (.bool v4) := fun u => ((HX.out.kept (hp u) HX.out.lt).c 3).trans rfl
                have pp4 : ∀ u, (p u).cell? ⟨gx, 4, none⟩ = some (.int .u64 h4) := fun u => ((HX.out.kept (hp u) HX.out.lt).c 4).trans rfl
                have pp5 : ∀ u, (p u).cell? ⟨gx, 5, none⟩ = some (.int .u64 l4) := fun u => ((HX.out.kept (hp u) HX.out.lt).c 5).trans rfl
                have pp6 : ∀ u, (p u).cell? ⟨gs, q * 6 + 3, none⟩ = some (.bool u4) := fun u => (HY3_1.out.kept (hp u)).2
                have pp7 : ∀ u, (p u).cell? ⟨gs, q * 6 + 4, none⟩ = some (.int .u64 p4) := fun u => (HY4_1.out.kept (hp u)).2
                have pp8 : ∀ u, (p u).cell? ⟨gs, q * 6 + 5, none⟩ = some (.int .u64 q4) := fun u => (HY5_1.out.kept (hp u)).2
                have HP := Lib.hid hp
                have HQ := Lib.hid hq
                clear hp hq
                repeat (go_big_quiet_step ((first | with_reducible exact Calls.pick_of HQ.out (fun W' hb => (HP.out _).trans (hb.mono (HP.out _).size)) (HAP.out _))))
                refine wpQuiet_nil ?_
                rintro _ ⟨u, rfl⟩
                have hbp := HP.out u
                generalize p u = wp1 at *
                clear HP HQ pp0 pp1 pp2 pp3 pp4 pp5 pp6 pp7 pp8
                clear y4_0 y4_1 y4_2 y4_3 y4_4 y4_5 yl4
                have HO_2 := Lib.hid (show OwnR wp1 w6.heap.size (some ⟨gs, 0, none⟩) nq c' out from HO_1.out.kept hbp)
                have HY3_2 := Lib.hid (show YC wp1 gs (q * 6 + 3) (.bool u4) from HY3_1.out.kept hbp)
                have HY4_2 := Lib.hid (show YC wp1 gs (q * 6 + 4) (.int .u64 p4) from HY4_1.out.kept hbp)
                have HY5_2 := Lib.hid (show YC wp1 gs (q * 6 + 5) (.int .u64 q4) from HY5_1.out.kept hbp)
                have HX_2 := Lib.hid (show RB wp1 gx v3 h3 l3 v4 h4 l4 from HX.out.kept hbp HX.out.lt)
                have HB_2 := Lib.hid (HB_1.out.trans (hbp.mono HB_1.out.size))
                clear hbp HO_1 HY3_1 HY4_1 HY5_1 HX HB_1
                have y4_0 : wp1.cell? ⟨gx, 0, none⟩ = some (.bool v3) := (HX_2.out.c 0).trans rfl
                have y4_1 : wp1.cell? ⟨gx, 1, none⟩ = some (.int .u64 h3) := (HX_2.out.c 1).trans rfl
                have y4_2 : wp1.cell? ⟨gx, 2, none⟩ = some (.int .u64 l3) := (HX_2.out.c 2).trans rfl
                have y4_3 : wp1.cell? ⟨gx, 3, none⟩ = some (.bool v4) := (HX_2.out.c 3).trans rfl
                have y4_4 : wp1.cell? ⟨gx, 4, none⟩ = some (.int .u64 h4) := (HX_2.out.c 4).trans rfl
                have y4_5 : wp1.cell? ⟨gx, 5, none⟩ = some (.int .u64 l4) := (HX_2.out.c 5).trans rfl
                have yl4 := HX_2.out.lt
                have y3 := HY3_2.out.2
                have y4 := HY4_2.out.2
                have y5 := HY5_2.out.2
                go_wp2_with fail
                refine wp_region_pick (fun w' => Below wp1.heap.size wp1 w') (by kernel_rfl) (by kernel_rfl) (Below.refl _ _) ⟨rfl, rfl, rfl, Nat.le_refl _, fun _ _ => rfl⟩ (fun p hp hq => ?_)
                have pp0 : ∀ u, (p u).cell? ⟨gx, 0, none⟩ = some (.bool v3) := fun u => ((HX_2.out.kept (hp u) HX_2.out.lt).c 0).trans rfl
                have pp1 : ∀ u, (p u).cell? ⟨gx, 1, none⟩ = some (.int .u64 h3) := fun u => ((HX_2.out.kept (hp u) HX_2.out.lt).c 1).trans rfl
                have pp2 : ∀ u, (p u).cell? ⟨gx, 2, none⟩ = some (.int .u64 l3) := fun u => ((HX_2.out.kept (hp u) HX_2.out.lt).c 2).trans rfl
                have pp3 : ∀ u, (p u).cell? ⟨gx, 3, none⟩ = some (.bool v4) := fun u => ((HX_2.out.kept (hp u) HX_2.out.lt).c 3).trans rfl
                have pp4 : ∀ u, (p u).cell? ⟨gx, 4, none⟩ = some (.int .u64 h4) := fun u => ((HX_2.out.kept (hp u) HX_2.out.lt).c 4).trans rfl
                have pp5 : ∀ u, (p u).cell? ⟨gx, 5, none⟩ = some (.int .u64 l4) := fun u => ((HX_2.out.kept (hp u) HX_2.out.lt).c 5).trans rfl
                have pp6 : ∀ u, (p u).cell? ⟨gs, q * 6 + 3, none⟩ = some (.bool u4) := fun u => (HY3_2.out.kept (hp u)).2
                have pp7 : ∀ u, (p u).cell? ⟨gs, q * 6 + 4, none⟩ = some (.int .u64 p4) := fun u => (HY4_2.out.kept (hp u)).2
                have pp8 : ∀ u, (p u).cell? ⟨gs, q * 6 + 5, none⟩ = some (.int .u64 q4) := fun u => (HY5_2.out.kept (hp u)).2
                have HP := Lib.hid hp
                have HQ := Lib.hid hq
                clear hp hq
                repeat (go_big_quiet_step ((first | with_reducible exact Calls.pick_of HQ.out (fun W' hb => (HP.out _).trans (hb.mono (HP.out _).size)) (HTB.out _))))
                refine wpQuiet_nil ?_
                rintro _ ⟨u, rfl⟩
                have hbp := HP.out u
                generalize p u = wp2 at *
                clear HP HQ pp0 pp1 pp2 pp3 pp4 pp5 pp6 pp7 pp8
                clear y4_0 y4_1 y4_2 y4_3 y4_4 y4_5 yl4 y3 y4 y5
                have HO_3 := Lib.hid (show OwnR wp2 w6.heap.size (some ⟨gs, 0, none⟩) nq c' out from HO_2.out.kept hbp)
                have HY3_3 := Lib.hid (show YC wp2 gs (q * 6 + 3) (.bool u4) from HY3_2.out.kept hbp)
                have HY4_3 := Lib.hid (show YC wp2 gs (q * 6 + 4) (.int .u64 p4) from HY4_2.out.kept hbp)
                have HY5_3 := Lib.hid (show YC wp2 gs (q * 6 + 5) (.int .u64 q4) from HY5_2.out.kept hbp)
                have HX_3 := Lib.hid (show RB wp2 gx v3 h3 l3 v4 h4 l4 from HX_2.out.kept hbp HX_2.out.lt)
                have HB_3 := Lib.hid (HB_2.out.trans (hbp.mono HB_2.out.size))
                clear hbp HO_2 HY3_2 HY4_2 HY5_2 HX_2 HB_2
                have y4_0 : wp2.cell? ⟨gx, 0, none⟩ = some (.bool v3) := (HX_3.out.c 0).trans rfl
                have y4_1 : wp2.cell? ⟨gx, 1, none⟩ = some (.int .u64 h3) := (HX_3.out.c 1).trans rfl
                have y4_2 : wp2.cell? ⟨gx, 2, none⟩ = some (.int .u64 l3) := (HX_3.out.c 2).trans rfl
                have y4_3 : wp2.cell? ⟨gx, 3, none⟩ = some (.bool v4) := (HX_3.out.c 3).trans rfl
                have y4_4 : wp2.cell? ⟨gx, 4, none⟩ = some (.int .u64 h4) := (HX_3.out.c 4).trans rfl
                have y4_5 : wp2.cell? ⟨gx, 5, none⟩ = some (.int .u64 l4) := (HX_3.out.c 5).trans rfl
                have yl4 := HX_3.out.lt
                have y3 := HY3_3.out.2
                have y4 := HY4_3.out.2
                have y5 := HY5_3.out.2
                go_wp2_with fail
                clear y4_0 y4_1 y4_2 y4_3 y4_4 y4_5 yl4 y3 y4 y5
                go_roundw
                case rel => exact ⟨k + 1, nq, c', some ⟨gs, 0, none⟩, out, by omega, by omega, by go_num, rfl, HM2, HB_3, HO_3⟩
                case measure => simp [intOf]; omega
        · have hkn : k = D.length := by have := HND.out; omega
          have HF2 := Lib.hid (show GoodL out ∧ (∀ m, anyS (out.map spn) m = anyS (spnL l) m) from ⟨HM.out.good, fun m => by rw [HM.out.any, hkn, List.take_length, HAD.out]⟩)
          have HN2 := Lib.hid (show n ≤ N by have := HNN.out; omega)
          have HB9 := Lib.hid (HB6.out.trans (HB.out.mono HB6.out.size))
          have hd : decide ((k : Int) < (np : Int)) = false := by simp; omega
          clear hkn HM
          go_wp2_with fail
          go_ret
          exact ⟨out, A3, n, c', HF2.out.1, HF2.out.2, HN2.out, rfl, ⟨HO.out.1, own_mono HO.out.2 HB6.out.size⟩, HB9.out⟩
end Go.Proofs.Ytmcelgnifpfjpaa
