/- Contracts of the functions, part 40: Ip6PPay. -/
import Derived.Deep.Cut
import Derived.Test.YtjjldolafnfpoaaPE12
import Derived.Test.YtjjldolafnfpoaaPE39
/- Contract of the program of layer 12: readPayload. -/
namespace Go.Proofs.Ytjjldolafnfpoaa
open Go.ChangeShapes Go.WideShapes Go.ChangeAt Go.RowKit
set_option linter.unusedVariables false

theorem rdI_short {l l' : List UInt8} {k v e : Nat} (hr : rdI l 0 k = (v, l', e)) : (l.length < k ∧ e = 1) ∨ (k ≤ l.length ∧ e = 0 ∧ v = num (l.take k) ∧ l' = l.drop k) := by
  by_cases h : l.length < k
  · unfold rdI at hr
    rw [if_neg (by simp), if_pos h] at hr
    obtain ⟨-, -, rfl⟩ := (by simpa only [Prod.mk.injEq] using hr : _ ∧ _ ∧ _)
    exact .inl ⟨h, rfl⟩
  · rw [rdI_ok11 h] at hr
    obtain ⟨rfl, rfl, rfl⟩ := (by simpa only [Prod.mk.injEq] using hr : _ ∧ _ ∧ _)
    exact .inr ⟨by omega, rfl, rfl, rfl⟩
theorem rdT_short {l l' v : List UInt8} {k e : Nat} (hr : rdT l 0 k = (v, l', e)) : (l.length < k ∧ e = 1) ∨ (k ≤ l.length ∧ e = 0 ∧ v = l.take k ∧ l' = l.drop k) := by
  by_cases h : l.length < k
  · unfold rdT at hr
    rw [if_neg (by simp), if_pos h] at hr
    obtain ⟨-, -, rfl⟩ := (by simpa only [Prod.mk.injEq] using hr : _ ∧ _ ∧ _)
    exact .inl ⟨h, rfl⟩
  · rw [rdT_ok11 h] at hr
    obtain ⟨rfl, rfl, rfl⟩ := (by simpa only [Prod.mk.injEq] using hr : _ ∧ _ ∧ _)
    exact .inr ⟨by omega, rfl, rfl, rfl⟩
theorem rdI_one {l l' : List UInt8} {k v e : Nat} (hr : rdI l 1 k = (v, l', e)) : e = 1 := by
  unfold rdI at hr
  rw [if_pos (by decide)] at hr
  obtain ⟨-, -, rfl⟩ := (by simpa only [Prod.mk.injEq] using hr : _ ∧ _ ∧ _)
  rfl
theorem rdT_one {l l' v : List UInt8} {k e : Nat} (hr : rdT l 1 k = (v, l', e)) : e = 1 := by
  unfold rdT at hr
  rw [if_pos (by decide)] at hr
  obtain ⟨-, -, rfl⟩ := (by simpa only [Prod.mk.injEq] using hr : _ ∧ _ ∧ _)
  rfl
theorem frag_step {r l1 l2 l3 l4 : List UInt8} {f1 f2 wd idn e1 e2 e3 e4 : Nat} (hq1 : rdI r 0 1 = (f1, l1, e1)) (hq2 : rdI l1 e1 1 = (f2, l2, e2)) (hq3 : rdI l2 e2 2 = (wd, l3, e3)) (hq4 : rdI l3 e3 4 = (idn, l4, e4)) :
    (r.length < 8 ∧ e4 = 1) ∨ (8 ≤ r.length ∧ e4 = 0 ∧ f1 = byt r 0 ∧ wd = nm2 r 2 ∧ idn = nm4 r 4 ∧ l4 = r.drop 8) := by
  rcases rdI_short hq1 with ⟨h, rfl⟩ | ⟨h1, rfl, v1, rfl⟩
  · rw [rdI_one hq2] at hq3
    rw [rdI_one hq3] at hq4
    exact .inl ⟨by omega, rdI_one hq4⟩
  rcases rdI_short hq2 with ⟨h, rfl⟩ | ⟨h2, rfl, v2, rfl⟩
  · rw [rdI_one hq3] at hq4
    rw [List.length_drop] at h
    exact .inl ⟨by omega, rdI_one hq4⟩
  rcases rdI_short hq3 with ⟨h, rfl⟩ | ⟨h3, rfl, v3, rfl⟩
  · rw [List.length_drop, List.length_drop] at h
    exact .inl ⟨by omega, rdI_one hq4⟩
  rcases rdI_short hq4 with ⟨h, rfl⟩ | ⟨h4, rfl, v4, rfl⟩
  · rw [List.length_drop, List.length_drop, List.length_drop] at h
    exact .inl ⟨by omega, rfl⟩
  · simp only [List.length_drop] at h4
    refine .inr ⟨by omega, rfl, ?_, ?_, ?_, ?_⟩
    · rw [v1]
      exact num_byt r 0 (by omega)
    · rw [v3, List.drop_drop]
      rfl
    · rw [v4, List.drop_drop, List.drop_drop]
      rfl
    · rw [List.drop_drop, List.drop_drop, List.drop_drop]
theorem ext_step {r l1 l2 l3 T : List UInt8} {n1 u e1 e2 e3 : Nat} (hq1 : rdI r 0 1 = (n1, l1, e1)) (hq2 : rdI l1 e1 1 = (u, l2, e2)) (hq3 : rdT l2 e2 (6 + u * 8) = (T, l3, e3)) :
    ((r.length < 8 ∨ r.length < 8 + 8 * byt r 1) ∧ e3 = 1) ∨ (8 + 8 * byt r 1 ≤ r.length ∧ e3 = 0 ∧ n1 = byt r 0 ∧ T = (r.take (8 + 8 * byt r 1)).drop 2 ∧ l3 = r.drop (8 + 8 * byt r 1)) := by
  rcases rdI_short hq1 with ⟨h, rfl⟩ | ⟨h1, rfl, v1, rfl⟩
  · rw [rdI_one hq2] at hq3
    exact .inl ⟨.inl (by omega), rdT_one hq3⟩
  rcases rdI_short hq2 with ⟨h, rfl⟩ | ⟨h2, rfl, v2, rfl⟩
  · rw [List.length_drop] at h
    exact .inl ⟨.inl (by omega), rdT_one hq3⟩
  rw [List.length_drop] at h2
  have hu : u = byt r 1 := by rw [v2]; exact num_byt r 1 (by omega)
  subst hu
  rcases rdT_short hq3 with ⟨h, rfl⟩ | ⟨h3, rfl, v3, rfl⟩
  · rw [List.length_drop, List.length_drop] at h
    exact .inl ⟨.inr (by omega), rfl⟩
  · rw [List.length_drop, List.length_drop] at h3
    refine .inr ⟨by omega, rfl, ?_, ?_, ?_⟩
    · rw [v1]
      exact num_byt r 0 (by omega)
    · rw [v3, List.drop_drop, List.drop_take]
      congr 1
      omega
    · rw [List.drop_drop, List.drop_drop]
      congr 1
      omega
theorem word_bit (r : List UInt8) (h : 8 ≤ r.length) : nm2 r 2 % 2 = byt r 3 % 2 := by
  match r, h with
  | a :: b :: c :: d :: t, _ =>
    have h2 : nm2 (a :: b :: c :: d :: t) 2 = c.toNat * 256 + d.toNat := by unfold nm2 num; simp
    have h3 : byt (a :: b :: c :: d :: t) 3 = d.toNat := rfl
    rw [h2, h3]
    omega
/-- What readPayload answers. -/
def payQ (C L H sh sl dh dl X : Nat) (b1 b2 : Bool) (S : List UInt8) : Ip6R × Nat :=
  if (run6 (S.length + 1) true ⟨X, [], false, 0, 0, false⟩ S).2 ≠ 0 then (zeroX, (run6 (S.length + 1) true ⟨X, [], false, 0, 0, false⟩ S).2)
  else (⟨C, L, H, (run6 (S.length + 1) true ⟨X, [], false, 0, 0, false⟩ S).1.1.nx, ⟨b1, sh, sl⟩, ⟨b2, dh, dl⟩, (run6 (S.length + 1) true ⟨X, [], false, 0, 0, false⟩ S).1.1.exts, (run6 (S.length + 1) true ⟨X, [], false, 0, 0, false⟩ S).1.1.frg, (run6 (S.length + 1) true ⟨X, [], false, 0, 0, false⟩ S).1.1.id, (run6 (S.length + 1) true ⟨X, [], false, 0, 0, false⟩ S).1.1.off, (run6 (S.length + 1) true ⟨X, [], false, 0, 0, false⟩ S).1.1.more, (run6 (S.length + 1) true ⟨X, [], false, 0, 0, false⟩ S).1.2⟩, 0)
/-- What readPayload leaves: as Dec6P, and where the headers lie. -/
def Pay6P (w : World) (Q : Ip6R × Nat) (e : Ending) (w' : World) : Prop :=
  ∃ A cap, e = .returned (.tuple #[.agg #[.int .i64 Q.1.cls, .int .i64 Q.1.lab, .int .i64 Q.1.hops, .int .i64 Q.1.nxt, .bool Q.1.src.v6, .int .u64 (Q.1.src.hi : Int), .int .u64 (Q.1.src.lo : Int), .bool Q.1.dst.v6, .int .u64 (Q.1.dst.hi : Int), .int .u64 (Q.1.dst.lo : Int), .slice A Q.1.exts.length cap, .bool Q.1.frg, .int .i64 Q.1.id, .int .i64 Q.1.off, .bool Q.1.more, .string (str Q.1.pay)], .int .i64 (Q.2 : Int)]) ∧ RowL EOpt w' A Q.1.exts ∧ (A = none → cap = 0) ∧ (∀ a, A = some a → w.heap.size ≤ a.block) ∧ Below w.heap.size w w'
theorem pay6_err {w wz : World} {Q : Ip6R × Nat} {er : Nat} {E : Int} (hE : (er : Int) = E) (hr : Q = (zeroX, er)) (hb : Below w.heap.size w wz) :
    Pay6P w Q (.returned (.tuple #[.agg #[.int .i64 0, .int .i64 0, .int .i64 0, .int .i64 0, .bool false, .int .u64 0, .int .u64 0, .bool false, .int .u64 0, .int .u64 0, .slice none 0 0, .bool false, .int .i64 0, .int .i64 0, .bool false, .string ⟨#[]⟩], .int .i64 E])) wz := by
  subst hE hr
  exact ⟨none, 0, rfl, RowL.nil _ _, fun _ => rfl, fun a h => (by cases h), hb⟩
/-- How many bytes a reader has left, read off the world. -/
def leftAt (w : World) (p : Nat) : Nat := match w.cell? ⟨p, 0, none⟩ with | some (.slice _ n _) => n | _ => 0
theorem leftAt_eq {w : World} {B p : Nat} {l : List UInt8} {err : Int} (h : RdB w B p l err) : leftAt w p = l.length := by
  obtain ⟨A, cap, _, h1, _⟩ := h
  unfold leftAt
  rw [Cells.cell h1]
  rfl
set_option maxHeartbeats 8000000 in
set_option maxRecDepth 100000 in
theorem ppay12_any (C L H sh sl dh dl X : Nat) (b1 b2 : Bool) (S : List UInt8) (w : World) (hS : S.length ≤ 70000) (hX : X < 256) :
    Calls Try.prog 26 #[.agg #[.int .i64 (C : Int), .int .i64 (L : Int), .int .i64 (H : Int), .int .i64 (X : Int), .bool b1, .int .u64 (sh : Int), .int .u64 (sl : Int), .bool b2, .int .u64 (dh : Int), .int .u64 (dl : Int), .slice none 0 0, .bool false, .int .i64 0, .int .i64 0, .bool false, .string ⟨#[]⟩], .string (str S)] w (Pay6P w (payQ C L H sh sl dh dl X b1 b2 S)) := by
  obtain ⟨Q, hQ⟩ : ∃ Q, Q = payQ C L H sh sl dh dl X b1 b2 S := ⟨_, rfl⟩
  rw [← hQ]
  unfold payQ at hQ
  obtain ⟨RUN, hRUN⟩ : ∃ R, R = run6 (S.length + 1) true ⟨X, [], false, 0, 0, false⟩ S := ⟨_, rfl⟩
  rw [← hRUN] at hQ
  have HQ := Lib.hid hQ
  have HR0 := Lib.hid (show RUN = run6 (S.length + 1) true ⟨X, [], false, 0, 0, false⟩ S ∧ S.length < S.length + 1 from ⟨hRUN, by omega⟩)
  have HERR := Lib.hid (fun (wz : World) (e : Nat) (he : e ≠ 0) (hr : RUN.2 = e) (hb : Below w.heap.size w wz) => show Pay6P w Q (.returned (.tuple #[.agg #[.int .i64 0, .int .i64 0, .int .i64 0, .int .i64 0, .bool false, .int .u64 0, .int .u64 0, .bool false, .int .u64 0, .int .u64 0, .slice none 0 0, .bool false, .int .i64 0, .int .i64 0, .bool false, .string ⟨#[]⟩], .int .i64 (e : Int)])) wz from pay6_err rfl (by rw [HQ.out, hr, if_pos he]) hb)
  have HSS := Lib.hid hS
  clear hQ hRUN hS
  have HNEW := Lib.hid (fun (W : World) => show Calls Try.prog 42 #[.string (str S)] W fun e w' => ∃ p, e = .returned (.pointer (some ⟨p, 0, none⟩)) ∧ W.heap.size ≤ p ∧ Rd w' p S 0 ∧ Below W.heap.size W w' from by
    have := new_any (str S) W
    rwa [str_toList] at this)
  obtain ⟨g, hg⟩ : ∃ g, g = w.heap.size := ⟨_, rfl⟩
  obtain ⟨g0, hg0⟩ : ∃ g, g = w.heap.size + 1 := ⟨_, rfl⟩
  obtain ⟨W2, hW2⟩ : ∃ W, W = (w.alloc (.cells #[.int .i64 (C : Int), .int .i64 (L : Int), .int .i64 (H : Int), .int .i64 (X : Int), .bool b1, .int .u64 (sh : Int), .int .u64 (sl : Int), .bool b2, .int .u64 (dh : Int), .int .u64 (dl : Int), .slice none 0 0, .bool false, .int .i64 0, .int .i64 0, .bool false, .string ⟨#[]⟩] 28)).alloc (.cells #[.int .i64 0, .int .i64 0, .int .i64 0, .int .i64 0, .bool false, .int .u64 0, .int .u64 0, .bool false, .int .u64 0, .int .u64 0, .slice none 0 0, .bool false, .int .i64 0, .int .i64 0, .bool false, .string ⟨#[]⟩] 28) := ⟨_, rfl⟩
  have HG := Lib.hid (And.intro hg (And.intro hg0 hW2))
  generalize str S = s at *
  clear hg hg0 hW2
  go_enter Try.func26, Try.ntmps26
  go_wp2_with fail
  rw [← HG.out.2.2, ← HG.out.2.1, ← HG.out.1]
  go_step3
  go_wp2_with fail
  refine (HNEW.out _).mono ?_
  rintro e w1 ⟨p, rfl, hp, hrd, hbw⟩
  have H0 := Lib.hid (show PX w w1 g g0 p w1.heap.size #[.int .i64 (C : Int), .int .i64 (L : Int), .int .i64 (H : Int), .int .i64 (X : Int), .bool b1, .int .u64 (sh : Int), .int .u64 (sl : Int), .bool b2, .int .u64 (dh : Int), .int .u64 (dl : Int), .slice none 0 0, .bool false, .int .i64 0, .int .i64 0, .bool false, .string ⟨#[]⟩] S 0 none 0 0 [] from by
    obtain ⟨h1, h2, h3⟩ := HG.out
    have hz : W2.heap.size = w.heap.size + 2 := by rw [h3]; simp
    have k1 : Cells W2 g 28 #[.int .i64 (C : Int), .int .i64 (L : Int), .int .i64 (H : Int), .int .i64 (X : Int), .bool b1, .int .u64 (sh : Int), .int .u64 (sl : Int), .bool b2, .int .u64 (dh : Int), .int .u64 (dl : Int), .slice none 0 0, .bool false, .int .i64 0, .int .i64 0, .bool false, .string ⟨#[]⟩] := by rw [h3, h1]; exact alloc2_0 w _ _
    have k2 : Cells W2 g0 28 #[.int .i64 0, .int .i64 0, .int .i64 0, .int .i64 0, .bool false, .int .u64 0, .int .u64 0, .bool false, .int .u64 0, .int .u64 0, .slice none 0 0, .bool false, .int .i64 0, .int .i64 0, .bool false, .string ⟨#[]⟩] := by rw [h3, h2]; exact alloc2_6 w _ _
    exact ⟨RdB.of hrd, k1.kept hbw k1.lt, k2.kept hbw k2.lt, World.ownsRow_nil w1 _ _ _, rfl, (show Below w.heap.size w W2 by rw [h3]; exact alloc2_below w _ _).trans (hbw.mono (by omega)), by omega, by omega, by omega, by have := HSS.out; omega, rfl, Nat.le_refl _⟩)
  obtain ⟨B, hB⟩ : ∃ B, B = w1.heap.size := ⟨_, rfl⟩
  rw [← hB] at H0
  clear hp hrd hbw HNEW hB
  go_wp2_with fail
  go_step3
  go_wp2_with fail
  go_loopw [12] (fun _ wr => ∃ (r : List UInt8) (first : Bool) (st : St6) (A : Option Addr) (n cap f : Nat), st.nx < 256 ∧ n ≤ 8 ∧ Hid (PX w wr g g0 p B #[.int .i64 (C : Int), .int .i64 (L : Int), .int .i64 (H : Int), .int .i64 (st.nx : Int), .bool b1, .int .u64 (sh : Int), .int .u64 (sl : Int), .bool b2, .int .u64 (dh : Int), .int .u64 (dl : Int), .slice A n cap, .bool st.frg, .int .i64 (st.id : Int), .int .i64 (st.off : Int), .bool st.more, .string ⟨#[]⟩] r 0 A n cap st.exts) ∧ Hid (RUN = run6 f first st r ∧ r.length < f) ∧ Hid ((first = true → n = 0 ∧ st.frg = false) ∧ (first = false → 0 < n ∨ st.frg = true))) (fun _ wr => leftAt wr p)
  case atStart => exact ⟨S, true, ⟨X, [], false, 0, 0, false⟩, none, 0, 0, S.length + 1, hX, by omega, H0, HR0, Lib.hid ⟨fun _ => ⟨rfl, rfl⟩, fun h => (by cases h)⟩⟩
  case round =>
    clear H0 HR0 hX
    obtain ⟨r, first, ⟨k, ex, fr, id, off, mo⟩, A, n, cap, f, hk, hn, HX, HRUN, HFT⟩ := hrel
    dsimp only at hk HX HRUN HFT
    have HXW := HX
    obtain ⟨q, hq⟩ : ∃ q : Bool, decide (hdKi (k : Int)) = q := ⟨_, rfl⟩
    have HQK := Lib.hid hq
    clear hq
    obtain ⟨WB, hWB⟩ : ∃ W, W = wr.alloc (.cells #[.int .i64 0, .int .i64 43, .int .i64 44, .int .i64 60] 3) := ⟨_, rfl⟩
    obtain ⟨gB, hgB⟩ : ∃ g, g = wr.heap.size := ⟨_, rfl⟩
    have HBB := Lib.hid (show Below wr.heap.size wr WB by rw [hWB]; exact below_alloc6 wr _)
    have HCB := Lib.hid (show WB.heap[gB]? = some (.cells #[.int .i64 0, .int .i64 43, .int .i64 44, .int .i64 60] 3 (0, 0)) by rw [hWB, hgB]; exact heap_alloc_new wr _)
    have HWB := Lib.hid (And.intro hWB hgB)
    clear hWB hgB
    have x3 := (Cells.cell HX.out.x 3).trans (show _ = some (Value.int .i64 (k : Int)) from rfl)
    have x10 := (Cells.cell HX.out.x 10).trans (show _ = some (Value.slice A n cap) from rfl)
    have x11 := (Cells.cell HX.out.x 11).trans (show _ = some (Value.bool fr) from rfl)
    have hgl := HX.out.x.lt
    go_wp2_with fail
    rw [← HWB.out.1, ← HWB.out.2]
    refine (pany4_12 (k : Int) q HQK.out _ _ HCB.out).mono ?_
    rintro e w3 ⟨rfl, rfl⟩
    have HX3 := Lib.hid (HX.out.below HBB.out)
    clear x3 x10 x11 hgl HX HBB HCB HWB
    have HX := HX3
    clear HX3
    cases q
    · have hnh : ¬ hdK k := fun h => (of_decide_eq_false HQK.out) ((hdKi_iff k).2 h)
      have HF := Lib.hid (show RUN = ((⟨k, ex, fr, id, off, mo⟩, r), 0) by
        rw [HRUN.out.1]
        cases f with
        | zero => exact absurd HRUN.out.2 (by omega)
        | succ f => rw [run6, if_neg hnh])
      clear hnh HQK HRUN HFT
      go_wp2_with fail
      refine (rest_ok p r _ HX.out.rd.rd (by have := HX.out.ll; omega)).mono ?_
      rintro e w5 ⟨rfl, -, hgr⟩
      have hlp := HX.out.lp
      have hgg := HX.out.hg
      have hlo := HX.out.lo
      have hx5 := HX.out.x.only hgr (by intro e; injection e with e; omega)
      have hr5 := HX.out.res.only hgr (by intro e; injection e with e; omega)
      have ho5 := own_only HX.out.own hgr (fun j hj e => by
        injection e with e
        have h1 := (own_blk_in HX.out.own _ hj).1
        have h2 := HX.out.rd.lt
        omega)
      have hb5 := below_only HX.out.bel hgr (by omega) HX.out.bel.size
      have x15 := (Cells.cell hx5 15).trans (show _ = some (Value.string ⟨#[]⟩) from rfl)
      have z15 := Cells.frozen hx5 15
      have hgl := hx5.lt
      have hgB : g < B := by have := HX.out.rd.lt; omega
      have hg0B : g0 < B := by have := HX.out.rd.lt; omega
      have HX6 := Lib.hid (show Cells (w5.setCell ⟨g, 15, none⟩ (.string (str r))) g 28 #[.int .i64 (C : Int), .int .i64 (L : Int), .int .i64 (H : Int), .int .i64 (k : Int), .bool b1, .int .u64 (sh : Int), .int .u64 (sl : Int), .bool b2, .int .u64 (dh : Int), .int .u64 (dl : Int), .slice A n cap, .bool fr, .int .i64 (id : Int), .int .i64 (off : Int), .bool mo, .string (str r)] from hx5.set 15 (.string (str r)))
      have HR6 := Lib.hid (hr5.far (b := g) (i := 15) (by omega) (.string (str r)))
      have HO6 := Lib.hid (own_setb (i := 15) ho5 hgB (.string (str r)))
      have HB6 := Lib.hid (hb5.setCell (p := ⟨g, 15, none⟩) hlo (.string (str r)))
      have HGG := Lib.hid (show w.heap.size ≤ g0 ∧ g0 < B by omega)
      have HLN := Lib.hid HX.out.len
      clear hgr hx5 hr5 ho5 hb5 hlp hgg hlo hgB hg0B HX
      go_upto_region 14 with fail
      generalize w5.setCell ⟨g, 15, none⟩ (.string (str r)) = w6 at *
      clear x15 z15 hgl
      go_wp2_with (first | (refine wpList_load_row (by rfl) 28 _ (by rfl) g (by rfl) 28 #[.int .i64 (C : Int), .int .i64 (L : Int), .int .i64 (H : Int), .int .i64 (k : Int), .bool b1, .int .u64 (sh : Int), .int .u64 (sl : Int), .bool b2, .int .u64 (dh : Int), .int .u64 (dl : Int), .slice A n cap, .bool fr, .int .i64 (id : Int), .int .i64 (off : Int), .bool mo, .string (str r)] (0, 0) _ HX6.out Try.underlying28 (by rfl) (by kernel_rfl) ?_) | (refine wpList_store_row (by rfl) 28 _ _ (by rfl) g0 #[.int .i64 (C : Int), .int .i64 (L : Int), .int .i64 (H : Int), .int .i64 (k : Int), .bool b1, .int .u64 (sh : Int), .int .u64 (sl : Int), .bool b2, .int .u64 (dh : Int), .int .u64 (dl : Int), .slice A n cap, .bool fr, .int .i64 (id : Int), .int .i64 (off : Int), .bool mo, .string (str r)] (by rfl) (by rfl) 28 #[.int .i64 0, .int .i64 0, .int .i64 0, .int .i64 0, .bool false, .int .u64 0, .int .u64 0, .bool false, .int .u64 0, .int .u64 0, .slice none 0 0, .bool false, .int .i64 0, .int .i64 0, .bool false, .string ⟨#[]⟩] HR6.out (by kernel_rfl) (by rfl) (by simp [Value.oneCell']) ?_))
      (try rw [Exit.noGoto_ret])
      refine bodyPost_ret (res_box2 ip6Ty rfl _ _ rfl (Cells.row HR6.out _)) rfl ?_
      have hQ9 := HQ.out
      rw [HF.out] at hQ9
      rw [if_neg (by simp)] at hQ9
      dsimp only at hQ9
      rw [hQ9]
      refine ⟨A, cap, by rw [← HLN.out]; rfl, rowl_of_own (E := EOpt) (own_row HO6.out HGG.out.2 _) HLN.out, fun hA => ?_, fun a ha => ?_, below_row HB6.out g0 HGG.out.1 _⟩
      rotate_left
      · have h1 := (own_blk_in HO6.out a.block (by rw [ha]; rfl)).1
        have h2 := HGG.out
        omega
      subst hA
      exact (own_none HO6.out).2
    · have hdk : hdK k := (hdKi_iff k).1 (of_decide_eq_true HQK.out)
      have HDK := Lib.hid hdk
      clear hdk HQK
      cases fr
      · by_cases hz : k = 0
        · have d0 : ((k : Int) == 0) = true := by rw [beq_iff_eq]; omega
          have n0 : (k : Int) = 0 := by omega
          by_cases hn0 : 0 < n
          · have p0 : decide ((0 : Int) < (n : Int)) = true := by simp; omega
            have p1 : (0 : Int) < (n : Int) := by omega
            have HBAD := Lib.hid (show ∀ f, bad6 first ⟨k, ex, false, id, off, mo⟩ r = 2 ∨ f = 0 from fun _ => .inl (by
              unfold bad6
              refine if_pos (.inl ⟨hz, ?_⟩)
              cases first
              · rfl
              · have := (HFT.out.1 rfl).1
                omega))
            have x3 := (Cells.cell HX.out.x 3).trans (show _ = some (Value.int .i64 (k : Int)) from rfl)
            have x10 := (Cells.cell HX.out.x 10).trans (show _ = some (Value.slice A n cap) from rfl)
            have x11 := (Cells.cell HX.out.x 11).trans (show _ = some (Value.bool false) from rfl)
            have hgl := HX.out.x.lt
            have HF := Lib.hid (show RUN.2 = 2 from by
              rw [HRUN.out.1]
              cases f with
              | zero => exact absurd HRUN.out.2 (by omega)
              | succ f => exact run6_err HDK.out ((HBAD.out 1).resolve_right (by decide)) (by decide))
            go_upto_region 5 with fail
            clear x3 x10 x11 hgl
            go_wp2_with (refine wpList_store_row (by rfl) 28 _ _ (by rfl) g0 #[.int .i64 0, .int .i64 0, .int .i64 0, .int .i64 0, .bool false, .int .u64 0, .int .u64 0, .bool false, .int .u64 0, .int .u64 0, .slice none 0 0, .bool false, .int .i64 0, .int .i64 0, .bool false, .string ⟨#[]⟩] (by rfl) (by rfl) 28 #[.int .i64 0, .int .i64 0, .int .i64 0, .int .i64 0, .bool false, .int .u64 0, .int .u64 0, .bool false, .int .u64 0, .int .u64 0, .slice none 0 0, .bool false, .int .i64 0, .int .i64 0, .bool false, .string ⟨#[]⟩] HX.out.res (by kernel_rfl) (by rfl) (by simp [Value.oneCell']) ?_)
            (try rw [Exit.noGoto_ret])
            refine bodyPost_ret (res_box2 ip6Ty rfl _ _ rfl (Cells.row HX.out.res _)) rfl ?_
            exact HERR.out _ 2 (by decide) HF.out (below_row HX.out.bel g0 (Nat.le_trans HX.out.lo (Nat.le_of_lt HX.out.hg)) _)
          · have hn1 : n = 0 := by omega
            have p0 : decide ((0 : Int) < (n : Int)) = false := by simp; omega
            have p1 : ¬ (0 : Int) < (n : Int) := by omega
            have f0 : first = true := by
              cases first
              · rcases HFT.out.2 rfl with h | h
                · omega
                · cases h
              · rfl
            have d44 : ((k : Int) == 44) = false := by rw [beq_eq_false_iff_ne]; omega
            have n44 : ¬ (k : Int) = 44 := by omega
            have H44 := Lib.hid (show k ≠ 44 by omega)
            have HB2 := Lib.hid (show ¬ ((k = 0 ∧ first = false) ∨ false = true) by rw [f0]; rintro (⟨_, h⟩ | h) <;> cases h)
            have d8 : ((n : Int) == 8) = false := by rw [beq_eq_false_iff_ne]; omega
            have n8 : ¬ (n : Int) = 8 := by omega
            have hn7 : n ≤ 7 := by omega
            clear hz hn0 hn1 f0
            have x3 := (Cells.cell HX.out.x 3).trans (show _ = some (Value.int .i64 (k : Int)) from rfl)
            have x10 := (Cells.cell HX.out.x 10).trans (show _ = some (Value.slice A n cap) from rfl)
            have x11 := (Cells.cell HX.out.x 11).trans (show _ = some (Value.bool false) from rfl)
            have hgl := HX.out.x.lt
            obtain ⟨⟨n1, l1, e1⟩, hq1⟩ : ∃ q, rdI r 0 1 = q := ⟨_, rfl⟩
            obtain ⟨⟨u, l2, e2⟩, hq2⟩ : ∃ q, rdI l1 e1 1 = q := ⟨_, rfl⟩
            obtain ⟨⟨T, l3, e3⟩, hq3⟩ : ∃ q, rdT l2 e2 (6 + u * 8) = q := ⟨_, rfl⟩
            have hf1 := rdI_lt r 0 1
            rw [hq1] at hf1
            simp only at hf1
            have hf256 : n1 < 256 := by omega
            have HST := Lib.hid (ext_step hq1 hq2 hq3)
            have HQS := Lib.hid (And.intro hq1 (And.intro hq2 hq3))
            clear hq1 hq2 hq3 hf1
            go_wp2_with fail
            refine (pext12_any _ _ _ _ _ _ _ _ _ _ _ _ _ _ _ _ _ _ _ _ _ _ _ _ _ _ _ _ _ _ _ _ _ _ HX.out hn7 HQS.out.1 HQS.out.2.1 HQS.out.2.2).mono ?_
            rintro e w5 ⟨A', cap', ⟨v, rfl⟩, hx5⟩
            clear x3 x10 x11 hgl HQS
            rcases HST.out with ⟨h8, rfl⟩ | ⟨h8, rfl, h1, h2, h4⟩
            · have HX5 := Lib.hid hx5
              have HF := Lib.hid (show RUN.2 = 1 from by
                rw [HRUN.out.1]
                cases f with
                | zero => exact absurd HRUN.out.2 (by omega)
                | succ f =>
                  refine run6_err HDK.out ?_ (by decide)
                  unfold bad6
                  refine (if_neg HB2.out).trans ((if_neg (fun h => by have h1 := h.2; dsimp only at h1; rw [← HX.out.len] at h1; omega)).trans (if_pos ?_))
                  rcases h8 with h | h
                  · exact .inl h
                  · exact .inr ⟨H44.out, h⟩)
              clear hx5 h8 HST
              go_wp2_with fail
              refine (err_any p l3 1 _ HX5.out.rd.rd).mono ?_
              rintro e w6 ⟨rfl, rfl⟩
              go_upto_region 12 with fail
              go_wp2_with (refine wpList_store_row (by rfl) 28 _ _ (by rfl) g0 #[.int .i64 0, .int .i64 0, .int .i64 0, .int .i64 0, .bool false, .int .u64 0, .int .u64 0, .bool false, .int .u64 0, .int .u64 0, .slice none 0 0, .bool false, .int .i64 0, .int .i64 0, .bool false, .string ⟨#[]⟩] (by rfl) (by rfl) 28 #[.int .i64 0, .int .i64 0, .int .i64 0, .int .i64 0, .bool false, .int .u64 0, .int .u64 0, .bool false, .int .u64 0, .int .u64 0, .slice none 0 0, .bool false, .int .i64 0, .int .i64 0, .bool false, .string ⟨#[]⟩] HX5.out.res (by kernel_rfl) (by rfl) (by simp [Value.oneCell']) ?_)
              (try rw [Exit.noGoto_ret])
              refine bodyPost_ret (res_box2 ip6Ty rfl _ _ rfl (Cells.row HX5.out.res _)) rfl ?_
              exact HERR.out _ 1 (by decide) HF.out (below_row HX5.out.bel g0 (Nat.le_trans HX5.out.lo (Nat.le_of_lt HX5.out.hg)) _)
            · have HX5 := Lib.hid hx5
              have HFX := Lib.hid (show ∃ f', RUN = run6 f' false ⟨n1, ex ++ [⟨(k : Int), T⟩], false, id, off, mo⟩ l3 ∧ l3.length < f' from by
                cases f with
                | zero => exact absurd HRUN.out.2 (by omega)
                | succ f =>
                  refine ⟨f, ?_, by rw [h4, List.length_drop]; have := HRUN.out.2; omega⟩
                  rw [HRUN.out.1, run6_step HDK.out (by
                    unfold bad6
                    exact (if_neg HB2.out).trans ((if_neg (fun h => by have h1 := h.2; dsimp only at h1; rw [← HX.out.len] at h1; omega)).trans (if_neg (by rintro (h | h); omega; have := h.2; omega))))]
                  unfold go6
                  rw [if_neg H44.out]
                  dsimp only
                  rw [h1, h2, h4])
              have HLT := Lib.hid (show l3.length < r.length by rw [h4, List.length_drop]; omega)
              clear hx5 h8 h1 h2 h4 HST
              go_wp2_with fail
              refine (err_any p l3 0 _ HX5.out.rd.rd).mono ?_
              rintro e w6 ⟨rfl, rfl⟩
              go_wp2_with fail
              go_roundw
              case rel =>
                obtain ⟨f', hr, hl⟩ := HFX.out
                exact ⟨l3, false, ⟨n1, ex ++ [⟨(k : Int), T⟩], false, id, off, mo⟩, A', n + 1, cap', f', hf256, by omega, HX5, Lib.hid ⟨hr, hl⟩, Lib.hid ⟨fun h => (by cases h), fun _ => .inl (by omega)⟩⟩
              case measure =>
                rw [leftAt_eq HX5.out.rd, leftAt_eq HXW.out.rd]
                exact HLT.out
        · have d0 : ((k : Int) == 0) = false := by rw [beq_eq_false_iff_ne]; omega
          have n0 : ¬ (k : Int) = 0 := by omega
          have HB2 := Lib.hid (show ¬ ((k = 0 ∧ first = false) ∨ false = true) by rintro (⟨h, _⟩ | h); exact hz h; cases h)
          clear hz
          by_cases h44 : k = 44
          · have d44 : ((k : Int) == 44) = true := by rw [beq_iff_eq]; omega
            have n44 : (k : Int) = 44 := by omega
            have H44 := Lib.hid h44
            clear h44
            have x3 := (Cells.cell HX.out.x 3).trans (show _ = some (Value.int .i64 (k : Int)) from rfl)
            have x10 := (Cells.cell HX.out.x 10).trans (show _ = some (Value.slice A n cap) from rfl)
            have x11 := (Cells.cell HX.out.x 11).trans (show _ = some (Value.bool false) from rfl)
            have hgl := HX.out.x.lt
            obtain ⟨⟨f1, l1, e1⟩, hq1⟩ : ∃ q, rdI r 0 1 = q := ⟨_, rfl⟩
            obtain ⟨⟨f2, l2, e2⟩, hq2⟩ : ∃ q, rdI l1 e1 1 = q := ⟨_, rfl⟩
            obtain ⟨⟨wd, l3, e3⟩, hq3⟩ : ∃ q, rdI l2 e2 2 = q := ⟨_, rfl⟩
            obtain ⟨⟨idn, l4, e4⟩, hq4⟩ : ∃ q, rdI l3 e3 4 = q := ⟨_, rfl⟩
            have hf1 := rdI_lt r 0 1
            rw [hq1] at hf1
            simp only at hf1
            have hf256 : f1 < 256 := by omega
            have HST := Lib.hid (frag_step hq1 hq2 hq3 hq4)
            have HQS := Lib.hid (And.intro hq1 (And.intro hq2 (And.intro hq3 hq4)))
            clear hq1 hq2 hq3 hq4 hf1
            go_wp2_with fail
            refine (pfrag12_any _ _ _ _ _ _ _ _ _ _ _ _ _ _ _ _ _ _ _ _ _ _ _ _ _ _ _ _ _ _ _ _ _ _ _ _ _ HX.out HQS.out.1 HQS.out.2.1 HQS.out.2.2.1 HQS.out.2.2.2).mono ?_
            rintro e w5 ⟨⟨v, rfl⟩, hx5⟩
            clear x3 x10 x11 hgl HQS
            rcases HST.out with ⟨h8, rfl⟩ | ⟨h8, rfl, h1, h2, h3, h4⟩
            · have HX5 := Lib.hid hx5
              have HF := Lib.hid (show RUN.2 = 1 from by
                rw [HRUN.out.1]
                cases f with
                | zero => exact absurd HRUN.out.2 (by omega)
                | succ f =>
                  refine run6_err HDK.out ?_ (by decide)
                  unfold bad6
                  exact (if_neg HB2.out).trans ((if_neg (fun h => h.1 H44.out)).trans (if_pos (.inl h8))))
              clear hx5 h8 HST
              go_wp2_with fail
              refine (err_any p l4 1 _ HX5.out.rd.rd).mono ?_
              rintro e w6 ⟨rfl, rfl⟩
              go_upto_region 12 with fail
              go_wp2_with (refine wpList_store_row (by rfl) 28 _ _ (by rfl) g0 #[.int .i64 0, .int .i64 0, .int .i64 0, .int .i64 0, .bool false, .int .u64 0, .int .u64 0, .bool false, .int .u64 0, .int .u64 0, .slice none 0 0, .bool false, .int .i64 0, .int .i64 0, .bool false, .string ⟨#[]⟩] (by rfl) (by rfl) 28 #[.int .i64 0, .int .i64 0, .int .i64 0, .int .i64 0, .bool false, .int .u64 0, .int .u64 0, .bool false, .int .u64 0, .int .u64 0, .slice none 0 0, .bool false, .int .i64 0, .int .i64 0, .bool false, .string ⟨#[]⟩] HX5.out.res (by kernel_rfl) (by rfl) (by simp [Value.oneCell']) ?_)
              (try rw [Exit.noGoto_ret])
              refine bodyPost_ret (res_box2 ip6Ty rfl _ _ rfl (Cells.row HX5.out.res _)) rfl ?_
              exact HERR.out _ 1 (by decide) HF.out (below_row HX5.out.bel g0 (Nat.le_trans HX5.out.lo (Nat.le_of_lt HX5.out.hg)) _)
            · have HX5 := Lib.hid hx5
              have HFX := Lib.hid (show ∃ f', RUN = run6 f' false ⟨f1, ex, true, idn, wd / 8 * 8, decide (wd % 2 = 1)⟩ l4 ∧ l4.length < f' from by
                cases f with
                | zero => exact absurd HRUN.out.2 (by omega)
                | succ f =>
                  refine ⟨f, ?_, by rw [h4, List.length_drop]; have := HRUN.out.2; omega⟩
                  rw [HRUN.out.1, run6_step HDK.out (by
                    unfold bad6
                    exact (if_neg HB2.out).trans ((if_neg (fun h => h.1 H44.out)).trans (if_neg (by rintro (h | h); omega; exact h.1 H44.out))))]
                  unfold go6
                  rw [if_pos H44.out]
                  dsimp only
                  rw [h1, h2, h3, h4, word_bit r h8])
              have HLT := Lib.hid (show l4.length < r.length by rw [h4, List.length_drop]; omega)
              clear hx5 h8 h1 h2 h3 h4 HST
              go_wp2_with fail
              refine (err_any p l4 0 _ HX5.out.rd.rd).mono ?_
              rintro e w6 ⟨rfl, rfl⟩
              go_wp2_with fail
              go_roundw
              case rel =>
                obtain ⟨f', hr, hl⟩ := HFX.out
                exact ⟨l4, false, ⟨f1, ex, true, idn, wd / 8 * 8, decide (wd % 2 = 1)⟩, A, n, cap, f', hf256, hn, HX5, Lib.hid ⟨hr, hl⟩, Lib.hid ⟨fun h => (by cases h), fun _ => .inr rfl⟩⟩
              case measure =>
                rw [leftAt_eq HX5.out.rd, leftAt_eq HXW.out.rd]
                exact HLT.out
          · have d44 : ((k : Int) == 44) = false := by rw [beq_eq_false_iff_ne]; omega
            have n44 : ¬ (k : Int) = 44 := by omega
            have H44 := Lib.hid h44
            by_cases h8 : n = 8
            · have d8 : ((n : Int) == 8) = true := by rw [beq_iff_eq]; omega
              have n8 : (n : Int) = 8 := by omega
              have HBAD := Lib.hid (show ∀ f, bad6 first ⟨k, ex, false, id, off, mo⟩ r = 9 ∨ f = 0 from fun _ => .inl (by
                unfold bad6
                exact (if_neg HB2.out).trans (if_pos ⟨h44, by rw [← HX.out.len]; exact h8⟩)))
              clear h44 h8
              have x3 := (Cells.cell HX.out.x 3).trans (show _ = some (Value.int .i64 (k : Int)) from rfl)
              have x10 := (Cells.cell HX.out.x 10).trans (show _ = some (Value.slice A n cap) from rfl)
              have x11 := (Cells.cell HX.out.x 11).trans (show _ = some (Value.bool false) from rfl)
              have hgl := HX.out.x.lt
              have HF := Lib.hid (show RUN.2 = 9 from by
                rw [HRUN.out.1]
                cases f with
                | zero => exact absurd HRUN.out.2 (by omega)
                | succ f => exact run6_err HDK.out ((HBAD.out 1).resolve_right (by decide)) (by decide))
              go_upto_region 9 with fail
              clear x3 x10 x11 hgl
              go_wp2_with (refine wpList_store_row (by rfl) 28 _ _ (by rfl) g0 #[.int .i64 0, .int .i64 0, .int .i64 0, .int .i64 0, .bool false, .int .u64 0, .int .u64 0, .bool false, .int .u64 0, .int .u64 0, .slice none 0 0, .bool false, .int .i64 0, .int .i64 0, .bool false, .string ⟨#[]⟩] (by rfl) (by rfl) 28 #[.int .i64 0, .int .i64 0, .int .i64 0, .int .i64 0, .bool false, .int .u64 0, .int .u64 0, .bool false, .int .u64 0, .int .u64 0, .slice none 0 0, .bool false, .int .i64 0, .int .i64 0, .bool false, .string ⟨#[]⟩] HX.out.res (by kernel_rfl) (by rfl) (by simp [Value.oneCell']) ?_)
              (try rw [Exit.noGoto_ret])
              refine bodyPost_ret (res_box2 ip6Ty rfl _ _ rfl (Cells.row HX.out.res _)) rfl ?_
              exact HERR.out _ 9 (by decide) HF.out (below_row HX.out.bel g0 (Nat.le_trans HX.out.lo (Nat.le_of_lt HX.out.hg)) _)
            · have d8 : ((n : Int) == 8) = false := by rw [beq_eq_false_iff_ne]; omega
              have n8 : ¬ (n : Int) = 8 := by omega
              have hn7 : n ≤ 7 := by omega
              clear h44 h8
              have x3 := (Cells.cell HX.out.x 3).trans (show _ = some (Value.int .i64 (k : Int)) from rfl)
              have x10 := (Cells.cell HX.out.x 10).trans (show _ = some (Value.slice A n cap) from rfl)
              have x11 := (Cells.cell HX.out.x 11).trans (show _ = some (Value.bool false) from rfl)
              have hgl := HX.out.x.lt
              obtain ⟨⟨n1, l1, e1⟩, hq1⟩ : ∃ q, rdI r 0 1 = q := ⟨_, rfl⟩
              obtain ⟨⟨u, l2, e2⟩, hq2⟩ : ∃ q, rdI l1 e1 1 = q := ⟨_, rfl⟩
              obtain ⟨⟨T, l3, e3⟩, hq3⟩ : ∃ q, rdT l2 e2 (6 + u * 8) = q := ⟨_, rfl⟩
              have hf1 := rdI_lt r 0 1
              rw [hq1] at hf1
              simp only at hf1
              have hf256 : n1 < 256 := by omega
              have HST := Lib.hid (ext_step hq1 hq2 hq3)
              have HQS := Lib.hid (And.intro hq1 (And.intro hq2 hq3))
              clear hq1 hq2 hq3 hf1
              go_wp2_with fail
              refine (pext12_any _ _ _ _ _ _ _ _ _ _ _ _ _ _ _ _ _ _ _ _ _ _ _ _ _ _ _ _ _ _ _ _ _ _ HX.out hn7 HQS.out.1 HQS.out.2.1 HQS.out.2.2).mono ?_
              rintro e w5 ⟨A', cap', ⟨v, rfl⟩, hx5⟩
              clear x3 x10 x11 hgl HQS
              rcases HST.out with ⟨h8, rfl⟩ | ⟨h8, rfl, h1, h2, h4⟩
              · have HX5 := Lib.hid hx5
                have HF := Lib.hid (show RUN.2 = 1 from by
                  rw [HRUN.out.1]
                  cases f with
                  | zero => exact absurd HRUN.out.2 (by omega)
                  | succ f =>
                    refine run6_err HDK.out ?_ (by decide)
                    unfold bad6
                    refine (if_neg HB2.out).trans ((if_neg (fun h => by have h1 := h.2; dsimp only at h1; rw [← HX.out.len] at h1; omega)).trans (if_pos ?_))
                    rcases h8 with h | h
                    · exact .inl h
                    · exact .inr ⟨H44.out, h⟩)
                clear hx5 h8 HST
                go_wp2_with fail
                refine (err_any p l3 1 _ HX5.out.rd.rd).mono ?_
                rintro e w6 ⟨rfl, rfl⟩
                go_upto_region 12 with fail
                go_wp2_with (refine wpList_store_row (by rfl) 28 _ _ (by rfl) g0 #[.int .i64 0, .int .i64 0, .int .i64 0, .int .i64 0, .bool false, .int .u64 0, .int .u64 0, .bool false, .int .u64 0, .int .u64 0, .slice none 0 0, .bool false, .int .i64 0, .int .i64 0, .bool false, .string ⟨#[]⟩] (by rfl) (by rfl) 28 #[.int .i64 0, .int .i64 0, .int .i64 0, .int .i64 0, .bool false, .int .u64 0, .int .u64 0, .bool false, .int .u64 0, .int .u64 0, .slice none 0 0, .bool false, .int .i64 0, .int .i64 0, .bool false, .string ⟨#[]⟩] HX5.out.res (by kernel_rfl) (by rfl) (by simp [Value.oneCell']) ?_)
                (try rw [Exit.noGoto_ret])
                refine bodyPost_ret (res_box2 ip6Ty rfl _ _ rfl (Cells.row HX5.out.res _)) rfl ?_
                exact HERR.out _ 1 (by decide) HF.out (below_row HX5.out.bel g0 (Nat.le_trans HX5.out.lo (Nat.le_of_lt HX5.out.hg)) _)
              · have HX5 := Lib.hid hx5
                have HFX := Lib.hid (show ∃ f', RUN = run6 f' false ⟨n1, ex ++ [⟨(k : Int), T⟩], false, id, off, mo⟩ l3 ∧ l3.length < f' from by
                  cases f with
                  | zero => exact absurd HRUN.out.2 (by omega)
                  | succ f =>
                    refine ⟨f, ?_, by rw [h4, List.length_drop]; have := HRUN.out.2; omega⟩
                    rw [HRUN.out.1, run6_step HDK.out (by
                      unfold bad6
                      exact (if_neg HB2.out).trans ((if_neg (fun h => by have h1 := h.2; dsimp only at h1; rw [← HX.out.len] at h1; omega)).trans (if_neg (by rintro (h | h); omega; have := h.2; omega))))]
                    unfold go6
                    rw [if_neg H44.out]
                    dsimp only
                    rw [h1, h2, h4])
                have HLT := Lib.hid (show l3.length < r.length by rw [h4, List.length_drop]; omega)
                clear hx5 h8 h1 h2 h4 HST
                go_wp2_with fail
                refine (err_any p l3 0 _ HX5.out.rd.rd).mono ?_
                rintro e w6 ⟨rfl, rfl⟩
                go_wp2_with fail
                go_roundw
                case rel =>
                  obtain ⟨f', hr, hl⟩ := HFX.out
                  exact ⟨l3, false, ⟨n1, ex ++ [⟨(k : Int), T⟩], false, id, off, mo⟩, A', n + 1, cap', f', hf256, by omega, HX5, Lib.hid ⟨hr, hl⟩, Lib.hid ⟨fun h => (by cases h), fun _ => .inl (by omega)⟩⟩
                case measure =>
                  rw [leftAt_eq HX5.out.rd, leftAt_eq HXW.out.rd]
                  exact HLT.out
      · have HBAD := Lib.hid (show ∀ f, bad6 first ⟨k, ex, true, id, off, mo⟩ r = 2 ∨ f = 0 from fun _ => .inl (by
          unfold bad6
          exact if_pos (.inr rfl)))
        have x3 := (Cells.cell HX.out.x 3).trans (show _ = some (Value.int .i64 (k : Int)) from rfl)
        have x10 := (Cells.cell HX.out.x 10).trans (show _ = some (Value.slice A n cap) from rfl)
        have x11 := (Cells.cell HX.out.x 11).trans (show _ = some (Value.bool true) from rfl)
        have hgl := HX.out.x.lt
        have HF := Lib.hid (show RUN.2 = 2 from by
          rw [HRUN.out.1]
          cases f with
          | zero => exact absurd HRUN.out.2 (by omega)
          | succ f => exact run6_err HDK.out ((HBAD.out 1).resolve_right (by decide)) (by decide))
        go_upto_region 5 with fail
        clear x3 x10 x11 hgl
        go_wp2_with (refine wpList_store_row (by rfl) 28 _ _ (by rfl) g0 #[.int .i64 0, .int .i64 0, .int .i64 0, .int .i64 0, .bool false, .int .u64 0, .int .u64 0, .bool false, .int .u64 0, .int .u64 0, .slice none 0 0, .bool false, .int .i64 0, .int .i64 0, .bool false, .string ⟨#[]⟩] (by rfl) (by rfl) 28 #[.int .i64 0, .int .i64 0, .int .i64 0, .int .i64 0, .bool false, .int .u64 0, .int .u64 0, .bool false, .int .u64 0, .int .u64 0, .slice none 0 0, .bool false, .int .i64 0, .int .i64 0, .bool false, .string ⟨#[]⟩] HX.out.res (by kernel_rfl) (by rfl) (by simp [Value.oneCell']) ?_)
        (try rw [Exit.noGoto_ret])
        refine bodyPost_ret (res_box2 ip6Ty rfl _ _ rfl (Cells.row HX.out.res _)) rfl ?_
        exact HERR.out _ 2 (by decide) HF.out (below_row HX.out.bel g0 (Nat.le_trans HX.out.lo (Nat.le_of_lt HX.out.hg)) _)
end Go.Proofs.Ytjjldolafnfpoaa
