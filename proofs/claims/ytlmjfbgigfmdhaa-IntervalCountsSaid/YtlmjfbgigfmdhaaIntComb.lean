/- Contract of the program of layer 5: combine, Union, Intersect, Minus, Complement, Subset. -/
import Derived.Test.YtlmjfbgigfmdhaaIntCombM
import Derived.Test.YtlmjfbgigfmdhaaIntPNorm2
namespace Go.Proofs.Ytlmjfbgigfmdhaa
open Go.ChangeShapes Go.WideShapes Go.ChangeAt Go.RowKit
set_option linter.unusedVariables false

/-- A follower of the set l under way, asked for numbers from q on. -/
def Fol (w0 wr : World) (b : Nat) (l : List Spn) (q : Int) : Prop :=
  ∃ A cap, ∃ R : List Spn, FB wr b A R.length cap ∧ SpL w0 A R ∧ R.length ≤ cap ∧ cap ≤ maxLen ∧ okL 4294967296 0 R ∧ R.length ≤ 1000000 ∧ ∀ m, q ≤ m → anyS R m = anyS l m
theorem Fol.only {w0 w w' : World} {b : Nat} {l : List Spn} {q : Int} {row : Option Nat} (h : Fol w0 w b l q) (hg : w.grownBy w' row) (hne : some b ≠ row) : Fol w0 w' b l q := by
  obtain ⟨A, cap, R, h1, h2⟩ := h
  exact ⟨A, cap, R, h1.only hg hne, h2⟩
theorem Fol.lt {w0 w : World} {b : Nat} {l : List Spn} {q : Int} (h : Fol w0 w b l q) : b < w.heap.size := by
  obtain ⟨A, cap, R, h1, h2⟩ := h
  exact h1.lt
theorem dropB_len (n : Int) : ∀ l : List Spn, (dropB l n).length ≤ l.length
  | [] => Nat.le_refl _
  | s :: r => by
    rw [dropB]
    split
    · have := dropB_len n r; simp; omega
    · exact Nat.le_refl _
theorem pfol_go {w0 w : World} {b : Nat} {l : List Spn} {q n : Int} (h : Fol w0 w b l q) (hq : q ≤ n) (hB0 : Below w0.heap.size w0 w) (hb0 : w0.heap.size ≤ b) :
    Calls Try.prog 59 #[.int .i64 n, .pointer (some ⟨b, 0, none⟩)] w fun e w' => e = .returned (.bool (anyS l n)) ∧ Fol w0 w' b l n ∧ w.grownBy w' (some b) ∧ Below w0.heap.size w0 w' := by
  obtain ⟨A, cap, R, h1, h2, h3, h4, h5, h6, h7⟩ := h
  refine (pfol_any A cap b R 0 n w0 w h1 h2 hB0 hb0 h5 h6 h3 h4).mono ?_
  rintro e w' ⟨A', cap', g1, g2, g3, g4, rfl, g5, g6⟩
  exact ⟨by rw [h7 n hq], ⟨A', cap', dropB R n, g1, g2, g3, g4, dropB_ok n R 0 h5, Nat.le_trans (dropB_len n R) h6, fun m hm => (dropB_any n R m hm).trans (h7 m (by omega))⟩, g5, g6⟩
theorem InL.only {base : Nat} {w w' : World} {A : Option Addr} {l : List Int} {row : Option Nat} (h : InL base w A l) (hg : w.grownBy w' row) (hne : ∀ r, row = some r → ∀ g, A = some ⟨g, 0, none⟩ → g ≠ r) : InL base w' A l := fun hp => by
  obtain ⟨g, e, h0, h1, hc⟩ := h hp
  have hB := hg.block g h1 (fun e2 => hne g e2.symm g e rfl)
  refine ⟨g, e, h0, Nat.lt_of_lt_of_le h1 hg.size, fun i x hi => ?_⟩
  rw [World.cell?_of_block (w := w) (w' := w') (a := ⟨g, i, none⟩) hB]
  exact hc i x hi
theorem own_cap5 {w : World} {base n cap : Nat} {A : Option Addr} {xs : List Value} (h : w.ownsRow base 34 2 (.slice A n cap) n xs) : n ≤ cap ∧ cap ≤ maxLen := by
  rcases h.2 with ⟨h1, h2⟩ | ⟨g, c, cur, h1, _, _, h2, h3, _⟩
  · cases h1; exact ⟨Nat.le_refl _, Nat.zero_le _⟩
  · cases h1; exact ⟨h2, h3⟩

theorem grownBy_alloc (w : World) (o : Obj) (row : Option Nat) : w.grownBy (w.alloc o) row := ⟨rfl, rfl, rfl, by simp, fun b hb _ => heap_alloc_lt w o hb⟩
theorem below_grown5 {B : Nat} {w0 w w' : World} {row : Option Nat} (h : Below B w0 w) (hB : B ≤ w.heap.size) (hg : w.grownBy w' row) (hne : ∀ r, row = some r → B ≤ r) : Below B w0 w' :=
  h.grown hg hB (fun j hj => hne j hj)
/-- All that combine knows of the two sets and of their edges. -/
structure Two5 (bel : Bool → Bool → Bool) (X Y : List Spn) (ES : List Int) (f : Int → Bool) : Prop where
  srt : ES.Pairwise (fun x y => x ≤ y)
  rng : ∀ e ∈ ES, 0 ≤ e ∧ e ≤ 4294967297
  con : ∀ q m, q ≤ m → (∀ e ∈ ES, e ≤ q ∨ m < e) → f m = f q
  fin : ∀ q m, q ≤ m → (∀ e ∈ ES, e ≤ q) → f m = false
  low : ∀ m, m < 0 → f m = false
  val : ∀ m, f m = bel (anyS X m) (anyS Y m)
theorem two5 {bel : Bool → Bool → Bool} (hbel : bel false false = false) {X Y : List Spn} (hX : okL 4294967296 0 X) (hY : okL 4294967296 0 Y) : Two5 bel X Y (edgesS X Y) (fun m => bel (anyS X m) (anyS Y m)) where
  srt := edges_sorted X Y
  rng e he := by
    rcases edges_mem.1 he with h | h
    · exact edg_range (okL_good hX) e h
    · exact edg_range (okL_good hY) e h
  con q m hq h := by
    show bel _ _ = bel _ _
    rw [edg_const hq (fun e he => h e (edges_mem.2 (.inl he))), edg_const (l := Y) hq (fun e he => h e (edges_mem.2 (.inr he)))]
  fin q m hq h := by
    show bel _ _ = _
    rw [edg_last hq (fun e he => h e (edges_mem.2 (.inl he))), edg_last (l := Y) hq (fun e he => h e (edges_mem.2 (.inr he))), hbel]
  low m hm := by
    have h1 : anyS X m = false := by
      cases ha : anyS X m with
      | false => rfl
      | true => have := okL_ge hX ha; omega
    have h2 : anyS Y m = false := by
      cases ha : anyS Y m with
      | false => rfl
      | true => have := okL_ge hY ha; omega
    show bel _ _ = _
    rw [h1, h2, hbel]
  val m := rfl

set_option maxHeartbeats 1000000 in
set_option maxRecDepth 20000 in
theorem pcombine_any (F : FuncId) (bel : Bool → Bool → Bool) (eg : ∀ args w, (callFunc F args).run Try.prog w = .ok (.enter F args) w) (hF : ∀ (x y : Bool) (W : World), Calls Try.prog F #[.bool x, .bool y] W fun e w' => e = .returned (.bool (bel x y)) ∧ w' = W) (hbel : bel false false = false)
    (A1 A2 : Option Addr) (c1 c2 : Nat) (a b : List Spn) (w : World) (h1 : SpL w A1 a) (h2 : SpL w A2 b) (hl1 : a.length ≤ 90000) (hl2 : b.length ≤ 90000) :
    Calls Try.prog 39 #[.slice A1 a.length c1, .slice A2 b.length c2, .func (.func F) #[] #[]] w (SetP w (fun m => bel (memS 4294967296 a m) (memS 4294967296 b m)) (2 * (a.length + b.length))) := by
  have HN1 := Lib.hid (pnormal_any A1 c1 a w h1 (by omega))
  have HN2 := Lib.hid (fun w1 (hb : Below w.heap.size w w1) => pnormal_any A2 c2 b w1 (h2.kept hb) (by omega))
  have HF := Lib.hid hF
  obtain ⟨la, hla⟩ : ∃ n, n = a.length := ⟨_, rfl⟩
  obtain ⟨lb, hlb⟩ : ∃ n, n = b.length := ⟨_, rfl⟩
  rw [← hla] at HN1 ⊢
  rw [← hlb] at HN2 ⊢
  have hs1 : la ≤ 90000 := by omega
  have hs2 : lb ≤ 90000 := by omega
  obtain ⟨i0, hinf, hz0, hz1, hz2⟩ := info_parts info_span
  clear h1 h2 hl1 hl2 hla hlb hF
  go_enter Try.func39, Try.ntmps39
  go_wp2_with fail
  refine HN1.out.mono ?_
  rintro e w1 ⟨X, Ax, cx, okx, anyx, lex, rfl, ownx, hb1⟩
  have HC2 := Lib.hid (HN2.out w1 hb1)
  have HX1 := Lib.hid (And.intro (spl_of_own ownx) (And.intro okx (And.intro anyx (own_cap5 ownx))))
  have HB1 := Lib.hid hb1
  obtain ⟨nx, hnx⟩ : ∃ n, n = X.length := ⟨_, rfl⟩
  have hnx9 : nx ≤ la := by omega
  rw [← hnx] at HX1 ⊢
  have HNX := Lib.hid hnx
  clear hnx lex okx anyx ownx hb1 HN1 HN2
  go_wp2_with fail
  refine HC2.out.mono ?_
  rintro e w2 ⟨Y, Ay, cy, oky, anyy, ley, rfl, owny, hb2⟩
  have HY := Lib.hid (And.intro (spl_of_own owny) (And.intro oky (And.intro anyy (own_cap5 owny))))
  have HX := Lib.hid (And.intro (HX1.out.1.kept hb2) HX1.out.2)
  have HB2 := Lib.hid (HB1.out.trans (hb2.mono HB1.out.size))
  obtain ⟨ny, hny⟩ : ∃ n, n = Y.length := ⟨_, rfl⟩
  have hny9 : ny ≤ lb := by omega
  rw [← hny] at HY ⊢
  have HNY := Lib.hid hny
  clear hny ley oky anyy owny hb2 HB1 HC2 HX1
  go_wp2_with fail
  refine (pfollower_any Ax nx cx w2).mono ?_
  rintro e w3 ⟨rfl, hw3⟩
  have HF3 := Lib.hid (show FB w3 w2.heap.size Ax nx cx by rw [hw3]; exact cells_new w2 _ _)
  have HB3 := Lib.hid (show Below w2.heap.size w2 w3 by rw [hw3]; exact below_alloc5 w2 _)
  obtain ⟨b1, hb1⟩ : ∃ b, b = w2.heap.size := ⟨_, rfl⟩
  have HB1E := Lib.hid hb1
  have hs3 : w3.heap.size = b1 + 1 := by rw [hw3, hb1]; simp
  have HS3 := Lib.hid hs3
  rw [← hb1] at HF3 ⊢
  clear hw3 hb1 hs3
  go_wp2_with fail
  refine (pfollower_any Ay ny cy w3).mono ?_
  rintro e w4 ⟨rfl, hw4⟩
  have HF4 := Lib.hid (show FB w4 w3.heap.size Ay ny cy by rw [hw4]; exact cells_new w3 _ _)
  have HF34 := Lib.hid (show FB w4 b1 Ax nx cx by rw [hw4]; exact (below_alloc5 w3 _).block b1 HF3.out.lt |>.trans HF3.out)
  have HB4 := Lib.hid (show Below w2.heap.size w2 w4 by rw [hw4]; exact HB3.out.alloc HB3.out.size _)
  obtain ⟨b2, hb2⟩ : ∃ b, b = w3.heap.size := ⟨_, rfl⟩
  have HB2E := Lib.hid (show b2 = b1 + 1 by rw [hb2]; exact HS3.out)
  have HS4 := Lib.hid (show w4.heap.size = b2 + 1 by rw [hw4, hb2]; simp)
  rw [← hb2] at HF4 ⊢
  clear hw4 hb2 HF3 HB3 HS3
  have HE := Lib.hid (pedges_any Ax Ay cx cy X Y w4 (by exact HX.out.1.kept HB4.out) (by exact HY.out.1.kept HB4.out) (okL_good HX.out.2.1) (okL_good HY.out.2.1) (by rw [← HNX.out]; omega) (by rw [← HNY.out]; omega))
  rw [← HNX.out, ← HNY.out] at HE
  go_wp2_with fail
  refine HE.out.mono ?_
  rintro e w5 ⟨AE, cE, rfl, hin, hb5⟩
  have HT := Lib.hid (two5 hbel HX.out.2.1 HY.out.2.1)
  have hesl : (edgesS X Y).length = 2 * (nx + ny) := by
    unfold edgesS
    rw [List.length_mergeSort, List.length_append, edgL_length, edgL_length, ← HNX.out, ← HNY.out]; omega
  obtain ⟨f, hf⟩ : ∃ f, f = (fun m => bel (anyS X m) (anyS Y m)) := ⟨_, rfl⟩
  rw [← hf] at HT
  have HFV := Lib.hid (show ∀ m, f m = bel (memS 4294967296 a m) (memS 4294967296 b m) from fun m => by rw [hf]; show bel _ _ = _; rw [HX.out.2.2.1, HY.out.2.2.1])
  generalize edgesS X Y = ES at *
  obtain ⟨ne, hne⟩ : ∃ n, n = ES.length := ⟨_, rfl⟩
  rw [← hne] at hesl ⊢
  have HNE := Lib.hid hne
  have HIN := Lib.hid hin
  have HB5 := Lib.hid (HB4.out.trans (hb5.mono HB4.out.size))
  have hs5 : b2 + 1 ≤ w5.heap.size := by have := hb5.size; rw [HS4.out] at this; exact this
  have hine : ∀ g, AE = some ⟨g, 0, none⟩ → 0 < ne → b2 < g ∧ g < w5.heap.size := fun g hg hp => by
    obtain ⟨g', e1, h1, h2, _⟩ := hin (by omega)
    rw [hg] at e1
    have : g = g' := by simpa using e1
    rw [HS4.out] at h1
    omega
  have HINE := Lib.hid hine
  have HFa := Lib.hid (show Fol w2 w5 b1 X (-1) from ⟨Ax, cx, X, by rw [← HNX.out]; exact (hb5.block b1 HF34.out.lt).trans HF34.out, HX.out.1, by rw [← HNX.out]; exact HX.out.2.2.2.1, HX.out.2.2.2.2, HX.out.2.1, by rw [← HNX.out]; omega, fun m _ => rfl⟩)
  have HFb := Lib.hid (show Fol w2 w5 b2 Y (-1) from ⟨Ay, cy, Y, by rw [← HNY.out]; exact (hb5.block b2 HF4.out.lt).trans HF4.out, HY.out.1, by rw [← HNY.out]; exact HY.out.2.2.2.1, HY.out.2.2.2.2, HY.out.2.1, by rw [← HNY.out]; omega, fun m _ => rfl⟩)
  clear hf hne hin hb5 HE HF4 HF34 HB4 hine
  go_wp2_with fail
  have HO := Lib.hid (World.ownsRow_nil w5 w5.heap.size 34 2)
  have HCM := Lib.hid (cmb_start 4294967296 HT.out.low)
  have HPR := Lib.hid (show Pre ES 0 (-1) from ⟨fun e he => by simp at he, fun e he => by have := HT.out.rng e (by simpa using he); omega⟩)
  have HSZ := Lib.hid (Nat.le_refl w5.heap.size)
  go_loopw [9, 10, 26] (fun v9 v10 v26 wr => ∃ k c' : Nat, ∃ A' : Option Addr, ∃ C : List Spn, ∃ o : Option Int, ∃ q : Int, k ≤ ne ∧ (memL C o).length ≤ k ∧ v26 = .int .i64 k ∧ v10 = .bool o.isSome ∧ v9 = .slice A' (memL C o).length c' ∧ Hid (Cmb 4294967296 f C o q) ∧ Hid (Pre ES k q) ∧ Hid (Fol w2 wr b1 X q) ∧ Hid (Fol w2 wr b2 Y q) ∧ Hid (Below w2.heap.size w2 wr) ∧ Hid (InL w4.heap.size wr AE ES) ∧ Hid (w5.heap.size ≤ wr.heap.size) ∧ Hid (wr.ownsRow w5.heap.size 34 2 (.slice A' (memL C o).length c') (memL C o).length (spCells (memL C o)))) (fun _ _ v26 _ => ne - (intOf v26).toNat)
  case atStart => exact ⟨0, 0, none, [], none, -1, by omega, Nat.le_refl _, rfl, rfl, rfl, HCM, HPR, HFa, HFb, HB5, HIN, HSZ, HO⟩
  case round =>
    clear HCM HPR HFa HFb HB5 HIN HO HSZ
    obtain ⟨k, c', A', C, o, q, hk, hok, rfl, rfl, rfl, HCM, HPR, HFa, HFb, HB, HIN, HSZ, HO⟩ := hrel
    by_cases hlt : k < ne
    · obtain ⟨n, hget⟩ : ∃ n, ES[k]? = some n := ⟨ES[k]'(by have := HNE.out; omega), List.getElem?_eq_getElem _⟩
      obtain ⟨ge, hae, hge1, hge2, hge3⟩ := HIN.out (by have := HNE.out; omega)
      have hgb := HINE.out ge hae (by omega)
      subst hae
      have x0 := hge3 k n hget
      have hki : (k : Int) < (ne : Int) := by omega
      have hki0 : (0 : Int) ≤ (k : Int) := by omega
      obtain ⟨hqn, hpre, hbet⟩ := pre_go HPR.out HT.out.srt hget
      have hrn := HT.out.rng n (List.mem_of_getElem? hget)
      have HCON := Lib.hid (show ∀ m, q ≤ m → m < n → f m = f q from fun m h1 h2 => HT.out.con q m h1 (hbet m h1 h2))
      have HPR2 := Lib.hid hpre
      have HCa := Lib.hid (pfol_go HFa.out hqn HB.out (by rw [HB1E.out]; omega))
      have HCb := Lib.hid (fun (w' : World) (hg : wr.grownBy w' (some b1)) (hb : Below w2.heap.size w2 w') => pfol_go (HFb.out.only hg (by have := HB2E.out; simp; omega)) hqn hb (by rw [HB2E.out, HB1E.out]; omega))
      have HVN := Lib.hid (HT.out.val n)
      clear hpre hbet hge3 hget HPR HFa HFb
      go_wp2_with fail
      refine HCa.out.mono ?_
      rintro e w6 ⟨rfl, hfa, hg6, hb6⟩
      have HCb2 := Lib.hid (HCb.out w6 hg6 hb6)
      have HFa6 := Lib.hid hfa
      have HG6 := Lib.hid hg6
      clear hfa hg6 hb6 HCa HCb x0
      go_wp2_with fail
      refine HCb2.out.mono ?_
      rintro e w7 ⟨rfl, hfb, hg7, hb7⟩
      have HFb7 := Lib.hid hfb
      have HFa7 := Lib.hid (HFa6.out.only hg7 (by have := HB2E.out; simp; omega))
      have HB7 := Lib.hid hb7
      have HIN7 := Lib.hid ((HIN.out.only HG6.out (fun r hr g hg => by simp at hr hg; have := HB2E.out; omega)).only hg7 (fun r hr g hg => by simp at hr hg; have := HB2E.out; omega))
      have HO7 := Lib.hid ((HO.out.kept HG6.out (by
        right
        intro e
        have := (HO.out.lt b1 e).1
        have := HB2E.out
        omega)).kept hg7 (by
        right
        intro e
        have := (HO.out.lt b2 e).1
        omega))
      have HSZ7 := Lib.hid (show w5.heap.size ≤ w7.heap.size from Nat.le_trans HSZ.out (Nat.le_trans HG6.out.size hg7.size))
      clear hfb hg7 hb7 HCb2 HFa6 HG6 HB HIN HO HSZ
      go_wp2_with fail
      refine (HF.out (anyS X n) (anyS Y n) w7).mono ?_
      rintro e w8 ⟨rfl, rfl⟩
      rw [← HVN.out]
      obtain ⟨v, hv⟩ : ∃ v, v = f n := ⟨_, rfl⟩
      rw [← hv]
      cases v with
      | true =>
        cases o with
        | none =>
          have HCM2 := Lib.hid (cmb_open HCM.out hqn HCON.out hv.symm)
          have hMl : C.length + 1 = (memL C (some n)).length := by simp [memL]
          have HSN := Lib.hid (spCells_snoc C ⟨n, 0⟩)
          have HML := Lib.hid hMl
          have hok2 : C.length ≤ k := hok
          clear HCM HCON hMl hok
          unfold spC at HSN
          simp only at HSN
          obtain ⟨A3, c3, hA3⟩ : ∃ A3 c3, (Value.slice A' (memL C none).length c') = .slice A3 C.length c3 := ⟨A', c', rfl⟩
          have HO7' := Lib.hid (show w8.ownsRow w5.heap.size 34 2 (.slice A' C.length c') C.length (spCells C) from HO7.out)
          rw [show (memL C none).length = C.length from rfl]
          obtain ⟨M, hM⟩ : ∃ M, M = memL C (some n) := ⟨_, rfl⟩
          rw [show C ++ [(⟨n, 0⟩ : Spn)] = memL C (some n) from rfl] at HSN
          rw [← hM] at HSN HML
          have HM := Lib.hid hM
          clear hA3 HO7 hM A3 c3 hv
          go_wp2_with (at_builtin; refine wpList_append_lies _ rfl _ _ 22 rfl w5.heap.size 34 i0 (.agg #[.int .i64 0, .int .i64 0]) 2 16 Try.underlying22 hinf hz0 hz1 hz2 rfl (by omega) _ C.length (spCells C) rfl (HO7'.out.alloc _) ⟨w8.heap.size, 0, none⟩ 1 1 [.int .i64 n, .int .i64 0] rfl rfl ?c1 ?c2 (by omega) ?c3 ?c4 ?c5 _ rfl ?_)
          case c1 => exact World.news_of_block (cs := #[.int .i64 n, .int .i64 0]) (t := 34) (fr := (0, 0)) (heap_alloc_new w8 _)
          case c2 => simp [Value.oneCell']
          case c3 => unfold maxLen; omega
          case c4 => omega
          case c5 => have := HSZ7.out; simp; omega
          intro g2 cap2 w9 hown9 hgrow hat hlt2
          have hrow : ∀ r, (Value.slice A' C.length c').ownBlock = some r → w5.heap.size ≤ r := fun r hr => (HO7'.out.lt r hr).1
          have hga := grownBy_alloc w8 (.cells #[.int .i64 n, .int .i64 0] 34) (Value.slice A' C.length c').ownBlock
          have hgg := grownBy_trans hga hgrow
          have HFa9 := Lib.hid (HFa7.out.only hgg (fun e => by have := hrow b1 e.symm; have := HB2E.out; omega))
          have HFb9 := Lib.hid (HFb7.out.only hgg (fun e => by have := hrow b2 e.symm; omega))
          have HIN9 := Lib.hid (HIN7.out.only hgg (fun r hr g hg => by have := hrow r hr; simp at hg; omega))
          have HB9 := Lib.hid (below_grown5 HB7.out HB7.out.size hgg (fun r hr => by have := hrow r hr; have := HB1E.out; have := HB2E.out; omega))
          have HSZ9 := Lib.hid (Nat.le_trans HSZ7.out hgg.size)
          rw [← HSN.out] at hown9
          have HO9 := Lib.hid (show w9.ownsRow w5.heap.size 34 2 (.slice (some ⟨g2, 0, none⟩) (memL C (some n)).length cap2) (memL C (some n)).length (spCells (memL C (some n))) from by rw [← HM.out, ← HML.out]; exact hown9)
          have HLM := Lib.hid (show C.length + 1 = (memL C (some n)).length by rw [← HM.out]; exact HML.out)
          clear hown9 hgrow hat hlt2 hga hgg hrow HFa7 HFb7 HIN7 HB7 HSZ7 HO7' HSN HML HM
          go_wp2_with fail
          go_roundw
          case rel => exact ⟨k + 1, cap2, some ⟨g2, 0, none⟩, C, some n, n, by omega, by rw [← HLM.out]; omega, by go_num, rfl, congrArg (fun x => Value.slice (some ⟨g2, 0, none⟩) x cap2) HLM.out, HCM2, HPR2, HFa9, HFb9, HB9, HIN9, HSZ9, HO9⟩
          case measure => simp [intOf]; omega
        | some p =>
          have HCM2 := Lib.hid (cmb_stay HCM.out hqn HCON.out (hv.symm.trans HCM.out.fo.symm))
          clear HCM HCON hv
          go_wp2_with fail
          go_roundw
          case rel => exact ⟨k + 1, c', A', C, some p, n, by omega, by omega, by go_num, rfl, rfl, HCM2, HPR2, HFa7, HFb7, HB7, HIN7, HSZ7, HO7⟩
          case measure => simp [intOf]; omega
      | false =>
        cases o with
        | none =>
          have HCM2 := Lib.hid (cmb_stay HCM.out hqn HCON.out (hv.symm.trans HCM.out.fo.symm))
          clear HCM HCON hv
          go_wp2_with fail
          go_roundw
          case rel => exact ⟨k + 1, c', A', C, none, n, by omega, by omega, by go_num, rfl, rfl, HCM2, HPR2, HFa7, HFb7, HB7, HIN7, HSZ7, HO7⟩
          case measure => simp [intOf]; omega
        | some p =>
          have HCM2 := Lib.hid (cmb_close HCM.out hqn hrn.2 HCON.out hv.symm)
          obtain ⟨L, hL⟩ : ∃ L, L = memL C (some p) := ⟨_, rfl⟩
          obtain ⟨r, hr⟩ : ∃ r, r = C.length := ⟨_, rfl⟩
          have hLl : r + 1 = L.length := by rw [hL, hr]; simp [memL]
          have hLg : L[r]? = some ⟨p, 0⟩ := by rw [hL, hr]; simp [memL]
          have hst := spCells_set1 L r ⟨p, n - 1⟩ ⟨p, 0⟩ hLg rfl
          have hLs : L.set r ⟨p, n - 1⟩ = memL (C ++ [⟨p, n - 1⟩]) none := by
            rw [hL, hr]
            show (C ++ [(⟨p, 0⟩ : Spn)]).set C.length ⟨p, n - 1⟩ = C ++ [⟨p, n - 1⟩]
            rw [List.set_append_right _ _ (Nat.le_refl _), Nat.sub_self, List.set_cons_zero]
          rw [hLs] at hst
          rw [← hL] at HO7 hok ⊢
          obtain ⟨ll, hll⟩ : ∃ ll, ll = L.length := ⟨_, rfl⟩
          rw [← hll] at HO7 hok hLl ⊢
          obtain ⟨gs, cs, hf, hgs1, hgs2⟩ := World.ownsRow.form HO7.out (by omega)
          obtain ⟨rfl, rfl⟩ : A' = some ⟨gs, 0, none⟩ ∧ c' = cs := by simpa using hf
          have y1 : w8.cell? ⟨gs, r * 2 + 1, none⟩ = some (.int .i64 0) := (HO7.out.cellAt (r * 2 + 1) (by omega)).trans (spCells_get L r _ hLg).2
          have yf := HO7.out.frozenAt (r * 2 + 1)
          have ho9 := HO7.out.stored (r * 2 + 1) (.int .i64 (n - 1))
          simp only at hst
          rw [hst] at ho9
          have hgg := ho9.2
          have hlm : ll = (memL (C ++ [⟨p, n - 1⟩]) none).length := by rw [← hLs, List.length_set, hll]
          have HFa9 := Lib.hid (HFa7.out.only hgg (fun e => by have := HB2E.out; simp at e; omega))
          have HFb9 := Lib.hid (HFb7.out.only hgg (fun e => by simp at e; omega))
          have HIN9 := Lib.hid (HIN7.out.only hgg (fun r hr g hg => by simp at hr hg; omega))
          have HB9 := Lib.hid (below_grown5 HB7.out HB7.out.size hgg (fun r hr => by simp at hr; have := HB1E.out; have := HB2E.out; omega))
          have HSZ9 := Lib.hid (Nat.le_trans HSZ7.out hgg.size)
          have HO9 := Lib.hid (show (w8.setCell ⟨gs, r * 2 + 1, none⟩ (.int .i64 (n - 1))).ownsRow w5.heap.size 34 2 (.slice (some ⟨gs, 0, none⟩) (memL (C ++ [⟨p, n - 1⟩]) none).length c') (memL (C ++ [⟨p, n - 1⟩]) none).length (spCells (memL (C ++ [⟨p, n - 1⟩]) none)) from by rw [← hlm]; exact ho9.1)
          have HLM := Lib.hid hlm
          have hri : (ll : Int) - 1 = (r : Int) := by omega
          have hri0 : (0 : Int) ≤ (r : Int) := by omega
          have hril : (r : Int) < (ll : Int) := by omega
          clear HCM HCON hv hL hr hLl hLg hst hLs hll hf ho9 hgg hlm HFa7 HFb7 HIN7 HB7 HSZ7 HO7
          go_wp2_with fail
          go_roundw
          case rel => exact ⟨k + 1, c', some ⟨gs, 0, none⟩, C ++ [⟨p, n - 1⟩], none, n, by omega, by rw [← HLM.out]; omega, by go_num, rfl, congrArg (fun x => Value.slice (some ⟨gs, 0, none⟩) x c') HLM.out, HCM2, HPR2, HFa9, HFb9, HB9, HIN9, HSZ9, HO9⟩
          case measure => simp [intOf]; omega
    · have hkn : k = ES.length := by have := HNE.out; omega
      have hall : ∀ e ∈ ES, e ≤ q := by
        have := HPR.out.le
        rwa [hkn, List.take_length] at this
      obtain ⟨ho, hany⟩ := cmb_end HCM.out (fun m hm => HT.out.fin q m hm hall)
      subst ho
      have HL := Lib.hid (show okL 4294967296 0 C ∧ (∀ m, anyS C m = bel (memS 4294967296 a m) (memS 4294967296 b m)) ∧ C.length ≤ 2 * (la + lb) from ⟨HCM.out.ok, fun m => (hany m).trans (HFV.out m), by
        have : C.length ≤ k := hok
        omega⟩)
      have HB9 := Lib.hid (HB2.out.trans (HB.out.mono HB2.out.size))
      have HO9 := Lib.hid (show wr.ownsRow w.heap.size 34 2 (.slice A' C.length c') C.length (spCells C) from own_mono5 HO.out (by have := HB2.out.size; have := HB1E.out; have := HB2E.out; omega))
      rw [show (memL C none).length = C.length from rfl] at hok ⊢
      have hd : decide ((k : Int) < (ne : Int)) = false := by simp; omega
      clear hkn hall hany HCM HPR HFa HFb HB HIN HSZ HO
      go_wp2_with fail
      go_ret
      exact ⟨C, A', c', HL.out.1, HL.out.2.1, HL.out.2.2, rfl, HO9.out, HB9.out⟩

end Go.Proofs.Ytlmjfbgigfmdhaa
