/- Contracts of the reference of layer 5: Union, Intersect, Minus, Subset. -/
import Derived.Test.YtlmjfbgigfmdhaaIntComp
import Derived.Laws.AppendOwnNone
import Derived.Maps.AppendAt
import Derived.Deep.RegionHeld3
namespace Go.Proofs.Ytlmjfbgigfmdhaa
open Go.ChangeShapes Go.WideShapes Go.ChangeAt Go.RowKit
set_option linter.unusedVariables false

theorem spCells_at : ∀ (l : List Spn) (j : Nat) (u : Value), (spCells l)[j]? = some u → ∃ i s, l[i]? = some s ∧ ((j = i * 2 ∧ u = .int .i64 s.lo) ∨ (j = i * 2 + 1 ∧ u = .int .i64 s.hi))
  | [], j, u, h => by simp [spCells] at h
  | x :: r, 0, u, h => by
    refine ⟨0, x, rfl, .inl ⟨rfl, ?_⟩⟩
    have : (some (Value.int .i64 x.lo)) = some u := h
    exact (Option.some.inj this).symm
  | x :: r, 1, u, h => by
    refine ⟨0, x, rfl, .inr ⟨rfl, ?_⟩⟩
    have : (some (Value.int .i64 x.hi)) = some u := h
    exact (Option.some.inj this).symm
  | x :: r, j + 2, u, h => by
    have h' : (spCells r)[j]? = some u := h
    obtain ⟨i, s, hs, hj⟩ := spCells_at r j u h'
    refine ⟨i + 1, s, by simpa using hs, ?_⟩
    rcases hj with ⟨rfl, e⟩ | ⟨rfl, e⟩
    · exact .inl ⟨by omega, e⟩
    · exact .inr ⟨by omega, e⟩
theorem addr_add (g o j : Nat) : (⟨g, o, none⟩ : Addr).add j = ⟨g, o + j, none⟩ := by
  unfold Addr.add
  split
  · simp_all
  · rfl
theorem SpL.news {w : World} {ad : Addr} {l : List Spn} (h : SpL w (some ad) l) : ∀ j u, (spCells l)[j]? = some u → w.cell? (ad.add j) = some u := fun j u hu => by
  obtain ⟨i, s, hs, hj⟩ := spCells_at l j u hu
  have hp : 0 < l.length := Nat.lt_of_le_of_lt (Nat.zero_le _) (List.getElem?_eq_some_iff.1 hs).1
  obtain ⟨g, o, e, hg, hc⟩ := h hp
  obtain rfl := Option.some.inj e
  have hc := hc i s hs
  rw [addr_add]
  rcases hj with ⟨rfl, rfl⟩ | ⟨rfl, rfl⟩
  · exact hc.1
  · exact hc.2
theorem own_shape5 {w : World} {base : Nat} {e : TypeId} {size : Nat} {v : Value} {n : Nat} {xs : List Value} (h : w.ownsRow base e size v n xs) : ∃ A c, v = .slice A n c := by
  rcases h.2 with ⟨h1, h2⟩ | ⟨g, c, cur, h1, _⟩
  · subst h2; exact ⟨_, _, h1⟩
  · exact ⟨_, _, h1⟩
theorem spC_one (l : List Spn) : ∀ u ∈ spCells l, u.oneCell' = true := by
  intro u hu
  unfold spCells at hu
  obtain ⟨s, _, hs⟩ := List.mem_flatMap.1 hu
  simp only [spC, List.mem_cons, List.not_mem_nil, or_false] at hs
  rcases hs with rfl | rfl <;> rfl
/-- append(out, l...) of a list of spans onto a slice that the call owns. -/
theorem wpList_append_spl {w : World} {ops : Array Oper} {rest : List Oper} {o : Oper} {a : Act} {Q : Exit → Act → World → Prop} (hgd : o.guard = none) (s x : Operand)
    (ho : o.op = .call { callee := .builtin .append, args := #[s, x], argTypes := #[22, 22] })
    (base : Nat) (v : Value) (n : Nat) (xs : List Value) (hs : a.eval s = v) (hown : w.ownsRow base 34 2 v n xs)
    (A : Option Addr) (m c : Nat) (l : List Spn) (hx : a.eval x = .slice A m c) (hm : m = l.length) (hA : A = none → c = 0) (hl : SpL w A l) (hn : n + m ≤ 1000000) (hbase : base ≤ w.heap.size)
    (h : ∀ A' c' w', w'.ownsRow base 34 2 (.slice A' (n + m) c') (n + m) (xs ++ spCells l) → w.grownBy w' v.ownBlock → wpList Try.prog ops Q rest (a.put o.dst (.slice A' (n + m) c')) w') : wpList Try.prog ops Q (o :: rest) a w := by
  obtain ⟨i0, hinf, hz0, hz1, hz2⟩ := info_parts info_span
  cases A with
  | none =>
    have hl0 : l = [] := by
      cases l with
      | nil => rfl
      | cons y r =>
        obtain ⟨g, o, e, _⟩ := hl (by simp)
        cases e
    subst hl0
    obtain rfl := hA rfl
    have hm0 : m = 0 := by simpa using hm
    subst hm0
    obtain ⟨A', c', rfl⟩ := own_shape5 hown
    refine wpList_append_own_none hgd s x 22 ho base 34 i0 2 Try.underlying22 hinf _ n xs hs hown hx ?_
    refine h A' c' w ?_ ⟨rfl, rfl, rfl, Nat.le_refl _, fun _ _ _ => rfl⟩
    simpa [spCells] using hown
  | some ad =>
    refine wpList_append_own_at w hgd s x 22 ho base 34 i0 (.agg #[.int .i64 0, .int .i64 0]) 2 16 Try.underlying22 hinf hz0 hz1 hz2 rfl (by omega) v n xs hs hown ad m c (spCells l) hx (by rw [spCells_length, hm]) hl.news (spC_one l) (by unfold maxLen; omega) (by omega) hbase ?_
    intro v' w' hown' hgr _ _
    obtain ⟨A', c', rfl⟩ := own_shape5 hown'
    exact h A' c' w' hown' hgr
theorem SetP.back {w w1 : World} {f f' : Int → Bool} {b b' : Nat} {e : Ending} {w' : World} (hb : Below w.heap.size w w1) (h : SetP w1 f b e w') (hf : ∀ m, f m = f' m) (hbb : b ≤ b') : SetP w f' b' e w' := by
  obtain ⟨L, A, cap, h1, h2, h3, h4, h5, h6⟩ := h
  exact ⟨L, A, cap, h1, fun m => (h2 m).trans (hf m), Nat.le_trans h3 hbb, h4, own_mono5 h5 hb.size, hb.trans (h6.mono hb.size)⟩
theorem memS_append (M : Int) (a b : List Spn) (m : Int) : memS M (a ++ b) m = (memS M a m || memS M b m) := by
  unfold memS
  rw [anyS_append]
  cases decide (0 ≤ m) <;> cases decide (m ≤ M) <;> simp
theorem memS_in {M : Int} {l : List Spn} {m : Int} (h : memS M l m = true) : 0 ≤ m ∧ m ≤ M := by
  unfold memS at h
  simp only [Bool.and_eq_true, decide_eq_true_eq] at h
  exact h.1

set_option maxRecDepth 20000 in
theorem runion_any (A1 A2 : Option Addr) (c1 c2 : Nat) (a b : List Spn) (w : World) (h1 : SpL w A1 a) (h2 : SpL w A2 b) (n1 : A1 = none → c1 = 0) (n2 : A2 = none → c2 = 0) (hl1 : a.length ≤ 900) (hl2 : b.length ≤ 900) :
    Calls Try.prog 23 #[.slice A1 a.length c1, .slice A2 b.length c2] w (SetP w (fun m => memS 4294967296 a m || memS 4294967296 b m) 1800) := by
  obtain ⟨la, hla⟩ : ∃ n, n = a.length := ⟨_, rfl⟩
  obtain ⟨lb, hlb⟩ : ∃ n, n = b.length := ⟨_, rfl⟩
  rw [← hla, ← hlb]
  have H1 := Lib.hid h1
  have H2 := Lib.hid h2
  have N1 := Lib.hid n1
  have N2 := Lib.hid n2
  have HL := Lib.hid (And.intro hla hlb)
  have hs1 : la ≤ 900 := by omega
  have hs2 : lb ≤ 900 := by omega
  clear h1 h2 n1 n2 hla hlb hl1 hl2
  go_enter Try.func23, Try.ntmps23
  go_wp2_with (at_builtin; refine wpList_append_spl rfl _ _ rfl w.heap.size _ 0 (spCells []) rfl (own_empty5 w (Nat.le_refl _)) A1 la c1 a rfl HL.out.1 N1.out (H1.out.kept (below_alloc5 w _)) (by omega) (by simp) ?_)
  intro A3 c3 w3 hown3 hgrow3
  have hb1 := below_alloc5 w (.cells #[] 34)
  have hlt1 := (own_empty5 w (Nat.le_refl w.heap.size)).lt
  have hB3 := hb1.grown hgrow3 (by simp) (fun j hj => (hlt1 j hj).1)
  have HB3 := Lib.hid hB3
  have HO3 := Lib.hid (show w3.ownsRow w.heap.size 34 2 (.slice A3 (0 + la) c3) (0 + la) (spCells a) from by simpa [spCells] using hown3)
  have H23 := Lib.hid (H2.out.kept hB3)
  clear hown3 hgrow3 hb1 hlt1 hB3
  rw [Nat.zero_add] at HO3
  try rw [Nat.zero_add]
  go_wp2_with (at_builtin; refine wpList_append_spl rfl _ _ rfl w.heap.size _ la (spCells a) rfl HO3.out A2 lb c2 b rfl HL.out.2 N2.out H23.out (by omega) HB3.out.size ?_)
  intro A4 c4 w4 hown4 hgrow4
  have hB4 := HB3.out.grown hgrow4 HB3.out.size (fun j hj => (HO3.out.lt j hj).1)
  obtain ⟨ab, hab⟩ : ∃ ab, ab = a ++ b := ⟨_, rfl⟩
  have hlen : la + lb = ab.length := by rw [hab, List.length_append, ← HL.out.1, ← HL.out.2]
  have HO4 := Lib.hid (show w4.ownsRow w.heap.size 34 2 (.slice A4 ab.length c4) ab.length (spCells ab) from by rw [← hlen, hab, show spCells (a ++ b) = spCells a ++ spCells b by simp [spCells]]; exact hown4)
  have HC := Lib.hid (rnormal_any A4 c4 ab w4 (spl_of_own HO4.out) (by omega))
  have HAB := Lib.hid (fun m => show memS 4294967296 ab m = (memS 4294967296 a m || memS 4294967296 b m) by rw [hab]; exact memS_append _ a b m)
  rw [hlen]
  have HB4 := Lib.hid hB4
  have HLN := Lib.hid (show ab.length ≤ 1800 by omega)
  clear hab
  clear hown4 hgrow4 hB4 hlen
  go_wp2_with fail
  refine HC.out.mono ?_
  intro e w5 hset
  have hset2 := SetP.back (f' := fun m => memS 4294967296 a m || memS 4294967296 b m) (b' := 1800) HB4.out hset HAB.out HLN.out
  obtain ⟨L, A5, c5, g1, g2, g3, rfl, g5, g6⟩ := hset2
  go_wp2_with fail
  go_ret
  exact ⟨L, A5, c5, g1, g2, g3, rfl, g5, g6⟩

theorem sset_other {w : World} {g b : Nat} (lo hi : Int) (h : b ≠ g) : (sset w g lo hi).heap[b]? = w.heap[b]? :=
  (Below.heap_setCell _ _ _ _ h).trans (Below.heap_setCell _ _ _ _ h)
theorem pairs_snoc (a b : List Spn) (s : Spn) : pairsS (a ++ [s]) b = pairsS a b ++ pairsS [s] b := by
  unfold pairsS
  rw [List.flatMap_append]
theorem pairs_take {l : List Spn} {k : Nat} {s : Spn} (hs : l[k]? = some s) (b : List Spn) : pairsS (l.take (k + 1)) b = pairsS (l.take k) b ++ pairsS [s] b := by
  obtain ⟨hk, e⟩ := List.getElem?_eq_some_iff.1 hs
  rw [List.take_succ_eq_append_getElem hk, e, pairs_snoc]
theorem pairs_one {l : List Spn} {k : Nat} {t : Spn} (ht : l[k]? = some t) (s : Spn) : pairsS [s] (l.take (k + 1)) = pairsS [s] (l.take k) ++ if max s.lo t.lo ≤ min s.hi t.hi then [⟨max s.lo t.lo, min s.hi t.hi⟩] else [] := by
  obtain ⟨hk, e⟩ := List.getElem?_eq_some_iff.1 ht
  rw [List.take_succ_eq_append_getElem hk, e]
  unfold pairsS
  simp only [List.flatMap_cons, List.flatMap_nil, List.append_nil, List.flatMap_append]
  rfl

set_option maxHeartbeats 400000 in
set_option maxRecDepth 20000 in
theorem rinter_any (A1 A2 : Option Addr) (c1 c2 : Nat) (a b : List Spn) (w : World) (h1 : SpL w A1 a) (h2 : SpL w A2 b) (hl1 : a.length ≤ 900) (hl2 : b.length ≤ 900) :
    Calls Try.prog 25 #[.slice A1 a.length c1, .slice A2 b.length c2] w (SetP w (fun m => memS 4294967296 a m && memS 4294967296 b m) 810000) := by
  have HN1 := Lib.hid (rnormal_any A1 c1 a w h1 (by omega))
  have HN2 := Lib.hid (fun w1 (hb : Below w.heap.size w w1) => rnormal_any A2 c2 b w1 (h2.kept hb) (by omega))
  obtain ⟨la, hla⟩ : ∃ n, n = a.length := ⟨_, rfl⟩
  obtain ⟨lb, hlb⟩ : ∃ n, n = b.length := ⟨_, rfl⟩
  rw [← hla] at HN1 ⊢
  rw [← hlb] at HN2 ⊢
  have hs1 : la ≤ 900 := by omega
  have hs2 : lb ≤ 900 := by omega
  obtain ⟨i0, hinf, hz0, hz1, hz2⟩ := info_parts info_span
  clear h1 h2 hl1 hl2 hla hlb
  go_enter Try.func25, Try.ntmps25
  go_wp2_with fail
  refine HN1.out.mono ?_
  rintro e w1 ⟨X, Ax, cx, okx, anyx, lex, rfl, ownx, hb1⟩
  have HX := Lib.hid (spl_of_own ownx)
  have HMX := Lib.hid anyx
  have HB1 := Lib.hid hb1
  obtain ⟨nx, hnx⟩ : ∃ n, n = X.length := ⟨_, rfl⟩
  have hnx9 : nx ≤ 900 := by omega
  rw [← hnx]
  have HNX := Lib.hid hnx
  have HC2 := Lib.hid (HN2.out w1 hb1)
  clear hnx lex okx anyx ownx hb1 HN1 HN2
  go_wp2_with fail
  refine HC2.out.mono ?_
  rintro e w2 ⟨Y, Ay, cy, oky, anyy, ley, rfl, owny, hb2⟩
  have HY := Lib.hid (spl_of_own owny)
  have HX2 := Lib.hid (HX.out.kept hb2)
  have HMY := Lib.hid anyy
  have HB2 := Lib.hid (HB1.out.trans (hb2.mono HB1.out.size))
  obtain ⟨ny, hny⟩ : ∃ n, n = Y.length := ⟨_, rfl⟩
  have hny9 : ny ≤ 900 := by omega
  rw [← hny]
  have HNY := Lib.hid hny
  clear hny ley oky anyy owny hb2 HB1 HC2 HX
  go_wp2_with fail
  have HO := Lib.hid (own_empty5 w2 (Nat.le_refl _))
  have HB := Lib.hid (below_alloc5 w2 (.cells #[] 34))
  obtain ⟨a0, ha0⟩ : ∃ a, a = w2.heap.size := ⟨_, rfl⟩
  rw [show (Value.slice (some ⟨w2.heap.size, 0, none⟩) 0 0) = .slice (some ⟨a0, 0, none⟩) 0 0 by rw [ha0]] at HO ⊢
  generalize w2.alloc (.cells #[] 34) = w4 at *
  clear ha0
  go_loopw [7, 8, 9] (fun v7 v8 _ wr => ∃ k cap' : Nat, ∃ A' : Option Addr, ∃ out : List Spn, k ≤ nx ∧ out.length ≤ k * 900 ∧ v8 = .int .i64 k ∧ v7 = .slice A' out.length cap' ∧ Hid (Below w2.heap.size w2 wr) ∧ Hid (out = pairsS (X.take k) Y) ∧ Hid (wr.ownsRow w2.heap.size 34 2 (.slice A' out.length cap') out.length (spCells out))) (fun _ i _ _ => nx - (intOf i).toNat)
  case atStart => exact ⟨0, 0, some ⟨a0, 0, none⟩, [], by omega, by simp, rfl, rfl, HB, Lib.hid rfl, HO⟩
  case round =>
    clear HB HO
    obtain ⟨k, cap', A', out, hk, hok, rfl, rfl, HB, HOUT, HO⟩ := hrel
    by_cases hlt : k < nx
    · obtain ⟨s, hget⟩ : ∃ s, X[k]? = some s := ⟨X[k]'(by have := HNX.out; omega), List.getElem?_eq_getElem _⟩
      have hki : (k : Int) < (nx : Int) := by omega
      have hki0 : (0 : Int) ≤ (k : Int) := by omega
      have HPT := Lib.hid (pairs_take hget Y)
      obtain ⟨gx, ox, rfl, hgx, hcx⟩ := HX2.out (by have := HNX.out; omega)
      have HSX := Lib.hid (fun w' (hb : Below w2.heap.size w2 w') => HX2.out.at_ hget hb)
      have HOUT0 := Lib.hid (show out = pairsS (X.take k) Y ++ pairsS [s] (Y.take 0) by rw [HOUT.out]; simp [pairsS])
      clear hcx hget HOUT
      go_wp2_with fail
      go_loopw [7, 9] (fun v7 v9 wr => ∃ q cap' : Nat, ∃ A' : Option Addr, ∃ out : List Spn, q ≤ ny ∧ out.length ≤ k * 900 + q ∧ v9 = .int .i64 q ∧ v7 = .slice A' out.length cap' ∧ Hid (Below w2.heap.size w2 wr) ∧ Hid (out = pairsS (X.take k) Y ++ pairsS [s] (Y.take q)) ∧ Hid (wr.ownsRow w2.heap.size 34 2 (.slice A' out.length cap') out.length (spCells out))) (fun _ i _ => ny - (intOf i).toNat)
      case atStart => exact ⟨0, cap', A', out, by omega, by omega, rfl, rfl, HB, HOUT0, HO⟩
      case round =>
        clear HB HO HOUT0 hok
        obtain ⟨q, cap', A', out, hq, hok, rfl, rfl, HB, HOUT, HO⟩ := hrel
        by_cases hqt : q < ny
        · obtain ⟨t, hgt⟩ : ∃ t, Y[q]? = some t := ⟨Y[q]'(by have := HNY.out; omega), List.getElem?_eq_getElem _⟩
          have hqi : (q : Int) < (ny : Int) := by omega
          have hqi0 : (0 : Int) ≤ (q : Int) := by omega
          have hp1 := pairs_one hgt s
          obtain ⟨gy, oy, rfl, hgy, hcy⟩ := HY.out (by have := HNY.out; omega)
          have HSY := Lib.hid (fun w' (hb : Below w2.heap.size w2 w') => HY.out.at_ hgt hb)
          obtain ⟨x0, x1⟩ := HSX.out wr HB.out
          obtain ⟨y0, y1⟩ := HSY.out wr HB.out
          obtain ⟨slo, shi⟩ := s
          obtain ⟨tlo, thi⟩ := t
          have hct := fun W => rcut_any slo shi tlo thi W
          simp only at hp1 x0 x1 y0 y1 hct HSX HSY
          have hout := HOUT.out
          generalize max slo tlo = p at *
          generalize min shi thi = r at *
          have HSN := Lib.hid (spCells_snoc out ⟨p, r⟩)
          obtain ⟨M, hM⟩ : ∃ M, M = out ++ [(⟨p, r⟩ : Spn)] := ⟨_, rfl⟩
          rw [← hM] at HSN
          have hMl : out.length + 1 = M.length := by rw [hM]; simp
          unfold spC at HSN
          simp only at HSN
          by_cases hpq : p ≤ r
          · have HCG := Lib.hid (show M = pairsS (X.take k) Y ++ pairsS [⟨slo, shi⟩] (Y.take (q + 1)) by rw [hp1, if_pos hpq, ← List.append_assoc, ← hout, hM])
            rw [show decide (p ≤ r) = true by simpa using hpq] at hct
            have HCT := Lib.hid hct
            have dpq : decide (p ≤ r) = true := by simpa using hpq
            clear hcy hgt hct hp1 hout hM HOUT
            go_wp2_with fail
            have ngx : gx ≠ wr.heap.size := by have := HB.out.size; omega
            have ngy : gy ≠ wr.heap.size := by have := HB.out.size; omega
            have mgx : wr.heap.size ≠ gx := by have := HB.out.size; omega
            have mgy : wr.heap.size ≠ gy := by have := HB.out.size; omega
            go_region_held3 (fun w' => w'.cell? ⟨gx, ox + k * 2, none⟩ = some (.int .i64 slo) ∧ w'.cell? ⟨gx, ox + k * 2 + 1, none⟩ = some (.int .i64 shi) ∧ w'.cell? ⟨gy, oy + q * 2, none⟩ = some (.int .i64 tlo) ∧ w'.cell? ⟨gy, oy + q * 2 + 1, none⟩ = some (.int .i64 thi)) (go_keep) (first
              | (go_at_call 35; refine (HCT.out _).mono ?_; rintro e w5 ⟨rfl, hb3d⟩; have hbz : Below (wr.alloc (.cells #[.int .i64 0, .int .i64 0] 34)).heap.size (wr.alloc (.cells #[.int .i64 0, .int .i64 0] 34)) w5 := ⟨hb3d.os, hb3d.tape, hb3d.output, hb3d.size, hb3d.block⟩; have hx5 := (sb2_new wr 0 0).kept hbz (alloc_lt5 wr _); have hb5 : Below w2.heap.size w2 w5 := (HB.out.alloc HB.out.size _).trans (hbz.mono (by simp; have := HB.out.size; omega)); have hbb : Below wr.heap.size wr w5 := (below_alloc5 wr _).trans (hbz.mono (by simp)); obtain ⟨j0, j1⟩ := HSX.out w5 hb5; obtain ⟨j2, j3⟩ := HSY.out w5 hb5; have e0 := hx5.c0; have e1 := hx5.c1; have f0 := hx5.f 0; have f1 := hx5.f 1)
              | (go_at_call 35; refine (HCT.out _).mono ?_; rintro e w5 ⟨rfl, hb3d⟩; have hbb : Below wr.heap.size wr w5 := ⟨hb3d.os, hb3d.tape, hb3d.output, hb3d.size, hb3d.block⟩; have hb5 : Below w2.heap.size w2 w5 := HB.out.trans (hbb.mono HB.out.size); obtain ⟨j0, j1⟩ := HSX.out w5 hb5; obtain ⟨j2, j3⟩ := HSY.out w5 hb5))
            · have HX6 := Lib.hid (sb2_new w5 p r)
              have HB6 := Lib.hid (hb5.alloc hb5.size (.cells #[.int .i64 p, .int .i64 r] 34))
              have HO6 := Lib.hid ((own_of_blocks5 HO.out (fun b _ hl => hbb.block b hl)).alloc (.cells #[.int .i64 p, .int .i64 r] 34))
              obtain ⟨bn, hbn⟩ : ∃ bn, bn = w5.heap.size := ⟨_, rfl⟩
              rw [← hbn] at HX6 ⊢
              generalize w5.alloc (.cells #[.int .i64 p, .int .i64 r] 34) = w6 at *
              clear hbn hb3d hbb hb5 j0 j1 j2 j3 x0 x1 y0 y1 HB HO ngx ngy mgx mgy
              have e0 := HX6.out.c0
              have e1 := HX6.out.c1
              have hsz := HB6.out.size
              go_wp2_with (at_builtin; refine wpList_append_lies _ rfl _ _ 22 rfl w2.heap.size 34 i0 (.agg #[.int .i64 0, .int .i64 0]) 2 16 Try.underlying22 hinf hz0 hz1 hz2 rfl (by omega) _ out.length (spCells out) rfl (HO6.out.alloc _) ⟨w6.heap.size, 0, none⟩ 1 1 [.int .i64 p, .int .i64 r] rfl rfl ?c1 ?c2 (by omega) ?c3 ?c4 ?c5 _ rfl ?_)
              case c1 => exact World.news_of_block (cs := #[.int .i64 p, .int .i64 r]) (t := 34) (fr := (0, 0)) (heap_alloc_new w6 _)
              case c2 => simp [Value.oneCell']
              case c3 => unfold maxLen; omega
              case c4 => omega
              case c5 => simp; omega
              intro g2 cap2 w7 hown7 hgrow hat hlt2
              have hB7 := (HB6.out.alloc hsz (.cells #[.int .i64 p, .int .i64 r] 34)).grown hgrow (by simp; omega) (fun j hj => (HO6.out.lt j hj).1)
              rw [← HSN.out] at hown7
              try rw [hMl] at hown7
              try rw [hMl]
              have HB7 := Lib.hid hB7
              have HO7 := Lib.hid hown7
              clear hB7 hown7 hgrow hat hlt2 HX6 HB6 HO6 e0 e1 hsz
              go_wp2_with fail
              go_roundw
              case rel => exact ⟨q + 1, cap2, some ⟨g2, 0, none⟩, M, by omega, by omega, by go_num, rfl, HB7, HCG, HO7⟩
              case measure => simp [intOf]; omega
            · have HX6 := Lib.hid (hx5.set p r)
              have HB6 := Lib.hid (sset_below hb5 HB.out.size p r)
              have HO6 := Lib.hid ((own_of_blocks5 HO.out (fun b _ hl => (sset_other p r (Nat.ne_of_lt hl)).trans (hbb.block b hl))))
              unfold sset at HX6 HB6 HO6
              generalize (w5.setCell ⟨wr.heap.size, 0, none⟩ (.int .i64 p)).setCell ⟨wr.heap.size, 1, none⟩ (.int .i64 r) = w6 at *
              obtain ⟨bn, hbn⟩ : ∃ bn, bn = wr.heap.size := ⟨_, rfl⟩
              rw [← hbn] at HX6 ⊢
              clear hbn hb3d hbz hx5 hbb hb5 j0 j1 j2 j3 x0 x1 y0 y1 HB HO e0 e1 f0 f1 ngx ngy mgx mgy
              have e0 := HX6.out.c0
              have e1 := HX6.out.c1
              have hsz := HB6.out.size
              go_wp2_with (at_builtin; refine wpList_append_lies _ rfl _ _ 22 rfl w2.heap.size 34 i0 (.agg #[.int .i64 0, .int .i64 0]) 2 16 Try.underlying22 hinf hz0 hz1 hz2 rfl (by omega) _ out.length (spCells out) rfl (HO6.out.alloc _) ⟨w6.heap.size, 0, none⟩ 1 1 [.int .i64 p, .int .i64 r] rfl rfl ?c1 ?c2 (by omega) ?c3 ?c4 ?c5 _ rfl ?_)
              case c1 => exact World.news_of_block (cs := #[.int .i64 p, .int .i64 r]) (t := 34) (fr := (0, 0)) (heap_alloc_new w6 _)
              case c2 => simp [Value.oneCell']
              case c3 => unfold maxLen; omega
              case c4 => omega
              case c5 => simp; omega
              intro g2 cap2 w7 hown7 hgrow hat hlt2
              have hB7 := (HB6.out.alloc hsz (.cells #[.int .i64 p, .int .i64 r] 34)).grown hgrow (by simp; omega) (fun j hj => (HO6.out.lt j hj).1)
              rw [← HSN.out] at hown7
              try rw [hMl] at hown7
              try rw [hMl]
              have HB7 := Lib.hid hB7
              have HO7 := Lib.hid hown7
              clear hB7 hown7 hgrow hat hlt2 HX6 HB6 HO6 e0 e1 hsz
              go_wp2_with fail
              go_roundw
              case rel => exact ⟨q + 1, cap2, some ⟨g2, 0, none⟩, M, by omega, by omega, by go_num, rfl, HB7, HCG, HO7⟩
              case measure => simp [intOf]; omega
          · have HCG := Lib.hid (show out = pairsS (X.take k) Y ++ pairsS [⟨slo, shi⟩] (Y.take (q + 1)) by rw [hp1, if_neg hpq, List.append_nil, ← hout])
            rw [show decide (p ≤ r) = false by simpa using hpq] at hct
            have HCT := Lib.hid hct
            clear hcy hgt hct hp1 hout hM HOUT hMl HSN
            go_wp2_with fail
            have ngx : gx ≠ wr.heap.size := by have := HB.out.size; omega
            have ngy : gy ≠ wr.heap.size := by have := HB.out.size; omega
            have mgx : wr.heap.size ≠ gx := by have := HB.out.size; omega
            have mgy : wr.heap.size ≠ gy := by have := HB.out.size; omega
            go_region_held3 (fun w' => w'.cell? ⟨gx, ox + k * 2, none⟩ = some (.int .i64 slo) ∧ w'.cell? ⟨gx, ox + k * 2 + 1, none⟩ = some (.int .i64 shi) ∧ w'.cell? ⟨gy, oy + q * 2, none⟩ = some (.int .i64 tlo) ∧ w'.cell? ⟨gy, oy + q * 2 + 1, none⟩ = some (.int .i64 thi)) (go_keep) (first
              | (go_at_call 35; refine (HCT.out _).mono ?_; rintro e w5 ⟨rfl, hb3d⟩; have hbz : Below (wr.alloc (.cells #[.int .i64 0, .int .i64 0] 34)).heap.size (wr.alloc (.cells #[.int .i64 0, .int .i64 0] 34)) w5 := ⟨hb3d.os, hb3d.tape, hb3d.output, hb3d.size, hb3d.block⟩; have hx5 := (sb2_new wr 0 0).kept hbz (alloc_lt5 wr _); have hb5 : Below w2.heap.size w2 w5 := (HB.out.alloc HB.out.size _).trans (hbz.mono (by simp; have := HB.out.size; omega)); have hbb : Below wr.heap.size wr w5 := (below_alloc5 wr _).trans (hbz.mono (by simp)); obtain ⟨j0, j1⟩ := HSX.out w5 hb5; obtain ⟨j2, j3⟩ := HSY.out w5 hb5; have e0 := hx5.c0; have e1 := hx5.c1; have f0 := hx5.f 0; have f1 := hx5.f 1)
              | (go_at_call 35; refine (HCT.out _).mono ?_; rintro e w5 ⟨rfl, hb3d⟩; have hbb : Below wr.heap.size wr w5 := ⟨hb3d.os, hb3d.tape, hb3d.output, hb3d.size, hb3d.block⟩; have hb5 : Below w2.heap.size w2 w5 := HB.out.trans (hbb.mono HB.out.size); obtain ⟨j0, j1⟩ := HSX.out w5 hb5; obtain ⟨j2, j3⟩ := HSY.out w5 hb5))
            · have HX6 := Lib.hid (sb2_new w5 p r)
              have HB6 := Lib.hid (hb5.alloc hb5.size (.cells #[.int .i64 p, .int .i64 r] 34))
              have HO6 := Lib.hid ((own_of_blocks5 HO.out (fun b _ hl => hbb.block b hl)).alloc (.cells #[.int .i64 p, .int .i64 r] 34))
              obtain ⟨bn, hbn⟩ : ∃ bn, bn = w5.heap.size := ⟨_, rfl⟩
              rw [← hbn] at HX6 ⊢
              generalize w5.alloc (.cells #[.int .i64 p, .int .i64 r] 34) = w6 at *
              clear hbn hb3d hbb hb5 j0 j1 j2 j3 x0 x1 y0 y1 HB HO ngx ngy mgx mgy
              go_wp2_with fail
              go_roundw
              case rel => exact ⟨q + 1, cap', A', out, by omega, by omega, by go_num, rfl, HB6, HCG, HO6⟩
              case measure => simp [intOf]; omega
            · have HX6 := Lib.hid (hx5.set p r)
              have HB6 := Lib.hid (sset_below hb5 HB.out.size p r)
              have HO6 := Lib.hid ((own_of_blocks5 HO.out (fun b _ hl => (sset_other p r (Nat.ne_of_lt hl)).trans (hbb.block b hl))))
              unfold sset at HX6 HB6 HO6
              generalize (w5.setCell ⟨wr.heap.size, 0, none⟩ (.int .i64 p)).setCell ⟨wr.heap.size, 1, none⟩ (.int .i64 r) = w6 at *
              obtain ⟨bn, hbn⟩ : ∃ bn, bn = wr.heap.size := ⟨_, rfl⟩
              rw [← hbn] at HX6 ⊢
              clear hbn hb3d hbz hx5 hbb hb5 j0 j1 j2 j3 x0 x1 y0 y1 HB HO e0 e1 f0 f1 ngx ngy mgx mgy
              go_wp2_with fail
              go_roundw
              case rel => exact ⟨q + 1, cap', A', out, by omega, by omega, by go_num, rfl, HB6, HCG, HO6⟩
              case measure => simp [intOf]; omega
        · have hqn : q = Y.length := by have := HNY.out; omega
          have HE := Lib.hid (show out = pairsS (X.take (k + 1)) Y by rw [HPT.out, HOUT.out, hqn, List.take_length])
          have hd : decide ((q : Int) < (ny : Int)) = false := by simp; omega
          clear hqn HOUT
          go_wp2_with fail
          go_roundw
          case rel => exact ⟨k + 1, cap', A', out, by omega, by omega, by go_num, rfl, HB, HE, HO⟩
          case measure => simp [intOf]; omega
    · have hkn : k = X.length := by have := HNX.out; omega
      obtain ⟨P, hP⟩ : ∃ P, P = out := ⟨_, rfl⟩
      have HE := Lib.hid (show ∀ m, memS 4294967296 out m = (memS 4294967296 a m && memS 4294967296 b m) from fun m => by
        have h1 : anyS out m = (memS 4294967296 a m && memS 4294967296 b m) := by rw [HOUT.out, hkn, List.take_length, pairs_any, HMX.out, HMY.out]
        unfold memS at h1 ⊢
        rw [h1]
        cases decide (0 ≤ m) <;> cases decide (m ≤ 4294967296) <;> simp)
      have hk9 : k * 900 ≤ 810000 := by omega
      have HLO := Lib.hid (show out.length ≤ 810000 by omega)
      have HC := Lib.hid (rnormal_any A' cap' out wr (spl_of_own HO.out) (by omega))
      have HB9 := Lib.hid (HB2.out.trans (HB.out.mono HB2.out.size))
      have hd : decide ((k : Int) < (nx : Int)) = false := by simp; omega
      clear hkn HOUT hP
      go_wp2_with fail
      refine HC.out.mono ?_
      intro e w5 hset
      obtain ⟨L, A5, c5, g1, g2, g3, rfl, g5, g6⟩ := SetP.back HB9.out hset HE.out HLO.out
      go_wp2_with fail
      go_ret
      exact ⟨L, A5, c5, g1, g2, g3, rfl, g5, g6⟩

set_option maxRecDepth 20000 in
theorem rminus_any (A1 A2 : Option Addr) (c1 c2 : Nat) (a b : List Spn) (w : World) (h1 : SpL w A1 a) (h2 : SpL w A2 b) (hl1 : a.length ≤ 900) (hl2 : b.length ≤ 899) :
    Calls Try.prog 27 #[.slice A1 a.length c1, .slice A2 b.length c2] w (SetP w (fun m => memS 4294967296 a m && !memS 4294967296 b m) 810000) := by
  have HC := Lib.hid (rcomp_any A2 c2 b 0 4294967296 w h2 (by omega))
  have HI := Lib.hid (fun (w1 : World) (A : Option Addr) (c : Nat) (L : List Spn) (hb : Below w.heap.size w w1) (hL : SpL w1 A L) (hl : L.length ≤ 900) => rinter_any A1 A c1 c a L w1 (h1.kept hb) hL hl1 hl)
  obtain ⟨la, hla⟩ : ∃ n, n = a.length := ⟨_, rfl⟩
  obtain ⟨lb, hlb⟩ : ∃ n, n = b.length := ⟨_, rfl⟩
  rw [← hla] at HI ⊢
  rw [← hlb] at HC ⊢
  have hs2 : lb ≤ 899 := by omega
  clear h1 h2 hl1 hl2 hla hlb
  go_enter Try.func27, Try.ntmps27
  go_wp2_with fail
  refine HC.out.mono ?_
  rintro e w1 ⟨L, A, c, ok, any, le, rfl, own, hb⟩
  have HB := Lib.hid hb
  have HF := Lib.hid (show ∀ m, (memS 4294967296 a m && memS 4294967296 L m) = (memS 4294967296 a m && !memS 4294967296 b m) from fun m => by
    have hany : anyS L m = (decide (max 0 0 ≤ m) && decide (m ≤ min 4294967296 4294967296) && !memS 4294967296 b m) := any m
    rw [okL_mem ok, hany]
    cases ha : memS 4294967296 a m with
    | false => rfl
    | true =>
      have := memS_in ha
      rw [show decide (max 0 0 ≤ m) = true by simp; omega, show decide (m ≤ min 4294967296 4294967296) = true by simp; omega]
      rfl)
  have HI2 := Lib.hid (HI.out w1 A c L hb (spl_of_own own) (by omega))
  obtain ⟨nl, hnl⟩ : ∃ n, n = L.length := ⟨_, rfl⟩
  rw [← hnl] at HI2 ⊢
  clear HI HC ok any le own hb hnl
  go_wp2_with fail
  refine HI2.out.mono ?_
  intro e w5 hset
  obtain ⟨L2, A5, c5, g1, g2, g3, rfl, g5, g6⟩ := SetP.back HB.out hset HF.out (Nat.le_refl _)
  go_wp2_with fail
  go_ret
  exact ⟨L2, A5, c5, g1, g2, g3, rfl, g5, g6⟩

/-- What Subset answers: has the difference no number? -/
def SubP (w : World) (f : Int → Bool) (e : Ending) (w' : World) : Prop :=
  ∃ L : List Spn, okL 4294967296 0 L ∧ (∀ m, anyS L m = f m) ∧ e = .returned (.bool (decide (L.length = 0))) ∧ Below w.heap.size w w'
set_option maxRecDepth 20000 in
theorem rsubset_any (A1 A2 : Option Addr) (c1 c2 : Nat) (a b : List Spn) (w : World) (h1 : SpL w A1 a) (h2 : SpL w A2 b) (hl1 : a.length ≤ 900) (hl2 : b.length ≤ 899) :
    Calls Try.prog 21 #[.slice A1 a.length c1, .slice A2 b.length c2] w (SubP w (fun m => memS 4294967296 a m && !memS 4294967296 b m)) := by
  have HC := Lib.hid (rminus_any A1 A2 c1 c2 a b w h1 h2 hl1 hl2)
  generalize a.length = la at *
  generalize b.length = lb at *
  clear h1 h2 hl1 hl2
  go_enter Try.func21, Try.ntmps21
  go_wp2_with fail
  refine HC.out.mono ?_
  rintro e w1 ⟨L, A, c, ok, any, le, rfl, own, hb⟩
  have HF := Lib.hid (And.intro ok (And.intro any hb))
  obtain ⟨R, hR⟩ : ∃ R, R = decide (L.length = 0) := ⟨_, rfl⟩
  have HR := Lib.hid hR
  obtain ⟨nl, hnl⟩ : ∃ n, n = L.length := ⟨_, rfl⟩
  rw [← hnl] at hR ⊢
  clear ok any own hb HC hnl
  by_cases h0 : nl = 0
  · obtain rfl : R = true := by rw [hR]; simpa using h0
    have d0 : ((nl : Int) == 0) = true := by simp; omega
    subst h0
    clear hR le
    go_wp2_with fail
    go_ret
    exact ⟨L, HF.out.1, HF.out.2.1, congrArg (fun x => Ending.returned (.bool x)) HR.out, HF.out.2.2⟩
  · obtain rfl : R = false := by rw [hR]; simpa using h0
    have d0 : ((nl : Int) == 0) = false := by simp; omega
    clear hR le
    go_wp2_with fail
    go_ret
    exact ⟨L, HF.out.1, HF.out.2.1, congrArg (fun x => Ending.returned (.bool x)) HR.out, HF.out.2.2⟩
end Go.Proofs.Ytlmjfbgigfmdhaa
