/- Contracts of the functions, part 43: Ip6PSpl. -/
import Derived.Deep.WholeRow
import Derived.Deep.Cut
import Derived.Lib.LazyBuf
import Derived.Test.YtjjldolafnfpoaaPE11
import Derived.Test.YtjjldolafnfpoaaPE20
import Derived.Test.YtjjldolafnfpoaaPE35
/- Contract of the program of layer 12: Split. -/
namespace Go.Proofs.Ytjjldolafnfpoaa
open Go.ChangeShapes Go.WideShapes Go.ChangeAt Go.RowKit
set_option linter.unusedVariables false

/-- New headers. -/
def NewX (l : List OpR) (w : World) (e : Ending) (w' : World) : Prop :=
  ∃ A c, e = .returned (.slice A l.length c) ∧ RowL EOpt w' A l ∧ (A = none → c = 0) ∧ (∀ b, A = some b → w.heap.size ≤ b.block) ∧ Below w.heap.size w w'
set_option maxHeartbeats 4000000 in
set_option maxRecDepth 20000 in
theorem pclone12_any (A : Option Addr) (c : Nat) (l : List OpR) (w : World) (h : RowL EOpt w A l) (hl : l.length ≤ 1000) :
    Calls Try.prog 39 #[.slice A l.length c] w (NewX l w) := by
  cases A with
  | none =>
    have hl0 : l = [] := by
      cases l with
      | nil => rfl
      | cons y r =>
        obtain ⟨g, o, e, _⟩ := h (by simp)
        cases e
    subst hl0
    have qT : ∀ W, (binOp .eql 26 (.slice none 0 c) (.slice none 0 0)).run Try.prog W = .ok (.bool true) W := fun W => run_eql_slice_nil W _ _ none 0 c Try.underlying26
    simp only [List.length_nil]
    go_enter Try.func39, Try.ntmps39
    go_wp2_with fail
    go_ret
    exact ⟨none, 0, rfl, RowL.nil _ _, fun _ => rfl, fun b hb => (by cases hb), Below.refl _ _⟩
  | some ad =>
    obtain ⟨n, hn⟩ : ∃ n, n = l.length := ⟨_, rfl⟩
    rw [← hn] at hl ⊢
    have qT : ∀ W, (binOp .eql 26 (.slice (some ad) n c) (.slice none 0 0)).run Try.prog W = .ok (.bool false) W := fun W => run_eql_slice_nil W _ _ (some ad) n c Try.underlying26
    have HN := Lib.hid hn
    have HB := Lib.hid (below_alloc6 w (.cells #[] 59))
    have HS := Lib.hid (h.kept HB.out)
    have HO := Lib.hid (own_empty EOpt w 59 (Nat.le_refl w.heap.size))
    clear hn h
    go_enter Try.func39, Try.ntmps39
    go_wp2_with (at_builtin; refine wpList_cat (E := EOpt) extTy (by rfl) _ _ (by rfl) w.heap.size _ 0 [] l (by rfl) HO.out (some ad) n c (by rfl) HN.out (fun h => by cases h) HS.out (by omega) (by decide) HB.out.size ?_)
    intro A' c' w' hown hgr
    try simp only [Nat.zero_add, List.nil_append] at hown
    try simp only [Nat.zero_add]
    have HF := Lib.hid (show NewX l w (.returned (.slice A' l.length c')) w' from ⟨A', c', rfl, rowl_of_own (E := EOpt) hown HN.out, fun hA => by subst hA; exact (own_none hown).2, fun b hb => (own_blk_in hown b.block (by rw [hb]; rfl)).1,
      ((HB.out).grown hgr HB.out.size (fun j hj => by have := (own_blk_in HO.out _ hj).1; exact this))⟩)
    rw [← HN.out] at HF
    clear hown hgr
    go_wp2_with fail
    go_ret
    exact HF.out
/-- The headers of the parts: rows of their own, apart from the list's own block. -/
def ExtIn (w : World) (v : Value) (es : List Ip6E) : Prop :=
  ∀ x ∈ es, (x.2.1 = none → x.2.2 = 0) ∧ RowL EOpt w x.2.1 x.1.exts ∧ (0 < x.1.exts.length → ∀ a, x.2.1 = some a → v.ownBlock ≠ some a.block)
theorem ExtIn.nil (w : World) (v : Value) : ExtIn w v [] := fun x hx => by cases hx
theorem ExtIn.push {w w1 w3 : World} {v : Value} {es : List Ip6E} {x : Ip6E} {o : Obj} {g n c : Nat} (h : ExtIn w v es) (hj : ∀ j, v.ownBlock = some j → j < w.heap.size) (hb : Below w.heap.size w w1)
    (h0 : x.2.1 = none → x.2.2 = 0) (hr : RowL EOpt w1 x.2.1 x.1.exts) (hf : ∀ a, x.2.1 = some a → w.heap.size ≤ a.block)
    (hg : (w1.alloc o).grownBy w3 v.ownBlock) (hat : v.ownBlock = some g ∨ g = (w1.alloc o).heap.size) : ExtIn w3 (.slice (some ⟨g, 0, none⟩) n c) (es ++ [x]) := by
  have hz : (w1.alloc o).heap.size = w1.heap.size + 1 := by simp
  have hb2 := below_alloc6 w1 o
  have hsz := hb.size
  have hnew : ∀ a : Addr, v.ownBlock ≠ some a.block → a.block < w1.heap.size → (Value.slice (some ⟨g, 0, none⟩) n c).ownBlock ≠ some a.block := fun a h1 h2 e => by
    have e' : g = a.block := Option.some.inj e
    rcases hat with h3 | h3
    · exact h1 (by rw [h3, e'])
    · omega
  have hlt : ∀ {W : World} {A : Option Addr} {l : List OpR}, RowL EOpt W A l → 0 < l.length → ∀ a, A = some a → a.block < W.heap.size := fun h hp a ha => by
    obtain ⟨g', o', e, hl, _⟩ := h hp
    rw [ha] at e
    rw [Option.some.inj e]
    exact hl
  intro y hy
  rcases List.mem_append.1 hy with hy | hy
  · obtain ⟨h1, h2, h3⟩ := h y hy
    refine ⟨h1, ?_, fun hp a ha => hnew a (h3 hp a ha) (by have := hlt h2 hp a ha; omega)⟩
    intro hp
    exact (((h2.kept hb).kept hb2).only hg (fun a ha e => h3 hp a ha e.symm)) hp
  · obtain rfl := List.mem_singleton.1 hy
    have hne : ∀ a, y.2.1 = some a → v.ownBlock ≠ some a.block := fun a ha e => by
      have h1 := hj _ e
      have h2 := hf a ha
      omega
    exact ⟨h0, (hr.kept hb2).only hg (fun a ha e => hne a ha e.symm), fun hp a ha => hnew a (hne a ha) (hlt hr hp a ha)⟩
theorem SplT.next2 {p : Ip6R} {size : Nat} {id : Int} {Q : List Ip6R × Nat} {es : List Ip6E} {a : Nat} (h : SplT p size id Q es a) (ha : a = 0 ∨ a < p.pay.length) (he : (encX (partA p size id a)).2 = 0) (hs : 1 ≤ size) {x : Ip6E} (hx : x.1 = partA p size id a) : SplT p size id Q (es ++ [x]) (a + size) := by
  have h1 := h.next ha he hs hx
  by_cases hl : a + size < p.pay.length
  · rwa [show max (min size (p.pay.length - a)) 1 = size by omega] at h1
  · exact ⟨fun hr => absurd hr (by omega), fun _ => h1.2 (by omega)⟩
set_option maxHeartbeats 16000000 in
set_option maxRecDepth 100000 in
theorem psplit12_any (cls lab hops nxt id off : Int) (sv dv frg more : Bool) (sh sl dh dl : Nat) (l : List OpR) (pay : List UInt8) (size id2 : Int) (A : Option Addr) (c : Nat) (w : World) (h : RowL EOpt w A l) (hl : l.length ≤ 1000) (hd : ∀ x ∈ l, x.dat.length ≤ 4611686018427387904) (hp : pay.length ≤ 900000) (hs1 : size ≤ 9223372036854775807) :
    Calls Try.prog 17 #[.agg #[.int .i64 cls, .int .i64 lab, .int .i64 hops, .int .i64 nxt, .bool sv, .int .u64 (sh : Int), .int .u64 (sl : Int), .bool dv, .int .u64 (dh : Int), .int .u64 (dl : Int), .slice A l.length c, .bool frg, .int .i64 id, .int .i64 off, .bool more, .string (str pay)], .int .i64 size, .int .i64 id2] w (SplP6 w (splitX (⟨cls, lab, hops, nxt, ⟨sv, sh, sl⟩, ⟨dv, dh, dl⟩, l, frg, id, off, more, pay⟩ : Ip6R) size id2)) := by
  obtain ⟨p, hpe⟩ : ∃ p, p = (⟨cls, lab, hops, nxt, ⟨sv, sh, sl⟩, ⟨dv, dh, dl⟩, l, frg, id, off, more, pay⟩ : Ip6R) := ⟨_, rfl⟩
  rw [← hpe]
  obtain ⟨Q, hR⟩ : ∃ Q, Q = splitX p size id2 := ⟨_, rfl⟩
  rw [← hR]
  have HRR := Lib.hid hR
  have HPE := Lib.hid hpe
  have HCK := Lib.hid (fun (W : World) (hb : Below w.heap.size w W) => pcheck12_cell cls lab hops nxt id off sv dv frg more sh sl dh dl l pay _ A c (str pay) p _ W hpe rfl rfl rfl (h.kept hb) hd hl (by omega))
  have HCP := Lib.hid (fun (o : Int) (m : Bool) (E : List UInt8) (hE : E.length ≤ 1000000) (A3 : Option Addr) (c3 : Nat) (W : World) (hr : RowL EOpt W A3 l) => pcheck12_cell cls lab hops nxt id2 o sv dv true m sh sl dh dl l E _ A3 c3 (str E) ⟨cls, lab, hops, nxt, ⟨sv, sh, sl⟩, ⟨dv, dh, dl⟩, l, true, id2, o, m, E⟩ _ W rfl rfl rfl rfl hr hd hl hE)
  have HCL := Lib.hid (fun (W : World) (hb : Below w.heap.size w W) => pclone12_any A c l W (h.kept hb) hl)
  obtain ⟨n, hnl⟩ : ∃ n, n = l.length := ⟨_, rfl⟩
  rw [← hnl] at hl HCK HCP HCL ⊢
  have HN := Lib.hid hnl
  obtain ⟨P, hP⟩ : ∃ P, P = str pay := ⟨_, rfl⟩
  have hPs : P.size = pay.length := by rw [hP, str_size]
  rw [← hP] at HCK ⊢
  have hP6 : P.size ≤ 900000 := by omega
  have HPP := Lib.hid (show P = str pay ∧ P.size = p.pay.length ∧ p.pay = pay from ⟨hP, by rw [hPs, hpe], by rw [hpe]⟩)
  obtain ⟨er, her⟩ : ∃ er, er = (encX p).2 := ⟨_, rfl⟩
  rw [← her] at HCK
  have HER := Lib.hid her
  clear hpe hR h hnl hP hPs hp hd her
  obtain ⟨W1, hW1⟩ : ∃ W, W = w.alloc (.cells #[.int .i64 cls, .int .i64 lab, .int .i64 hops, .int .i64 nxt, .bool sv, .int .u64 (sh : Int), .int .u64 (sl : Int), .bool dv, .int .u64 (dh : Int), .int .u64 (dl : Int), .slice A n c, .bool frg, .int .i64 id, .int .i64 off, .bool more, .string P] 28) := ⟨_, rfl⟩
  obtain ⟨g, hg⟩ : ∃ g, g = w.heap.size := ⟨_, rfl⟩
  have HX := Lib.hid (show Cells W1 g 28 #[.int .i64 cls, .int .i64 lab, .int .i64 hops, .int .i64 nxt, .bool sv, .int .u64 (sh : Int), .int .u64 (sl : Int), .bool dv, .int .u64 (dh : Int), .int .u64 (dl : Int), .slice A n c, .bool frg, .int .i64 id, .int .i64 off, .bool more, .string P] by rw [hW1, hg]; exact heap_alloc_new w _)
  have HB1 := Lib.hid (show Below w.heap.size w W1 by rw [hW1]; exact below_alloc6 w _)
  have HV := Lib.hid (fun (W : World) (hb : Below W1.heap.size W1 W) (i : Nat) (v : Value) (hv : (#[.int .i64 cls, .int .i64 lab, .int .i64 hops, .int .i64 nxt, .bool sv, .int .u64 (sh : Int), .int .u64 (sl : Int), .bool dv, .int .u64 (dh : Int), .int .u64 (dl : Int), .slice A n c, .bool frg, .int .i64 id, .int .i64 off, .bool more, .string P])[i]? = some v) => show W.cell? ⟨g, i, none⟩ = some v from box_cell HX.out hb i v hv)
  have HW := Lib.hid (fun (W : World) (hb : Below W1.heap.size W1 W) => HB1.out.trans (hb.mono HB1.out.size))
  have x0 := HV.out _ (Below.refl _ _) 0 (Value.int .i64 cls) rfl
  have x1 := HV.out _ (Below.refl _ _) 1 (Value.int .i64 lab) rfl
  have x2 := HV.out _ (Below.refl _ _) 2 (Value.int .i64 hops) rfl
  have x3 := HV.out _ (Below.refl _ _) 3 (Value.int .i64 nxt) rfl
  have x4 := HV.out _ (Below.refl _ _) 4 (Value.bool sv) rfl
  have x5 := HV.out _ (Below.refl _ _) 5 (Value.int .u64 (sh : Int)) rfl
  have x6 := HV.out _ (Below.refl _ _) 6 (Value.int .u64 (sl : Int)) rfl
  have x7 := HV.out _ (Below.refl _ _) 7 (Value.bool dv) rfl
  have x8 := HV.out _ (Below.refl _ _) 8 (Value.int .u64 (dh : Int)) rfl
  have x9 := HV.out _ (Below.refl _ _) 9 (Value.int .u64 (dl : Int)) rfl
  have x10 := HV.out _ (Below.refl _ _) 10 (Value.slice A n c) rfl
  have x11 := HV.out _ (Below.refl _ _) 11 (Value.bool frg) rfl
  have x12 := HV.out _ (Below.refl _ _) 12 (Value.int .i64 id) rfl
  have x13 := HV.out _ (Below.refl _ _) 13 (Value.int .i64 off) rfl
  have x14 := HV.out _ (Below.refl _ _) 14 (Value.bool more) rfl
  have x15 := HV.out _ (Below.refl _ _) 15 (Value.string P) rfl
  have HXX := HX
  go_enter Try.func17, Try.ntmps17
  go_upto_region 1 with fail
  rw [← hW1, ← hg]
  have HGW := Lib.hid (show g = w.heap.size ∧ g < W1.heap.size from ⟨hg, HX.out.lt⟩)
  clear hW1 hg
  go_wp2_with fail
  refine (HCK.out _ HB1.out).mono ?_
  rintro e w2 ⟨rfl, hb2⟩
  have HB2 := Lib.hid (show Below W1.heap.size W1 w2 from hb2)
  have HBW := Lib.hid (HW.out _ hb2)
  clear hb2 HCK x0 x1 x2 x3 x4 x5 x6 x7 x8 x9 x10 x11 x12 x13 x14 x15
  by_cases c2 : er ≠ 0
  · have HR := Lib.hid (show Q = ([], er) by rw [HRR.out]; unfold splitX; rw [← HER.out, if_pos c2])
    have m3 : ((er : Int) != 0) = true := by rw [bne_iff_ne]; omega
    have m4 : ¬ (er : Int) = 0 := by omega
    clear c2
    go_wp2_with fail
    go_ret2
    exact SplP6.err HR.out rfl HBW.out
  have he0 : er = 0 := by omega
  subst he0
  clear c2
  have HSP := Lib.hid (show Q = if size < 1 ∨ size % 8 ≠ 0 ∨ id2 < 0 ∨ 4294967296 ≤ id2 then ([], 4) else if p.frg = true then ([], 10) else partsX p size.toNat id2 (p.pay.length + 1) 0 by rw [HRR.out]; unfold splitX; rw [← HER.out, if_neg (by simp)])
  by_cases c3 : size ≤ 0
  · have HR := Lib.hid (show Q = ([], 4) by rw [HSP.out, if_pos (.inl (by omega))])
    have d3 : decide (size ≤ 0) = true := by simp; omega
    clear c3
    go_wp2_with fail
    go_ret2
    exact SplP6.err HR.out rfl HBW.out
  have d3 : decide (size ≤ 0) = false := by simp; omega
  have htm : size.tmod 8 = size % 8 := Int.tmod_eq_emod_of_nonneg (by omega)
  by_cases c4 : size % 8 ≠ 0
  · have HR := Lib.hid (show Q = ([], 4) by rw [HSP.out, if_pos (.inr (.inl c4))])
    have m1 : (size % 8 != 0) = true := by rw [bne_iff_ne]; exact c4
    have m2 : (size.tmod 8 != 0) = true := by rw [htm]; exact m1
    clear c4 htm c3
    go_wp2_with fail
    go_ret2
    exact SplP6.err HR.out rfl HBW.out
  have c4' : size % 8 = 0 := by omega
  have m1 : (size % 8 != 0) = false := by rw [bne_eq_false_iff_eq]; exact c4'
  have m2 : (size.tmod 8 != 0) = false := by rw [htm]; exact m1
  obtain ⟨q, hq⟩ : ∃ q : Bool, decide (0 ≤ id2 ∧ id2 ≤ 4294967295) = q := ⟨_, rfl⟩
  have HQQ := Lib.hid hq
  have HS8 := Lib.hid (show 8 ≤ size ∧ size % 8 = 0 by omega)
  have htm0 : size.tmod 8 = 0 := by rw [htm]; exact c4'
  clear hq c4 htm c3
  go_wp2_with fail
  refine (pupto12_any id2 4294967295 _).mono ?_
  rw [HQQ.out]
  rintro e w3 ⟨rfl, rfl⟩
  cases q
  · have HR := Lib.hid (show Q = ([], 4) by have h := of_decide_eq_false HQQ.out; rw [HSP.out, if_pos (by omega)])
    go_wp2_with fail
    go_ret2
    exact SplP6.err HR.out rfl HBW.out
  have HI := Lib.hid (of_decide_eq_true HQQ.out)
  have HNO := Lib.hid (show ¬ (size < 1 ∨ size % 8 ≠ 0 ∨ id2 < 0 ∨ 4294967296 ≤ id2) by have h1 := HI.out; have h2 := HS8.out; omega)
  have HFR := Lib.hid (show p.frg = frg by rw [HPE.out])
  cases frg
  rotate_left
  · have HR := Lib.hid (show Q = ([], 10) by rw [HSP.out, if_neg HNO.out, HFR.out]; rfl)
    have x11 := HV.out w2 HB2.out 11 (.bool true) rfl
    go_wp2_with fail
    go_ret2
    exact SplP6.err HR.out rfl HBW.out
  have HT0 := Lib.hid (show SplT p size.toNat id2 Q [] 0 from by rw [HRR.out]; exact SplT.start HER.out.symm HNO.out HFR.out)
  have x11 := HV.out w2 HB2.out 11 (.bool false) rfl
  obtain ⟨N, hN⟩ : ∃ N : Nat, size = (N : Int) := ⟨size.toNat, by have := HS8.out; omega⟩
  subst hN
  have HT1 := Lib.hid (show SplT p N id2 Q [] 0 by have := HT0.out; rwa [Int.toNat_natCast] at this)
  have hN8 : 8 ≤ N := by have := HS8.out; omega
  have hN63 : N ≤ 9223372036854775807 := by omega
  obtain ⟨B, hB⟩ : ∃ B, B = w2.heap.size := ⟨_, rfl⟩
  have HBE := Lib.hid hB
  have HO0 := Lib.hid (show w2.ownsRow B 28 16 (.slice none 0 0) 0 (EIp6.cells []) from World.ownsRow_nil _ _ _ _)
  have HBR0 := Lib.hid (show Below B w2 w2 from Below.refl _ _)
  have HGB := Lib.hid (show g < B by have h1 := HGW.out.2; have h2 := HB2.out.size; omega)
  clear HT0 hB d3 HSP HRR HER HQQ
  go_wp2_with fail
  clear m1 m2 htm0 c4'
  clear x11
  go_loopw [9, 10] (fun v9 v10 wr => ∃ (a m co : Nat) (Ao : Option Addr) (es : List Ip6E), v9 = .slice Ao m co ∧ v10 = .int .i64 (a : Int) ∧ a ≤ 9223372036854775807 ∧ (a = 0 ∨ N ≤ a) ∧ m * 8 ≤ a ∧ m ≤ 200000 ∧ Hid (m = es.length) ∧ Hid (SplT p N id2 Q es a) ∧ Hid (wr.ownsRow B 28 16 (.slice Ao m co) m (EIp6.cells es)) ∧ Hid (ExtIn wr (.slice Ao m co) es) ∧ Hid (Below B w2 wr)) (fun _ v10 _ => (1 - (intOf v10).toNat) + (P.size - (intOf v10).toNat))
  case atStart => exact ⟨0, 0, 0, none, [], rfl, rfl, by omega, .inl rfl, by omega, by omega, Lib.hid rfl, HT1, HO0, Lib.hid (ExtIn.nil _ _), HBR0⟩
  case round =>
    clear HO0 HBR0 HT1
    obtain ⟨a, m, co, Ao, es, rfl, rfl, ha63, haN, hma, hm2, HM, HT, HO, HI2, HB⟩ := hrel
    have hBr : B ≤ wr.heap.size := by have h1 := HBE.out; have h2 := HB.out.size; omega
    have HBR := Lib.hid (show Below W1.heap.size W1 wr from HB2.out.trans (HB.out.mono (by rw [HBE.out]; exact HB2.out.size)))
    have x15 := HV.out wr HBR.out 15 (.string P) rfl
    by_cases ht : a = 0 ∨ a < P.size
    · have HTP := Lib.hid (show a = 0 ∨ a < p.pay.length by rw [← HPP.out.2.1]; exact ht)
      have ha6 : a ≤ 900000 := by omega
      have has : a ≤ P.size := by omega
      have hdk : (((a : Int) == 0) = true ∧ a = 0 ∧ (a : Int) = 0) ∨ (((a : Int) == 0) = false ∧ ¬ (a : Int) = 0 ∧ decide ((a : Int) < (P.size : Int)) = true ∧ (a : Int) < (P.size : Int)) := by
        by_cases hz : a = 0
        · left; exact ⟨by rw [beq_iff_eq]; omega, hz, by omega⟩
        · right; exact ⟨by rw [beq_eq_false_iff_ne]; omega, by omega, by simp; omega, by omega⟩
      obtain ⟨en, hen⟩ : ∃ e, e = min (a + N) P.size := ⟨_, rfl⟩
      obtain ⟨ks, hks2⟩ : ∃ e, e = a + N := ⟨_, rfl⟩
      have hksi : (a : Int) + (N : Int) = (ks : Int) := by omega
      have hks63 : ks ≤ 9223372036854775807 := by omega
      have hmn : min (ks : Int) (P.size : Int) = (en : Int) := by omega
      have hken : a ≤ en := by omega
      have henP : en ≤ P.size := by omega
      have hkeni : (a : Int) ≤ (en : Int) := by omega
      have henPi : (en : Int) ≤ (P.size : Int) := by omega
      have hki0 : (0 : Int) ≤ (a : Int) := by omega
      have hex : P.extract a en = str ((pay.drop a).take (en - a)) := extract_str11 P pay HPP.out.1 a en
      obtain ⟨E, hE⟩ : ∃ E, E = str ((pay.drop a).take (en - a)) := ⟨_, rfl⟩
      rw [← hE] at hex
      obtain ⟨mb, hmb⟩ : ∃ b, b = decide (en < P.size) := ⟨_, rfl⟩
      have hmbi : decide ((en : Int) < (P.size : Int)) = mb := by rw [hmb]; by_cases hz : en < P.size <;> simp [hz]
      have hmbn : decide (en < P.size) = mb := hmb.symm
      obtain ⟨y, hy⟩ : ∃ y, y = partA p N id2 a := ⟨_, rfl⟩
      have hyx : y = ⟨cls, lab, hops, nxt, ⟨sv, sh, sl⟩, ⟨dv, dh, dl⟩, l, true, id2, (a : Int), mb, (pay.drop a).take (en - a)⟩ := by
        rw [hy]
        unfold partA partX
        rw [← HPP.out.2.1, HPP.out.2.2, HPE.out]
        have e1 : (pay.drop a).take N = (pay.drop a).take (en - a) := by
          have hl : pay.length = P.size := by rw [HPP.out.1, str_size]
          by_cases hz : a + N ≤ P.size
          · rw [show en - a = N by omega]
          · rw [List.take_of_length_le (by rw [List.length_drop]; omega), List.take_of_length_le (by rw [List.length_drop]; omega)]
        have e2 : decide (a + N < P.size) = mb := by
          rw [hmb]
          by_cases hz : a + N < P.size
          · rw [decide_eq_true hz, decide_eq_true (by omega)]
          · rw [decide_eq_false hz, decide_eq_false (by omega)]
        dsimp only
        rw [e1, e2]
      obtain ⟨e2, he2⟩ : ∃ e, e = (encX y).2 := ⟨_, rfl⟩
      have HCP2 := Lib.hid (fun (A3 : Option Addr) (c3 : Nat) (W : World) (hr : RowL EOpt W A3 l) => show Calls Try.prog 30 #[.agg #[.int .i64 cls, .int .i64 lab, .int .i64 hops, .int .i64 nxt, .bool sv, .int .u64 (sh : Int), .int .u64 (sl : Int), .bool dv, .int .u64 (dh : Int), .int .u64 (dl : Int), .slice A3 n c3, .bool true, .int .i64 id2, .int .i64 (a : Int), .bool mb, .string E]] W fun e w' => e = .returned (.int .i64 (e2 : Int)) ∧ Below W.heap.size W w' from by
        have := HCP.out (a : Int) mb ((pay.drop a).take (en - a)) (by rw [List.length_take]; omega) A3 c3 W hr
        rw [← hyx, ← he2, ← hE] at this
        exact this)
      have HYC := Lib.hid (fun (A3 : Option Addr) (c3 : Nat) => show EIp6.cells [(y, A3, c3)] = [.int .i64 cls, .int .i64 lab, .int .i64 hops, .int .i64 nxt, .bool sv, .int .u64 (sh : Int), .int .u64 (sl : Int), .bool dv, .int .u64 (dh : Int), .int .u64 (dl : Int), .slice A3 n c3, .bool true, .int .i64 id2, .int .i64 (a : Int), .bool mb, .string E] by
        rw [hE, HN.out, hyx, Enc.cells_one]
        rfl)
      have HYX := Lib.hid (show y.exts = l by rw [hyx])
      have HY := Lib.hid hy
      have HE2 := Lib.hid he2
      have HSM := Lib.hid hks2
      have x0 := HV.out wr HBR.out 0 (Value.int .i64 cls) rfl
      have x1 := HV.out wr HBR.out 1 (Value.int .i64 lab) rfl
      have x2 := HV.out wr HBR.out 2 (Value.int .i64 hops) rfl
      have x3 := HV.out wr HBR.out 3 (Value.int .i64 nxt) rfl
      have x4 := HV.out wr HBR.out 4 (Value.bool sv) rfl
      have x5 := HV.out wr HBR.out 5 (Value.int .u64 (sh : Int)) rfl
      have x6 := HV.out wr HBR.out 6 (Value.int .u64 (sl : Int)) rfl
      have x7 := HV.out wr HBR.out 7 (Value.bool dv) rfl
      have x8 := HV.out wr HBR.out 8 (Value.int .u64 (dh : Int)) rfl
      have x9 := HV.out wr HBR.out 9 (Value.int .u64 (dl : Int)) rfl
      have x10 := HV.out wr HBR.out 10 (Value.slice A n c) rfl
      have x11 := HV.out wr HBR.out 11 (Value.bool false) rfl
      have x12 := HV.out wr HBR.out 12 (Value.int .i64 id) rfl
      have x13 := HV.out wr HBR.out 13 (Value.int .i64 off) rfl
      have x14 := HV.out wr HBR.out 14 (Value.bool more) rfl
      obtain ⟨gp, hgp⟩ : ∃ q, q = wr.heap.size := ⟨_, rfl⟩
      obtain ⟨W5, hW5⟩ : ∃ W, W = wr.alloc (.cells #[.int .i64 cls, .int .i64 lab, .int .i64 hops, .int .i64 nxt, .bool sv, .int .u64 (sh : Int), .int .u64 (sl : Int), .bool dv, .int .u64 (dh : Int), .int .u64 (dl : Int), .slice A n c, .bool false, .int .i64 id, .int .i64 off, .bool more, .string P] 28) := ⟨_, rfl⟩
      have hb5 : Below wr.heap.size wr W5 := by rw [hW5]; exact below_alloc6 wr _
      have hP5 : Cells W5 gp 28 #[.int .i64 cls, .int .i64 lab, .int .i64 hops, .int .i64 nxt, .bool sv, .int .u64 (sh : Int), .int .u64 (sl : Int), .bool dv, .int .u64 (dh : Int), .int .u64 (dl : Int), .slice A n c, .bool false, .int .i64 id, .int .i64 off, .bool more, .string P] := by rw [hW5, hgp]; exact heap_alloc_new wr _
      have HP5 := Lib.hid hP5
      have HB5 := Lib.hid (HB.out.trans (hb5.mono hBr))
      have HBR5 := Lib.hid (HBR.out.trans (hb5.mono HBR.out.size))
      have hne : g ≠ gp := by have := HGB.out; omega
      have hne' : gp ≠ g := fun e => hne e.symm
      have HW5 := Lib.hid hW5
      have HGP := Lib.hid hgp.symm
      have HGPB := Lib.hid (show B ≤ gp by omega)
      have HX5 := Lib.hid (show Cells W5 g 28 #[.int .i64 cls, .int .i64 lab, .int .i64 hops, .int .i64 nxt, .bool sv, .int .u64 (sh : Int), .int .u64 (sl : Int), .bool dv, .int .u64 (dh : Int), .int .u64 (dl : Int), .slice A n c, .bool false, .int .i64 id, .int .i64 off, .bool more, .string P] from HXX.out.kept HBR5.out HXX.out.lt)
      have HBW5 := Lib.hid hb5
      clear hb5 hP5 hW5 hgp hen hks2 hE hmb hy hyx he2 ht HCP
      rcases hdk with ⟨q1, q2, q3⟩ | ⟨q1, q2, q3, q4⟩
      · clear q2 q3
        have q2 := trivial
        have q3 := trivial
        go_upto_region 14 with (refine wpList_store_row (by rfl) 28 _ _ (by rfl) wr.heap.size #[.int .i64 cls, .int .i64 lab, .int .i64 hops, .int .i64 nxt, .bool sv, .int .u64 (sh : Int), .int .u64 (sl : Int), .bool dv, .int .u64 (dh : Int), .int .u64 (dl : Int), .slice A n c, .bool false, .int .i64 id, .int .i64 off, .bool more, .string P] (by rfl) (by rfl) 28 #[.int .i64 0, .int .i64 0, .int .i64 0, .int .i64 0, .bool false, .int .u64 0, .int .u64 0, .bool false, .int .u64 0, .int .u64 0, .slice none 0 0, .bool false, .int .i64 0, .int .i64 0, .bool false, .string ⟨#[]⟩] (heap_alloc_new _ _) (by kernel_rfl) (by rfl) (by simp [Value.oneCell']) ?_; rw [World.setRow_alloc_new, ← HW5.out])
        rw [HGP.out]
        clear x0 x1 x2 x3 x4 x5 x6 x7 x8 x9 x10 x11 x12 x13 x14 x15
        have x10 := box_cell HX5.out (Below.refl _ _) 10 (.slice A n c) rfl
        go_wp2_with fail
        refine (HCL.out W5 (HW.out _ HBR5.out)).mono ?_
        rintro e w7 ⟨A3, c3, rfl, hrow, hn0, hnew, hb7⟩
        rw [← HN.out]
        have hM7 := HP5.out.kept hb7 HP5.out.lt
        have hX7 := HX5.out.kept hb7 HX5.out.lt
        have y10 := (Cells.cell hM7 10).trans (show _ = some (Value.slice A n c) from rfl)
        have z10 := Cells.frozen hM7 10
        have y11 := (Cells.cell hM7 11).trans (show _ = some (Value.bool false) from rfl)
        have z11 := Cells.frozen hM7 11
        have y12 := (Cells.cell hM7 12).trans (show _ = some (Value.int .i64 id) from rfl)
        have z12 := Cells.frozen hM7 12
        have y13 := (Cells.cell hM7 13).trans (show _ = some (Value.int .i64 off) from rfl)
        have z13 := Cells.frozen hM7 13
        have y14 := (Cells.cell hM7 14).trans (show _ = some (Value.bool more) from rfl)
        have z14 := Cells.frozen hM7 14
        have y15 := (Cells.cell hM7 15).trans (show _ = some (Value.string P) from rfl)
        have z15 := Cells.frozen hM7 15
        have hgp7 := hM7.lt
        have x15 := (Cells.cell hX7 15).trans (show _ = some (Value.string P) from rfl)
        have HM8 := Lib.hid (show Cells ((((((w7.setCell ⟨gp, 10, none⟩ (.slice A3 n c3)).setCell ⟨gp, 11, none⟩ (.bool true)).setCell ⟨gp, 12, none⟩ (.int .i64 id2)).setCell ⟨gp, 13, none⟩ (.int .i64 (a : Int))).setCell ⟨gp, 14, none⟩ (.bool mb)).setCell ⟨gp, 15, none⟩ (.string E)) gp 28 #[.int .i64 cls, .int .i64 lab, .int .i64 hops, .int .i64 nxt, .bool sv, .int .u64 (sh : Int), .int .u64 (sl : Int), .bool dv, .int .u64 (dh : Int), .int .u64 (dl : Int), .slice A3 n c3, .bool true, .int .i64 id2, .int .i64 (a : Int), .bool mb, .string E] from ((((((hM7.set 10 (.slice A3 n c3)).set 11 (.bool true)).set 12 (.int .i64 id2)).set 13 (.int .i64 (a : Int))).set 14 (.bool mb)).set 15 (.string E)))
        have hb8 : Below gp w7 ((((((w7.setCell ⟨gp, 10, none⟩ (.slice A3 n c3)).setCell ⟨gp, 11, none⟩ (.bool true)).setCell ⟨gp, 12, none⟩ (.int .i64 id2)).setCell ⟨gp, 13, none⟩ (.int .i64 (a : Int))).setCell ⟨gp, 14, none⟩ (.bool mb)).setCell ⟨gp, 15, none⟩ (.string E)) := ((((((Below.refl gp w7).setCell (p := ⟨gp, 10, none⟩) (Nat.le_refl _) _).setCell (p := ⟨gp, 11, none⟩) (Nat.le_refl _) _).setCell (p := ⟨gp, 12, none⟩) (Nat.le_refl _) _).setCell (p := ⟨gp, 13, none⟩) (Nat.le_refl _) _).setCell (p := ⟨gp, 14, none⟩) (Nat.le_refl _) _).setCell (p := ⟨gp, 15, none⟩) (Nat.le_refl _) _
        have hgp5 := HP5.out.lt
        have HBW8 := Lib.hid (show Below wr.heap.size wr ((((((w7.setCell ⟨gp, 10, none⟩ (.slice A3 n c3)).setCell ⟨gp, 11, none⟩ (.bool true)).setCell ⟨gp, 12, none⟩ (.int .i64 id2)).setCell ⟨gp, 13, none⟩ (.int .i64 (a : Int))).setCell ⟨gp, 14, none⟩ (.bool mb)).setCell ⟨gp, 15, none⟩ (.string E)) from (HBW5.out.trans (hb7.mono HBW5.out.size)).trans (hb8.mono (Nat.le_of_eq HGP.out)))
        have HB8 := Lib.hid (show Below B w2 ((((((w7.setCell ⟨gp, 10, none⟩ (.slice A3 n c3)).setCell ⟨gp, 11, none⟩ (.bool true)).setCell ⟨gp, 12, none⟩ (.int .i64 id2)).setCell ⟨gp, 13, none⟩ (.int .i64 (a : Int))).setCell ⟨gp, 14, none⟩ (.bool mb)).setCell ⟨gp, 15, none⟩ (.string E)) from (HB5.out.trans (hb7.mono (by have h1 := HGPB.out; omega))).trans (hb8.mono HGPB.out))
        have hrow8 : RowL EOpt ((((((w7.setCell ⟨gp, 10, none⟩ (.slice A3 n c3)).setCell ⟨gp, 11, none⟩ (.bool true)).setCell ⟨gp, 12, none⟩ (.int .i64 id2)).setCell ⟨gp, 13, none⟩ (.int .i64 (a : Int))).setCell ⟨gp, 14, none⟩ (.bool mb)).setCell ⟨gp, 15, none⟩ (.string E)) A3 l := hrow.blocks (fun b hb => by have := hnew b hb; exact ((Below.heap_setCell (((((w7.setCell ⟨gp, 10, none⟩ (.slice A3 n c3)).setCell ⟨gp, 11, none⟩ (.bool true)).setCell ⟨gp, 12, none⟩ (.int .i64 id2)).setCell ⟨gp, 13, none⟩ (.int .i64 (a : Int))).setCell ⟨gp, 14, none⟩ (.bool mb)) ⟨gp, 15, none⟩ (.string E) b.block (by simp only; omega)).trans ((Below.heap_setCell ((((w7.setCell ⟨gp, 10, none⟩ (.slice A3 n c3)).setCell ⟨gp, 11, none⟩ (.bool true)).setCell ⟨gp, 12, none⟩ (.int .i64 id2)).setCell ⟨gp, 13, none⟩ (.int .i64 (a : Int))) ⟨gp, 14, none⟩ (.bool mb) b.block (by simp only; omega)).trans ((Below.heap_setCell (((w7.setCell ⟨gp, 10, none⟩ (.slice A3 n c3)).setCell ⟨gp, 11, none⟩ (.bool true)).setCell ⟨gp, 12, none⟩ (.int .i64 id2)) ⟨gp, 13, none⟩ (.int .i64 (a : Int)) b.block (by simp only; omega)).trans ((Below.heap_setCell ((w7.setCell ⟨gp, 10, none⟩ (.slice A3 n c3)).setCell ⟨gp, 11, none⟩ (.bool true)) ⟨gp, 12, none⟩ (.int .i64 id2) b.block (by simp only; omega)).trans ((Below.heap_setCell (w7.setCell ⟨gp, 10, none⟩ (.slice A3 n c3)) ⟨gp, 11, none⟩ (.bool true) b.block (by simp only; omega)).trans (Below.heap_setCell w7 ⟨gp, 10, none⟩ (.slice A3 n c3) b.block (by simp only; omega))))))))
        have HRO8 := Lib.hid hrow8
        have HNW := Lib.hid (show ∀ b, A3 = some b → wr.heap.size ≤ b.block from fun b hb => by have h1 := hnew b hb; have h3 := HGP.out; omega)
        have HN0 := Lib.hid hn0
        have HYC2 := Lib.hid (HYC.out A3 c3)
        have HXN := Lib.hid (And.intro hne hne')
        clear hrow hn0 hnew hb7 hM7 hX7 HYC x10 hb8 hrow8 hgp5 HCL
        go_upto_region 18 with fail
        obtain ⟨W8, hW8⟩ : ∃ W, W = ((((((w7.setCell ⟨gp, 10, none⟩ (.slice A3 n c3)).setCell ⟨gp, 11, none⟩ (.bool true)).setCell ⟨gp, 12, none⟩ (.int .i64 id2)).setCell ⟨gp, 13, none⟩ (.int .i64 (a : Int))).setCell ⟨gp, 14, none⟩ (.bool mb)).setCell ⟨gp, 15, none⟩ (.string E)) := ⟨_, rfl⟩
        rw [← hW8] at HM8 HBW8 HB8 HRO8
        rw [← hW8]
        clear hW8 y10 z10 y11 z11 y12 z12 y13 z13 y14 z14 y15 z15 x15 hgp7 hne hne' q1 q2 q3 hmbi hmbn hex
        go_wp2_with (refine wpList_load_row (by rfl) 28 _ (by rfl) gp (by rfl) 28 #[.int .i64 cls, .int .i64 lab, .int .i64 hops, .int .i64 nxt, .bool sv, .int .u64 (sh : Int), .int .u64 (sl : Int), .bool dv, .int .u64 (dh : Int), .int .u64 (dl : Int), .slice A3 n c3, .bool true, .int .i64 id2, .int .i64 (a : Int), .bool mb, .string E] (0, 0) _ HM8.out Try.underlying28 (by rfl) (by kernel_rfl) ?_)
        refine (HCP2.out A3 c3 W8 HRO8.out).mono ?_
        rintro e w9 ⟨rfl, hb9⟩
        have HM9 := Lib.hid (HM8.out.kept hb9 HM8.out.lt)
        have HB9 := Lib.hid (HB8.out.trans (hb9.mono (by have h1 := HM8.out.lt; have h2 := HGPB.out; omega)))
        have HBW9 := Lib.hid (HBW8.out.trans (hb9.mono HBW8.out.size))
        have HRO9 := Lib.hid (HRO8.out.kept hb9)
        have HBF := Lib.hid (HW.out _ (HB2.out.trans (HB9.out.mono (by rw [HBE.out]; exact HB2.out.size))))
        clear hb9 HM8 HB8 HBW8 HRO8 HCP2
        by_cases c9 : e2 ≠ 0
        · have HR := Lib.hid (show Q = ([], e2) by
            have h1 := HT.out.err HTP.out (by rw [← HY.out, ← HE2.out]; exact c9)
            rw [← HY.out, ← HE2.out] at h1
            exact h1)
          have m3 : ((e2 : Int) != 0) = true := by rw [bne_iff_ne]; omega
          have m4 : ¬ (e2 : Int) = 0 := by omega
          clear c9
          go_wp2_with fail
          go_ret2
          exact SplP6.err HR.out rfl HBF.out
        have m3 : ((e2 : Int) != 0) = false := by rw [bne_eq_false_iff_eq]; omega
        have m4 : (e2 : Int) = 0 := by omega
        have HE0 := Lib.hid (show (encX (partA p N id2 a)).2 = 0 by rw [← HY.out, ← HE2.out]; omega)
        have HO9 := Lib.hid (own_kept HO.out HBW9.out (Nat.le_refl _))
        have hm9 : m + 1 ≤ 1000000 := by omega
        have hbz : B ≤ w9.heap.size := by have h1 := HM9.out.lt; have h2 := HGPB.out; omega
        clear c9
        go_upto_region 21 with fail
        clear m3 m4
        go_wp2_with (first | (refine wpList_load_row (by rfl) 28 _ (by rfl) gp (by rfl) 28 #[.int .i64 cls, .int .i64 lab, .int .i64 hops, .int .i64 nxt, .bool sv, .int .u64 (sh : Int), .int .u64 (sl : Int), .bool dv, .int .u64 (dh : Int), .int .u64 (dl : Int), .slice A3 n c3, .bool true, .int .i64 id2, .int .i64 (a : Int), .bool mb, .string E] (0, 0) _ HM9.out Try.underlying28 (by rfl) (by kernel_rfl) ?_) | (at_builtin; refine wpList_push (E := EIp6) ips6Ty (by rfl) _ _ (by rfl) B _ m es [(y, A3, c3)] (by rfl) (HO9.out.alloc _) _ 1 1 #[.int .i64 cls, .int .i64 lab, .int .i64 hops, .int .i64 nxt, .bool sv, .int .u64 (sh : Int), .int .u64 (sl : Int), .bool dv, .int .u64 (dh : Int), .int .u64 (dl : Int), .slice A3 n c3, .bool true, .int .i64 id2, .int .i64 (a : Int), .bool mb, .string E] (0, 0) (by rfl) (heap_alloc_new _ _) HYC2.out.symm rfl (by omega) (by omega) (by decide) ?hb ?_))
        case hb => exact Nat.le_trans hbz (Nat.le_of_lt (alloc_lt6 _ _))
        intro g2 cap2 wz hown hgrow hat hlt2
        have HIZ := Lib.hid (ExtIn.push (x := (y, A3, c3)) (g := g2) (n := m + 1) (c := cap2) HI2.out (fun j hj => (own_blk_in HO.out j hj).2) HBW9.out HN0.out (by rw [HYX.out]; exact HRO9.out) HNW.out hgrow (hat.imp (fun h => h) (fun h => by rw [h]; simp)))
        have HBZ := Lib.hid (show Below B w2 wz from (HB9.out.alloc (by rw [HBE.out]; have := HB9.out.size; exact this) _).grown hgrow (by rw [HBE.out]; have := HB9.out.size; simp; omega) (fun j hj => (own_blk_in HO9.out _ hj).1))
        have HOZ := Lib.hid (show wz.ownsRow B 28 16 (.slice (some ⟨g2, 0, none⟩) (m + 1) cap2) (m + 1) (EIp6.cells (es ++ [(y, A3, c3)])) from hown)
        have HTZ := Lib.hid (show SplT p N id2 Q (es ++ [(y, A3, c3)]) ks by rw [HSM.out]; exact HT.out.next2 HTP.out HE0.out (by omega) HY.out)
        have HNZ := Lib.hid (show m + 1 = (es ++ [(y, A3, c3)]).length by rw [List.length_append, HM.out]; rfl)
        have HKS := Lib.hid (show N ≤ ks ∧ (m + 1) * 8 ≤ ks ∧ m + 1 ≤ 200000 by have := HSM.out; omega)
        clear hown hgrow hat hlt2 HI2 HO HO9 HBW9 HB9 HRO9 HNW HN0 HYC2 HM9 HM HT
        go_wp2_with fail
        go_roundw
        case rel => exact ⟨ks, m + 1, cap2, _, es ++ [(y, A3, c3)], rfl, rfl, hks63, .inr HKS.out.1, HKS.out.2.1, HKS.out.2.2, HNZ, HTZ, HOZ, HIZ, HBZ⟩
        case measure =>
          have h1 := HSM.out
          have h2 := HTP.out
          have h3 := HPP.out.2.1
          rw [← h3] at h2
          simp only [intOf, Int.toNat_natCast]
          have h4 := HKS.out.1
          omega
      · go_upto_region 14 with (refine wpList_store_row (by rfl) 28 _ _ (by rfl) wr.heap.size #[.int .i64 cls, .int .i64 lab, .int .i64 hops, .int .i64 nxt, .bool sv, .int .u64 (sh : Int), .int .u64 (sl : Int), .bool dv, .int .u64 (dh : Int), .int .u64 (dl : Int), .slice A n c, .bool false, .int .i64 id, .int .i64 off, .bool more, .string P] (by rfl) (by rfl) 28 #[.int .i64 0, .int .i64 0, .int .i64 0, .int .i64 0, .bool false, .int .u64 0, .int .u64 0, .bool false, .int .u64 0, .int .u64 0, .slice none 0 0, .bool false, .int .i64 0, .int .i64 0, .bool false, .string ⟨#[]⟩] (heap_alloc_new _ _) (by kernel_rfl) (by rfl) (by simp [Value.oneCell']) ?_; rw [World.setRow_alloc_new, ← HW5.out])
        rw [HGP.out]
        clear x0 x1 x2 x3 x4 x5 x6 x7 x8 x9 x10 x11 x12 x13 x14 x15
        have x10 := box_cell HX5.out (Below.refl _ _) 10 (.slice A n c) rfl
        go_wp2_with fail
        refine (HCL.out W5 (HW.out _ HBR5.out)).mono ?_
        rintro e w7 ⟨A3, c3, rfl, hrow, hn0, hnew, hb7⟩
        rw [← HN.out]
        have hM7 := HP5.out.kept hb7 HP5.out.lt
        have hX7 := HX5.out.kept hb7 HX5.out.lt
        have y10 := (Cells.cell hM7 10).trans (show _ = some (Value.slice A n c) from rfl)
        have z10 := Cells.frozen hM7 10
        have y11 := (Cells.cell hM7 11).trans (show _ = some (Value.bool false) from rfl)
        have z11 := Cells.frozen hM7 11
        have y12 := (Cells.cell hM7 12).trans (show _ = some (Value.int .i64 id) from rfl)
        have z12 := Cells.frozen hM7 12
        have y13 := (Cells.cell hM7 13).trans (show _ = some (Value.int .i64 off) from rfl)
        have z13 := Cells.frozen hM7 13
        have y14 := (Cells.cell hM7 14).trans (show _ = some (Value.bool more) from rfl)
        have z14 := Cells.frozen hM7 14
        have y15 := (Cells.cell hM7 15).trans (show _ = some (Value.string P) from rfl)
        have z15 := Cells.frozen hM7 15
        have hgp7 := hM7.lt
        have x15 := (Cells.cell hX7 15).trans (show _ = some (Value.string P) from rfl)
        have HM8 := Lib.hid (show Cells ((((((w7.setCell ⟨gp, 10, none⟩ (.slice A3 n c3)).setCell ⟨gp, 11, none⟩ (.bool true)).setCell ⟨gp, 12, none⟩ (.int .i64 id2)).setCell ⟨gp, 13, none⟩ (.int .i64 (a : Int))).setCell ⟨gp, 14, none⟩ (.bool mb)).setCell ⟨gp, 15, none⟩ (.string E)) gp 28 #[.int .i64 cls, .int .i64 lab, .int .i64 hops, .int .i64 nxt, .bool sv, .int .u64 (sh : Int), .int .u64 (sl : Int), .bool dv, .int .u64 (dh : Int), .int .u64 (dl : Int), .slice A3 n c3, .bool true, .int .i64 id2, .int .i64 (a : Int), .bool mb, .string E] from ((((((hM7.set 10 (.slice A3 n c3)).set 11 (.bool true)).set 12 (.int .i64 id2)).set 13 (.int .i64 (a : Int))).set 14 (.bool mb)).set 15 (.string E)))
        have hb8 : Below gp w7 ((((((w7.setCell ⟨gp, 10, none⟩ (.slice A3 n c3)).setCell ⟨gp, 11, none⟩ (.bool true)).setCell ⟨gp, 12, none⟩ (.int .i64 id2)).setCell ⟨gp, 13, none⟩ (.int .i64 (a : Int))).setCell ⟨gp, 14, none⟩ (.bool mb)).setCell ⟨gp, 15, none⟩ (.string E)) := ((((((Below.refl gp w7).setCell (p := ⟨gp, 10, none⟩) (Nat.le_refl _) _).setCell (p := ⟨gp, 11, none⟩) (Nat.le_refl _) _).setCell (p := ⟨gp, 12, none⟩) (Nat.le_refl _) _).setCell (p := ⟨gp, 13, none⟩) (Nat.le_refl _) _).setCell (p := ⟨gp, 14, none⟩) (Nat.le_refl _) _).setCell (p := ⟨gp, 15, none⟩) (Nat.le_refl _) _
        have hgp5 := HP5.out.lt
        have HBW8 := Lib.hid (show Below wr.heap.size wr ((((((w7.setCell ⟨gp, 10, none⟩ (.slice A3 n c3)).setCell ⟨gp, 11, none⟩ (.bool true)).setCell ⟨gp, 12, none⟩ (.int .i64 id2)).setCell ⟨gp, 13, none⟩ (.int .i64 (a : Int))).setCell ⟨gp, 14, none⟩ (.bool mb)).setCell ⟨gp, 15, none⟩ (.string E)) from (HBW5.out.trans (hb7.mono HBW5.out.size)).trans (hb8.mono (Nat.le_of_eq HGP.out)))
        have HB8 := Lib.hid (show Below B w2 ((((((w7.setCell ⟨gp, 10, none⟩ (.slice A3 n c3)).setCell ⟨gp, 11, none⟩ (.bool true)).setCell ⟨gp, 12, none⟩ (.int .i64 id2)).setCell ⟨gp, 13, none⟩ (.int .i64 (a : Int))).setCell ⟨gp, 14, none⟩ (.bool mb)).setCell ⟨gp, 15, none⟩ (.string E)) from (HB5.out.trans (hb7.mono (by have h1 := HGPB.out; omega))).trans (hb8.mono HGPB.out))
        have hrow8 : RowL EOpt ((((((w7.setCell ⟨gp, 10, none⟩ (.slice A3 n c3)).setCell ⟨gp, 11, none⟩ (.bool true)).setCell ⟨gp, 12, none⟩ (.int .i64 id2)).setCell ⟨gp, 13, none⟩ (.int .i64 (a : Int))).setCell ⟨gp, 14, none⟩ (.bool mb)).setCell ⟨gp, 15, none⟩ (.string E)) A3 l := hrow.blocks (fun b hb => by have := hnew b hb; exact ((Below.heap_setCell (((((w7.setCell ⟨gp, 10, none⟩ (.slice A3 n c3)).setCell ⟨gp, 11, none⟩ (.bool true)).setCell ⟨gp, 12, none⟩ (.int .i64 id2)).setCell ⟨gp, 13, none⟩ (.int .i64 (a : Int))).setCell ⟨gp, 14, none⟩ (.bool mb)) ⟨gp, 15, none⟩ (.string E) b.block (by simp only; omega)).trans ((Below.heap_setCell ((((w7.setCell ⟨gp, 10, none⟩ (.slice A3 n c3)).setCell ⟨gp, 11, none⟩ (.bool true)).setCell ⟨gp, 12, none⟩ (.int .i64 id2)).setCell ⟨gp, 13, none⟩ (.int .i64 (a : Int))) ⟨gp, 14, none⟩ (.bool mb) b.block (by simp only; omega)).trans ((Below.heap_setCell (((w7.setCell ⟨gp, 10, none⟩ (.slice A3 n c3)).setCell ⟨gp, 11, none⟩ (.bool true)).setCell ⟨gp, 12, none⟩ (.int .i64 id2)) ⟨gp, 13, none⟩ (.int .i64 (a : Int)) b.block (by simp only; omega)).trans ((Below.heap_setCell ((w7.setCell ⟨gp, 10, none⟩ (.slice A3 n c3)).setCell ⟨gp, 11, none⟩ (.bool true)) ⟨gp, 12, none⟩ (.int .i64 id2) b.block (by simp only; omega)).trans ((Below.heap_setCell (w7.setCell ⟨gp, 10, none⟩ (.slice A3 n c3)) ⟨gp, 11, none⟩ (.bool true) b.block (by simp only; omega)).trans (Below.heap_setCell w7 ⟨gp, 10, none⟩ (.slice A3 n c3) b.block (by simp only; omega))))))))
        have HRO8 := Lib.hid hrow8
        have HNW := Lib.hid (show ∀ b, A3 = some b → wr.heap.size ≤ b.block from fun b hb => by have h1 := hnew b hb; have h3 := HGP.out; omega)
        have HN0 := Lib.hid hn0
        have HYC2 := Lib.hid (HYC.out A3 c3)
        have HXN := Lib.hid (And.intro hne hne')
        clear hrow hn0 hnew hb7 hM7 hX7 HYC x10 hb8 hrow8 hgp5 HCL
        go_upto_region 18 with fail
        obtain ⟨W8, hW8⟩ : ∃ W, W = ((((((w7.setCell ⟨gp, 10, none⟩ (.slice A3 n c3)).setCell ⟨gp, 11, none⟩ (.bool true)).setCell ⟨gp, 12, none⟩ (.int .i64 id2)).setCell ⟨gp, 13, none⟩ (.int .i64 (a : Int))).setCell ⟨gp, 14, none⟩ (.bool mb)).setCell ⟨gp, 15, none⟩ (.string E)) := ⟨_, rfl⟩
        rw [← hW8] at HM8 HBW8 HB8 HRO8
        rw [← hW8]
        clear hW8 y10 z10 y11 z11 y12 z12 y13 z13 y14 z14 y15 z15 x15 hgp7 hne hne' q1 q2 q3 hmbi hmbn hex
        go_wp2_with (refine wpList_load_row (by rfl) 28 _ (by rfl) gp (by rfl) 28 #[.int .i64 cls, .int .i64 lab, .int .i64 hops, .int .i64 nxt, .bool sv, .int .u64 (sh : Int), .int .u64 (sl : Int), .bool dv, .int .u64 (dh : Int), .int .u64 (dl : Int), .slice A3 n c3, .bool true, .int .i64 id2, .int .i64 (a : Int), .bool mb, .string E] (0, 0) _ HM8.out Try.underlying28 (by rfl) (by kernel_rfl) ?_)
        refine (HCP2.out A3 c3 W8 HRO8.out).mono ?_
        rintro e w9 ⟨rfl, hb9⟩
        have HM9 := Lib.hid (HM8.out.kept hb9 HM8.out.lt)
        have HB9 := Lib.hid (HB8.out.trans (hb9.mono (by have h1 := HM8.out.lt; have h2 := HGPB.out; omega)))
        have HBW9 := Lib.hid (HBW8.out.trans (hb9.mono HBW8.out.size))
        have HRO9 := Lib.hid (HRO8.out.kept hb9)
        have HBF := Lib.hid (HW.out _ (HB2.out.trans (HB9.out.mono (by rw [HBE.out]; exact HB2.out.size))))
        clear hb9 HM8 HB8 HBW8 HRO8 HCP2
        by_cases c9 : e2 ≠ 0
        · have HR := Lib.hid (show Q = ([], e2) by
            have h1 := HT.out.err HTP.out (by rw [← HY.out, ← HE2.out]; exact c9)
            rw [← HY.out, ← HE2.out] at h1
            exact h1)
          have m3 : ((e2 : Int) != 0) = true := by rw [bne_iff_ne]; omega
          have m4 : ¬ (e2 : Int) = 0 := by omega
          clear c9
          go_wp2_with fail
          go_ret2
          exact SplP6.err HR.out rfl HBF.out
        have m3 : ((e2 : Int) != 0) = false := by rw [bne_eq_false_iff_eq]; omega
        have m4 : (e2 : Int) = 0 := by omega
        have HE0 := Lib.hid (show (encX (partA p N id2 a)).2 = 0 by rw [← HY.out, ← HE2.out]; omega)
        have HO9 := Lib.hid (own_kept HO.out HBW9.out (Nat.le_refl _))
        have hm9 : m + 1 ≤ 1000000 := by omega
        have hbz : B ≤ w9.heap.size := by have h1 := HM9.out.lt; have h2 := HGPB.out; omega
        clear c9
        go_upto_region 21 with fail
        clear m3 m4
        go_wp2_with (first | (refine wpList_load_row (by rfl) 28 _ (by rfl) gp (by rfl) 28 #[.int .i64 cls, .int .i64 lab, .int .i64 hops, .int .i64 nxt, .bool sv, .int .u64 (sh : Int), .int .u64 (sl : Int), .bool dv, .int .u64 (dh : Int), .int .u64 (dl : Int), .slice A3 n c3, .bool true, .int .i64 id2, .int .i64 (a : Int), .bool mb, .string E] (0, 0) _ HM9.out Try.underlying28 (by rfl) (by kernel_rfl) ?_) | (at_builtin; refine wpList_push (E := EIp6) ips6Ty (by rfl) _ _ (by rfl) B _ m es [(y, A3, c3)] (by rfl) (HO9.out.alloc _) _ 1 1 #[.int .i64 cls, .int .i64 lab, .int .i64 hops, .int .i64 nxt, .bool sv, .int .u64 (sh : Int), .int .u64 (sl : Int), .bool dv, .int .u64 (dh : Int), .int .u64 (dl : Int), .slice A3 n c3, .bool true, .int .i64 id2, .int .i64 (a : Int), .bool mb, .string E] (0, 0) (by rfl) (heap_alloc_new _ _) HYC2.out.symm rfl (by omega) (by omega) (by decide) ?hb ?_))
        case hb => exact Nat.le_trans hbz (Nat.le_of_lt (alloc_lt6 _ _))
        intro g2 cap2 wz hown hgrow hat hlt2
        have HIZ := Lib.hid (ExtIn.push (x := (y, A3, c3)) (g := g2) (n := m + 1) (c := cap2) HI2.out (fun j hj => (own_blk_in HO.out j hj).2) HBW9.out HN0.out (by rw [HYX.out]; exact HRO9.out) HNW.out hgrow (hat.imp (fun h => h) (fun h => by rw [h]; simp)))
        have HBZ := Lib.hid (show Below B w2 wz from (HB9.out.alloc (by rw [HBE.out]; have := HB9.out.size; exact this) _).grown hgrow (by rw [HBE.out]; have := HB9.out.size; simp; omega) (fun j hj => (own_blk_in HO9.out _ hj).1))
        have HOZ := Lib.hid (show wz.ownsRow B 28 16 (.slice (some ⟨g2, 0, none⟩) (m + 1) cap2) (m + 1) (EIp6.cells (es ++ [(y, A3, c3)])) from hown)
        have HTZ := Lib.hid (show SplT p N id2 Q (es ++ [(y, A3, c3)]) ks by rw [HSM.out]; exact HT.out.next2 HTP.out HE0.out (by omega) HY.out)
        have HNZ := Lib.hid (show m + 1 = (es ++ [(y, A3, c3)]).length by rw [List.length_append, HM.out]; rfl)
        have HKS := Lib.hid (show N ≤ ks ∧ (m + 1) * 8 ≤ ks ∧ m + 1 ≤ 200000 by have := HSM.out; omega)
        clear hown hgrow hat hlt2 HI2 HO HO9 HBW9 HB9 HRO9 HNW HN0 HYC2 HM9 HM HT
        go_wp2_with fail
        go_roundw
        case rel => exact ⟨ks, m + 1, cap2, _, es ++ [(y, A3, c3)], rfl, rfl, hks63, .inr HKS.out.1, HKS.out.2.1, HKS.out.2.2, HNZ, HTZ, HOZ, HIZ, HBZ⟩
        case measure =>
          have h1 := HSM.out
          have h2 := HTP.out
          have h3 := HPP.out.2.1
          rw [← h3] at h2
          simp only [intOf, Int.toNat_natCast]
          have h4 := HKS.out.1
          omega
    · have q1 : ((a : Int) == 0) = false := by rw [beq_eq_false_iff_ne]; omega
      have q2 : ¬ (a : Int) = 0 := by omega
      have q3 : decide ((a : Int) < (P.size : Int)) = false := by simp; omega
      have q4 : ¬ (a : Int) < (P.size : Int) := by omega
      have HR := Lib.hid (HT.out.2 (by rw [← HPP.out.2.1]; exact ht))
      have HML := Lib.hid (show m = Q.1.length by rw [HR.out, List.length_map]; exact HM.out)
      clear ht
      go_wp2_with fail
      go_ret2
      refine ⟨Ao, co, es, ?_, by rw [HR.out], rowl_of_own (E := EIp6) HO.out HM.out, fun x hx => ⟨(HI2.out x hx).1, (HI2.out x hx).2.1⟩, fun hA => by subst hA; exact (own_none HO.out).2, HW.out _ HBR.out⟩
      rw [show Q.2 = 0 by rw [HR.out], ← HML.out]
      rfl
end Go.Proofs.Ytjjldolafnfpoaa
