/- Contracts of the functions, part 6: Pick, AdrVal, AdrPP, Tied06. -/
import Derived.Deep.QuietTactic
import Derived.Test.YtcblgbonijloiaaDoorTie
import Derived.ProofKit
import Derived.LaidMore
import Derived.Lay
import Derived.LaidOnce
import Derived.OpenShut
import Derived.Stop.Joined
import Derived.Stop.LaidErr
import Derived.Lib.LaidTab
import Derived.SevenTiedAt
import Derived.HandedShaped
import Derived.Shelf.Vars
import Derived.Test.YtcblgbonijloiaaDoorPa2
import Derived.Test.YtcblgbonijloiaaDoorPa3
import Derived.Test.YtcblgbonijloiaaDoorPa5
/- A region that draws its order, whose calls make memory and whose guards may be false: one walk of the lexical order, over any class of worlds (Deep/Quiet's law), the class written as the worlds 'p u' of a function p. -/
namespace Go.Proofs.YtcblgbonijloiaaDoor
open Go.ChangeShapes Go.WideShapes Go.ChangeAt Go.RowKit
set_option linter.unusedVariables false

theorem wp_region_pick {P : Program} {id : Nat} {Q : Exit → Act → World → Prop} {a : Act} {w : World} {l : List Oper} (S : World → Prop) (hm : P.follows .mixedOrders = true) (hB : Region.lexB .any l.toArray = true) (hS : S w) (hD : S { w with drawn := w.drawn + 1 })
    (h : ∀ p : World → World, (∀ u, S (p u)) → (∀ W, S W → ∃ u, W = p u) → wpQuiet P l.toArray (fun w' => ∃ u, w' = p u) (fun a' => ∀ w', (∃ u, w' = p u) → Q .normal a' w') l a) : (Code.region id l.toArray true).wp P Q a w := by
  classical
  have h1 : ∀ u, S ((fun u => if S u then u else w) u) := fun u => by
    show S (if S u then u else w)
    split
    · assumption
    · exact hS
  have h2 : ∀ W, S W → ∃ u, W = (fun u => if S u then u else w) u := fun W hW => ⟨W, by show W = if S W then W else w; rw [if_pos hW]⟩
  exact wp_region_quiet (C := fun w' => ∃ u, w' = (fun u => if S u then u else w) u) hm hB (h2 _ hD) (by simpa using h _ h1 h2)
/-- A callee's contract, met in a world of the class. -/
theorem Calls.pick_of {P : Program} {f : FuncId} {args : Array Value} {S : World → Prop} {p : World → World} {u : World} {v : Value} (hq : ∀ W, S W → ∃ u, W = p u) (hs : ∀ W', Below (p u).heap.size (p u) W' → S W')
    (h : Calls P f args (p u) fun e w' => e = .returned v ∧ Below (p u).heap.size (p u) w') : Calls P f args (p u) fun e w'' => e = .returned v ∧ ∃ u', w'' = p u' :=
  h.mono fun _ _ ⟨he, hb⟩ => ⟨he, hq _ (hs _ hb)⟩
end Go.Proofs.YtcblgbonijloiaaDoor

/- Contracts of the reference of layer 6 in the program's words: with; ValidPrefix. -/
namespace Go.Proofs.YtcblgbonijloiaaDoor
open Go.ChangeShapes Go.WideShapes Go.ChangeAt Go.RowKit
set_option linter.unusedVariables false

theorem width_le (v : Bool) : width v ≤ 128 := by unfold width; split <;> omega
theorem wst_mk {v : Bool} {hi lo k hi' lo' : Nat} (h : Wst (numA hi lo) (width v) k (width v) false hi' lo') (h1 : hi < 18446744073709551616) (h2 : lo < 18446744073709551616) : hi' = mkH v k hi ∧ lo' = mkL v k lo := by
  have he := wst_end h (numA_lt h1 h2) (by have := width_le v; omega)
  rw [if_neg (by decide), ← low_cut v k h2] at he
  exact (numA_inj h.h2 (Nat.lt_of_le_of_lt (lowZ_le _ _) h2)).1 he
theorem wst_fill {v : Bool} {hi lo k hi' lo' : Nat} (h : Wst (numA hi lo) (width v) k (width v) true hi' lo') (h1 : hi < 18446744073709551616) (h2 : lo < 18446744073709551616) : hi' = lowO (frH v k) hi ∧ lo' = lowO (frL v k) lo := by
  have he := wst_end h (numA_lt h1 h2) (by have := width_le v; omega)
  rw [if_pos rfl, ← low_fill v k h2] at he
  exact (numA_inj h.h2 (lowO_lt h2 (frL_le _ _))).1 he
theorem rwithF_any (v6 : Bool) (hi lo k : Nat) (w : World) (h1 : hi < 18446744073709551616) (h2 : lo < 18446744073709551616) (hb : k ≤ width v6) :
    Calls Tryd.prog 50 #[.agg #[.bool v6, .int .u64 hi, .int .u64 lo], .int .i64 k, .bool false] w fun e w' => e = .returned (.agg #[.bool v6, .int .u64 (mkH v6 k hi : Nat), .int .u64 (mkL v6 k lo : Nat)]) ∧ Below w.heap.size w w' := by
  refine (rwith6_any v6 false hi lo k w h1 h2 hb).mono ?_
  rintro e w' ⟨⟨hi', lo', rfl, hst⟩, hbel⟩
  obtain ⟨e1, e2⟩ := wst_mk hst h1 h2
  subst e1 e2
  exact ⟨rfl, hbel⟩
theorem rwithT_any (v6 : Bool) (hi lo k : Nat) (w : World) (h1 : hi < 18446744073709551616) (h2 : lo < 18446744073709551616) (hb : k ≤ width v6) :
    Calls Tryd.prog 50 #[.agg #[.bool v6, .int .u64 hi, .int .u64 lo], .int .i64 k, .bool true] w fun e w' => e = .returned (.agg #[.bool v6, .int .u64 (lowO (frH v6 k) hi : Nat), .int .u64 (lowO (frL v6 k) lo : Nat)]) ∧ Below w.heap.size w w' := by
  refine (rwith6_any v6 true hi lo k w h1 h2 hb).mono ?_
  rintro e w' ⟨⟨hi', lo', rfl, hst⟩, hbel⟩
  obtain ⟨e1, e2⟩ := wst_fill hst h1 h2
  subst e1 e2
  exact ⟨rfl, hbel⟩
set_option maxHeartbeats 4000000 in
set_option maxRecDepth 20000 in
/-- Not an address, or a number of bits below 0. -/
theorem rvalidp_case (v6 : Bool) (hi lo : Nat) (k : Int) (w : World) (b1 : hi < 18446744073709551616) (b2 : lo < 18446744073709551616) (a d1 d2 q : Bool)
    (ha : a = vldA v6 hi lo) (hd1 : d1 = decide (0 ≤ k)) (hd2 : d2 = decide (k ≤ (width v6 : Nat))) (hq : q = (v6 == v6 && (((mkH v6 k.toNat hi : Nat) : Int) == (hi : Int) && ((mkL v6 k.toNat lo : Nat) : Int) == (lo : Int)))) :
    Calls Tryd.prog 18 #[.agg #[.bool v6, .int .u64 hi, .int .u64 lo, .int .i64 k]] w fun e w' => e = .returned (.bool (a && (d1 && d2 && q))) ∧ Below w.heap.size w w' := by
  have hm := addr_guard
  have HX := Lib.hid (pb_new w v6 hi lo k)
  have HB := Lib.hid (below_alloc6 w (.cells #[.bool v6, .int .u64 hi, .int .u64 lo, .int .i64 k] 30))
  have HV := Lib.hid (fun W => rvalid6_any v6 hi lo W)
  rw [← ha] at HV
  have HWD := Lib.hid (fun W => rwidth_any v6 hi lo W)
  have HWI := Lib.hid (fun (h : 0 ≤ k ∧ k ≤ (width v6 : Nat)) W => show Calls Tryd.prog 50 #[.agg #[.bool v6, .int .u64 hi, .int .u64 lo], .int .i64 k, .bool false] W fun e w' => e = .returned (.agg #[.bool v6, .int .u64 (mkH v6 k.toNat hi : Nat), .int .u64 (mkL v6 k.toNat lo : Nat)]) ∧ Below W.heap.size W w' from by
    have := rwithF_any v6 hi lo k.toNat W b1 b2 (by omega)
    rwa [Int.toNat_of_nonneg h.1] at this)
  have qe := fun W => addr_eql v6 v6 (mkH v6 k.toNat hi : Nat) hi (mkL v6 k.toNat lo : Nat) lo W
  rw [← hq] at qe
  generalize mkH v6 k.toNat hi = hi' at *
  generalize mkL v6 k.toNat lo = lo' at *
  generalize width v6 = wd at *
  have HD := Lib.hid (And.intro hd1 hd2)
  clear ha hd1 hd2 hq b1 b2
  go_enter Tryd.func18, Tryd.ntmps18
  go_wp2_with fail
  have x0 := HX.out.c0
  generalize w.alloc (.cells #[.bool v6, .int .u64 hi, .int .u64 lo, .int .i64 k] 30) = W at *
  refine wp_region_pick (fun w' => Below W.heap.size W w') (by kernel_rfl) (by kernel_rfl) (Below.refl _ _) ⟨rfl, rfl, rfl, Nat.le_refl _, fun _ _ => rfl⟩ (fun p hp hq => ?_)
  have p0 : ∀ u, (p u).cell? ⟨w.heap.size, 0, none⟩ = some (.bool v6) := fun u => (HX.out.kept (hp u) HX.out.lt).c0
  have p1 : ∀ u, (p u).cell? ⟨w.heap.size, 1, none⟩ = some (.int .u64 hi) := fun u => (HX.out.kept (hp u) HX.out.lt).c1
  have p2 : ∀ u, (p u).cell? ⟨w.heap.size, 2, none⟩ = some (.int .u64 lo) := fun u => (HX.out.kept (hp u) HX.out.lt).c2
  have p3 : ∀ u, (p u).cell? ⟨w.heap.size, 3, none⟩ = some (.int .i64 k) := fun u => (HX.out.kept (hp u) HX.out.lt).c3
  have HP := Lib.hid hp
  have HQ := Lib.hid hq
  clear hp hq x0
  have key : Hid (d1 = true → d2 = true → 0 ≤ k ∧ k ≤ (wd : Int)) := Lib.hid (fun h1 h2 => by
    have := HD.out
    rw [h1, h2] at this
    exact ⟨of_decide_eq_true this.1.symm, of_decide_eq_true this.2.symm⟩)
  cases a
  · repeat (go_big_quiet_step ((first | with_reducible exact Calls.pick_of HQ.out (fun W' hb => (HP.out _).trans (hb.mono (HP.out _).size)) (HV.out _))))
    refine wpQuiet_nil ?_
    rintro _ ⟨u, rfl⟩
    have HS := Lib.hid (HP.out u)
    generalize p u = W2 at *
    clear p0 p1 p2 p3 HQ HP
    go_wp2_with fail
    go_ret
    exact ⟨rfl, HB.out.trans (HS.out.mono HB.out.size)⟩
  · cases d1
    · have t1 : decide (0 ≤ k) = false := HD.out.1.symm
      repeat (go_big_quiet_step ((first | with_reducible exact Calls.pick_of HQ.out (fun W' hb => (HP.out _).trans (hb.mono (HP.out _).size)) (HV.out _))))
      refine wpQuiet_nil ?_
      rintro _ ⟨u, rfl⟩
      have HS := Lib.hid (HP.out u)
      generalize p u = W2 at *
      clear p0 p1 p2 p3 HQ HP
      go_wp2_with fail
      go_ret
      exact ⟨rfl, HB.out.trans (HS.out.mono HB.out.size)⟩
    · have t1 : decide (0 ≤ k) = true := HD.out.1.symm
      cases d2
      · have t2 : decide (k ≤ (wd : Int)) = false := HD.out.2.symm
        repeat (go_big_quiet_step ((first | with_reducible exact Calls.pick_of HQ.out (fun W' hb => (HP.out _).trans (hb.mono (HP.out _).size)) (HV.out _) | with_reducible exact Calls.pick_of HQ.out (fun W' hb => (HP.out _).trans (hb.mono (HP.out _).size)) (HWD.out _))))
        refine wpQuiet_nil ?_
        rintro _ ⟨u, rfl⟩
        have HS := Lib.hid (HP.out u)
        generalize p u = W2 at *
        clear p0 p1 p2 p3 HQ HP
        go_wp2_with fail
        go_ret
        exact ⟨rfl, HB.out.trans (HS.out.mono HB.out.size)⟩
      · have t2 : decide (k ≤ (wd : Int)) = true := HD.out.2.symm
        repeat (go_big_quiet_step ((first | with_reducible exact Calls.pick_of HQ.out (fun W' hb => (HP.out _).trans (hb.mono (HP.out _).size)) (HV.out _) | with_reducible exact Calls.pick_of HQ.out (fun W' hb => (HP.out _).trans (hb.mono (HP.out _).size)) (HWD.out _) | with_reducible exact Calls.pick_of HQ.out (fun W' hb => (HP.out _).trans (hb.mono (HP.out _).size)) (HWI.out (key.out rfl rfl) _))))
        refine wpQuiet_nil ?_
        rintro _ ⟨u, rfl⟩
        have HS := Lib.hid (HP.out u)
        generalize p u = W2 at *
        clear p0 p1 p2 p3 HQ HP
        go_wp2_with fail
        go_ret
        exact ⟨rfl, HB.out.trans (HS.out.mono HB.out.size)⟩
theorem rvalidp_any (v6 : Bool) (hi lo : Nat) (k : Int) (w : World) (b1 : hi < 18446744073709551616) (b2 : lo < 18446744073709551616) :
    Calls Tryd.prog 18 #[.agg #[.bool v6, .int .u64 hi, .int .u64 lo, .int .i64 k]] w fun e w' => e = .returned (.bool (vldP v6 hi lo k)) ∧ Below w.heap.size w w' := by
  have h := rvalidp_case v6 hi lo k w b1 b2 _ _ _ _ rfl rfl rfl rfl
  rwa [show (vldA v6 hi lo && (decide (0 ≤ k) && decide (k ≤ (width v6 : Nat)) && (v6 == v6 && (((mkH v6 k.toNat hi : Nat) : Int) == (hi : Int) && ((mkL v6 k.toNat lo : Nat) : Int) == (lo : Int))))) = vldP v6 hi lo k from by
    unfold vldP cntB
    rw [show decide (0 ≤ k ∧ k ≤ (width v6 : Nat)) = (decide (0 ≤ k) && decide (k ≤ (width v6 : Nat))) from by rw [Bool.eq_iff_iff]; simp]] at h
end Go.Proofs.YtcblgbonijloiaaDoor

/- Contract of the reference of layer 6: ParsePrefix. -/
namespace Go.Proofs.YtcblgbonijloiaaDoor
open Go.ChangeShapes Go.WideShapes Go.ChangeAt Go.RowKit
set_option linter.unusedVariables false

theorem splitGo_cut (c : UInt8) : ∀ (s cur : By), splitGo c cur s = (cur ++ (cutAt c s).1) :: (match (cutAt c s).2 with | none => [] | some r => splitL c r)
  | [], cur => by simp [splitGo, cutAt]
  | x :: r, cur => by
    rw [splitGo, cutAt]
    split
    · simp [splitL]
    · rw [splitGo_cut c r (cur ++ [x])]; simp
theorem split_cut (c : UInt8) (s : By) : splitL c s = (cutAt c s).1 :: (match (cutAt c s).2 with | none => [] | some r => splitL c r) := by
  have := splitGo_cut c s []
  simpa [splitL] using this
theorem cutAt_some {c : UInt8} : ∀ {s r : By}, (cutAt c s).2 = some r → s = (cutAt c s).1 ++ c :: r
  | [], r, h => by rw [cutAt] at h; cases h
  | x :: q, r, h => by
    rw [cutAt] at h ⊢
    split at h
    · rename_i hx; rw [if_pos hx]; cases h; rw [hx]; rfl
    · rename_i hx
      rw [if_neg hx]
      have := cutAt_some (s := q) h
      rw [List.cons_append, ← this]
/-- A cell of a block. -/
def CE (w : World) (g : Nat) (v : Value) : Prop := g < w.heap.size ∧ w.cell? ⟨g, 0, none⟩ = some v
theorem CE.c0 {w : World} {g : Nat} {v : Value} (h : CE w g v) : w.cell? ⟨g, 0, none⟩ = some v := h.2
theorem CE.lt {w : World} {g : Nat} {v : Value} (h : CE w g v) : g < w.heap.size := h.1
theorem CE.kept {w w' : World} {g : Nat} {v : Value} {B : Nat} (h : CE w g v) (hb : Below B w w') (hg : g < B) : CE w' g v := ⟨Nat.lt_of_lt_of_le h.1 hb.size, by rw [World.cell?_of_block (w := w) (w' := w') (a := ⟨g, 0, none⟩) (hb.block g hg)]; exact h.2⟩
theorem CE.al {w : World} {g : Nat} {v : Value} (h : CE w g v) (o : Obj) : CE (w.alloc o) g v := h.kept (below_alloc6 w o) h.lt
theorem vldP_ok {v : Bool} {hi lo n : Nat} (hv : vldA v hi lo = true) (hn : n ≤ width v) : vldP v hi lo (n : Int) = decide (mkH v n hi = hi ∧ mkL v n lo = lo) := by
  unfold vldP cntB
  rw [hv, Bool.eq_iff_iff]
  simp
  omega
def decB (m : Nat) : Option Nat → Int
  | none => -1
  | some n => if m < n then -2 else (n : Int)
theorem decS_decB {most : Nat} (hm : most < 65536) (s : By) : decS most s = decB most (decV s) := by
  rw [decS_decV hm]; cases decV s <;> rfl
set_option maxHeartbeats 8000000 in
set_option maxRecDepth 20000 in
theorem rpparse_any (s : ByteArray) (w : World) (hs : s.size ≤ 900) :
    Calls Tryd.prog 14 #[.string s] w fun e w' => e = .returned (ppRes s.data.toList) ∧ Below w.heap.size w w' := by
  have hlen := toList_length6 s
  have hm := addr_guard
  obtain ⟨W0, hW0⟩ : ∃ W0, W0 = w.alloc (.cells #[.bool false, .int .u64 0, .int .u64 0, .int .i64 0] 30) := ⟨_, rfl⟩
  have HB0 := Lib.hid (show Below w.heap.size w W0 by rw [hW0]; exact below_alloc6 w _)
  have HR0 := Lib.hid (show PB W0 w.heap.size false 0 0 0 by rw [hW0]; exact pb_new w false 0 0 0)
  by_cases h64 : 64 < s.size
  · have HR := Lib.hid (show ppRes s.data.toList = zeroP 3 by unfold ppRes; rw [if_pos (by omega)])
    have d : decide ((64 : Int) < (s.size : Int)) = true := by rw [decide_eq_true_eq]; omega
    clear hlen
    go_enter Tryd.func14, Tryd.ntmps14
    go_wp2_with fail
    rw [← hW0]
    exact bodyPost_ret (res_pfx2 rfl _ _ rfl HR0.out) rfl ⟨by rw [HR.out]; rfl, HB0.out⟩
  have hr : ppRes s.data.toList = match prs (cutAt 47 s.data.toList).1 with
    | none => zeroP 2
    | some (v, hi, lo) => ppEnd v hi lo (ppB v (cutAt 47 s.data.toList).2) := by unfold ppRes; rw [if_neg (by omega)]; rfl
  have d : decide ((64 : Int) < (s.size : Int)) = false := by rw [decide_eq_false_iff_not]; omega
  have hs64 : s.size ≤ 64 := by omega
  have HSP := Lib.hid (rsplit6_any s 47 W0 (by omega))
  have hcl := cutAt_len 47 s.data.toList
  have hsc := split_cut 47 s.data.toList
  have hcs := fun r => cutAt_some (c := 47) (s := s.data.toList) (r := r)
  have HPA := Lib.hid (fun W => rprs_any (str (cutAt 47 s.data.toList).1) W (by rw [str_size]; omega))
  rw [str_toList] at HPA
  have hpr : pRes (cutAt 47 s.data.toList).1 = adRes (prs (cutAt 47 s.data.toList).1) := by unfold pRes; rw [if_neg (by omega)]
  rw [hpr] at HPA
  obtain ⟨Rz, hRz⟩ : ∃ Rz, Rz = ppRes s.data.toList := ⟨_, rfl⟩
  rw [← hRz]
  rw [← hRz] at hr
  have hpo := fun v hi lo h => prs_ok (s := (cutAt 47 s.data.toList).1) (v := v) (hi := hi) (lo := lo) h
  generalize prs (cutAt 47 s.data.toList).1 = pr at *
  generalize (cutAt 47 s.data.toList).1 = t1 at *
  generalize (cutAt 47 s.data.toList).2 = o at *
  obtain ⟨L, hL⟩ : ∃ L, L = splitL 47 s.data.toList := ⟨_, rfl⟩
  rw [← hL] at HSP hsc
  have hLl : L.length ≤ 1 ↔ o = none := by
    rw [hsc]
    cases o with
    | none => simp
    | some r => have := (split_count 47 r).1; simp only [List.length_cons, reduceCtorEq, iff_false]; omega
  have hL0 : L[0]? = some t1 := by rw [hsc]; rfl
  have hLp : 0 < L.length := by rw [hsc]; simp
  have hLm : L.length ≤ 66 := by have := (split_count 47 s.data.toList).2; rw [← hL] at this; omega
  have ht1 : (str t1).size = t1.length := str_size _
  have hrl := hcl
  clear hcl hpr hRz hL hsc
  obtain ⟨n, hn⟩ : ∃ n, n = L.length := ⟨_, rfl⟩
  rw [← hn] at hLl hLp hLm HSP
  have hn0i : (0 : Int) < (n : Int) := by omega
  obtain ⟨S0, hS0⟩ : ∃ S, S = str t1 := ⟨_, rfl⟩
  rw [← hS0] at HPA ht1
  have HG := Lib.hid (show ∀ (w1 : World) (A : Option Addr) (cap : Nat), w1.ownsRow W0.heap.size 9 1 (.slice A n cap) n (strC L) → Below W0.heap.size W0 w1 → ∃ g, A = some ⟨g, 0, none⟩ ∧ CE w1 g (.string S0) from fun w1 A cap h _ => by
    rw [hn] at h hLp
    obtain ⟨g, e, hg, hc⟩ := own_stl h hLp
    exact ⟨g, e, hg, by rw [hS0]; exact hc 0 t1 hL0⟩)
  clear hL0 hn hS0
  cases pr with
  | none =>
    have HR := Lib.hid (show Rz = zeroP 2 from hr)
    simp only [adRes] at HPA
    clear hr hpo hcs hlen hrl hLl
    go_enter Tryd.func14, Tryd.ntmps14
    go_wp2_with fail
    rw [← hW0]
    clear hW0
    refine HSP.out.mono ?_
    rintro e w1 ⟨A, cap, rfl, hown, hb⟩
    obtain ⟨gl, rfl, hce⟩ := HG.out w1 A cap hown hb
    have HB1 := Lib.hid (HB0.out.trans (hb.mono HB0.out.size))
    have HE1 := Lib.hid (show PB w1 w.heap.size false 0 0 0 ∧ CE w1 gl (.string S0) from ⟨HR0.out.kept hb HR0.out.lt, hce⟩)
    clear hb hown hce HB0 HR0 HSP HG
    have f0_0 := HE1.out.1.c0
    have fz0_0 := HE1.out.1.f 0
    have f0_1 := HE1.out.1.c1
    have fz0_1 := HE1.out.1.f 1
    have f0_2 := HE1.out.1.c2
    have fz0_2 := HE1.out.1.f 2
    have f0_3 := HE1.out.1.c3
    have fz0_3 := HE1.out.1.f 3
    have fl0 := HE1.out.1.lt
    have f1_0 := HE1.out.2.c0
    have fl1 := HE1.out.2.lt
    go_wp2_with fail
    clear f0_0 fz0_0 f0_1 fz0_1 f0_2 fz0_2 f0_3 fz0_3 fl0 f1_0 fl1
    refine (HPA.out _).mono ?_
    rintro e w2 ⟨rfl, hb⟩
    have HQ2 := Lib.hid (show PB w2 w.heap.size false 0 0 0 ∧ Below w.heap.size w w2 from ⟨HE1.out.1.kept hb HE1.out.1.lt, HB1.out.trans (hb.mono HB1.out.size)⟩)
    obtain ⟨ga, hga⟩ : ∃ g, g = w2.heap.size := ⟨_, rfl⟩
    obtain ⟨W2, hW2⟩ : ∃ W, W = w2.alloc (.cells #[.bool false, .int .u64 0, .int .u64 0] 25) := ⟨_, rfl⟩
    have HE2 := Lib.hid (show PB W2 w.heap.size false 0 0 0 ∧ CE W2 gl (.string S0) ∧ AB W2 ga false 0 0 from by rw [hW2, hga]; exact ⟨(HE1.out.1.kept hb HE1.out.1.lt).al _ , (HE1.out.2.kept hb HE1.out.2.lt).al _ , ab_new w2 false 0 0⟩)
    have HB2 := Lib.hid (show Below w.heap.size w W2 by rw [hW2]; exact (HB1.out.trans (hb.mono HB1.out.size)).trans ((below_alloc6 w2 _).mono (HB1.out.trans (hb.mono HB1.out.size)).size))
    have HLT_ga := Lib.hid (show w.heap.size < ga ∧ gl < ga ∧ w.heap.size ≤ ga from by rw [hga]; exact ⟨(HE1.out.1.kept hb HE1.out.1.lt).lt , (HE1.out.2.kept hb HE1.out.2.lt).lt , (HB1.out.trans (hb.mono HB1.out.size)).size⟩)
    have hx := HE1.out.1.kept hb HE1.out.1.lt
    have f0_0 := hx.c0
    have fz0_0 := hx.f 0
    have f0_1 := hx.c1
    have fz0_1 := hx.f 1
    have f0_2 := hx.c2
    have fz0_2 := hx.f 2
    have f0_3 := hx.c3
    have fz0_3 := hx.f 3
    have fl0 := hx.lt
    clear hx
    have hx := HE1.out.2.kept hb HE1.out.2.lt
    have f1_0 := hx.c0
    have fl1 := hx.lt
    clear hx
    clear hb HE1 HB1 
    go_wp2_with fail
    change bodyPost _ _ _ _ _ ((pset w2 w.heap.size false 0 0 0).alloc _)
    exact bodyPost_ret (res_pfx2 rfl _ _ rfl ((HQ2.out.1.set false 0 0 0).kept (below_alloc6 _ _) (HQ2.out.1.set false 0 0 0).lt)) rfl ⟨by rw [HR.out]; rfl, (pset_below HQ2.out.2 (Nat.le_refl _) false 0 0 0).trans ((below_alloc6 _ _).mono (pset_below HQ2.out.2 (Nat.le_refl _) false 0 0 0).size)⟩
  | some p =>
    obtain ⟨v, hi, lo⟩ := p
    obtain ⟨h1, h2, hv⟩ := hpo v hi lo rfl
    have hr2 : Rz = ppEnd v hi lo (ppB v o) := hr
    simp only [adRes] at HPA
    clear hr hpo
    have HWD := Lib.hid (fun W => rwidth_any v hi lo W)
    have HVP := Lib.hid (fun (k : Nat) W => rvalidp_any v hi lo (k : Int) W h1 h2)
    have hwd : width v ≤ 128 := by cases v <;> simp [width]
    have key : ∀ (D : Int) (on : Option Nat), D = decB (width v) on → Rz = ppEnd v hi lo on → (D = -1 ∧ Rz = zeroP 2) ∨ (D = -2 ∧ Rz = zeroP 4) ∨ ∃ k : Nat, D = (k : Int) ∧ k ≤ 128 ∧ ((vldP v hi lo (k : Int) = false ∧ Rz = zeroP 2) ∨ (vldP v hi lo (k : Int) = true ∧ Rz = .tuple #[.agg #[.bool v, .int .u64 hi, .int .u64 lo, .int .i64 k], .int .i64 0])) := by
      intro D on hD hR
      cases on with
      | none => exact .inl ⟨hD, hR⟩
      | some k =>
        simp only [decB] at hD
        rw [ppEnd_some] at hR
        by_cases hk : k ≤ width v
        · rw [if_neg (by omega)] at hD
          rw [if_pos hk] at hR
          refine .inr (.inr ⟨k, hD, by omega, ?_⟩)
          rw [vldP_ok hv hk]
          by_cases hz : mkH v k hi = hi ∧ mkL v k lo = lo
          · rw [if_pos hz] at hR
            exact .inr ⟨by simpa using hz, hR⟩
          · rw [if_neg hz] at hR
            exact .inl ⟨by simpa using hz, hR⟩
        · rw [if_pos (by omega)] at hD
          rw [if_neg hk] at hR
          exact .inr (.inl ⟨hD, hR⟩)
    cases o with
    | none =>
      have hn1 : n = 1 := by have := hLl.2 rfl; omega
      have dn : decide ((1 : Int) < (n : Int)) = false := by rw [hn1]; rfl
      have nn : ¬ 1 < n := by omega
      have hk := key (width v : Nat) (some (width v)) (by simp [decB]) hr2
      obtain ⟨wd, hwe⟩ : ∃ wd, wd = width v := ⟨_, rfl⟩
      rw [← hwe] at hk HWD
      have HVPk := Lib.hid (HVP.out wd)
      have hk2 : (vldP v hi lo (wd : Int) = false ∧ Rz = zeroP 2) ∨ (vldP v hi lo (wd : Int) = true ∧ Rz = .tuple #[.agg #[.bool v, .int .u64 hi, .int .u64 lo, .int .i64 wd], .int .i64 0]) := by
        rcases hk with ⟨e, _⟩ | ⟨e, _⟩ | ⟨k, e, _, h⟩
        · omega
        · omega
        · obtain rfl : wd = k := by omega
          exact h
      have dm1 : ((wd : Int) == -1) = false := by rw [beq_eq_false_iff_ne]; omega
      have dm2 : ((wd : Int) == -2) = false := by rw [beq_eq_false_iff_ne]; omega
      have ne1 : ¬ (wd : Int) = -1 := by omega
      have ne2 : ¬ (wd : Int) = -2 := by omega
      clear hk key hr2 hLl hcs hlen hrl hn1 HVP hwe hwd h1 h2 hv
      rcases hk2 with ⟨hvp, hR⟩ | ⟨hvp, hR⟩
      · rw [hvp] at HVPk
        have HR := Lib.hid hR
        clear hvp hR
        go_enter Tryd.func14, Tryd.ntmps14
        go_wp2_with fail
        rw [← hW0]
        clear hW0
        refine HSP.out.mono ?_
        rintro e w1 ⟨A, cap, rfl, hown, hb⟩
        obtain ⟨gl, rfl, hce⟩ := HG.out w1 A cap hown hb
        have HB1 := Lib.hid (HB0.out.trans (hb.mono HB0.out.size))
        have HE1 := Lib.hid (show PB w1 w.heap.size false 0 0 0 ∧ CE w1 gl (.string S0) from ⟨HR0.out.kept hb HR0.out.lt, hce⟩)
        clear hb hown hce HB0 HR0 HSP HG
        have f0_0 := HE1.out.1.c0
        have fz0_0 := HE1.out.1.f 0
        have f0_1 := HE1.out.1.c1
        have fz0_1 := HE1.out.1.f 1
        have f0_2 := HE1.out.1.c2
        have fz0_2 := HE1.out.1.f 2
        have f0_3 := HE1.out.1.c3
        have fz0_3 := HE1.out.1.f 3
        have fl0 := HE1.out.1.lt
        have f1_0 := HE1.out.2.c0
        have fl1 := HE1.out.2.lt
        go_wp2_with fail
        clear f0_0 fz0_0 f0_1 fz0_1 f0_2 fz0_2 f0_3 fz0_3 fl0 f1_0 fl1
        refine (HPA.out _).mono ?_
        rintro e w2 ⟨rfl, hb⟩
        obtain ⟨ga, hga⟩ : ∃ g, g = w2.heap.size := ⟨_, rfl⟩
        obtain ⟨W2, hW2⟩ : ∃ W, W = w2.alloc (.cells #[.bool v, .int .u64 hi, .int .u64 lo] 25) := ⟨_, rfl⟩
        have HE2 := Lib.hid (show PB W2 w.heap.size false 0 0 0 ∧ CE W2 gl (.string S0) ∧ AB W2 ga v hi lo from by rw [hW2, hga]; exact ⟨(HE1.out.1.kept hb HE1.out.1.lt).al _ , (HE1.out.2.kept hb HE1.out.2.lt).al _ , ab_new w2 v hi lo⟩)
        have HB2 := Lib.hid (show Below w.heap.size w W2 by rw [hW2]; exact (HB1.out.trans (hb.mono HB1.out.size)).trans ((below_alloc6 w2 _).mono (HB1.out.trans (hb.mono HB1.out.size)).size))
        have HLT_ga := Lib.hid (show w.heap.size < ga ∧ gl < ga ∧ w.heap.size ≤ ga from by rw [hga]; exact ⟨(HE1.out.1.kept hb HE1.out.1.lt).lt , (HE1.out.2.kept hb HE1.out.2.lt).lt , (HB1.out.trans (hb.mono HB1.out.size)).size⟩)
        have hx := HE1.out.1.kept hb HE1.out.1.lt
        have f0_0 := hx.c0
        have fz0_0 := hx.f 0
        have f0_1 := hx.c1
        have fz0_1 := hx.f 1
        have f0_2 := hx.c2
        have fz0_2 := hx.f 2
        have f0_3 := hx.c3
        have fz0_3 := hx.f 3
        have fl0 := hx.lt
        clear hx
        have hx := HE1.out.2.kept hb HE1.out.2.lt
        have f1_0 := hx.c0
        have fl1 := hx.lt
        clear hx
        clear hb HE1 HB1 
        go_wp2_with fail
        first | rw [← hW2, ← hga] | rw [← hW2] | skip
        clear hW2 hga
        clear f0_0 fz0_0 f0_1 fz0_1 f0_2 fz0_2 f0_3 fz0_3 fl0 f1_0 fl1
        refine (HWD.out _).mono ?_
        rintro e w3 ⟨rfl, hb⟩
        have HE3 := Lib.hid (show PB w3 w.heap.size false 0 0 0 ∧ CE w3 gl (.string S0) ∧ AB w3 ga v hi lo from ⟨HE2.out.1.kept hb HE2.out.1.lt , HE2.out.2.1.kept hb HE2.out.2.1.lt , HE2.out.2.2.kept hb HE2.out.2.2.lt⟩)
        have HB3 := Lib.hid (HB2.out.trans (hb.mono HB2.out.size))
        clear hb HE2 HB2 
        have f0_0 := HE3.out.1.c0
        have fz0_0 := HE3.out.1.f 0
        have f0_1 := HE3.out.1.c1
        have fz0_1 := HE3.out.1.f 1
        have f0_2 := HE3.out.1.c2
        have fz0_2 := HE3.out.1.f 2
        have f0_3 := HE3.out.1.c3
        have fz0_3 := HE3.out.1.f 3
        have fl0 := HE3.out.1.lt
        have f1_0 := HE3.out.2.1.c0
        have fl1 := HE3.out.2.1.lt
        have f2_0 := HE3.out.2.2.c0
        have f2_1 := HE3.out.2.2.c1
        have f2_2 := HE3.out.2.2.c2
        have fl2 := HE3.out.2.2.lt
        obtain ⟨gp, hgp⟩ : ∃ g, g = w3.heap.size := ⟨_, rfl⟩
        obtain ⟨W4, hW4⟩ : ∃ W, W = w3.alloc (.cells #[.bool v, .int .u64 hi, .int .u64 lo, .int .i64 wd] 30) := ⟨_, rfl⟩
        have HE4 := Lib.hid (show PB W4 w.heap.size false 0 0 0 ∧ CE W4 gl (.string S0) ∧ AB W4 ga v hi lo ∧ PB W4 gp v hi lo wd from by rw [hW4, hgp]; exact ⟨(HE3.out.1).al _ , (HE3.out.2.1).al _ , (HE3.out.2.2).al _ , pb_new w3 v hi lo wd⟩)
        have HB4 := Lib.hid (show Below w.heap.size w W4 by rw [hW4]; exact HB3.out.trans ((below_alloc6 w3 _).mono HB3.out.size))
        clear HE3 HB3 
        go_wp2_with fail
        first | rw [← hW4, ← hgp] | rw [← hW4] | skip
        clear hW4 hgp
        clear f0_0 fz0_0 f0_1 fz0_1 f0_2 fz0_2 f0_3 fz0_3 fl0 f1_0 fl1 f2_0 f2_1 f2_2 fl2
        refine (HVPk.out _).mono ?_
        rintro e w5 ⟨rfl, hb⟩
        have HE5 := Lib.hid (show PB w5 w.heap.size false 0 0 0 ∧ CE w5 gl (.string S0) ∧ AB w5 ga v hi lo ∧ PB w5 gp v hi lo wd from ⟨HE4.out.1.kept hb HE4.out.1.lt , HE4.out.2.1.kept hb HE4.out.2.1.lt , HE4.out.2.2.1.kept hb HE4.out.2.2.1.lt , HE4.out.2.2.2.kept hb HE4.out.2.2.2.lt⟩)
        have HB5 := Lib.hid (HB4.out.trans (hb.mono HB4.out.size))
        clear hb HE4 HB4 
        have f0_0 := HE5.out.1.c0
        have fz0_0 := HE5.out.1.f 0
        have f0_1 := HE5.out.1.c1
        have fz0_1 := HE5.out.1.f 1
        have f0_2 := HE5.out.1.c2
        have fz0_2 := HE5.out.1.f 2
        have f0_3 := HE5.out.1.c3
        have fz0_3 := HE5.out.1.f 3
        have fl0 := HE5.out.1.lt
        have f1_0 := HE5.out.2.1.c0
        have fl1 := HE5.out.2.1.lt
        have f2_0 := HE5.out.2.2.1.c0
        have f2_1 := HE5.out.2.2.1.c1
        have f2_2 := HE5.out.2.2.1.c2
        have fl2 := HE5.out.2.2.1.lt
        have f3_0 := HE5.out.2.2.2.c0
        have f3_1 := HE5.out.2.2.2.c1
        have f3_2 := HE5.out.2.2.2.c2
        have f3_3 := HE5.out.2.2.2.c3
        have fl3 := HE5.out.2.2.2.lt
        go_wp2_with fail
        change bodyPost _ _ _ _ _ (pset w5 w.heap.size false 0 0 0)
        exact bodyPost_ret (res_pfx2 rfl _ _ rfl (HE5.out.1.set false 0 0 0)) rfl ⟨by rw [HR.out]; rfl, pset_below HB5.out (Nat.le_refl _) false 0 0 0⟩
      · rw [hvp] at HVPk
        have HR := Lib.hid hR
        clear hvp hR
        go_enter Tryd.func14, Tryd.ntmps14
        go_wp2_with fail
        rw [← hW0]
        clear hW0
        refine HSP.out.mono ?_
        rintro e w1 ⟨A, cap, rfl, hown, hb⟩
        obtain ⟨gl, rfl, hce⟩ := HG.out w1 A cap hown hb
        have HB1 := Lib.hid (HB0.out.trans (hb.mono HB0.out.size))
        have HE1 := Lib.hid (show PB w1 w.heap.size false 0 0 0 ∧ CE w1 gl (.string S0) from ⟨HR0.out.kept hb HR0.out.lt, hce⟩)
        clear hb hown hce HB0 HR0 HSP HG
        have f0_0 := HE1.out.1.c0
        have fz0_0 := HE1.out.1.f 0
        have f0_1 := HE1.out.1.c1
        have fz0_1 := HE1.out.1.f 1
        have f0_2 := HE1.out.1.c2
        have fz0_2 := HE1.out.1.f 2
        have f0_3 := HE1.out.1.c3
        have fz0_3 := HE1.out.1.f 3
        have fl0 := HE1.out.1.lt
        have f1_0 := HE1.out.2.c0
        have fl1 := HE1.out.2.lt
        go_wp2_with fail
        clear f0_0 fz0_0 f0_1 fz0_1 f0_2 fz0_2 f0_3 fz0_3 fl0 f1_0 fl1
        refine (HPA.out _).mono ?_
        rintro e w2 ⟨rfl, hb⟩
        obtain ⟨ga, hga⟩ : ∃ g, g = w2.heap.size := ⟨_, rfl⟩
        obtain ⟨W2, hW2⟩ : ∃ W, W = w2.alloc (.cells #[.bool v, .int .u64 hi, .int .u64 lo] 25) := ⟨_, rfl⟩
        have HE2 := Lib.hid (show PB W2 w.heap.size false 0 0 0 ∧ CE W2 gl (.string S0) ∧ AB W2 ga v hi lo from by rw [hW2, hga]; exact ⟨(HE1.out.1.kept hb HE1.out.1.lt).al _ , (HE1.out.2.kept hb HE1.out.2.lt).al _ , ab_new w2 v hi lo⟩)
        have HB2 := Lib.hid (show Below w.heap.size w W2 by rw [hW2]; exact (HB1.out.trans (hb.mono HB1.out.size)).trans ((below_alloc6 w2 _).mono (HB1.out.trans (hb.mono HB1.out.size)).size))
        have HLT_ga := Lib.hid (show w.heap.size < ga ∧ gl < ga ∧ w.heap.size ≤ ga from by rw [hga]; exact ⟨(HE1.out.1.kept hb HE1.out.1.lt).lt , (HE1.out.2.kept hb HE1.out.2.lt).lt , (HB1.out.trans (hb.mono HB1.out.size)).size⟩)
        have hx := HE1.out.1.kept hb HE1.out.1.lt
        have f0_0 := hx.c0
        have fz0_0 := hx.f 0
        have f0_1 := hx.c1
        have fz0_1 := hx.f 1
        have f0_2 := hx.c2
        have fz0_2 := hx.f 2
        have f0_3 := hx.c3
        have fz0_3 := hx.f 3
        have fl0 := hx.lt
        clear hx
        have hx := HE1.out.2.kept hb HE1.out.2.lt
        have f1_0 := hx.c0
        have fl1 := hx.lt
        clear hx
        clear hb HE1 HB1 
        go_wp2_with fail
        first | rw [← hW2, ← hga] | rw [← hW2] | skip
        clear hW2 hga
        clear f0_0 fz0_0 f0_1 fz0_1 f0_2 fz0_2 f0_3 fz0_3 fl0 f1_0 fl1
        refine (HWD.out _).mono ?_
        rintro e w3 ⟨rfl, hb⟩
        have HE3 := Lib.hid (show PB w3 w.heap.size false 0 0 0 ∧ CE w3 gl (.string S0) ∧ AB w3 ga v hi lo from ⟨HE2.out.1.kept hb HE2.out.1.lt , HE2.out.2.1.kept hb HE2.out.2.1.lt , HE2.out.2.2.kept hb HE2.out.2.2.lt⟩)
        have HB3 := Lib.hid (HB2.out.trans (hb.mono HB2.out.size))
        clear hb HE2 HB2 
        have f0_0 := HE3.out.1.c0
        have fz0_0 := HE3.out.1.f 0
        have f0_1 := HE3.out.1.c1
        have fz0_1 := HE3.out.1.f 1
        have f0_2 := HE3.out.1.c2
        have fz0_2 := HE3.out.1.f 2
        have f0_3 := HE3.out.1.c3
        have fz0_3 := HE3.out.1.f 3
        have fl0 := HE3.out.1.lt
        have f1_0 := HE3.out.2.1.c0
        have fl1 := HE3.out.2.1.lt
        have f2_0 := HE3.out.2.2.c0
        have f2_1 := HE3.out.2.2.c1
        have f2_2 := HE3.out.2.2.c2
        have fl2 := HE3.out.2.2.lt
        obtain ⟨gp, hgp⟩ : ∃ g, g = w3.heap.size := ⟨_, rfl⟩
        obtain ⟨W4, hW4⟩ : ∃ W, W = w3.alloc (.cells #[.bool v, .int .u64 hi, .int .u64 lo, .int .i64 wd] 30) := ⟨_, rfl⟩
        have HE4 := Lib.hid (show PB W4 w.heap.size false 0 0 0 ∧ CE W4 gl (.string S0) ∧ AB W4 ga v hi lo ∧ PB W4 gp v hi lo wd from by rw [hW4, hgp]; exact ⟨(HE3.out.1).al _ , (HE3.out.2.1).al _ , (HE3.out.2.2).al _ , pb_new w3 v hi lo wd⟩)
        have HB4 := Lib.hid (show Below w.heap.size w W4 by rw [hW4]; exact HB3.out.trans ((below_alloc6 w3 _).mono HB3.out.size))
        clear HE3 HB3 
        go_wp2_with fail
        first | rw [← hW4, ← hgp] | rw [← hW4] | skip
        clear hW4 hgp
        clear f0_0 fz0_0 f0_1 fz0_1 f0_2 fz0_2 f0_3 fz0_3 fl0 f1_0 fl1 f2_0 f2_1 f2_2 fl2
        refine (HVPk.out _).mono ?_
        rintro e w5 ⟨rfl, hb⟩
        have HE5 := Lib.hid (show PB w5 w.heap.size false 0 0 0 ∧ CE w5 gl (.string S0) ∧ AB w5 ga v hi lo ∧ PB w5 gp v hi lo wd from ⟨HE4.out.1.kept hb HE4.out.1.lt , HE4.out.2.1.kept hb HE4.out.2.1.lt , HE4.out.2.2.1.kept hb HE4.out.2.2.1.lt , HE4.out.2.2.2.kept hb HE4.out.2.2.2.lt⟩)
        have HB5 := Lib.hid (HB4.out.trans (hb.mono HB4.out.size))
        clear hb HE4 HB4 
        have f0_0 := HE5.out.1.c0
        have fz0_0 := HE5.out.1.f 0
        have f0_1 := HE5.out.1.c1
        have fz0_1 := HE5.out.1.f 1
        have f0_2 := HE5.out.1.c2
        have fz0_2 := HE5.out.1.f 2
        have f0_3 := HE5.out.1.c3
        have fz0_3 := HE5.out.1.f 3
        have fl0 := HE5.out.1.lt
        have f1_0 := HE5.out.2.1.c0
        have fl1 := HE5.out.2.1.lt
        have f2_0 := HE5.out.2.2.1.c0
        have f2_1 := HE5.out.2.2.1.c1
        have f2_2 := HE5.out.2.2.1.c2
        have fl2 := HE5.out.2.2.1.lt
        have f3_0 := HE5.out.2.2.2.c0
        have f3_1 := HE5.out.2.2.2.c1
        have f3_2 := HE5.out.2.2.2.c2
        have f3_3 := HE5.out.2.2.2.c3
        have fl3 := HE5.out.2.2.2.lt
        go_wp2_with fail
        change bodyPost _ _ _ _ _ (pset w5 w.heap.size v hi lo wd)
        exact bodyPost_ret (res_pfx2 rfl _ _ rfl (HE5.out.1.set v hi lo wd)) rfl ⟨by rw [HR.out]; rfl, pset_below HB5.out (Nat.le_refl _) v hi lo wd⟩
    | some r =>
      have hn1 : 1 < n := by
        rcases Nat.lt_or_ge 1 n with h | h
        · exact h
        · exact absurd (hLl.1 h) (by simp)
      have dn : decide ((1 : Int) < (n : Int)) = true := by rw [decide_eq_true_eq]; omega
      have hse := hcs r rfl
      have hsl : s.size = t1.length + (r.length + 1) := by rw [← hlen, hse]; simp
      obtain ⟨k1, hk1⟩ : ∃ k1, k1 = S0.size + 1 := ⟨_, rfl⟩
      have k1i : (S0.size : Int) + 1 = (k1 : Int) := by omega
      have k1s : k1 ≤ s.size := by omega
      have hsr : (s.extract k1 s.size).data.toList = r := by
        rw [Lib.extract_data s k1 s.size, hse, show k1 = (t1 ++ [47]).length by simp; omega, show t1 ++ 47 :: r = (t1 ++ [47]) ++ r by simp, List.drop_left]
        exact List.take_of_length_le (by simp; omega)
      have HD := Lib.hid (fun W => (rdec6_any (s.extract k1 s.size) (width v) W (by omega) (by rw [← toList_length6, hsr]; omega)).mono (fun e w' (h : _ ∧ W = w') => (⟨h.1, h.2 ▸ Below.refl _ _⟩ : e = _ ∧ Below W.heap.size W w')))
      rw [hsr, decS_decB (by omega)] at HD
      have hkd := key _ (decV r) rfl hr2
      generalize decB (width v) (decV r) = D at *
      have hwd0 : (0 : Int) ≤ (width v : Nat) := by omega
      generalize width v = wd at HD HWD hwd
      clear key hr2 hLl hcs hlen hrl h1 h2 hv hse hsl hk1 hsr ht1
      rcases hkd with ⟨rfl, hR⟩ | ⟨rfl, hR⟩ | ⟨k, rfl, hk8, hkk⟩
      · have HR := Lib.hid hR
        clear hR HVP
        go_enter Tryd.func14, Tryd.ntmps14
        go_wp2_with fail
        rw [← hW0]
        clear hW0
        refine HSP.out.mono ?_
        rintro e w1 ⟨A, cap, rfl, hown, hb⟩
        obtain ⟨gl, rfl, hce⟩ := HG.out w1 A cap hown hb
        have HB1 := Lib.hid (HB0.out.trans (hb.mono HB0.out.size))
        have HE1 := Lib.hid (show PB w1 w.heap.size false 0 0 0 ∧ CE w1 gl (.string S0) from ⟨HR0.out.kept hb HR0.out.lt, hce⟩)
        clear hb hown hce HB0 HR0 HSP HG
        have f0_0 := HE1.out.1.c0
        have fz0_0 := HE1.out.1.f 0
        have f0_1 := HE1.out.1.c1
        have fz0_1 := HE1.out.1.f 1
        have f0_2 := HE1.out.1.c2
        have fz0_2 := HE1.out.1.f 2
        have f0_3 := HE1.out.1.c3
        have fz0_3 := HE1.out.1.f 3
        have fl0 := HE1.out.1.lt
        have f1_0 := HE1.out.2.c0
        have fl1 := HE1.out.2.lt
        go_wp2_with fail
        clear f0_0 fz0_0 f0_1 fz0_1 f0_2 fz0_2 f0_3 fz0_3 fl0 f1_0 fl1
        refine (HPA.out _).mono ?_
        rintro e w2 ⟨rfl, hb⟩
        obtain ⟨ga, hga⟩ : ∃ g, g = w2.heap.size := ⟨_, rfl⟩
        obtain ⟨W2, hW2⟩ : ∃ W, W = w2.alloc (.cells #[.bool v, .int .u64 hi, .int .u64 lo] 25) := ⟨_, rfl⟩
        have HE2 := Lib.hid (show PB W2 w.heap.size false 0 0 0 ∧ CE W2 gl (.string S0) ∧ AB W2 ga v hi lo from by rw [hW2, hga]; exact ⟨(HE1.out.1.kept hb HE1.out.1.lt).al _ , (HE1.out.2.kept hb HE1.out.2.lt).al _ , ab_new w2 v hi lo⟩)
        have HB2 := Lib.hid (show Below w.heap.size w W2 by rw [hW2]; exact (HB1.out.trans (hb.mono HB1.out.size)).trans ((below_alloc6 w2 _).mono (HB1.out.trans (hb.mono HB1.out.size)).size))
        have HLT_ga := Lib.hid (show w.heap.size < ga ∧ gl < ga ∧ w.heap.size ≤ ga from by rw [hga]; exact ⟨(HE1.out.1.kept hb HE1.out.1.lt).lt , (HE1.out.2.kept hb HE1.out.2.lt).lt , (HB1.out.trans (hb.mono HB1.out.size)).size⟩)
        have hx := HE1.out.1.kept hb HE1.out.1.lt
        have f0_0 := hx.c0
        have fz0_0 := hx.f 0
        have f0_1 := hx.c1
        have fz0_1 := hx.f 1
        have f0_2 := hx.c2
        have fz0_2 := hx.f 2
        have f0_3 := hx.c3
        have fz0_3 := hx.f 3
        have fl0 := hx.lt
        clear hx
        have hx := HE1.out.2.kept hb HE1.out.2.lt
        have f1_0 := hx.c0
        have fl1 := hx.lt
        clear hx
        clear hb HE1 HB1 
        go_wp2_with fail
        first | rw [← hW2, ← hga] | rw [← hW2] | skip
        clear hW2 hga
        clear f0_0 fz0_0 f0_1 fz0_1 f0_2 fz0_2 f0_3 fz0_3 fl0 f1_0 fl1
        refine (HWD.out _).mono ?_
        rintro e w3 ⟨rfl, hb⟩
        have HE3 := Lib.hid (show PB w3 w.heap.size false 0 0 0 ∧ CE w3 gl (.string S0) ∧ AB w3 ga v hi lo from ⟨HE2.out.1.kept hb HE2.out.1.lt , HE2.out.2.1.kept hb HE2.out.2.1.lt , HE2.out.2.2.kept hb HE2.out.2.2.lt⟩)
        have HB3 := Lib.hid (HB2.out.trans (hb.mono HB2.out.size))
        clear hb HE2 HB2 
        have f0_0 := HE3.out.1.c0
        have fz0_0 := HE3.out.1.f 0
        have f0_1 := HE3.out.1.c1
        have fz0_1 := HE3.out.1.f 1
        have f0_2 := HE3.out.1.c2
        have fz0_2 := HE3.out.1.f 2
        have f0_3 := HE3.out.1.c3
        have fz0_3 := HE3.out.1.f 3
        have fl0 := HE3.out.1.lt
        have f1_0 := HE3.out.2.1.c0
        have fl1 := HE3.out.2.1.lt
        have f2_0 := HE3.out.2.2.c0
        have f2_1 := HE3.out.2.2.c1
        have f2_2 := HE3.out.2.2.c2
        have fl2 := HE3.out.2.2.lt
        go_wp2_with fail
        clear f0_0 fz0_0 f0_1 fz0_1 f0_2 fz0_2 f0_3 fz0_3 fl0 f1_0 fl1 f2_0 f2_1 f2_2 fl2
        refine wp_region_pick (fun w' => Below w3.heap.size w3 w') (by kernel_rfl) (by kernel_rfl) (Below.refl _ _) ⟨rfl, rfl, rfl, Nat.le_refl _, fun _ _ => rfl⟩ (fun p hp hq => ?_)
        have p0_0 : ∀ u, (p u).cell? ⟨w.heap.size, 0, none⟩ = some (.bool false) := fun u => (HE3.out.1.kept (hp u) HE3.out.1.lt).c0
        have p0_1 : ∀ u, (p u).cell? ⟨w.heap.size, 1, none⟩ = some (.int .u64 0) := fun u => (HE3.out.1.kept (hp u) HE3.out.1.lt).c1
        have p0_2 : ∀ u, (p u).cell? ⟨w.heap.size, 2, none⟩ = some (.int .u64 0) := fun u => (HE3.out.1.kept (hp u) HE3.out.1.lt).c2
        have p0_3 : ∀ u, (p u).cell? ⟨w.heap.size, 3, none⟩ = some (.int .i64 0) := fun u => (HE3.out.1.kept (hp u) HE3.out.1.lt).c3
        have p1_0 : ∀ u, (p u).cell? ⟨gl, 0, none⟩ = some ((.string S0)) := fun u => (HE3.out.2.1.kept (hp u) HE3.out.2.1.lt).c0
        have p2_0 : ∀ u, (p u).cell? ⟨ga, 0, none⟩ = some (.bool v) := fun u => (HE3.out.2.2.kept (hp u) HE3.out.2.2.lt).c0
        have p2_1 : ∀ u, (p u).cell? ⟨ga, 1, none⟩ = some (.int .u64 hi) := fun u => (HE3.out.2.2.kept (hp u) HE3.out.2.2.lt).c1
        have p2_2 : ∀ u, (p u).cell? ⟨ga, 2, none⟩ = some (.int .u64 lo) := fun u => (HE3.out.2.2.kept (hp u) HE3.out.2.2.lt).c2
        have HP := Lib.hid hp
        have HQ := Lib.hid hq
        clear hp hq
        repeat (go_big_quiet_step ((first | with_reducible exact Calls.pick_of HQ.out (fun W' hb => (HP.out _).trans (hb.mono (HP.out _).size)) (HWD.out _) | with_reducible exact Calls.pick_of HQ.out (fun W' hb => (HP.out _).trans (hb.mono (HP.out _).size)) (HD.out _))))
        refine wpQuiet_nil ?_
        rintro _ ⟨u, rfl⟩
        have hb := HP.out u
        generalize p u = w4 at *
        clear HP HQ p0_0 p0_1 p0_2 p0_3 p1_0 p2_0 p2_1 p2_2
        have HE4 := Lib.hid (show PB w4 w.heap.size false 0 0 0 ∧ CE w4 gl (.string S0) ∧ AB w4 ga v hi lo from ⟨HE3.out.1.kept hb HE3.out.1.lt , HE3.out.2.1.kept hb HE3.out.2.1.lt , HE3.out.2.2.kept hb HE3.out.2.2.lt⟩)
        have HB4 := Lib.hid (HB3.out.trans (hb.mono HB3.out.size))
        clear hb HE3 HB3 
        have f0_0 := HE4.out.1.c0
        have fz0_0 := HE4.out.1.f 0
        have f0_1 := HE4.out.1.c1
        have fz0_1 := HE4.out.1.f 1
        have f0_2 := HE4.out.1.c2
        have fz0_2 := HE4.out.1.f 2
        have f0_3 := HE4.out.1.c3
        have fz0_3 := HE4.out.1.f 3
        have fl0 := HE4.out.1.lt
        have f1_0 := HE4.out.2.1.c0
        have fl1 := HE4.out.2.1.lt
        have f2_0 := HE4.out.2.2.c0
        have f2_1 := HE4.out.2.2.c1
        have f2_2 := HE4.out.2.2.c2
        have fl2 := HE4.out.2.2.lt
        go_wp2_with fail
        change bodyPost _ _ _ _ _ (pset w4 w.heap.size false 0 0 0)
        exact bodyPost_ret (res_pfx2 rfl _ _ rfl (HE4.out.1.set false 0 0 0)) rfl ⟨by rw [HR.out]; rfl, pset_below HB4.out (Nat.le_refl _) false 0 0 0⟩
      · have HR := Lib.hid hR
        clear hR HVP
        go_enter Tryd.func14, Tryd.ntmps14
        go_wp2_with fail
        rw [← hW0]
        clear hW0
        refine HSP.out.mono ?_
        rintro e w1 ⟨A, cap, rfl, hown, hb⟩
        obtain ⟨gl, rfl, hce⟩ := HG.out w1 A cap hown hb
        have HB1 := Lib.hid (HB0.out.trans (hb.mono HB0.out.size))
        have HE1 := Lib.hid (show PB w1 w.heap.size false 0 0 0 ∧ CE w1 gl (.string S0) from ⟨HR0.out.kept hb HR0.out.lt, hce⟩)
        clear hb hown hce HB0 HR0 HSP HG
        have f0_0 := HE1.out.1.c0
        have fz0_0 := HE1.out.1.f 0
        have f0_1 := HE1.out.1.c1
        have fz0_1 := HE1.out.1.f 1
        have f0_2 := HE1.out.1.c2
        have fz0_2 := HE1.out.1.f 2
        have f0_3 := HE1.out.1.c3
        have fz0_3 := HE1.out.1.f 3
        have fl0 := HE1.out.1.lt
        have f1_0 := HE1.out.2.c0
        have fl1 := HE1.out.2.lt
        go_wp2_with fail
        clear f0_0 fz0_0 f0_1 fz0_1 f0_2 fz0_2 f0_3 fz0_3 fl0 f1_0 fl1
        refine (HPA.out _).mono ?_
        rintro e w2 ⟨rfl, hb⟩
        obtain ⟨ga, hga⟩ : ∃ g, g = w2.heap.size := ⟨_, rfl⟩
        obtain ⟨W2, hW2⟩ : ∃ W, W = w2.alloc (.cells #[.bool v, .int .u64 hi, .int .u64 lo] 25) := ⟨_, rfl⟩
        have HE2 := Lib.hid (show PB W2 w.heap.size false 0 0 0 ∧ CE W2 gl (.string S0) ∧ AB W2 ga v hi lo from by rw [hW2, hga]; exact ⟨(HE1.out.1.kept hb HE1.out.1.lt).al _ , (HE1.out.2.kept hb HE1.out.2.lt).al _ , ab_new w2 v hi lo⟩)
        have HB2 := Lib.hid (show Below w.heap.size w W2 by rw [hW2]; exact (HB1.out.trans (hb.mono HB1.out.size)).trans ((below_alloc6 w2 _).mono (HB1.out.trans (hb.mono HB1.out.size)).size))
        have HLT_ga := Lib.hid (show w.heap.size < ga ∧ gl < ga ∧ w.heap.size ≤ ga from by rw [hga]; exact ⟨(HE1.out.1.kept hb HE1.out.1.lt).lt , (HE1.out.2.kept hb HE1.out.2.lt).lt , (HB1.out.trans (hb.mono HB1.out.size)).size⟩)
        have hx := HE1.out.1.kept hb HE1.out.1.lt
        have f0_0 := hx.c0
        have fz0_0 := hx.f 0
        have f0_1 := hx.c1
        have fz0_1 := hx.f 1
        have f0_2 := hx.c2
        have fz0_2 := hx.f 2
        have f0_3 := hx.c3
        have fz0_3 := hx.f 3
        have fl0 := hx.lt
        clear hx
        have hx := HE1.out.2.kept hb HE1.out.2.lt
        have f1_0 := hx.c0
        have fl1 := hx.lt
        clear hx
        clear hb HE1 HB1 
        go_wp2_with fail
        first | rw [← hW2, ← hga] | rw [← hW2] | skip
        clear hW2 hga
        clear f0_0 fz0_0 f0_1 fz0_1 f0_2 fz0_2 f0_3 fz0_3 fl0 f1_0 fl1
        refine (HWD.out _).mono ?_
        rintro e w3 ⟨rfl, hb⟩
        have HE3 := Lib.hid (show PB w3 w.heap.size false 0 0 0 ∧ CE w3 gl (.string S0) ∧ AB w3 ga v hi lo from ⟨HE2.out.1.kept hb HE2.out.1.lt , HE2.out.2.1.kept hb HE2.out.2.1.lt , HE2.out.2.2.kept hb HE2.out.2.2.lt⟩)
        have HB3 := Lib.hid (HB2.out.trans (hb.mono HB2.out.size))
        clear hb HE2 HB2 
        have f0_0 := HE3.out.1.c0
        have fz0_0 := HE3.out.1.f 0
        have f0_1 := HE3.out.1.c1
        have fz0_1 := HE3.out.1.f 1
        have f0_2 := HE3.out.1.c2
        have fz0_2 := HE3.out.1.f 2
        have f0_3 := HE3.out.1.c3
        have fz0_3 := HE3.out.1.f 3
        have fl0 := HE3.out.1.lt
        have f1_0 := HE3.out.2.1.c0
        have fl1 := HE3.out.2.1.lt
        have f2_0 := HE3.out.2.2.c0
        have f2_1 := HE3.out.2.2.c1
        have f2_2 := HE3.out.2.2.c2
        have fl2 := HE3.out.2.2.lt
        go_wp2_with fail
        clear f0_0 fz0_0 f0_1 fz0_1 f0_2 fz0_2 f0_3 fz0_3 fl0 f1_0 fl1 f2_0 f2_1 f2_2 fl2
        refine wp_region_pick (fun w' => Below w3.heap.size w3 w') (by kernel_rfl) (by kernel_rfl) (Below.refl _ _) ⟨rfl, rfl, rfl, Nat.le_refl _, fun _ _ => rfl⟩ (fun p hp hq => ?_)
        have p0_0 : ∀ u, (p u).cell? ⟨w.heap.size, 0, none⟩ = some (.bool false) := fun u => (HE3.out.1.kept (hp u) HE3.out.1.lt).c0
        have p0_1 : ∀ u, (p u).cell? ⟨w.heap.size, 1, none⟩ = some (.int .u64 0) := fun u => (HE3.out.1.kept (hp u) HE3.out.1.lt).c1
        have p0_2 : ∀ u, (p u).cell? ⟨w.heap.size, 2, none⟩ = some (.int .u64 0) := fun u => (HE3.out.1.kept (hp u) HE3.out.1.lt).c2
        have p0_3 : ∀ u, (p u).cell? ⟨w.heap.size, 3, none⟩ = some (.int .i64 0) := fun u => (HE3.out.1.kept (hp u) HE3.out.1.lt).c3
        have p1_0 : ∀ u, (p u).cell? ⟨gl, 0, none⟩ = some ((.string S0)) := fun u => (HE3.out.2.1.kept (hp u) HE3.out.2.1.lt).c0
        have p2_0 : ∀ u, (p u).cell? ⟨ga, 0, none⟩ = some (.bool v) := fun u => (HE3.out.2.2.kept (hp u) HE3.out.2.2.lt).c0
        have p2_1 : ∀ u, (p u).cell? ⟨ga, 1, none⟩ = some (.int .u64 hi) := fun u => (HE3.out.2.2.kept (hp u) HE3.out.2.2.lt).c1
        have p2_2 : ∀ u, (p u).cell? ⟨ga, 2, none⟩ = some (.int .u64 lo) := fun u => (HE3.out.2.2.kept (hp u) HE3.out.2.2.lt).c2
        have HP := Lib.hid hp
        have HQ := Lib.hid hq
        clear hp hq
        repeat (go_big_quiet_step ((first | with_reducible exact Calls.pick_of HQ.out (fun W' hb => (HP.out _).trans (hb.mono (HP.out _).size)) (HWD.out _) | with_reducible exact Calls.pick_of HQ.out (fun W' hb => (HP.out _).trans (hb.mono (HP.out _).size)) (HD.out _))))
        refine wpQuiet_nil ?_
        rintro _ ⟨u, rfl⟩
        have hb := HP.out u
        generalize p u = w4 at *
        clear HP HQ p0_0 p0_1 p0_2 p0_3 p1_0 p2_0 p2_1 p2_2
        have HE4 := Lib.hid (show PB w4 w.heap.size false 0 0 0 ∧ CE w4 gl (.string S0) ∧ AB w4 ga v hi lo from ⟨HE3.out.1.kept hb HE3.out.1.lt , HE3.out.2.1.kept hb HE3.out.2.1.lt , HE3.out.2.2.kept hb HE3.out.2.2.lt⟩)
        have HB4 := Lib.hid (HB3.out.trans (hb.mono HB3.out.size))
        clear hb HE3 HB3 
        have f0_0 := HE4.out.1.c0
        have fz0_0 := HE4.out.1.f 0
        have f0_1 := HE4.out.1.c1
        have fz0_1 := HE4.out.1.f 1
        have f0_2 := HE4.out.1.c2
        have fz0_2 := HE4.out.1.f 2
        have f0_3 := HE4.out.1.c3
        have fz0_3 := HE4.out.1.f 3
        have fl0 := HE4.out.1.lt
        have f1_0 := HE4.out.2.1.c0
        have fl1 := HE4.out.2.1.lt
        have f2_0 := HE4.out.2.2.c0
        have f2_1 := HE4.out.2.2.c1
        have f2_2 := HE4.out.2.2.c2
        have fl2 := HE4.out.2.2.lt
        go_wp2_with fail
        change bodyPost _ _ _ _ _ (pset w4 w.heap.size false 0 0 0)
        exact bodyPost_ret (res_pfx2 rfl _ _ rfl (HE4.out.1.set false 0 0 0)) rfl ⟨by rw [HR.out]; rfl, pset_below HB4.out (Nat.le_refl _) false 0 0 0⟩
      · have dm1 : ((k : Int) == -1) = false := by rw [beq_eq_false_iff_ne]; omega
        have dm2 : ((k : Int) == -2) = false := by rw [beq_eq_false_iff_ne]; omega
        have ne1 : ¬ (k : Int) = -1 := by omega
        have ne2 : ¬ (k : Int) = -2 := by omega
        have HVPk := Lib.hid (HVP.out k)
        clear HVP hk8
        rcases hkk with ⟨hvp, hR⟩ | ⟨hvp, hR⟩
        · rw [hvp] at HVPk
          have HR := Lib.hid hR
          clear hvp hR
          go_enter Tryd.func14, Tryd.ntmps14
          go_wp2_with fail
          rw [← hW0]
          clear hW0
          refine HSP.out.mono ?_
          rintro e w1 ⟨A, cap, rfl, hown, hb⟩
          obtain ⟨gl, rfl, hce⟩ := HG.out w1 A cap hown hb
          have HB1 := Lib.hid (HB0.out.trans (hb.mono HB0.out.size))
          have HE1 := Lib.hid (show PB w1 w.heap.size false 0 0 0 ∧ CE w1 gl (.string S0) from ⟨HR0.out.kept hb HR0.out.lt, hce⟩)
          clear hb hown hce HB0 HR0 HSP HG
          have f0_0 := HE1.out.1.c0
          have fz0_0 := HE1.out.1.f 0
          have f0_1 := HE1.out.1.c1
          have fz0_1 := HE1.out.1.f 1
          have f0_2 := HE1.out.1.c2
          have fz0_2 := HE1.out.1.f 2
          have f0_3 := HE1.out.1.c3
          have fz0_3 := HE1.out.1.f 3
          have fl0 := HE1.out.1.lt
          have f1_0 := HE1.out.2.c0
          have fl1 := HE1.out.2.lt
          go_wp2_with fail
          clear f0_0 fz0_0 f0_1 fz0_1 f0_2 fz0_2 f0_3 fz0_3 fl0 f1_0 fl1
          refine (HPA.out _).mono ?_
          rintro e w2 ⟨rfl, hb⟩
          obtain ⟨ga, hga⟩ : ∃ g, g = w2.heap.size := ⟨_, rfl⟩
          obtain ⟨W2, hW2⟩ : ∃ W, W = w2.alloc (.cells #[.bool v, .int .u64 hi, .int .u64 lo] 25) := ⟨_, rfl⟩
          have HE2 := Lib.hid (show PB W2 w.heap.size false 0 0 0 ∧ CE W2 gl (.string S0) ∧ AB W2 ga v hi lo from by rw [hW2, hga]; exact ⟨(HE1.out.1.kept hb HE1.out.1.lt).al _ , (HE1.out.2.kept hb HE1.out.2.lt).al _ , ab_new w2 v hi lo⟩)
          have HB2 := Lib.hid (show Below w.heap.size w W2 by rw [hW2]; exact (HB1.out.trans (hb.mono HB1.out.size)).trans ((below_alloc6 w2 _).mono (HB1.out.trans (hb.mono HB1.out.size)).size))
          have HLT_ga := Lib.hid (show w.heap.size < ga ∧ gl < ga ∧ w.heap.size ≤ ga from by rw [hga]; exact ⟨(HE1.out.1.kept hb HE1.out.1.lt).lt , (HE1.out.2.kept hb HE1.out.2.lt).lt , (HB1.out.trans (hb.mono HB1.out.size)).size⟩)
          have hx := HE1.out.1.kept hb HE1.out.1.lt
          have f0_0 := hx.c0
          have fz0_0 := hx.f 0
          have f0_1 := hx.c1
          have fz0_1 := hx.f 1
          have f0_2 := hx.c2
          have fz0_2 := hx.f 2
          have f0_3 := hx.c3
          have fz0_3 := hx.f 3
          have fl0 := hx.lt
          clear hx
          have hx := HE1.out.2.kept hb HE1.out.2.lt
          have f1_0 := hx.c0
          have fl1 := hx.lt
          clear hx
          clear hb HE1 HB1 
          go_wp2_with fail
          first | rw [← hW2, ← hga] | rw [← hW2] | skip
          clear hW2 hga
          clear f0_0 fz0_0 f0_1 fz0_1 f0_2 fz0_2 f0_3 fz0_3 fl0 f1_0 fl1
          refine (HWD.out _).mono ?_
          rintro e w3 ⟨rfl, hb⟩
          have HE3 := Lib.hid (show PB w3 w.heap.size false 0 0 0 ∧ CE w3 gl (.string S0) ∧ AB w3 ga v hi lo from ⟨HE2.out.1.kept hb HE2.out.1.lt , HE2.out.2.1.kept hb HE2.out.2.1.lt , HE2.out.2.2.kept hb HE2.out.2.2.lt⟩)
          have HB3 := Lib.hid (HB2.out.trans (hb.mono HB2.out.size))
          clear hb HE2 HB2 
          have f0_0 := HE3.out.1.c0
          have fz0_0 := HE3.out.1.f 0
          have f0_1 := HE3.out.1.c1
          have fz0_1 := HE3.out.1.f 1
          have f0_2 := HE3.out.1.c2
          have fz0_2 := HE3.out.1.f 2
          have f0_3 := HE3.out.1.c3
          have fz0_3 := HE3.out.1.f 3
          have fl0 := HE3.out.1.lt
          have f1_0 := HE3.out.2.1.c0
          have fl1 := HE3.out.2.1.lt
          have f2_0 := HE3.out.2.2.c0
          have f2_1 := HE3.out.2.2.c1
          have f2_2 := HE3.out.2.2.c2
          have fl2 := HE3.out.2.2.lt
          go_wp2_with fail
          clear f0_0 fz0_0 f0_1 fz0_1 f0_2 fz0_2 f0_3 fz0_3 fl0 f1_0 fl1 f2_0 f2_1 f2_2 fl2
          refine wp_region_pick (fun w' => Below w3.heap.size w3 w') (by kernel_rfl) (by kernel_rfl) (Below.refl _ _) ⟨rfl, rfl, rfl, Nat.le_refl _, fun _ _ => rfl⟩ (fun p hp hq => ?_)
          have p0_0 : ∀ u, (p u).cell? ⟨w.heap.size, 0, none⟩ = some (.bool false) := fun u => (HE3.out.1.kept (hp u) HE3.out.1.lt).c0
          have p0_1 : ∀ u, (p u).cell? ⟨w.heap.size, 1, none⟩ = some (.int .u64 0) := fun u => (HE3.out.1.kept (hp u) HE3.out.1.lt).c1
          have p0_2 : ∀ u, (p u).cell? ⟨w.heap.size, 2, none⟩ = some (.int .u64 0) := fun u => (HE3.out.1.kept (hp u) HE3.out.1.lt).c2
          have p0_3 : ∀ u, (p u).cell? ⟨w.heap.size, 3, none⟩ = some (.int .i64 0) := fun u => (HE3.out.1.kept (hp u) HE3.out.1.lt).c3
          have p1_0 : ∀ u, (p u).cell? ⟨gl, 0, none⟩ = some ((.string S0)) := fun u => (HE3.out.2.1.kept (hp u) HE3.out.2.1.lt).c0
          have p2_0 : ∀ u, (p u).cell? ⟨ga, 0, none⟩ = some (.bool v) := fun u => (HE3.out.2.2.kept (hp u) HE3.out.2.2.lt).c0
          have p2_1 : ∀ u, (p u).cell? ⟨ga, 1, none⟩ = some (.int .u64 hi) := fun u => (HE3.out.2.2.kept (hp u) HE3.out.2.2.lt).c1
          have p2_2 : ∀ u, (p u).cell? ⟨ga, 2, none⟩ = some (.int .u64 lo) := fun u => (HE3.out.2.2.kept (hp u) HE3.out.2.2.lt).c2
          have HP := Lib.hid hp
          have HQ := Lib.hid hq
          clear hp hq
          repeat (go_big_quiet_step ((first | with_reducible exact Calls.pick_of HQ.out (fun W' hb => (HP.out _).trans (hb.mono (HP.out _).size)) (HWD.out _) | with_reducible exact Calls.pick_of HQ.out (fun W' hb => (HP.out _).trans (hb.mono (HP.out _).size)) (HD.out _))))
          refine wpQuiet_nil ?_
          rintro _ ⟨u, rfl⟩
          have hb := HP.out u
          generalize p u = w4 at *
          clear HP HQ p0_0 p0_1 p0_2 p0_3 p1_0 p2_0 p2_1 p2_2
          have HE4 := Lib.hid (show PB w4 w.heap.size false 0 0 0 ∧ CE w4 gl (.string S0) ∧ AB w4 ga v hi lo from ⟨HE3.out.1.kept hb HE3.out.1.lt , HE3.out.2.1.kept hb HE3.out.2.1.lt , HE3.out.2.2.kept hb HE3.out.2.2.lt⟩)
          have HB4 := Lib.hid (HB3.out.trans (hb.mono HB3.out.size))
          clear hb HE3 HB3 
          have f0_0 := HE4.out.1.c0
          have fz0_0 := HE4.out.1.f 0
          have f0_1 := HE4.out.1.c1
          have fz0_1 := HE4.out.1.f 1
          have f0_2 := HE4.out.1.c2
          have fz0_2 := HE4.out.1.f 2
          have f0_3 := HE4.out.1.c3
          have fz0_3 := HE4.out.1.f 3
          have fl0 := HE4.out.1.lt
          have f1_0 := HE4.out.2.1.c0
          have fl1 := HE4.out.2.1.lt
          have f2_0 := HE4.out.2.2.c0
          have f2_1 := HE4.out.2.2.c1
          have f2_2 := HE4.out.2.2.c2
          have fl2 := HE4.out.2.2.lt
          obtain ⟨gp, hgp⟩ : ∃ g, g = w4.heap.size := ⟨_, rfl⟩
          obtain ⟨W5, hW5⟩ : ∃ W, W = w4.alloc (.cells #[.bool v, .int .u64 hi, .int .u64 lo, .int .i64 k] 30) := ⟨_, rfl⟩
          have HE5 := Lib.hid (show PB W5 w.heap.size false 0 0 0 ∧ CE W5 gl (.string S0) ∧ AB W5 ga v hi lo ∧ PB W5 gp v hi lo k from by rw [hW5, hgp]; exact ⟨(HE4.out.1).al _ , (HE4.out.2.1).al _ , (HE4.out.2.2).al _ , pb_new w4 v hi lo k⟩)
          have HB5 := Lib.hid (show Below w.heap.size w W5 by rw [hW5]; exact HB4.out.trans ((below_alloc6 w4 _).mono HB4.out.size))
          clear HE4 HB4 
          go_wp2_with fail
          first | rw [← hW5, ← hgp] | rw [← hW5] | skip
          clear hW5 hgp
          clear f0_0 fz0_0 f0_1 fz0_1 f0_2 fz0_2 f0_3 fz0_3 fl0 f1_0 fl1 f2_0 f2_1 f2_2 fl2
          refine (HVPk.out _).mono ?_
          rintro e w6 ⟨rfl, hb⟩
          have HE6 := Lib.hid (show PB w6 w.heap.size false 0 0 0 ∧ CE w6 gl (.string S0) ∧ AB w6 ga v hi lo ∧ PB w6 gp v hi lo k from ⟨HE5.out.1.kept hb HE5.out.1.lt , HE5.out.2.1.kept hb HE5.out.2.1.lt , HE5.out.2.2.1.kept hb HE5.out.2.2.1.lt , HE5.out.2.2.2.kept hb HE5.out.2.2.2.lt⟩)
          have HB6 := Lib.hid (HB5.out.trans (hb.mono HB5.out.size))
          clear hb HE5 HB5 
          have f0_0 := HE6.out.1.c0
          have fz0_0 := HE6.out.1.f 0
          have f0_1 := HE6.out.1.c1
          have fz0_1 := HE6.out.1.f 1
          have f0_2 := HE6.out.1.c2
          have fz0_2 := HE6.out.1.f 2
          have f0_3 := HE6.out.1.c3
          have fz0_3 := HE6.out.1.f 3
          have fl0 := HE6.out.1.lt
          have f1_0 := HE6.out.2.1.c0
          have fl1 := HE6.out.2.1.lt
          have f2_0 := HE6.out.2.2.1.c0
          have f2_1 := HE6.out.2.2.1.c1
          have f2_2 := HE6.out.2.2.1.c2
          have fl2 := HE6.out.2.2.1.lt
          have f3_0 := HE6.out.2.2.2.c0
          have f3_1 := HE6.out.2.2.2.c1
          have f3_2 := HE6.out.2.2.2.c2
          have f3_3 := HE6.out.2.2.2.c3
          have fl3 := HE6.out.2.2.2.lt
          go_wp2_with fail
          change bodyPost _ _ _ _ _ (pset w6 w.heap.size false 0 0 0)
          exact bodyPost_ret (res_pfx2 rfl _ _ rfl (HE6.out.1.set false 0 0 0)) rfl ⟨by rw [HR.out]; rfl, pset_below HB6.out (Nat.le_refl _) false 0 0 0⟩
        · rw [hvp] at HVPk
          have HR := Lib.hid hR
          clear hvp hR
          go_enter Tryd.func14, Tryd.ntmps14
          go_wp2_with fail
          rw [← hW0]
          clear hW0
          refine HSP.out.mono ?_
          rintro e w1 ⟨A, cap, rfl, hown, hb⟩
          obtain ⟨gl, rfl, hce⟩ := HG.out w1 A cap hown hb
          have HB1 := Lib.hid (HB0.out.trans (hb.mono HB0.out.size))
          have HE1 := Lib.hid (show PB w1 w.heap.size false 0 0 0 ∧ CE w1 gl (.string S0) from ⟨HR0.out.kept hb HR0.out.lt, hce⟩)
          clear hb hown hce HB0 HR0 HSP HG
          have f0_0 := HE1.out.1.c0
          have fz0_0 := HE1.out.1.f 0
          have f0_1 := HE1.out.1.c1
          have fz0_1 := HE1.out.1.f 1
          have f0_2 := HE1.out.1.c2
          have fz0_2 := HE1.out.1.f 2
          have f0_3 := HE1.out.1.c3
          have fz0_3 := HE1.out.1.f 3
          have fl0 := HE1.out.1.lt
          have f1_0 := HE1.out.2.c0
          have fl1 := HE1.out.2.lt
          go_wp2_with fail
          clear f0_0 fz0_0 f0_1 fz0_1 f0_2 fz0_2 f0_3 fz0_3 fl0 f1_0 fl1
          refine (HPA.out _).mono ?_
          rintro e w2 ⟨rfl, hb⟩
          obtain ⟨ga, hga⟩ : ∃ g, g = w2.heap.size := ⟨_, rfl⟩
          obtain ⟨W2, hW2⟩ : ∃ W, W = w2.alloc (.cells #[.bool v, .int .u64 hi, .int .u64 lo] 25) := ⟨_, rfl⟩
          have HE2 := Lib.hid (show PB W2 w.heap.size false 0 0 0 ∧ CE W2 gl (.string S0) ∧ AB W2 ga v hi lo from by rw [hW2, hga]; exact ⟨(HE1.out.1.kept hb HE1.out.1.lt).al _ , (HE1.out.2.kept hb HE1.out.2.lt).al _ , ab_new w2 v hi lo⟩)
          have HB2 := Lib.hid (show Below w.heap.size w W2 by rw [hW2]; exact (HB1.out.trans (hb.mono HB1.out.size)).trans ((below_alloc6 w2 _).mono (HB1.out.trans (hb.mono HB1.out.size)).size))
          have HLT_ga := Lib.hid (show w.heap.size < ga ∧ gl < ga ∧ w.heap.size ≤ ga from by rw [hga]; exact ⟨(HE1.out.1.kept hb HE1.out.1.lt).lt , (HE1.out.2.kept hb HE1.out.2.lt).lt , (HB1.out.trans (hb.mono HB1.out.size)).size⟩)
          have hx := HE1.out.1.kept hb HE1.out.1.lt
          have f0_0 := hx.c0
          have fz0_0 := hx.f 0
          have f0_1 := hx.c1
          have fz0_1 := hx.f 1
          have f0_2 := hx.c2
          have fz0_2 := hx.f 2
          have f0_3 := hx.c3
          have fz0_3 := hx.f 3
          have fl0 := hx.lt
          clear hx
          have hx := HE1.out.2.kept hb HE1.out.2.lt
          have f1_0 := hx.c0
          have fl1 := hx.lt
          clear hx
          clear hb HE1 HB1 
          go_wp2_with fail
          first | rw [← hW2, ← hga] | rw [← hW2] | skip
          clear hW2 hga
          clear f0_0 fz0_0 f0_1 fz0_1 f0_2 fz0_2 f0_3 fz0_3 fl0 f1_0 fl1
          refine (HWD.out _).mono ?_
          rintro e w3 ⟨rfl, hb⟩
          have HE3 := Lib.hid (show PB w3 w.heap.size false 0 0 0 ∧ CE w3 gl (.string S0) ∧ AB w3 ga v hi lo from ⟨HE2.out.1.kept hb HE2.out.1.lt , HE2.out.2.1.kept hb HE2.out.2.1.lt , HE2.out.2.2.kept hb HE2.out.2.2.lt⟩)
          have HB3 := Lib.hid (HB2.out.trans (hb.mono HB2.out.size))
          clear hb HE2 HB2 
          have f0_0 := HE3.out.1.c0
          have fz0_0 := HE3.out.1.f 0
          have f0_1 := HE3.out.1.c1
          have fz0_1 := HE3.out.1.f 1
          have f0_2 := HE3.out.1.c2
          have fz0_2 := HE3.out.1.f 2
          have f0_3 := HE3.out.1.c3
          have fz0_3 := HE3.out.1.f 3
          have fl0 := HE3.out.1.lt
          have f1_0 := HE3.out.2.1.c0
          have fl1 := HE3.out.2.1.lt
          have f2_0 := HE3.out.2.2.c0
          have f2_1 := HE3.out.2.2.c1
          have f2_2 := HE3.out.2.2.c2
          have fl2 := HE3.out.2.2.lt
          go_wp2_with fail
          clear f0_0 fz0_0 f0_1 fz0_1 f0_2 fz0_2 f0_3 fz0_3 fl0 f1_0 fl1 f2_0 f2_1 f2_2 fl2
          refine wp_region_pick (fun w' => Below w3.heap.size w3 w') (by kernel_rfl) (by kernel_rfl) (Below.refl _ _) ⟨rfl, rfl, rfl, Nat.le_refl _, fun _ _ => rfl⟩ (fun p hp hq => ?_)
          have p0_0 : ∀ u, (p u).cell? ⟨w.heap.size, 0, none⟩ = some (.bool false) := fun u => (HE3.out.1.kept (hp u) HE3.out.1.lt).c0
          have p0_1 : ∀ u, (p u).cell? ⟨w.heap.size, 1, none⟩ = some (.int .u64 0) := fun u => (HE3.out.1.kept (hp u) HE3.out.1.lt).c1
          have p0_2 : ∀ u, (p u).cell? ⟨w.heap.size, 2, none⟩ = some (.int .u64 0) := fun u => (HE3.out.1.kept (hp u) HE3.out.1.lt).c2
          have p0_3 : ∀ u, (p u).cell? ⟨w.heap.size, 3, none⟩ = some (.int .i64 0) := fun u => (HE3.out.1.kept (hp u) HE3.out.1.lt).c3
          have p1_0 : ∀ u, (p u).cell? ⟨gl, 0, none⟩ = some ((.string S0)) := fun u => (HE3.out.2.1.kept (hp u) HE3.out.2.1.lt).c0
          have p2_0 : ∀ u, (p u).cell? ⟨ga, 0, none⟩ = some (.bool v) := fun u => (HE3.out.2.2.kept (hp u) HE3.out.2.2.lt).c0
          have p2_1 : ∀ u, (p u).cell? ⟨ga, 1, none⟩ = some (.int .u64 hi) := fun u => (HE3.out.2.2.kept (hp u) HE3.out.2.2.lt).c1
          have p2_2 : ∀ u, (p u).cell? ⟨ga, 2, none⟩ = some (.int .u64 lo) := fun u => (HE3.out.2.2.kept (hp u) HE3.out.2.2.lt).c2
          have HP := Lib.hid hp
          have HQ := Lib.hid hq
          clear hp hq
          repeat (go_big_quiet_step ((first | with_reducible exact Calls.pick_of HQ.out (fun W' hb => (HP.out _).trans (hb.mono (HP.out _).size)) (HWD.out _) | with_reducible exact Calls.pick_of HQ.out (fun W' hb => (HP.out _).trans (hb.mono (HP.out _).size)) (HD.out _))))
          refine wpQuiet_nil ?_
          rintro _ ⟨u, rfl⟩
          have hb := HP.out u
          generalize p u = w4 at *
          clear HP HQ p0_0 p0_1 p0_2 p0_3 p1_0 p2_0 p2_1 p2_2
          have HE4 := Lib.hid (show PB w4 w.heap.size false 0 0 0 ∧ CE w4 gl (.string S0) ∧ AB w4 ga v hi lo from ⟨HE3.out.1.kept hb HE3.out.1.lt , HE3.out.2.1.kept hb HE3.out.2.1.lt , HE3.out.2.2.kept hb HE3.out.2.2.lt⟩)
          have HB4 := Lib.hid (HB3.out.trans (hb.mono HB3.out.size))
          clear hb HE3 HB3 
          have f0_0 := HE4.out.1.c0
          have fz0_0 := HE4.out.1.f 0
          have f0_1 := HE4.out.1.c1
          have fz0_1 := HE4.out.1.f 1
          have f0_2 := HE4.out.1.c2
          have fz0_2 := HE4.out.1.f 2
          have f0_3 := HE4.out.1.c3
          have fz0_3 := HE4.out.1.f 3
          have fl0 := HE4.out.1.lt
          have f1_0 := HE4.out.2.1.c0
          have fl1 := HE4.out.2.1.lt
          have f2_0 := HE4.out.2.2.c0
          have f2_1 := HE4.out.2.2.c1
          have f2_2 := HE4.out.2.2.c2
          have fl2 := HE4.out.2.2.lt
          obtain ⟨gp, hgp⟩ : ∃ g, g = w4.heap.size := ⟨_, rfl⟩
          obtain ⟨W5, hW5⟩ : ∃ W, W = w4.alloc (.cells #[.bool v, .int .u64 hi, .int .u64 lo, .int .i64 k] 30) := ⟨_, rfl⟩
          have HE5 := Lib.hid (show PB W5 w.heap.size false 0 0 0 ∧ CE W5 gl (.string S0) ∧ AB W5 ga v hi lo ∧ PB W5 gp v hi lo k from by rw [hW5, hgp]; exact ⟨(HE4.out.1).al _ , (HE4.out.2.1).al _ , (HE4.out.2.2).al _ , pb_new w4 v hi lo k⟩)
          have HB5 := Lib.hid (show Below w.heap.size w W5 by rw [hW5]; exact HB4.out.trans ((below_alloc6 w4 _).mono HB4.out.size))
          clear HE4 HB4 
          go_wp2_with fail
          first | rw [← hW5, ← hgp] | rw [← hW5] | skip
          clear hW5 hgp
          clear f0_0 fz0_0 f0_1 fz0_1 f0_2 fz0_2 f0_3 fz0_3 fl0 f1_0 fl1 f2_0 f2_1 f2_2 fl2
          refine (HVPk.out _).mono ?_
          rintro e w6 ⟨rfl, hb⟩
          have HE6 := Lib.hid (show PB w6 w.heap.size false 0 0 0 ∧ CE w6 gl (.string S0) ∧ AB w6 ga v hi lo ∧ PB w6 gp v hi lo k from ⟨HE5.out.1.kept hb HE5.out.1.lt , HE5.out.2.1.kept hb HE5.out.2.1.lt , HE5.out.2.2.1.kept hb HE5.out.2.2.1.lt , HE5.out.2.2.2.kept hb HE5.out.2.2.2.lt⟩)
          have HB6 := Lib.hid (HB5.out.trans (hb.mono HB5.out.size))
          clear hb HE5 HB5 
          have f0_0 := HE6.out.1.c0
          have fz0_0 := HE6.out.1.f 0
          have f0_1 := HE6.out.1.c1
          have fz0_1 := HE6.out.1.f 1
          have f0_2 := HE6.out.1.c2
          have fz0_2 := HE6.out.1.f 2
          have f0_3 := HE6.out.1.c3
          have fz0_3 := HE6.out.1.f 3
          have fl0 := HE6.out.1.lt
          have f1_0 := HE6.out.2.1.c0
          have fl1 := HE6.out.2.1.lt
          have f2_0 := HE6.out.2.2.1.c0
          have f2_1 := HE6.out.2.2.1.c1
          have f2_2 := HE6.out.2.2.1.c2
          have fl2 := HE6.out.2.2.1.lt
          have f3_0 := HE6.out.2.2.2.c0
          have f3_1 := HE6.out.2.2.2.c1
          have f3_2 := HE6.out.2.2.2.c2
          have f3_3 := HE6.out.2.2.2.c3
          have fl3 := HE6.out.2.2.2.lt
          go_wp2_with fail
          change bodyPost _ _ _ _ _ (pset w6 w.heap.size v hi lo k)
          exact bodyPost_ret (res_pfx2 rfl _ _ rfl (HE6.out.1.set v hi lo k)) rfl ⟨by rw [HR.out]; rfl, pset_below HB6.out (Nat.le_refl _) v hi lo k⟩
end Go.Proofs.YtcblgbonijloiaaDoor

/- The listed variables of layer 6 (tables of the library), and the wrap that keeps the world's shape. -/
namespace Go.Proofs.YtcblgbonijloiaaDoor
open Go.ChangeShapes Go.WideShapes Go.ChangeAt Go.RowKit

/-- What the rows list. -/
def laidL : List (String × DataW Unit) := [("math/bits.deBruijn32tab", Rows.laid_math_bits_deBruijn32tab), ("math/bits.deBruijn64tab", Rows.laid_math_bits_deBruijn64tab), ("internal/strconv.uint64pow10", Rows.laid_internal_strconv_uint64pow10), ("unicode/utf8.acceptRanges", Rows.laid_unicode_utf8_acceptRanges), ("unicode/utf8.first", Rows.laid_unicode_utf8_first)]
/-- The witness's heap, with the tables laid, meets the condition. -/
theorem door_met (os : Os) (args : Array Value) : laidMetH Tryd.prog laidL ((World.laidAll Tryd.prog os laidL).forCall (fun _ _ => 0) ⟨#[], args, []⟩).memory := by
  rw [MakeChecks.laidMetH_plain _ _ _ (by kernel_rfl)]
  exact laidMet_laidAll _ (by kernel_rfl) (by kernel_rfl)
theorem gDb64 : Tryd.prog.globalNamed "math/bits.deBruijn64tab" = some 5 := by kernel_rfl
theorem tDb64 : (Tryd.prog.globals[5]?).map (·.type) = some 133 := by kernel_rfl
theorem tPow10 : (Tryd.prog.globals[1]?).map (·.type) = some 123 := by kernel_rfl
theorem cU8 : Tryd.prog.cellsOf 5 = 1 := by kernel_rfl
theorem cU64 : Tryd.prog.cellsOf 23 = 1 := by kernel_rfl
theorem cDb64 : Tryd.prog.cellsOf 133 = 64 := by kernel_rfl
theorem cPow10 : Tryd.prog.cellsOf 123 = 20 := by kernel_rfl
def db64L : List Int := [0, 1, 56, 2, 57, 49, 28, 3, 61, 58, 42, 50, 38, 29, 17, 4, 62, 47, 59, 36, 45, 43, 51, 22, 53, 39, 33, 30, 24, 18, 12, 5, 63, 55, 48, 27, 60, 41, 37, 16, 46, 35, 44, 21, 52, 32, 23, 11, 54, 26, 40, 15, 34, 20, 31, 10, 25, 14, 19, 9, 13, 8, 7, 6]
theorem tied_of_laid {W : World} (h : laidMetH Tryd.prog laidL W) (hsh : W.ShapedOpen Tryd.prog) : TW W := by
  rw [MakeChecks.laidMetH_plain _ _ _ (by kernel_rfl)] at h
  have h1 := laidMet.tail h
  have h2 := laidMet.tail h1
  have hT := Lib.tabIs_of_head (zs := db64L) (k := .u8) gDb64 tDb64 Tryd.underlying133 Tryd.underlying5 cU8 cDb64 h1
  have hP := Lib.tabIs_of_head (zs := Lib.pow10Tab) (k := .u64) gPow10 tPow10 Tryd.underlying123 Tryd.underlying23 cU64 cPow10 h2
  refine ⟨?_, hP, ?_⟩
  · exact cell_of_shapedOpen_int (t := 3) (zero := #[.int .i64 0]) hsh (by decide +kernel) (by kernel_rfl) rfl (by kernel_rfl) (by kernel_rfl) Tryd.underlying3
  · exact Lib.TabIs.cell hT gDb64 15 (by decide)
variable {H : Type} {enc : TypeId × Value → H}
/-- The wrap of a law that lists variables and is handed the world's shape. -/
theorem wrap6 {a : Assume} {C : Checked} {os : Os} {f : FuncId} {fn : Func} {s : ChangeSpec} {conds : List PathCond} {apart fresh handsOn again : Bool} {X : World → Array Value → Prop}
    (hX : ∀ (w w' : World) (args : Array Value), w.heap = w'.heap → X w args → X w' args)
    (own : ownKnob C.prog.godebug = none) (started : os.Started) (noInit : C.prog.inits.idxOf? f = none) (hfn : C.prog.funcs[f]? = some fn)
    (witness : ∃ (w : World) (tape : Tape) (i : Input), w.os = os ∧ (w.forCall tape i).Shaped C.prog ∧ i.vars = [] ∧ Input.okWide C.prog (w.forCall tape i) .any w.heap.size f i ∧
      ((s.pre enc C.prog fn conds apart (w.forCall tape i).memory i.args ∧ X (w.forCall tape i).memory i.args) ∧ sizedMet enc C.prog fn (OpenSpec.ofChange s) apart (w.forCall tape i).memory i.args) ∧ a.holds C.prog (lone (Frame.enter C.prog f i.args .normal) [] (w.forCall tape i)))
    (walk : ∀ (W : World) (base : Nat) (args : Array Value) (ds gs : List (DataW H)) (before : List MemPlace),
      (∀ (j : Nat) t v, fn.params[j]? = some t → args[j]? = some v → Value.okWide C.prog W .any base t v) →
      DataW.Whole enc C.prog fn.params.toList s.vars apart W args.toList ds gs before → X W args → W.ShapedOpen C.prog →
      Calls C.prog f args W fun e W' => ∃ v, e = .returned v ∧ s.post enc C.prog fn apart fresh handsOn again W args v W') :
    ReturnsInHanded a C os f .any (fun w args => (s.pre enc C.prog fn conds apart w args ∧ X w args) ∧ sizedMet enc C.prog fn (OpenSpec.ofChange s) apart w args) (s.post enc C.prog fn apart fresh handsOn again) := by
  refine returnsInHanded_of_calls own started noInit witness ?_
  intro w tape i _ hsh _ hok hpre _
  obtain ⟨_, _, _, fn2, hfn2, _, _, _, _, hval⟩ := hok
  obtain rfl : fn2 = fn := Option.some.inj (hfn2.symm.trans hfn)
  obtain ⟨⟨⟨ds, gs, before, hw, _⟩, hx⟩, _⟩ := hpre
  refine (walk (w.forCall tape i) w.heap.size i.args ds gs before hval (DataW.Whole.of_heap (w' := w.forCall tape i) (by rfl) hw) (hX _ _ _ (by rfl) hx) hsh).mono fun e W' ⟨v, he, hp⟩ => ?_
  subst he
  exact ChangeSpec.post_blind hp
theorem cellsAddr6 : Tryd.prog.cellsOf 25 = 3 := by kernel_rfl
end Go.Proofs.YtcblgbonijloiaaDoor
