/- Contracts of the functions, further part 1: In07b, SetPCon, Own07. -/
import Derived.Test.YtmcelgnifpfjpaaAOp4
import Derived.Test.YtmcelgnifpfjpaaAOp7
/- An address by value as it comes in. -/
namespace Go.Proofs.Ytmcelgnifpfjpaa
open Go.ChangeShapes Go.WideShapes Go.ChangeAt Go.RowKit
open Go.Joins
set_option linter.unusedVariables false

variable {H : Type} {enc : TypeId × Value → H}
theorem array37 {α : Type} {a : Array α} (h : a.size = 3) : ∃ x y z, a = #[x, y, z] := by
  rcases a with ⟨l⟩
  match l, h with
  | [x, y, z], _ => exact ⟨x, y, z, rfl⟩
set_option maxRecDepth 20000 in
theorem in_addr7 {r : Reach} {w : World} {base b0 : Nat} {spare : Nat → Bool} {held : Bool} {v : Value} {d : DataW H} {p : List MemPlace} (hv : Value.okWide Try.prog w r b0 25 v) (h : DataW.Trod enc Try.prog w base spare held 25 v d p) :
    ∃ a : Ad, a.fits ∧ v = .agg #[.bool a.v, .int .u64 a.h, .int .u64 a.l] := by
  obtain ⟨g0, g1, g2, hsA, _⟩ := offsA7
  obtain ⟨cs, rfl, hsz⟩ := okWide_struct hsA hv
  obtain ⟨c0, c1, c2, rfl⟩ := array37 (hsz.trans cellsAd7)
  obtain ⟨fuel, hf⟩ := h
  obtain ⟨a, fa, rfl, rfl, rfl⟩ := open_ad7 hf
  exact ⟨a, fa, rfl⟩
end Go.Proofs.Ytmcelgnifpfjpaa

/- Contract of the program of layer 7: Contains. -/
namespace Go.Proofs.Ytmcelgnifpfjpaa
open Go.ChangeShapes Go.WideShapes Go.ChangeAt Go.RowKit
set_option linter.unusedVariables false

set_option maxHeartbeats 1000000 in
set_option maxRecDepth 20000 in
theorem phas_raw (v1 : Bool) (h1 l1 : Nat) (v2 : Bool) (h2 l2 : Nat) (w : World) :
    Calls Try.prog 34 #[.agg #[.bool v1, .int .u64 h1, .int .u64 l1, .bool v2, .int .u64 h2, .int .u64 l2]] w fun e w' => e = .returned (.bool (vA ⟨v1, h1, l1⟩ && (vA ⟨v2, h2, l2⟩ && (v1 == v2 && !decide (cmpA v2 h2 l2 v1 h1 l1 < 0))))) ∧ Below w.heap.size w w' := by
  have HV1 := Lib.hid (fun W => qvalid_any v1 h1 l1 W)
  have HV2 := Lib.hid (fun W => qvalid_any v2 h2 l2 W)
  have HC := Lib.hid (fun W => pbef_any v2 h2 l2 v1 h1 l1 W)
  rw [show vldA v1 h1 l1 = vA ⟨v1, h1, l1⟩ from rfl] at HV1
  rw [show vldA v2 h2 l2 = vA ⟨v2, h2, l2⟩ from rfl] at HV2
  generalize vA ⟨v1, h1, l1⟩ = b1 at *
  generalize vA ⟨v2, h2, l2⟩ = b2 at *
  generalize decide (cmpA v2 h2 l2 v1 h1 l1 < 0) = b4 at *
  obtain ⟨b3, d3⟩ : ∃ b, (v1 == v2) = b := ⟨_, rfl⟩
  rw [d3]
  obtain ⟨W0, hW0⟩ : ∃ W, W = w.alloc (.cells #[.bool v1, .int .u64 h1, .int .u64 l1, .bool v2, .int .u64 h2, .int .u64 l2] 43) := ⟨_, rfl⟩
  have HE0 := Lib.hid (show RB W0 w.heap.size v1 h1 l1 v2 h2 l2 from by rw [hW0]; exact rb_new w v1 h1 l1 v2 h2 l2)
  have HB0 := Lib.hid (show Below w.heap.size w W0 by rw [hW0]; exact below_alloc6 w _)
  cases b1
  case false =>
    go_enter Try.func34, Try.ntmps34
    go_wp2_with fail
    rw [← hW0]
    clear hW0
    refine (HV1.out _).mono ?_
    rintro e w1 ⟨rfl, hb⟩
    have HE1 := Lib.hid (show RB w1 w.heap.size v1 h1 l1 v2 h2 l2 from HE0.out.kept hb HE0.out.lt)
    have HB1 := Lib.hid (HB0.out.trans (hb.mono HB0.out.size))
    clear hb HE0 HB0 
    have f0_0 : w1.cell? ⟨w.heap.size, 0, none⟩ = some (.bool v1) := (HE1.out.c 0).trans rfl
    have f0_1 : w1.cell? ⟨w.heap.size, 1, none⟩ = some (.int .u64 h1) := (HE1.out.c 1).trans rfl
    have f0_2 : w1.cell? ⟨w.heap.size, 2, none⟩ = some (.int .u64 l1) := (HE1.out.c 2).trans rfl
    have f0_3 : w1.cell? ⟨w.heap.size, 3, none⟩ = some (.bool v2) := (HE1.out.c 3).trans rfl
    have f0_4 : w1.cell? ⟨w.heap.size, 4, none⟩ = some (.int .u64 h2) := (HE1.out.c 4).trans rfl
    have f0_5 : w1.cell? ⟨w.heap.size, 5, none⟩ = some (.int .u64 l2) := (HE1.out.c 5).trans rfl
    have fl0 := HE1.out.lt
    go_wp2_with fail
    go_ret
    exact ⟨rfl, HB1.out⟩
  cases b2
  case false =>
    go_enter Try.func34, Try.ntmps34
    go_wp2_with fail
    rw [← hW0]
    clear hW0
    refine (HV1.out _).mono ?_
    rintro e w1 ⟨rfl, hb⟩
    have HE1 := Lib.hid (show RB w1 w.heap.size v1 h1 l1 v2 h2 l2 from HE0.out.kept hb HE0.out.lt)
    have HB1 := Lib.hid (HB0.out.trans (hb.mono HB0.out.size))
    clear hb HE0 HB0 
    have f0_0 : w1.cell? ⟨w.heap.size, 0, none⟩ = some (.bool v1) := (HE1.out.c 0).trans rfl
    have f0_1 : w1.cell? ⟨w.heap.size, 1, none⟩ = some (.int .u64 h1) := (HE1.out.c 1).trans rfl
    have f0_2 : w1.cell? ⟨w.heap.size, 2, none⟩ = some (.int .u64 l1) := (HE1.out.c 2).trans rfl
    have f0_3 : w1.cell? ⟨w.heap.size, 3, none⟩ = some (.bool v2) := (HE1.out.c 3).trans rfl
    have f0_4 : w1.cell? ⟨w.heap.size, 4, none⟩ = some (.int .u64 h2) := (HE1.out.c 4).trans rfl
    have f0_5 : w1.cell? ⟨w.heap.size, 5, none⟩ = some (.int .u64 l2) := (HE1.out.c 5).trans rfl
    have fl0 := HE1.out.lt
    go_wp2_with fail
    clear f0_0 f0_1 f0_2 f0_3 f0_4 f0_5 fl0
    refine (HV2.out _).mono ?_
    rintro e w2 ⟨rfl, hb⟩
    have HE2 := Lib.hid (show RB w2 w.heap.size v1 h1 l1 v2 h2 l2 from HE1.out.kept hb HE1.out.lt)
    have HB2 := Lib.hid (HB1.out.trans (hb.mono HB1.out.size))
    clear hb HE1 HB1 
    have f0_0 : w2.cell? ⟨w.heap.size, 0, none⟩ = some (.bool v1) := (HE2.out.c 0).trans rfl
    have f0_1 : w2.cell? ⟨w.heap.size, 1, none⟩ = some (.int .u64 h1) := (HE2.out.c 1).trans rfl
    have f0_2 : w2.cell? ⟨w.heap.size, 2, none⟩ = some (.int .u64 l1) := (HE2.out.c 2).trans rfl
    have f0_3 : w2.cell? ⟨w.heap.size, 3, none⟩ = some (.bool v2) := (HE2.out.c 3).trans rfl
    have f0_4 : w2.cell? ⟨w.heap.size, 4, none⟩ = some (.int .u64 h2) := (HE2.out.c 4).trans rfl
    have f0_5 : w2.cell? ⟨w.heap.size, 5, none⟩ = some (.int .u64 l2) := (HE2.out.c 5).trans rfl
    have fl0 := HE2.out.lt
    go_wp2_with fail
    go_ret
    exact ⟨rfl, HB2.out⟩
  cases b3
  case false =>
    go_enter Try.func34, Try.ntmps34
    go_wp2_with fail
    rw [← hW0]
    clear hW0
    refine (HV1.out _).mono ?_
    rintro e w1 ⟨rfl, hb⟩
    have HE1 := Lib.hid (show RB w1 w.heap.size v1 h1 l1 v2 h2 l2 from HE0.out.kept hb HE0.out.lt)
    have HB1 := Lib.hid (HB0.out.trans (hb.mono HB0.out.size))
    clear hb HE0 HB0 
    have f0_0 : w1.cell? ⟨w.heap.size, 0, none⟩ = some (.bool v1) := (HE1.out.c 0).trans rfl
    have f0_1 : w1.cell? ⟨w.heap.size, 1, none⟩ = some (.int .u64 h1) := (HE1.out.c 1).trans rfl
    have f0_2 : w1.cell? ⟨w.heap.size, 2, none⟩ = some (.int .u64 l1) := (HE1.out.c 2).trans rfl
    have f0_3 : w1.cell? ⟨w.heap.size, 3, none⟩ = some (.bool v2) := (HE1.out.c 3).trans rfl
    have f0_4 : w1.cell? ⟨w.heap.size, 4, none⟩ = some (.int .u64 h2) := (HE1.out.c 4).trans rfl
    have f0_5 : w1.cell? ⟨w.heap.size, 5, none⟩ = some (.int .u64 l2) := (HE1.out.c 5).trans rfl
    have fl0 := HE1.out.lt
    go_wp2_with fail
    clear f0_0 f0_1 f0_2 f0_3 f0_4 f0_5 fl0
    refine (HV2.out _).mono ?_
    rintro e w2 ⟨rfl, hb⟩
    have HE2 := Lib.hid (show RB w2 w.heap.size v1 h1 l1 v2 h2 l2 from HE1.out.kept hb HE1.out.lt)
    have HB2 := Lib.hid (HB1.out.trans (hb.mono HB1.out.size))
    clear hb HE1 HB1 
    have f0_0 : w2.cell? ⟨w.heap.size, 0, none⟩ = some (.bool v1) := (HE2.out.c 0).trans rfl
    have f0_1 : w2.cell? ⟨w.heap.size, 1, none⟩ = some (.int .u64 h1) := (HE2.out.c 1).trans rfl
    have f0_2 : w2.cell? ⟨w.heap.size, 2, none⟩ = some (.int .u64 l1) := (HE2.out.c 2).trans rfl
    have f0_3 : w2.cell? ⟨w.heap.size, 3, none⟩ = some (.bool v2) := (HE2.out.c 3).trans rfl
    have f0_4 : w2.cell? ⟨w.heap.size, 4, none⟩ = some (.int .u64 h2) := (HE2.out.c 4).trans rfl
    have f0_5 : w2.cell? ⟨w.heap.size, 5, none⟩ = some (.int .u64 l2) := (HE2.out.c 5).trans rfl
    have fl0 := HE2.out.lt
    go_wp2_with fail
    go_ret
    exact ⟨rfl, HB2.out⟩
  cases b4
  all_goals
    go_enter Try.func34, Try.ntmps34
    go_wp2_with fail
    rw [← hW0]
    clear hW0
    refine (HV1.out _).mono ?_
    rintro e w1 ⟨rfl, hb⟩
    have HE1 := Lib.hid (show RB w1 w.heap.size v1 h1 l1 v2 h2 l2 from HE0.out.kept hb HE0.out.lt)
    have HB1 := Lib.hid (HB0.out.trans (hb.mono HB0.out.size))
    clear hb HE0 HB0 
    have f0_0 : w1.cell? ⟨w.heap.size, 0, none⟩ = some (.bool v1) := (HE1.out.c 0).trans rfl
    have f0_1 : w1.cell? ⟨w.heap.size, 1, none⟩ = some (.int .u64 h1) := (HE1.out.c 1).trans rfl
    have f0_2 : w1.cell? ⟨w.heap.size, 2, none⟩ = some (.int .u64 l1) := (HE1.out.c 2).trans rfl
    have f0_3 : w1.cell? ⟨w.heap.size, 3, none⟩ = some (.bool v2) := (HE1.out.c 3).trans rfl
    have f0_4 : w1.cell? ⟨w.heap.size, 4, none⟩ = some (.int .u64 h2) := (HE1.out.c 4).trans rfl
    have f0_5 : w1.cell? ⟨w.heap.size, 5, none⟩ = some (.int .u64 l2) := (HE1.out.c 5).trans rfl
    have fl0 := HE1.out.lt
    go_wp2_with fail
    clear f0_0 f0_1 f0_2 f0_3 f0_4 f0_5 fl0
    refine (HV2.out _).mono ?_
    rintro e w2 ⟨rfl, hb⟩
    have HE2 := Lib.hid (show RB w2 w.heap.size v1 h1 l1 v2 h2 l2 from HE1.out.kept hb HE1.out.lt)
    have HB2 := Lib.hid (HB1.out.trans (hb.mono HB1.out.size))
    clear hb HE1 HB1 
    have f0_0 : w2.cell? ⟨w.heap.size, 0, none⟩ = some (.bool v1) := (HE2.out.c 0).trans rfl
    have f0_1 : w2.cell? ⟨w.heap.size, 1, none⟩ = some (.int .u64 h1) := (HE2.out.c 1).trans rfl
    have f0_2 : w2.cell? ⟨w.heap.size, 2, none⟩ = some (.int .u64 l1) := (HE2.out.c 2).trans rfl
    have f0_3 : w2.cell? ⟨w.heap.size, 3, none⟩ = some (.bool v2) := (HE2.out.c 3).trans rfl
    have f0_4 : w2.cell? ⟨w.heap.size, 4, none⟩ = some (.int .u64 h2) := (HE2.out.c 4).trans rfl
    have f0_5 : w2.cell? ⟨w.heap.size, 5, none⟩ = some (.int .u64 l2) := (HE2.out.c 5).trans rfl
    have fl0 := HE2.out.lt
    go_wp2_with fail
    clear f0_0 f0_1 f0_2 f0_3 f0_4 f0_5 fl0
    refine (HC.out _).mono ?_
    rintro e w3 ⟨rfl, hb⟩
    have HE3 := Lib.hid (show RB w3 w.heap.size v1 h1 l1 v2 h2 l2 from HE2.out.kept hb HE2.out.lt)
    have HB3 := Lib.hid (HB2.out.trans (hb.mono HB2.out.size))
    clear hb HE2 HB2 
    have f0_0 : w3.cell? ⟨w.heap.size, 0, none⟩ = some (.bool v1) := (HE3.out.c 0).trans rfl
    have f0_1 : w3.cell? ⟨w.heap.size, 1, none⟩ = some (.int .u64 h1) := (HE3.out.c 1).trans rfl
    have f0_2 : w3.cell? ⟨w.heap.size, 2, none⟩ = some (.int .u64 l1) := (HE3.out.c 2).trans rfl
    have f0_3 : w3.cell? ⟨w.heap.size, 3, none⟩ = some (.bool v2) := (HE3.out.c 3).trans rfl
    have f0_4 : w3.cell? ⟨w.heap.size, 4, none⟩ = some (.int .u64 h2) := (HE3.out.c 4).trans rfl
    have f0_5 : w3.cell? ⟨w.heap.size, 5, none⟩ = some (.int .u64 l2) := (HE3.out.c 5).trans rfl
    have fl0 := HE3.out.lt
    go_wp2_with fail
    go_ret
    exact ⟨rfl, HB3.out⟩
/-- The program's test of a range, for whatever numbers. -/
def predA (a : Ad) (r : Rg) : Bool := (vA r.lo && (vA r.hi && (r.lo.v == r.hi.v && !decide (cmpA r.hi.v r.hi.h r.hi.l r.lo.v r.lo.h r.lo.l < 0)))) && (!decide (cmpA a.v a.h a.l r.lo.v r.lo.h r.lo.l < 0) && !decide (cmpA r.hi.v r.hi.h r.hi.l a.v a.h a.l < 0))
theorem predA_fits {a : Ad} {r : Rg} (ha : a.fits) (hr : r.fits) : predA a r = (someR r && inS (spn r) (kA a)) := by
  unfold predA
  rw [cmp_key hr.2 hr.1, cmp_key ha hr.1, cmp_key hr.2 ha, ← someR_tests r.lo r.hi hr.1 hr.2]
  congr 1
  rw [Bool.eq_iff_iff, inS_iff]
  simp [spn]
theorem any_pred {a : Ad} (ha : a.fits) : ∀ {l : List Rg}, (∀ r ∈ l, r.fits) → l.any (predA a) = anyS (spnL l) (kA a)
  | [], _ => rfl
  | x :: r, hf => by
    rw [List.any_cons, predA_fits ha (hf x (by simp)), any_pred ha (fun y hy => hf y (by simp [hy])), spnL_cons, anyS_append]
    congr 1
    cases someR x <;> simp [anyS]
set_option maxHeartbeats 1000000 in
set_option maxRecDepth 20000 in
theorem pconR_any (v1 : Bool) (h1 l1 : Nat) (v2 : Bool) (h2 l2 : Nat) (va : Bool) (ha la : Nat) (b : Nat) (w : World) (hb : AB w b va ha la) :
    Calls Try.prog 46 #[.agg #[.bool v1, .int .u64 h1, .int .u64 l1, .bool v2, .int .u64 h2, .int .u64 l2], .pointer (some ⟨b, 0, none⟩)] w fun e w' => e = .returned (.bool (predA ⟨va, ha, la⟩ ⟨⟨v1, h1, l1⟩, ⟨v2, h2, l2⟩⟩)) ∧ Below w.heap.size w w' := by
  have HH := Lib.hid (fun W => phas_raw v1 h1 l1 v2 h2 l2 W)
  have HT1 := Lib.hid (fun W => pbef_any va ha la v1 h1 l1 W)
  have HT2 := Lib.hid (fun W => pbef_any v2 h2 l2 va ha la W)
  unfold predA
  simp only
  generalize (vA ⟨v1, h1, l1⟩ && (vA ⟨v2, h2, l2⟩ && (v1 == v2 && !decide (cmpA v2 h2 l2 v1 h1 l1 < 0)))) = b1 at *
  generalize decide (cmpA va ha la v1 h1 l1 < 0) = b2 at *
  generalize decide (cmpA v2 h2 l2 va ha la < 0) = b3 at *
  have HA0 := Lib.hid hb
  have HBR := Lib.hid (Below.refl w.heap.size w)
  clear hb
  cases b1
  case false =>
    have y0_0 : w.cell? ⟨b, 0, none⟩ = some (.bool va) := HA0.out.c0
    have y0_1 : w.cell? ⟨b, 1, none⟩ = some (.int .u64 ha) := HA0.out.c1
    have y0_2 : w.cell? ⟨b, 2, none⟩ = some (.int .u64 la) := HA0.out.c2
    have yl0 := HA0.out.lt
    go_enter Try.func46, Try.ntmps46
    go_wp2_with fail
    clear y0_0 y0_1 y0_2 yl0
    obtain ⟨W12, hW12⟩ : ∃ W, W = w.alloc (.cells #[.bool v1, .int .u64 h1, .int .u64 l1, .bool v2, .int .u64 h2, .int .u64 l2] 43) := ⟨_, rfl⟩
    obtain ⟨gx, hgx⟩ : ∃ g, g = w.heap.size := ⟨_, rfl⟩
    have HA0_1 := Lib.hid (show AB W12 b va ha la from by rw [hW12]; exact HA0.out.al _)
    have Lgx := Lib.hid (show b < gx ∧ w.heap.size ≤ gx from by rw [hgx]; exact ⟨HA0.out.lt, HBR.out.size⟩)
    have HX := Lib.hid (show RB W12 gx v1 h1 l1 v2 h2 l2 from by rw [hW12, hgx]; exact rb_new w v1 h1 l1 v2 h2 l2)
    have HSZgx := Lib.hid (show W12.heap.size = gx + 1 from by rw [hW12, hgx]; simp)
    have HUPgx := Lib.hid (show w.heap.size ≤ W12.heap.size from by rw [hW12]; simp)
    have HBR_1 := Lib.hid (show Below w.heap.size w W12 by rw [hW12]; exact HBR.out.alloc HBR.out.size _)
    clear HA0 HBR
    rw [← hW12, ← hgx]
    clear hW12 hgx
    have y0_0 : W12.cell? ⟨b, 0, none⟩ = some (.bool va) := HA0_1.out.c0
    have y0_1 : W12.cell? ⟨b, 1, none⟩ = some (.int .u64 ha) := HA0_1.out.c1
    have y0_2 : W12.cell? ⟨b, 2, none⟩ = some (.int .u64 la) := HA0_1.out.c2
    have yl0 := HA0_1.out.lt
    have y1_0 : W12.cell? ⟨gx, 0, none⟩ = some (.bool v1) := (HX.out.c 0).trans rfl
    have y1_1 : W12.cell? ⟨gx, 1, none⟩ = some (.int .u64 h1) := (HX.out.c 1).trans rfl
    have y1_2 : W12.cell? ⟨gx, 2, none⟩ = some (.int .u64 l1) := (HX.out.c 2).trans rfl
    have y1_3 : W12.cell? ⟨gx, 3, none⟩ = some (.bool v2) := (HX.out.c 3).trans rfl
    have y1_4 : W12.cell? ⟨gx, 4, none⟩ = some (.int .u64 h2) := (HX.out.c 4).trans rfl
    have y1_5 : W12.cell? ⟨gx, 5, none⟩ = some (.int .u64 l2) := (HX.out.c 5).trans rfl
    have yl1 := HX.out.lt
    clear y0_0 y0_1 y0_2 yl0 y1_0 y1_1 y1_2 y1_3 y1_4 y1_5 yl1
    refine (HH.out _).mono ?_
    rintro e w12 ⟨rfl, hb⟩
    have HA0_2 := Lib.hid (show AB w12 b va ha la from HA0_1.out.kept hb HA0_1.out.lt)
    have HX_2 := Lib.hid (show RB w12 gx v1 h1 l1 v2 h2 l2 from HX.out.kept hb HX.out.lt)
    have HBR_2 := Lib.hid (HBR_1.out.trans (hb.mono HBR_1.out.size))
    clear hb HA0_1 HX HBR_1
    have y0_0 : w12.cell? ⟨b, 0, none⟩ = some (.bool va) := HA0_2.out.c0
    have y0_1 : w12.cell? ⟨b, 1, none⟩ = some (.int .u64 ha) := HA0_2.out.c1
    have y0_2 : w12.cell? ⟨b, 2, none⟩ = some (.int .u64 la) := HA0_2.out.c2
    have yl0 := HA0_2.out.lt
    have y1_0 : w12.cell? ⟨gx, 0, none⟩ = some (.bool v1) := (HX_2.out.c 0).trans rfl
    have y1_1 : w12.cell? ⟨gx, 1, none⟩ = some (.int .u64 h1) := (HX_2.out.c 1).trans rfl
    have y1_2 : w12.cell? ⟨gx, 2, none⟩ = some (.int .u64 l1) := (HX_2.out.c 2).trans rfl
    have y1_3 : w12.cell? ⟨gx, 3, none⟩ = some (.bool v2) := (HX_2.out.c 3).trans rfl
    have y1_4 : w12.cell? ⟨gx, 4, none⟩ = some (.int .u64 h2) := (HX_2.out.c 4).trans rfl
    have y1_5 : w12.cell? ⟨gx, 5, none⟩ = some (.int .u64 l2) := (HX_2.out.c 5).trans rfl
    have yl1 := HX_2.out.lt
    go_wp2_with fail
    go_ret
    exact ⟨rfl, HBR_2.out⟩
  cases b2
  case true =>
    have y0_0 : w.cell? ⟨b, 0, none⟩ = some (.bool va) := HA0.out.c0
    have y0_1 : w.cell? ⟨b, 1, none⟩ = some (.int .u64 ha) := HA0.out.c1
    have y0_2 : w.cell? ⟨b, 2, none⟩ = some (.int .u64 la) := HA0.out.c2
    have yl0 := HA0.out.lt
    go_enter Try.func46, Try.ntmps46
    go_wp2_with fail
    clear y0_0 y0_1 y0_2 yl0
    obtain ⟨W12, hW12⟩ : ∃ W, W = w.alloc (.cells #[.bool v1, .int .u64 h1, .int .u64 l1, .bool v2, .int .u64 h2, .int .u64 l2] 43) := ⟨_, rfl⟩
    obtain ⟨gx, hgx⟩ : ∃ g, g = w.heap.size := ⟨_, rfl⟩
    have HA0_1 := Lib.hid (show AB W12 b va ha la from by rw [hW12]; exact HA0.out.al _)
    have Lgx := Lib.hid (show b < gx ∧ w.heap.size ≤ gx from by rw [hgx]; exact ⟨HA0.out.lt, HBR.out.size⟩)
    have HX := Lib.hid (show RB W12 gx v1 h1 l1 v2 h2 l2 from by rw [hW12, hgx]; exact rb_new w v1 h1 l1 v2 h2 l2)
    have HSZgx := Lib.hid (show W12.heap.size = gx + 1 from by rw [hW12, hgx]; simp)
    have HUPgx := Lib.hid (show w.heap.size ≤ W12.heap.size from by rw [hW12]; simp)
    have HBR_1 := Lib.hid (show Below w.heap.size w W12 by rw [hW12]; exact HBR.out.alloc HBR.out.size _)
    clear HA0 HBR
    rw [← hW12, ← hgx]
    clear hW12 hgx
    have y0_0 : W12.cell? ⟨b, 0, none⟩ = some (.bool va) := HA0_1.out.c0
    have y0_1 : W12.cell? ⟨b, 1, none⟩ = some (.int .u64 ha) := HA0_1.out.c1
    have y0_2 : W12.cell? ⟨b, 2, none⟩ = some (.int .u64 la) := HA0_1.out.c2
    have yl0 := HA0_1.out.lt
    have y1_0 : W12.cell? ⟨gx, 0, none⟩ = some (.bool v1) := (HX.out.c 0).trans rfl
    have y1_1 : W12.cell? ⟨gx, 1, none⟩ = some (.int .u64 h1) := (HX.out.c 1).trans rfl
    have y1_2 : W12.cell? ⟨gx, 2, none⟩ = some (.int .u64 l1) := (HX.out.c 2).trans rfl
    have y1_3 : W12.cell? ⟨gx, 3, none⟩ = some (.bool v2) := (HX.out.c 3).trans rfl
    have y1_4 : W12.cell? ⟨gx, 4, none⟩ = some (.int .u64 h2) := (HX.out.c 4).trans rfl
    have y1_5 : W12.cell? ⟨gx, 5, none⟩ = some (.int .u64 l2) := (HX.out.c 5).trans rfl
    have yl1 := HX.out.lt
    clear y0_0 y0_1 y0_2 yl0 y1_0 y1_1 y1_2 y1_3 y1_4 y1_5 yl1
    refine (HH.out _).mono ?_
    rintro e w12 ⟨rfl, hb⟩
    have HA0_2 := Lib.hid (show AB w12 b va ha la from HA0_1.out.kept hb HA0_1.out.lt)
    have HX_2 := Lib.hid (show RB w12 gx v1 h1 l1 v2 h2 l2 from HX.out.kept hb HX.out.lt)
    have HBR_2 := Lib.hid (HBR_1.out.trans (hb.mono HBR_1.out.size))
    clear hb HA0_1 HX HBR_1
    have y0_0 : w12.cell? ⟨b, 0, none⟩ = some (.bool va) := HA0_2.out.c0
    have y0_1 : w12.cell? ⟨b, 1, none⟩ = some (.int .u64 ha) := HA0_2.out.c1
    have y0_2 : w12.cell? ⟨b, 2, none⟩ = some (.int .u64 la) := HA0_2.out.c2
    have yl0 := HA0_2.out.lt
    have y1_0 : w12.cell? ⟨gx, 0, none⟩ = some (.bool v1) := (HX_2.out.c 0).trans rfl
    have y1_1 : w12.cell? ⟨gx, 1, none⟩ = some (.int .u64 h1) := (HX_2.out.c 1).trans rfl
    have y1_2 : w12.cell? ⟨gx, 2, none⟩ = some (.int .u64 l1) := (HX_2.out.c 2).trans rfl
    have y1_3 : w12.cell? ⟨gx, 3, none⟩ = some (.bool v2) := (HX_2.out.c 3).trans rfl
    have y1_4 : w12.cell? ⟨gx, 4, none⟩ = some (.int .u64 h2) := (HX_2.out.c 4).trans rfl
    have y1_5 : w12.cell? ⟨gx, 5, none⟩ = some (.int .u64 l2) := (HX_2.out.c 5).trans rfl
    have yl1 := HX_2.out.lt
    go_wp2_with fail
    clear y0_0 y0_1 y0_2 yl0 y1_0 y1_1 y1_2 y1_3 y1_4 y1_5 yl1
    refine (HT1.out _).mono ?_
    rintro e w13 ⟨rfl, hb⟩
    have HA0_3 := Lib.hid (show AB w13 b va ha la from HA0_2.out.kept hb HA0_2.out.lt)
    have HX_3 := Lib.hid (show RB w13 gx v1 h1 l1 v2 h2 l2 from HX_2.out.kept hb HX_2.out.lt)
    have HBR_3 := Lib.hid (HBR_2.out.trans (hb.mono HBR_2.out.size))
    clear hb HA0_2 HX_2 HBR_2
    have y0_0 : w13.cell? ⟨b, 0, none⟩ = some (.bool va) := HA0_3.out.c0
    have y0_1 : w13.cell? ⟨b, 1, none⟩ = some (.int .u64 ha) := HA0_3.out.c1
    have y0_2 : w13.cell? ⟨b, 2, none⟩ = some (.int .u64 la) := HA0_3.out.c2
    have yl0 := HA0_3.out.lt
    have y1_0 : w13.cell? ⟨gx, 0, none⟩ = some (.bool v1) := (HX_3.out.c 0).trans rfl
    have y1_1 : w13.cell? ⟨gx, 1, none⟩ = some (.int .u64 h1) := (HX_3.out.c 1).trans rfl
    have y1_2 : w13.cell? ⟨gx, 2, none⟩ = some (.int .u64 l1) := (HX_3.out.c 2).trans rfl
    have y1_3 : w13.cell? ⟨gx, 3, none⟩ = some (.bool v2) := (HX_3.out.c 3).trans rfl
    have y1_4 : w13.cell? ⟨gx, 4, none⟩ = some (.int .u64 h2) := (HX_3.out.c 4).trans rfl
    have y1_5 : w13.cell? ⟨gx, 5, none⟩ = some (.int .u64 l2) := (HX_3.out.c 5).trans rfl
    have yl1 := HX_3.out.lt
    go_wp2_with fail
    go_ret
    exact ⟨rfl, HBR_3.out⟩
  cases b3
  all_goals
    have y0_0 : w.cell? ⟨b, 0, none⟩ = some (.bool va) := HA0.out.c0
    have y0_1 : w.cell? ⟨b, 1, none⟩ = some (.int .u64 ha) := HA0.out.c1
    have y0_2 : w.cell? ⟨b, 2, none⟩ = some (.int .u64 la) := HA0.out.c2
    have yl0 := HA0.out.lt
    go_enter Try.func46, Try.ntmps46
    go_wp2_with fail
    clear y0_0 y0_1 y0_2 yl0
    obtain ⟨W12, hW12⟩ : ∃ W, W = w.alloc (.cells #[.bool v1, .int .u64 h1, .int .u64 l1, .bool v2, .int .u64 h2, .int .u64 l2] 43) := ⟨_, rfl⟩
    obtain ⟨gx, hgx⟩ : ∃ g, g = w.heap.size := ⟨_, rfl⟩
    have HA0_1 := Lib.hid (show AB W12 b va ha la from by rw [hW12]; exact HA0.out.al _)
    have Lgx := Lib.hid (show b < gx ∧ w.heap.size ≤ gx from by rw [hgx]; exact ⟨HA0.out.lt, HBR.out.size⟩)
    have HX := Lib.hid (show RB W12 gx v1 h1 l1 v2 h2 l2 from by rw [hW12, hgx]; exact rb_new w v1 h1 l1 v2 h2 l2)
    have HSZgx := Lib.hid (show W12.heap.size = gx + 1 from by rw [hW12, hgx]; simp)
    have HUPgx := Lib.hid (show w.heap.size ≤ W12.heap.size from by rw [hW12]; simp)
    have HBR_1 := Lib.hid (show Below w.heap.size w W12 by rw [hW12]; exact HBR.out.alloc HBR.out.size _)
    clear HA0 HBR
    rw [← hW12, ← hgx]
    clear hW12 hgx
    have y0_0 : W12.cell? ⟨b, 0, none⟩ = some (.bool va) := HA0_1.out.c0
    have y0_1 : W12.cell? ⟨b, 1, none⟩ = some (.int .u64 ha) := HA0_1.out.c1
    have y0_2 : W12.cell? ⟨b, 2, none⟩ = some (.int .u64 la) := HA0_1.out.c2
    have yl0 := HA0_1.out.lt
    have y1_0 : W12.cell? ⟨gx, 0, none⟩ = some (.bool v1) := (HX.out.c 0).trans rfl
    have y1_1 : W12.cell? ⟨gx, 1, none⟩ = some (.int .u64 h1) := (HX.out.c 1).trans rfl
    have y1_2 : W12.cell? ⟨gx, 2, none⟩ = some (.int .u64 l1) := (HX.out.c 2).trans rfl
    have y1_3 : W12.cell? ⟨gx, 3, none⟩ = some (.bool v2) := (HX.out.c 3).trans rfl
    have y1_4 : W12.cell? ⟨gx, 4, none⟩ = some (.int .u64 h2) := (HX.out.c 4).trans rfl
    have y1_5 : W12.cell? ⟨gx, 5, none⟩ = some (.int .u64 l2) := (HX.out.c 5).trans rfl
    have yl1 := HX.out.lt
    clear y0_0 y0_1 y0_2 yl0 y1_0 y1_1 y1_2 y1_3 y1_4 y1_5 yl1
    refine (HH.out _).mono ?_
    rintro e w12 ⟨rfl, hb⟩
    have HA0_2 := Lib.hid (show AB w12 b va ha la from HA0_1.out.kept hb HA0_1.out.lt)
    have HX_2 := Lib.hid (show RB w12 gx v1 h1 l1 v2 h2 l2 from HX.out.kept hb HX.out.lt)
    have HBR_2 := Lib.hid (HBR_1.out.trans (hb.mono HBR_1.out.size))
    clear hb HA0_1 HX HBR_1
    have y0_0 : w12.cell? ⟨b, 0, none⟩ = some (.bool va) := HA0_2.out.c0
    have y0_1 : w12.cell? ⟨b, 1, none⟩ = some (.int .u64 ha) := HA0_2.out.c1
    have y0_2 : w12.cell? ⟨b, 2, none⟩ = some (.int .u64 la) := HA0_2.out.c2
    have yl0 := HA0_2.out.lt
    have y1_0 : w12.cell? ⟨gx, 0, none⟩ = some (.bool v1) := (HX_2.out.c 0).trans rfl
    have y1_1 : w12.cell? ⟨gx, 1, none⟩ = some (.int .u64 h1) := (HX_2.out.c 1).trans rfl
    have y1_2 : w12.cell? ⟨gx, 2, none⟩ = some (.int .u64 l1) := (HX_2.out.c 2).trans rfl
    have y1_3 : w12.cell? ⟨gx, 3, none⟩ = some (.bool v2) := (HX_2.out.c 3).trans rfl
    have y1_4 : w12.cell? ⟨gx, 4, none⟩ = some (.int .u64 h2) := (HX_2.out.c 4).trans rfl
    have y1_5 : w12.cell? ⟨gx, 5, none⟩ = some (.int .u64 l2) := (HX_2.out.c 5).trans rfl
    have yl1 := HX_2.out.lt
    go_wp2_with fail
    clear y0_0 y0_1 y0_2 yl0 y1_0 y1_1 y1_2 y1_3 y1_4 y1_5 yl1
    refine (HT1.out _).mono ?_
    rintro e w13 ⟨rfl, hb⟩
    have HA0_3 := Lib.hid (show AB w13 b va ha la from HA0_2.out.kept hb HA0_2.out.lt)
    have HX_3 := Lib.hid (show RB w13 gx v1 h1 l1 v2 h2 l2 from HX_2.out.kept hb HX_2.out.lt)
    have HBR_3 := Lib.hid (HBR_2.out.trans (hb.mono HBR_2.out.size))
    clear hb HA0_2 HX_2 HBR_2
    have y0_0 : w13.cell? ⟨b, 0, none⟩ = some (.bool va) := HA0_3.out.c0
    have y0_1 : w13.cell? ⟨b, 1, none⟩ = some (.int .u64 ha) := HA0_3.out.c1
    have y0_2 : w13.cell? ⟨b, 2, none⟩ = some (.int .u64 la) := HA0_3.out.c2
    have yl0 := HA0_3.out.lt
    have y1_0 : w13.cell? ⟨gx, 0, none⟩ = some (.bool v1) := (HX_3.out.c 0).trans rfl
    have y1_1 : w13.cell? ⟨gx, 1, none⟩ = some (.int .u64 h1) := (HX_3.out.c 1).trans rfl
    have y1_2 : w13.cell? ⟨gx, 2, none⟩ = some (.int .u64 l1) := (HX_3.out.c 2).trans rfl
    have y1_3 : w13.cell? ⟨gx, 3, none⟩ = some (.bool v2) := (HX_3.out.c 3).trans rfl
    have y1_4 : w13.cell? ⟨gx, 4, none⟩ = some (.int .u64 h2) := (HX_3.out.c 4).trans rfl
    have y1_5 : w13.cell? ⟨gx, 5, none⟩ = some (.int .u64 l2) := (HX_3.out.c 5).trans rfl
    have yl1 := HX_3.out.lt
    go_wp2_with fail
    clear y0_0 y0_1 y0_2 yl0 y1_0 y1_1 y1_2 y1_3 y1_4 y1_5 yl1
    refine (HT2.out _).mono ?_
    rintro e w14 ⟨rfl, hb⟩
    have HA0_4 := Lib.hid (show AB w14 b va ha la from HA0_3.out.kept hb HA0_3.out.lt)
    have HX_4 := Lib.hid (show RB w14 gx v1 h1 l1 v2 h2 l2 from HX_3.out.kept hb HX_3.out.lt)
    have HBR_4 := Lib.hid (HBR_3.out.trans (hb.mono HBR_3.out.size))
    clear hb HA0_3 HX_3 HBR_3
    have y0_0 : w14.cell? ⟨b, 0, none⟩ = some (.bool va) := HA0_4.out.c0
    have y0_1 : w14.cell? ⟨b, 1, none⟩ = some (.int .u64 ha) := HA0_4.out.c1
    have y0_2 : w14.cell? ⟨b, 2, none⟩ = some (.int .u64 la) := HA0_4.out.c2
    have yl0 := HA0_4.out.lt
    have y1_0 : w14.cell? ⟨gx, 0, none⟩ = some (.bool v1) := (HX_4.out.c 0).trans rfl
    have y1_1 : w14.cell? ⟨gx, 1, none⟩ = some (.int .u64 h1) := (HX_4.out.c 1).trans rfl
    have y1_2 : w14.cell? ⟨gx, 2, none⟩ = some (.int .u64 l1) := (HX_4.out.c 2).trans rfl
    have y1_3 : w14.cell? ⟨gx, 3, none⟩ = some (.bool v2) := (HX_4.out.c 3).trans rfl
    have y1_4 : w14.cell? ⟨gx, 4, none⟩ = some (.int .u64 h2) := (HX_4.out.c 4).trans rfl
    have y1_5 : w14.cell? ⟨gx, 5, none⟩ = some (.int .u64 l2) := (HX_4.out.c 5).trans rfl
    have yl1 := HX_4.out.lt
    go_wp2_with fail
    go_ret
    exact ⟨rfl, HBR_4.out⟩
set_option maxRecDepth 20000 in
theorem pindexR_nil (A : Option Addr) (cap : Nat) (fv : Value) (w : World) :
    Calls Try.prog 65 #[.slice A 0 cap, fv] w fun e w' => e = .returned (.int .i64 (-1)) ∧ w' = w := by
  go_enter Try.func65, Try.ntmps65
  go_wp2_with fail
  refine wp_loop_rounds 1 ?_
  rw [rounds_succ]
  go_wp2_with fail
  go_ret
  exact ⟨rfl, rfl⟩
theorem pcontfR_nil (A : Option Addr) (cap : Nat) (fv : Value) (w : World) :
    Calls Try.prog 45 #[.slice A 0 cap, fv] w fun e w' => e = .returned (.bool false) ∧ w' = w := by
  have H := Lib.hid (pindexR_nil A cap fv)
  go_enter Try.func45, Try.ntmps45
  go_wp2_with fail
  refine (H.out _).mono ?_
  rintro e w' ⟨rfl, rfl⟩
  go_wp2_with fail
  go_ret
  exact ⟨rfl, rfl⟩
theorem pcontfR_any (A : Option Addr) (cap : Nat) (l : List Rg) (va : Bool) (ha la : Nat) (b : Nat) (w : World) (h : RowL ER w A l) (hl : l.length ≤ 1000000) (hb : AB w b va ha la) :
    Calls Try.prog 45 #[.slice A l.length cap, .func (.func 46) #[] #[.pointer (some ⟨b, 0, none⟩)]] w fun e w' => e = .returned (.bool (l.any (predA ⟨va, ha, la⟩))) ∧ Below w.heap.size w w' := by
  cases l with
  | nil => exact (pcontfR_nil A cap _ w).mono fun e w' ⟨he, hw⟩ => ⟨he, hw ▸ Below.refl _ _⟩
  | cons x r =>
    obtain ⟨g, o, rfl, hg, hcell⟩ := h (by simp)
    generalize hL : x :: r = L at *
    have eg : ∀ args w, (callFunc 46 args).run Try.prog w = .ok (.enter 46 args) w := enters_of Try.func46 (by kernel_rfl) rfl
    have hp : PredBelow Try.prog 46 #[.pointer (some ⟨b, 0, none⟩)] (fun s : Rg => .agg (rgC s).toArray) (fun s => predA ⟨va, ha, la⟩ s) w := fun W s hB =>
      (pconR_any s.lo.v s.lo.h s.lo.l s.hi.v s.hi.h s.hi.l va ha la b W (hb.kept hB hb.lt)).mono fun e w' ⟨he, hw⟩ => ⟨he, hB.trans (hw.mono hB.size)⟩
    have hcon := AnyQ.slices_ContainsFunc layRc 6 Try.isAgg43 Try.sizeOf43 rgC (fun _ => rfl) (fun s => predA ⟨va, ha, la⟩ s) 46 #[.pointer (some ⟨b, 0, none⟩)] eg g o L.length cap L w hp (Nat.le_refl _) (by omega) hg (fun j hj i v hi => hcell j _ (bang7 hj) i v hi)
    rw [List.take_length] at hcon
    exact hcon
set_option maxHeartbeats 1000000 in
set_option maxRecDepth 20000 in
theorem pcontains_any (A : Option Addr) (cap : Nat) (l : List Rg) (va : Bool) (ha la : Nat) (w : World) (h : RowL ER w A l) (hf : ∀ r ∈ l, r.fits) (fa : (⟨va, ha, la⟩ : Ad).fits) (hl : l.length ≤ 100000) :
    Calls Try.prog 15 #[.slice A l.length cap, .agg #[.bool va, .int .u64 ha, .int .u64 la]] w fun e w' => e = .returned (.bool (vA ⟨va, ha, la⟩ && anyS (spnL l) (kA ⟨va, ha, la⟩))) ∧ Below w.heap.size w w' := by
  rw [← any_pred fa hf]
  have HC := Lib.hid (fun (b : Nat) (W : World) (hB : Below w.heap.size w W) (hb : AB W b va ha la) => pcontfR_any A cap l va ha la b W (h.kept hB) (by omega) hb)
  have HV := Lib.hid (fun W => qvalid_any va ha la W)
  rw [show vldA va ha la = vA ⟨va, ha, la⟩ from rfl] at HV
  obtain ⟨n, hn⟩ : ∃ n, n = l.length := ⟨_, rfl⟩
  rw [← hn] at HC ⊢
  generalize l.any (predA ⟨va, ha, la⟩) = C at *
  generalize vA ⟨va, ha, la⟩ = V at *
  have HX := Lib.hid (ab_new w va ha la)
  have HB := Lib.hid (below_alloc6 w (.cells #[.bool va, .int .u64 ha, .int .u64 la] 25))
  clear h hf fa hl hn
  cases V with
  | false =>
    go_enter Try.func15, Try.ntmps15
    go_wp2_with fail
    refine (HV.out _).mono ?_
    rintro e w2 ⟨rfl, hb⟩
    have HB2 := Lib.hid (HB.out.trans (hb.mono HB.out.size))
    clear hb
    go_wp2_with fail
    go_ret
    exact ⟨rfl, HB2.out⟩
  | true =>
    go_enter Try.func15, Try.ntmps15
    go_wp2_with fail
    refine (HV.out _).mono ?_
    rintro e w2 ⟨rfl, hb⟩
    have HX2 := Lib.hid (HX.out.kept hb HX.out.lt)
    have HB2 := Lib.hid (HB.out.trans (hb.mono HB.out.size))
    have HC2 := Lib.hid (HC.out w.heap.size w2 HB2.out HX2.out)
    clear hb HX HB HC
    go_wp2_with fail
    refine HC2.out.mono ?_
    rintro e w3 ⟨rfl, hb⟩
    have HB3 := Lib.hid (HB2.out.trans (hb.mono HB2.out.size))
    clear hb
    cases C
    all_goals
      go_wp2_with fail
      go_ret
      exact ⟨rfl, HB3.out⟩
end Go.Proofs.Ytmcelgnifpfjpaa

/- The program's functions of layer 7 at rows that the law's own calls have made. -/
namespace Go.Proofs.Ytmcelgnifpfjpaa
open Go.ChangeShapes Go.WideShapes Go.ChangeAt Go.RowKit
set_option linter.unusedVariables false

-- SUBSET-BIG
/-- The answer of Subset: whether the difference, as a set, is empty. -/
theorem psubset_big (A1 A2 : Option Addr) (c1 c2 : Nat) (a b : List Rg) (w : World) (h1 : RowL ER w A1 a) (h2 : RowL ER w A2 b) (f1 : ∀ r ∈ a, r.fits) (f2 : ∀ r ∈ b, r.fits) (hl1 : a.length ≤ 10000) (hl2 : b.length ≤ 10000) :
    Calls Try.prog 25 #[.slice A1 a.length c1, .slice A2 b.length c2] w (SubO w (fun m => anyS (spnL a) m && !anyS (spnL b) m)) := by
  have HC := Lib.hid (pminus_any A1 A2 c1 c2 a b w h1 h2 f1 f2 (by omega) (by omega))
  obtain ⟨N, hN⟩ : ∃ n, n = a.length := ⟨_, rfl⟩
  obtain ⟨M, hM⟩ : ∃ n, n = b.length := ⟨_, rfl⟩
  rw [← hN, ← hM] at HC ⊢
  clear h1 h2 f1 f2 hl1 hl2 hN hM
  go_enter Try.func25, Try.ntmps25
  go_wp2_with fail
  refine HC.out.mono ?_
  rintro e w1 ⟨L, A5, n5, c5, g1, g2, g3, rfl, g5, hb⟩
  have HE := Lib.hid (show SubO w (fun m => anyS (spnL a) m && !anyS (spnL b) m) (.returned (.bool (n5 == 0))) w1 from ⟨L, g1, g2, by rw [g5.1], hb⟩)
  clear g1 g2 g3 g5 hb HC
  cases n5 with
  | zero =>
    go_wp2_with fail
    go_ret
    exact HE.out
  | succ k =>
    have hd : decide (((k + 1 : Nat) : Int) = 0) = false := by simp; omega
    have hd2 : (((k + 1 : Nat) : Int) == 0) = false := by simp; omega
    have he : (k + 1 == 0) = false := by simp
    rw [he] at HE
    go_wp2_with fail
    go_ret
    exact HE.out
-- SUBSET-BIG
theorem pvalid_own {base : Nat} {A : Option Addr} {n c : Nat} {L : List Rg} {W : World} (h : OwnR W base A n c L) (g : GoodL L) (hl : n ≤ 1000000) :
    Calls Try.prog 13 #[.slice A n c] W fun e w' => e = .returned (.bool true) ∧ Below W.heap.size W w' := by
  have h9 := pvalid_any A c L W h.row (okL_fits g) (by rw [← h.1]; exact hl)
  rw [(okR_iff (okL_fits g)).2 g, ← h.1] at h9
  exact h9
theorem pcontains_own {base : Nat} {A : Option Addr} {n c : Nat} {L : List Rg} {W : World} (h : OwnR W base A n c L) (g : GoodL L) (hl : n ≤ 100000) {va : Bool} {ha la : Nat} (fa : (⟨va, ha, la⟩ : Ad).fits) {z : Bool} (hz : (vA ⟨va, ha, la⟩ && anyS (L.map spn) (kA ⟨va, ha, la⟩)) = z) :
    Calls Try.prog 15 #[.slice A n c, .agg #[.bool va, .int .u64 ha, .int .u64 la]] W fun e w' => e = .returned (.bool z) ∧ Below W.heap.size W w' := by
  have h9 := pcontains_any A c L va ha la W h.row (okL_fits g) fa (by rw [← h.1]; exact hl)
  rw [spnL_good g, hz, ← h.1] at h9
  exact h9
theorem own_nil {base : Nat} {A : Option Addr} {n c : Nat} {L : List Rg} {W : World} (h : OwnR W base A n c L) : A = none → c = 0 := fun e => by
  have h2 := h.2
  rw [e] at h2
  exact (own_none h2).2
theorem punion_n (A1 A2 : Option Addr) (n1 n2 c1 c2 : Nat) (a b : List Rg) (w : World) (h1 : RowL ER w A1 a) (h2 : RowL ER w A2 b) (z1 : A1 = none → c1 = 0) (z2 : A2 = none → c2 = 0) (f1 : ∀ r ∈ a, r.fits) (f2 : ∀ r ∈ b, r.fits) (e1 : n1 = a.length) (e2 : n2 = b.length) (hl1 : n1 ≤ 10000) (hl2 : n2 ≤ 10000) :
    Calls Try.prog 19 #[.slice A1 n1 c1, .slice A2 n2 c2] w (SetO w w.heap.size (fun m => anyS (spnL a) m || anyS (spnL b) m) (n1 + n2)) := by
  subst e1; subst e2
  exact punion_any A1 A2 c1 c2 a b w h1 h2 z1 z2 f1 f2 hl1 hl2
/-- Minus of rows, the numbers in words of the spans. -/
theorem psubset_n (A1 A2 : Option Addr) (n1 n2 c1 c2 : Nat) (a b : List Rg) (w : World) (h1 : RowL ER w A1 a) (h2 : RowL ER w A2 b) (f1 : ∀ r ∈ a, r.fits) (f2 : ∀ r ∈ b, r.fits) (e1 : n1 = a.length) (e2 : n2 = b.length) (hl : n1 + n2 ≤ 9000) {K : List Rg} (hK : GoodL K) (hf : ∀ m, (anyS (spnL a) m && !anyS (spnL b) m) = anyS (K.map spn) m) {z : Bool} (hz : (K.length == 0) = z) :
    Calls Try.prog 25 #[.slice A1 n1 c1, .slice A2 n2 c2] w fun e w' => e = .returned (.bool z) ∧ Below w.heap.size w w' := by
  subst e1; subst e2
  have h9 : Calls Try.prog 25 #[.slice A1 a.length c1, .slice A2 b.length c2] w (SubO w (fun m => anyS (spnL a) m && !anyS (spnL b) m)) := psubset_big A1 A2 c1 c2 a b w h1 h2 f1 f2 (by omega) (by omega)
  refine h9.mono fun e w' hs => ?_
  have := hs.known hK hf
  rw [hz] at this
  exact this
end Go.Proofs.Ytmcelgnifpfjpaa
