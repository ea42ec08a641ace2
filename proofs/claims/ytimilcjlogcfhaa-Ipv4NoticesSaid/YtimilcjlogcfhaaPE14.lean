/- Contracts of the functions, part 14: Ip4Adr, Ip4Rou. -/
import Derived.Test.YtimilcjlogcfhaaPE7
import Derived.Test.YtimilcjlogcfhaaPE13
/- Contracts of the reference of layer 11: address, Routed. -/
namespace Go.Proofs.Ytimilcjlogcfhaa
open Go.ChangeShapes Go.WideShapes Go.ChangeAt Go.RowKit
set_option linter.unusedVariables false

theorem vld_a4 (v6 : Bool) (hi lo : Nat) : (vldA v6 hi lo && !v6) = decide (a4 ⟨v6, hi, lo⟩) := by
  unfold vldA a4
  cases v6
  · simp only [Bool.false_or, Bool.not_false, Bool.and_true, true_and]
    by_cases h : hi = 0 <;> by_cases k : lo < 4294967296 <;> simp [h, k]
  · simp
set_option maxHeartbeats 2000000 in
set_option maxRecDepth 20000 in
theorem raddr11_any (v6 : Bool) (hi lo : Nat) (w : World) :
    Calls Try.prog 39 #[.agg #[.bool v6, .int .u64 (hi : Int), .int .u64 (lo : Int)]] w fun e w' => e = .returned (.bool (decide (a4 ⟨v6, hi, lo⟩))) ∧ Below w.heap.size w w' := by
  rw [← vld_a4]
  have HV := Lib.hid (fun (W : World) => rvalid6_any v6 hi lo W)
  obtain ⟨R, hR⟩ : ∃ R, R = vldA v6 hi lo := ⟨_, rfl⟩
  rw [← hR] at HV ⊢
  have HB0 := Lib.hid (below_alloc6 w (.cells #[.bool v6, .int .u64 (hi : Int), .int .u64 (lo : Int)] 25))
  have HX := Lib.hid (show Cells (w.alloc (.cells #[.bool v6, .int .u64 (hi : Int), .int .u64 (lo : Int)] 25)) w.heap.size 25 #[.bool v6, .int .u64 (hi : Int), .int .u64 (lo : Int)] from heap_alloc_new w _)
  clear hR
  go_enter Try.func39, Try.ntmps39
  go_wp2_with fail
  refine (HV.out _).mono ?_
  rintro e w1 ⟨rfl, hb⟩
  have hX1 := Cells.kept HX.out hb HX.out.lt
  have x0 := (Cells.cell hX1 0).trans (show _ = some (Value.bool v6) from rfl)
  have HB1 := Lib.hid (HB0.out.trans (hb.mono HB0.out.size))
  clear hb hX1 HX HB0
  cases R <;> cases v6 <;> (go_wp2_with fail; go_ret; exact ⟨rfl, HB1.out⟩)
set_option maxHeartbeats 4000000 in
set_option maxRecDepth 20000 in
theorem routed_next {l : List OpR} {k : Nat} {x : OpR} (hx : l[k]? = some x) : (l.take (k + 1)).any (fun x => isRoute x.kd) = ((l.take k).any (fun x => isRoute x.kd) || isRoute x.kd) := by
  obtain ⟨hk, e⟩ := List.getElem?_eq_some_iff.1 hx
  rw [List.take_succ_eq_append_getElem hk, e, List.any_append]
  simp
end Go.Proofs.Ytimilcjlogcfhaa

/- Contracts of the reference of layer 11: Routed. -/
namespace Go.Proofs.Ytimilcjlogcfhaa
open Go.ChangeShapes Go.WideShapes Go.ChangeAt Go.RowKit
set_option linter.unusedVariables false

/-- A packet as an argument. -/
def ipV (p : Ip4R) (n : Nat) (A : Option Addr) (c : Nat) (D : ByteArray) : Value := .agg (ipC p n A c D)
theorem isRoute_dec (k : Int) (e : k = 131 ∨ k = 137) : isRoute k = true := by
  rcases e with rfl | rfl <;> decide
theorem isRoute_not (k : Int) (h : k ≠ 131) (g : k ≠ 137) : isRoute k = false := by
  unfold isRoute
  simp [h, g]
set_option maxHeartbeats 4000000 in
set_option maxRecDepth 20000 in
theorem rrouted11_any (p : Ip4R) (A : Option Addr) (c : Nat) (D : ByteArray) (w : World) (h : RowL EOpt w A p.ops) (hl : p.ops.length ≤ 1000000000) :
    Calls Try.prog 20 #[ipV p p.ops.length A c D] w fun e w' => e = .returned (.bool (p.ops.any fun x => isRoute x.kd)) ∧ Below w.heap.size w w' := by
  obtain ⟨tos, id, ttl, proto, dont, more, off, ⟨sv, sh, sl⟩, ⟨dv, dh, dl⟩, l, pay⟩ := p
  dsimp only at h hl ⊢
  unfold ipV ipC
  dsimp only
  obtain ⟨R, hR⟩ : ∃ R, R = l.any fun x => isRoute x.kd := ⟨_, rfl⟩
  rw [← hR]
  obtain ⟨n, hn⟩ : ∃ n, n = l.length := ⟨_, rfl⟩
  rw [← hn] at hl ⊢
  have HR := Lib.hid hR
  have HN := Lib.hid hn
  have HS := Lib.hid h
  clear hR hn h
  obtain ⟨X, hX⟩ : ∃ X, X = #[Value.int .i64 tos, .int .i64 id, .int .i64 ttl, .int .i64 proto, .bool dont, .bool more, .int .i64 off, .bool sv, .int .u64 (sh : Int), .int .u64 (sl : Int), .bool dv, .int .u64 (dh : Int), .int .u64 (dl : Int), .slice A n c, .string D] := ⟨_, rfl⟩
  have HB0 := Lib.hid (below_alloc6 w (.cells X 28))
  have HX := Lib.hid (show Cells (w.alloc (.cells X 28)) w.heap.size 28 X from heap_alloc_new w _)
  have hc : (w.alloc (.cells X 28)).cell? ⟨w.heap.size, 13, none⟩ = some (.slice A n c) := (Cells.cell HX.out 13).trans (by rw [hX]; rfl)
  subst hX
  go_enter Try.func20, Try.ntmps20
  go_wp2_with fail
  go_loop [3] (fun i => ∃ k : Nat, i = .int .i64 (k : Int) ∧ k ≤ n ∧ Hid (((l.take k).any fun x => isRoute x.kd) = false)) (fun i => n - (intOf i).toNat)
  case atStart => exact ⟨0, rfl, Nat.zero_le _, Lib.hid (by simp)⟩
  case round =>
    obtain ⟨k, rfl, hk, HK⟩ := hrel
    by_cases hlt : k < n
    · have hki : (k : Int) < (n : Int) := by omega
      have hki0 : (0 : Int) ≤ (k : Int) := by omega
      have dlt : decide ((k : Int) < (n : Int)) = true := by simp; omega
      obtain ⟨x, hget⟩ : ∃ x, l[k]? = some x := ⟨l[k]'(by have := HN.out; omega), List.getElem?_eq_getElem _⟩
      obtain ⟨g, ob, rfl, hg, -⟩ := HS.out (by have := HN.out; omega)
      obtain ⟨c0, -⟩ := opt_at HS.out hget HB0.out
      have hmem := List.mem_of_getElem? hget
      by_cases h1 : x.kd = 131
      · have d1 : (x.kd == 131) = true := by simp [h1]
        have HF := Lib.hid (show R = true by rw [HR.out]; exact List.any_eq_true.2 ⟨x, hmem, isRoute_dec _ (Or.inl h1)⟩)
        clear hget hmem
        go_wp2_with fail
        go_ret
        exact ⟨by rw [HF.out]; rfl, HB0.out⟩
      · have d1 : (x.kd == 131) = false := by simp [h1]
        by_cases h2 : x.kd = 137
        · have d2 : (x.kd == 137) = true := by simp [h2]
          have HF := Lib.hid (show R = true by rw [HR.out]; exact List.any_eq_true.2 ⟨x, hmem, isRoute_dec _ (Or.inr h2)⟩)
          clear hget hmem
          go_wp2_with fail
          go_ret
          exact ⟨by rw [HF.out]; rfl, HB0.out⟩
        · have d2 : (x.kd == 137) = false := by simp [h2]
          have HK1 := Lib.hid (show ((l.take (k + 1)).any fun x => isRoute x.kd) = false by rw [routed_next hget, HK.out, isRoute_not _ h1 h2]; rfl)
          clear hget hmem
          go_wp2_with fail
          go_round
          case rel => exact ⟨k + 1, by go_num, by omega, HK1⟩
          case measure => simp [intOf]; omega
    · obtain rfl : k = n := by omega
      have dlt : decide ((k : Int) < (k : Int)) = false := by simp
      have nlt : ¬ (k : Int) < (k : Int) := by omega
      have HT := Lib.hid (show R = false by rw [HR.out]; have := HK.out; rw [HN.out, List.take_length] at this; exact this)
      go_wp2_with fail
      go_ret
      exact ⟨by rw [HT.out]; rfl, HB0.out⟩
end Go.Proofs.Ytimilcjlogcfhaa
