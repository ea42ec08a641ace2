/- Contracts of the functions, part 35: Ip4PRou, Ip4FEq. -/
import Derived.Laws.StructEq
import Derived.Test.YtimilcjlogcfhaaPE15
/- Contracts of the program of layer 11: Routed, with the library's ContainsFunc and IndexFunc at options. -/
namespace Go.Proofs.Ytimilcjlogcfhaa
open Go.ChangeShapes Go.WideShapes Go.ChangeAt Go.RowKit
set_option linter.unusedVariables false

set_option maxHeartbeats 2000000 in
set_option maxRecDepth 20000 in
theorem proute1_any (k : Int) (D : ByteArray) (w : World) :
    Calls Try.prog 46 #[.agg #[.int .i64 k, .string D]] w fun e w' => e = .returned (.bool (isRoute k)) ∧ Below w.heap.size w w' := by
  have HB0 := Lib.hid (below_alloc6 w (.cells #[.int .i64 k, .string D] 50))
  by_cases h1 : k = 131
  · have d1 : (k == 131) = true := by simp [h1]
    rw [isRoute_dec k (Or.inl h1)]
    clear h1
    go_enter Try.func46, Try.ntmps46
    go_wp2_with fail
    go_ret
    exact ⟨rfl, HB0.out⟩
  · have d1 : (k == 131) = false := by simp [h1]
    by_cases h2 : k = 137
    · have d2 : (k == 137) = true := by simp [h2]
      rw [isRoute_dec k (Or.inr h2)]
      clear h2
      go_enter Try.func46, Try.ntmps46
      go_wp2_with fail
      go_ret
      exact ⟨rfl, HB0.out⟩
    · have d2 : (k == 137) = false := by simp [h2]
      rw [isRoute_not k h1 h2]
      go_enter Try.func46, Try.ntmps46
      go_wp2_with fail
      go_ret
      exact ⟨rfl, HB0.out⟩
/-- What IndexFunc returns: -1 if there is none. -/
def IdxP (b : Bool) (w : World) (e : Ending) (w' : World) : Prop := ∃ i : Int, e = .returned (.int .i64 i) ∧ Hid (decide (0 ≤ i) = b) ∧ Hid (-1 ≤ i ∧ i ≤ 1000000000) ∧ Below w.heap.size w w'
set_option maxHeartbeats 4000000 in
set_option maxRecDepth 20000 in
theorem pidx11_any (A : Option Addr) (c : Nat) (l : List OpR) (w : World) (h : RowL EOpt w A l) (hl : l.length ≤ 1000000000) :
    Calls Try.prog 66 #[.slice A l.length c, .func (.func 46) #[] #[]] w (IdxP (l.any fun x => isRoute x.kd) w) := by
  obtain ⟨R, hR⟩ : ∃ R, R = l.any fun x => isRoute x.kd := ⟨_, rfl⟩
  rw [← hR]
  obtain ⟨n, hn⟩ : ∃ n, n = l.length := ⟨_, rfl⟩
  rw [← hn] at hl ⊢
  have HR := Lib.hid hR
  have HN := Lib.hid hn
  have HS := Lib.hid h
  clear hR hn h
  go_enter Try.func66, Try.ntmps66
  go_wp2_with fail
  go_loopw [8] (fun i wr => ∃ k : Nat, i = .int .i64 (k : Int) ∧ k ≤ n ∧ Hid (((l.take k).any fun x => isRoute x.kd) = false) ∧ Hid (Below w.heap.size w wr)) (fun i _ => n - (intOf i).toNat)
  case atStart => exact ⟨0, rfl, Nat.zero_le _, Lib.hid (by simp), Lib.hid (Below.refl _ _)⟩
  case round =>
    obtain ⟨k, rfl, hk, HK, HB⟩ := hrel
    by_cases hlt : k < n
    · have hki : (k : Int) < (n : Int) := by omega
      have hki0 : (0 : Int) ≤ (k : Int) := by omega
      have dlt : decide ((k : Int) < (n : Int)) = true := by simp; omega
      obtain ⟨x, hget⟩ : ∃ x, l[k]? = some x := ⟨l[k]'(by have := HN.out; omega), List.getElem?_eq_getElem _⟩
      obtain ⟨g, ob, rfl, hg⟩ := HS.out.shapeA (by have := HN.out; omega)
      obtain ⟨c0, c1⟩ := opt_at HS.out hget HB.out
      have HF := Lib.hid (proute1_any x.kd (str x.dat))
      have HK1 := Lib.hid (show isRoute x.kd = false → ((l.take (k + 1)).any fun x => isRoute x.kd) = false by intro hf; rw [routed_next hget, HK.out, hf]; rfl)
      have HT := Lib.hid (show isRoute x.kd = true → R = true by intro hf; rw [HR.out]; exact List.any_eq_true.2 ⟨x, List.mem_of_getElem? hget, hf⟩)
      clear hget
      generalize isRoute x.kd = q at *
      generalize x.kd = kd at *
      generalize str x.dat = D at *
      go_wp2_with fail
      refine (HF.out _).mono ?_
      rintro e w2 ⟨rfl, hb2⟩
      have HB2 := Lib.hid (HB.out.trans (hb2.mono HB.out.size))
      clear hb2 HB c0 c1
      cases q
      · go_wp2_with fail
        go_roundw
        case rel => exact ⟨k + 1, by go_num, by omega, Lib.hid (HK1.out (by first | rfl | trivial)), HB2⟩
        case measure => simp [intOf]; omega
      · go_wp2_with fail
        go_ret
        exact ⟨(k : Int), rfl, Lib.hid (by rw [HT.out (by first | rfl | trivial)]; simp), Lib.hid (by omega), HB2.out⟩
    · obtain rfl : k = n := by omega
      have dlt : decide ((k : Int) < (k : Int)) = false := by simp
      have nlt : ¬ (k : Int) < (k : Int) := by omega
      have HT := Lib.hid (show R = false by rw [HR.out]; have := HK.out; rw [HN.out, List.take_length] at this; exact this)
      go_wp2_with fail
      go_ret
      exact ⟨-1, rfl, Lib.hid (by rw [HT.out]; decide), Lib.hid (by omega), HB.out⟩
set_option maxHeartbeats 2000000 in
set_option maxRecDepth 20000 in
theorem pcontf11_any (A : Option Addr) (c : Nat) (l : List OpR) (w : World) (h : RowL EOpt w A l) (hl : l.length ≤ 1000000000) :
    Calls Try.prog 45 #[.slice A l.length c, .func (.func 46) #[] #[]] w fun e w' => e = .returned (.bool (l.any fun x => isRoute x.kd)) ∧ Below w.heap.size w w' := by
  have H := Lib.hid (fun (W : World) (hb : Below w.heap.size w W) => pidx11_any A c l W (h.kept hb) hl)
  obtain ⟨n, hn⟩ : ∃ n, n = l.length := ⟨_, rfl⟩
  rw [← hn] at H hl ⊢
  generalize (l.any fun x => isRoute x.kd) = R at *
  clear hn h
  go_enter Try.func45, Try.ntmps45
  go_wp2_with fail
  refine (H.out _ (Below.refl _ _)).mono ?_
  rintro e w1 ⟨i, rfl, h1, h2, hb⟩
  have HB := Lib.hid hb
  have hd := h1.out
  clear hb h1
  cases R
  · have hlt : ¬ 0 ≤ i := by simpa using hd
    go_wp2_with fail
    go_ret
    exact ⟨rfl, HB.out⟩
  · have hlt : 0 ≤ i := by simpa using hd
    go_wp2_with fail
    go_ret
    exact ⟨rfl, HB.out⟩
set_option maxHeartbeats 4000000 in
set_option maxRecDepth 20000 in
theorem prouted11_any (p : Ip4R) (A : Option Addr) (c : Nat) (D : ByteArray) (w : World) (h : RowL EOpt w A p.ops) (hl : p.ops.length ≤ 1000000000) :
    Calls Try.prog 19 #[ipV p p.ops.length A c D] w fun e w' => e = .returned (.bool (p.ops.any fun x => isRoute x.kd)) ∧ Below w.heap.size w w' := by
  obtain ⟨tos, id, ttl, proto, dont, more, off, ⟨sv, sh, sl⟩, ⟨dv, dh, dl⟩, l, pay⟩ := p
  dsimp only at h hl ⊢
  unfold ipV ipC
  dsimp only
  have HC := Lib.hid (fun (W : World) (hb : Below w.heap.size w W) => pcontf11_any A c l W (h.kept hb) hl)
  obtain ⟨n, hn⟩ : ∃ n, n = l.length := ⟨_, rfl⟩
  rw [← hn] at HC hl ⊢
  generalize (l.any fun x => isRoute x.kd) = R at *
  clear hn h
  obtain ⟨X, hX⟩ : ∃ X, X = #[Value.int .i64 tos, .int .i64 id, .int .i64 ttl, .int .i64 proto, .bool dont, .bool more, .int .i64 off, .bool sv, .int .u64 (sh : Int), .int .u64 (sl : Int), .bool dv, .int .u64 (dh : Int), .int .u64 (dl : Int), .slice A n c, .string D] := ⟨_, rfl⟩
  have HB0 := Lib.hid (below_alloc6 w (.cells X 28))
  have HX := Lib.hid (show Cells (w.alloc (.cells X 28)) w.heap.size 28 X from heap_alloc_new w _)
  have hc : (w.alloc (.cells X 28)).cell? ⟨w.heap.size, 13, none⟩ = some (.slice A n c) := (Cells.cell HX.out 13).trans (by rw [hX]; rfl)
  subst hX
  go_enter Try.func19, Try.ntmps19
  go_wp2_with fail
  refine (HC.out _ HB0.out).mono ?_
  rintro e w1 ⟨rfl, hb⟩
  have HB := Lib.hid (HB0.out.trans (hb.mono HB0.out.size))
  clear hb
  go_wp2_with fail
  go_ret
  exact ⟨rfl, HB.out⟩
end Go.Proofs.Ytimilcjlogcfhaa

/- The comparison of two equal fragments. -/
namespace Go.Proofs.Ytimilcjlogcfhaa
open Go.ChangeShapes Go.WideShapes Go.ChangeAt Go.RowKit
set_option linter.unusedVariables false

theorem frg_guard : Try.prog.eqGuardType Try.prog.depth 38 = false := by kernel_rfl
set_option maxHeartbeats 4000000 in
set_option maxRecDepth 20000 in
theorem frg_eql (sv dv more : Bool) (sh sl dh dl proto id ttl off : Int) (P : ByteArray) (W : World) :
    (binOp .eql 38 (.agg #[.bool sv, .int .u64 sh, .int .u64 sl, .bool dv, .int .u64 dh, .int .u64 dl, .int .i64 proto, .int .i64 id, .int .i64 ttl, .int .i64 off, .bool more, .string P]) (.agg #[.bool sv, .int .u64 sh, .int .u64 sl, .bool dv, .int .u64 dh, .int .u64 dl, .int .i64 proto, .int .i64 id, .int .i64 ttl, .int .i64 off, .bool more, .string P])).run Try.prog W = .ok (.bool true) W := by
  have u3 := Try.underlying23
  have a3 := Try.isAgg23
  have z3 := Try.sizeOf23
  have u2 := Try.underlying3
  have a2 := Try.isAgg3
  have z2 := Try.sizeOf3
  have u9 := Try.underlying4
  have a9 := Try.isAgg4
  have z9 := Try.sizeOf4
  have u7 := Try.underlying9
  have a7 := Try.isAgg9
  have z7 := Try.sizeOf9
  have u8 := Try.underlying25
  have a8 := Try.isAgg25
  have z8 := Try.sizeOf25
  have hS : Try.prog.underlying 38 = some (.struct (Try.prog.fieldsOf 38)) := by kernel_rfl
  have hp : Try.prog.stoodInHeld 38 = false := by kernel_rfl
  have hS2 : Try.prog.underlying 25 = some (.struct (Try.prog.fieldsOf 25)) := by kernel_rfl
  have hp2 : Try.prog.stoodInHeld 25 = false := by kernel_rfl
  rw [run_eql_struct, show (10000 : Nat) = 9998 + 1 + 1 from rfl, run_equalIn_agg W (9998 + 1) 38 _ _ hS hp]
  simp only [Program.fieldsOf, Try.underlying38]
  go_simp
end Go.Proofs.Ytimilcjlogcfhaa
