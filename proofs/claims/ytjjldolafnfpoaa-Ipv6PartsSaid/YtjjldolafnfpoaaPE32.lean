/- Contracts of the functions, part 32: Ip6PSm. -/
import Derived.Test.YtjjldolafnfpoaaPE12
import Derived.Test.YtjjldolafnfpoaaPE16
import Derived.Test.YtjjldolafnfpoaaPE31
/- Contracts of the program of layer 12: Fragment, Routed, payloadSize, areExts. -/
namespace Go.Proofs.Ytjjldolafnfpoaa
open Go.ChangeShapes Go.WideShapes Go.ChangeAt Go.RowKit
set_option linter.unusedVariables false

set_option maxHeartbeats 8000000 in
set_option maxRecDepth 100000 in
theorem pfragment12_any (cls lab hops nxt id off : Int) (sv dv frg more : Bool) (sh sl dh dl : Nat) (n : Nat) (A : Option Addr) (c : Nat) (D : ByteArray) (w : World) :
    Calls Try.prog 20 #[.agg #[.int .i64 cls, .int .i64 lab, .int .i64 hops, .int .i64 nxt, .bool sv, .int .u64 (sh : Int), .int .u64 (sl : Int), .bool dv, .int .u64 (dh : Int), .int .u64 (dl : Int), .slice A n c, .bool frg, .int .i64 id, .int .i64 off, .bool more, .string D]] w fun e w' => e = .returned (.agg #[.bool sv, .int .u64 (sh : Int), .int .u64 (sl : Int), .bool dv, .int .u64 (dh : Int), .int .u64 (dl : Int), .int .i64 nxt, .int .i64 id, .int .i64 hops, .int .i64 off, .bool more, .string D]) ∧ Below w.heap.size w w' := by
  have HB0 := Lib.hid (below_alloc6 w (.cells #[.int .i64 cls, .int .i64 lab, .int .i64 hops, .int .i64 nxt, .bool sv, .int .u64 (sh : Int), .int .u64 (sl : Int), .bool dv, .int .u64 (dh : Int), .int .u64 (dl : Int), .slice A n c, .bool frg, .int .i64 id, .int .i64 off, .bool more, .string D] 28))
  go_enter Try.func20, Try.ntmps20
  go_wp2_with fail
  exact bodyPost_ret (res_box1 (g := w.heap.size + 1) (cs := #[.bool sv, .int .u64 (sh : Int), .int .u64 (sl : Int), .bool dv, .int .u64 (dh : Int), .int .u64 (dl : Int), .int .i64 nxt, .int .i64 id, .int .i64 hops, .int .i64 off, .bool more, .string D]) frg6Ty rfl _ _ rfl (alloc2_6 _ _ _)) rfl ⟨rfl, HB0.out.alloc HB0.out.size _⟩
set_option maxHeartbeats 2000000 in
set_option maxRecDepth 20000 in
theorem prtf12_any (k : Int) (D : ByteArray) (w : World) :
    Calls Try.prog 41 #[.agg #[.int .i64 k, .string D]] w fun e w' => e = .returned (.bool (k == 43)) ∧ Below w.heap.size w w' := by
  have HB0 := Lib.hid (below_alloc6 w (.cells #[.int .i64 k, .string D] 59))
  go_enter Try.func41, Try.ntmps41
  go_wp2_with fail
  go_ret
  exact ⟨rfl, HB0.out⟩
/-- What IndexFunc returns: -1 if there is none. -/
def IdxP12 (b : Bool) (w : World) (e : Ending) (w' : World) : Prop := ∃ i : Int, e = .returned (.int .i64 i) ∧ Hid (decide (0 ≤ i) = b) ∧ Hid (-1 ≤ i ∧ i ≤ 1000000000) ∧ Below w.heap.size w w'
theorem any43_next {l : List OpR} {k : Nat} {x : OpR} (hget : l[k]? = some x) : ((l.take (k + 1)).any fun x => x.kd == 43) = (((l.take k).any fun x => x.kd == 43) || (x.kd == 43)) := by
  obtain ⟨hk, e⟩ := List.getElem?_eq_some_iff.1 hget
  rw [List.take_succ_eq_append_getElem hk, e, List.any_append]
  simp
set_option maxHeartbeats 4000000 in
set_option maxRecDepth 20000 in
theorem pidx12_any (A : Option Addr) (c : Nat) (l : List OpR) (w : World) (h : RowL EOpt w A l) (hl : l.length ≤ 1000000000) :
    Calls Try.prog 58 #[.slice A l.length c, .func (.func 41) #[] #[]] w (IdxP12 (l.any fun x => x.kd == 43) w) := by
  obtain ⟨R, hR⟩ : ∃ R, R = l.any fun x => x.kd == 43 := ⟨_, rfl⟩
  rw [← hR]
  obtain ⟨n, hn⟩ : ∃ n, n = l.length := ⟨_, rfl⟩
  rw [← hn] at hl ⊢
  have HR := Lib.hid hR
  have HN := Lib.hid hn
  have HS := Lib.hid h
  clear hR hn h
  go_enter Try.func58, Try.ntmps58
  go_wp2_with fail
  go_loopw [8] (fun i wr => ∃ k : Nat, i = .int .i64 (k : Int) ∧ k ≤ n ∧ Hid (((l.take k).any fun x => x.kd == 43) = false) ∧ Hid (Below w.heap.size w wr)) (fun i _ => n - (intOf i).toNat)
  case atStart => exact ⟨0, rfl, Nat.zero_le _, Lib.hid (by simp), Lib.hid (Below.refl _ _)⟩
  case round =>
    obtain ⟨k, rfl, hk, HK, HB⟩ := hrel
    by_cases hlt : k < n
    · have hki : (k : Int) < (n : Int) := by omega
      have hki0 : (0 : Int) ≤ (k : Int) := by omega
      have dlt : decide ((k : Int) < (n : Int)) = true := by simp; omega
      obtain ⟨x, hget⟩ : ∃ x, l[k]? = some x := ⟨l[k]'(by have := HN.out; omega), List.getElem?_eq_getElem _⟩
      obtain ⟨g, ob, rfl, hg⟩ := HS.out.shapeA (by have := HN.out; omega)
      obtain ⟨c0, c1⟩ := opt_at HS.out hget HB.out
      have HF := Lib.hid (prtf12_any x.kd (str x.dat))
      have HK1 := Lib.hid (show (x.kd == 43) = false → ((l.take (k + 1)).any fun x => x.kd == 43) = false by intro hf; rw [any43_next hget, HK.out, hf]; rfl)
      have HT := Lib.hid (show (x.kd == 43) = true → R = true by intro hf; rw [HR.out]; exact List.any_eq_true.2 ⟨x, List.mem_of_getElem? hget, hf⟩)
      clear hget
      generalize (x.kd == 43) = q at *
      generalize x.kd = kd at *
      generalize str x.dat = D at *
      go_wp2_with fail
      refine (HF.out _).mono ?_
      rintro e w2 ⟨rfl, hb2⟩
      have HB2 := Lib.hid (HB.out.trans (hb2.mono HB.out.size))
      clear hb2 HB c0 c1
      cases q
      · go_wp2_with fail
        go_roundw
        case rel => exact ⟨k + 1, by go_num, by omega, Lib.hid (HK1.out (by first | rfl | trivial)), HB2⟩
        case measure => simp [intOf]; omega
      · go_wp2_with fail
        go_ret
        exact ⟨(k : Int), rfl, Lib.hid (by rw [HT.out (by first | rfl | trivial)]; simp), Lib.hid (by omega), HB2.out⟩
    · obtain rfl : k = n := by omega
      have dlt : decide ((k : Int) < (k : Int)) = false := by simp
      have nlt : ¬ (k : Int) < (k : Int) := by omega
      have HT := Lib.hid (show R = false by rw [HR.out]; have := HK.out; rw [HN.out, List.take_length] at this; exact this)
      go_wp2_with fail
      go_ret
      exact ⟨-1, rfl, Lib.hid (by rw [HT.out]; decide), Lib.hid (by omega), HB.out⟩
set_option maxHeartbeats 2000000 in
set_option maxRecDepth 20000 in
theorem pcontf12_any (A : Option Addr) (c : Nat) (l : List OpR) (w : World) (h : RowL EOpt w A l) (hl : l.length ≤ 1000000000) :
    Calls Try.prog 40 #[.slice A l.length c, .func (.func 41) #[] #[]] w fun e w' => e = .returned (.bool (l.any fun x => x.kd == 43)) ∧ Below w.heap.size w w' := by
  have H := Lib.hid (fun (W : World) (hb : Below w.heap.size w W) => pidx12_any A c l W (h.kept hb) hl)
  obtain ⟨n, hn⟩ : ∃ n, n = l.length := ⟨_, rfl⟩
  rw [← hn] at H hl ⊢
  generalize (l.any fun x => x.kd == 43) = R at *
  clear hn h
  go_enter Try.func40, Try.ntmps40
  go_wp2_with fail
  refine (H.out _ (Below.refl _ _)).mono ?_
  rintro e w1 ⟨i, rfl, h1, h2, hb⟩
  have HB := Lib.hid hb
  have hd := h1.out
  clear hb h1
  cases R
  · have hlt : ¬ 0 ≤ i := by simpa using hd
    go_wp2_with fail
    go_ret
    exact ⟨rfl, HB.out⟩
  · have hlt : 0 ≤ i := by simpa using hd
    go_wp2_with fail
    go_ret
    exact ⟨rfl, HB.out⟩
set_option maxHeartbeats 4000000 in
set_option maxRecDepth 20000 in
theorem prouted12_any (cls lab hops nxt id off : Int) (sv dv frg more : Bool) (sh sl dh dl : Nat) (l : List OpR) (A : Option Addr) (c : Nat) (D : ByteArray) (w : World) (h : RowL EOpt w A l) (hl : l.length ≤ 1000000000) :
    Calls Try.prog 22 #[.agg #[.int .i64 cls, .int .i64 lab, .int .i64 hops, .int .i64 nxt, .bool sv, .int .u64 (sh : Int), .int .u64 (sl : Int), .bool dv, .int .u64 (dh : Int), .int .u64 (dl : Int), .slice A l.length c, .bool frg, .int .i64 id, .int .i64 off, .bool more, .string D]] w fun e w' => e = .returned (.bool (l.any fun x => x.kd == 43)) ∧ Below w.heap.size w w' := by
  have HC := Lib.hid (fun (W : World) (hb : Below w.heap.size w W) => pcontf12_any A c l W (h.kept hb) hl)
  obtain ⟨n, hn⟩ : ∃ n, n = l.length := ⟨_, rfl⟩
  rw [← hn] at HC hl ⊢
  generalize (l.any fun x => x.kd == 43) = R at *
  clear hn h
  obtain ⟨X, hX⟩ : ∃ X, X = (#[.int .i64 cls, .int .i64 lab, .int .i64 hops, .int .i64 nxt, .bool sv, .int .u64 (sh : Int), .int .u64 (sl : Int), .bool dv, .int .u64 (dh : Int), .int .u64 (dl : Int), .slice A n c, .bool frg, .int .i64 id, .int .i64 off, .bool more, .string D] : Array Value) := ⟨_, rfl⟩
  have HB0 := Lib.hid (below_alloc6 w (.cells X 28))
  have HX := Lib.hid (show Cells (w.alloc (.cells X 28)) w.heap.size 28 X from heap_alloc_new w _)
  have hc : (w.alloc (.cells X 28)).cell? ⟨w.heap.size, 10, none⟩ = some (.slice A n c) := (Cells.cell HX.out 10).trans (by rw [hX]; rfl)
  subst hX
  go_enter Try.func22, Try.ntmps22
  go_wp2_with fail
  refine (HC.out _ HB0.out).mono ?_
  rintro e w1 ⟨rfl, hb⟩
  have HB := Lib.hid (HB0.out.trans (hb.mono HB0.out.size))
  clear hb
  go_wp2_with fail
  go_ret
  exact ⟨rfl, HB.out⟩
theorem lenX_next {l : List OpR} {k : Nat} {x : OpR} (hget : l[k]? = some x) : lenX (l.take (k + 1)) = lenX (l.take k) + (2 + x.dat.length) := by
  obtain ⟨hk, e⟩ := List.getElem?_eq_some_iff.1 hget
  rw [List.take_succ_eq_append_getElem hk, e, lenX_append]
  unfold lenX
  simp
set_option maxHeartbeats 4000000 in
set_option maxRecDepth 20000 in
theorem psize12_any (cls lab hops nxt id off : Int) (sv dv frg more : Bool) (sh sl dh dl : Nat) (l : List OpR) (A : Option Addr) (c : Nat) (D : ByteArray) (S : Nat) (w : World) (h : RowL EOpt w A l) (hl : l.length ≤ 8) (hd : ∀ x ∈ l, x.dat.length ≤ 2046) (hp : D.size ≤ 1000000) (hS : S = D.size + lenX l + (if frg then 8 else 0)) :
    Calls Try.prog 53 #[.agg #[.int .i64 cls, .int .i64 lab, .int .i64 hops, .int .i64 nxt, .bool sv, .int .u64 (sh : Int), .int .u64 (sl : Int), .bool dv, .int .u64 (dh : Int), .int .u64 (dl : Int), .slice A l.length c, .bool frg, .int .i64 id, .int .i64 off, .bool more, .string D]] w fun e w' => e = .returned (.int .i64 (S : Int)) ∧ Below w.heap.size w w' := by
  obtain ⟨n, hn⟩ : ∃ n, n = l.length := ⟨_, rfl⟩
  rw [← hn] at hl ⊢
  have HN := Lib.hid hn
  have HS := Lib.hid h
  have HD := Lib.hid hd
  have HSS := Lib.hid hS
  clear hn h hd hS
  obtain ⟨W1, hW1⟩ : ∃ W, W = w.alloc (.cells #[.int .i64 cls, .int .i64 lab, .int .i64 hops, .int .i64 nxt, .bool sv, .int .u64 (sh : Int), .int .u64 (sl : Int), .bool dv, .int .u64 (dh : Int), .int .u64 (dl : Int), .slice A n c, .bool frg, .int .i64 id, .int .i64 off, .bool more, .string D] 28) := ⟨_, rfl⟩
  obtain ⟨g, hg⟩ : ∃ g, g = w.heap.size := ⟨_, rfl⟩
  have HX := Lib.hid (show Cells W1 g 28 #[.int .i64 cls, .int .i64 lab, .int .i64 hops, .int .i64 nxt, .bool sv, .int .u64 (sh : Int), .int .u64 (sl : Int), .bool dv, .int .u64 (dh : Int), .int .u64 (dl : Int), .slice A n c, .bool frg, .int .i64 id, .int .i64 off, .bool more, .string D] by rw [hW1, hg]; exact heap_alloc_new w _)
  have HB1 := Lib.hid (show Below w.heap.size w W1 by rw [hW1]; exact below_alloc6 w _)
  have HV := Lib.hid (fun (W : World) (hb : Below W1.heap.size W1 W) (i : Nat) (v : Value) (hv : (#[.int .i64 cls, .int .i64 lab, .int .i64 hops, .int .i64 nxt, .bool sv, .int .u64 (sh : Int), .int .u64 (sl : Int), .bool dv, .int .u64 (dh : Int), .int .u64 (dl : Int), .slice A n c, .bool frg, .int .i64 id, .int .i64 off, .bool more, .string D])[i]? = some v) => show W.cell? ⟨g, i, none⟩ = some v from box_cell HX.out hb i v hv)
  have HW := Lib.hid (fun (W : World) (hb : Below W1.heap.size W1 W) => HB1.out.trans (hb.mono HB1.out.size))
  have x15 := HV.out _ (Below.refl _ _) 15 (Value.string D) rfl
  have x10 := HV.out _ (Below.refl _ _) 10 (Value.slice A n c) rfl
  go_enter Try.func53, Try.ntmps53
  go_upto_region 1 with fail
  rw [← hW1, ← hg]
  clear hW1 hg
  go_wp2_with fail
  go_loopw [3, 12] (fun s i wr => ∃ k t : Nat, i = .int .i64 (k : Int) ∧ s = .int .i64 (t : Int) ∧ k ≤ n ∧ t ≤ 1000000 + k * 2048 ∧ Hid (t = D.size + lenX (l.take k)) ∧ Hid (Below W1.heap.size W1 wr)) (fun _ i _ => n - (intOf i).toNat)
  case atStart => exact ⟨0, D.size, rfl, rfl, Nat.zero_le _, by omega, Lib.hid (by simp [lenX]), Lib.hid (Below.refl _ _)⟩
  case round =>
    obtain ⟨k, t, rfl, rfl, hk, ht, HT, HB⟩ := hrel
    by_cases hlt : k < n
    · have hki : (k : Int) < (n : Int) := by omega
      have hki0 : (0 : Int) ≤ (k : Int) := by omega
      have dlt : decide ((k : Int) < (n : Int)) = true := by simp; omega
      obtain ⟨x, hget⟩ : ∃ x, l[k]? = some x := ⟨l[k]'(by have := HN.out; omega), List.getElem?_eq_getElem _⟩
      obtain ⟨g9, ob, rfl, hg9⟩ := HS.out.shapeA (by have := HN.out; omega)
      obtain ⟨c0, c1⟩ := opt_at HS.out hget (HW.out _ HB.out)
      have hxd := HD.out x (List.mem_of_getElem? hget)
      obtain ⟨y, hy⟩ : ∃ y, y = x.dat.length := ⟨_, rfl⟩
      have hsz : (str x.dat).size = y := by rw [str_size, hy]
      obtain ⟨t1, ht1⟩ : ∃ t1, t1 = t + (2 + y) := ⟨_, rfl⟩
      have hmn : (t : Int) + (2 + (y : Int)) = (t1 : Int) := by omega
      have HT1 := Lib.hid (show t1 = D.size + lenX (l.take (k + 1)) by rw [lenX_next hget, ht1, HT.out, ← hy]; omega)
      rw [← hy] at hxd
      have ht41 : t1 ≤ 1000000 + (k + 1) * 2048 := by omega
      have hkt : k * 2048 ≤ 16384 := by omega
      have HBA := Lib.hid (HB.out.alloc HB.out.size (.cells #[.int .i64 x.kd, .string (str x.dat)] 59))
      generalize str x.dat = E at *
      generalize x.kd = kd at *
      clear hget hy ht1
      have ht9 : t ≤ 1016384 := by omega
      go_wp2_with fail
      go_roundw
      case rel => exact ⟨k + 1, t1, by go_num, by first | rfl | simp [hmn] | (congr 1; omega), by omega, ht41, HT1, HBA⟩
      case measure => simp [intOf]; omega
    · obtain rfl : k = n := by omega
      have dlt : decide ((k : Int) < (k : Int)) = false := by simp
      have nlt : ¬ (k : Int) < (k : Int) := by omega
      have HT2 := Lib.hid (show t = D.size + lenX l by have := HT.out; rw [HN.out, List.take_length] at this; exact this)
      have x11 := HV.out wr HB.out 11 (.bool frg) rfl
      have ht9 : t ≤ 1016384 := by omega
      cases frg
      · go_wp2_with fail
        go_ret
        exact ⟨by rw [HSS.out, HT2.out]; rfl, HW.out _ HB.out⟩
      · obtain ⟨t8, ht8⟩ : ∃ t8, t8 = t + 8 := ⟨_, rfl⟩
        have ht8i : (t : Int) + 8 = (t8 : Int) := by omega
        have HT8 := Lib.hid ht8
        clear ht8
        go_wp2_with fail
        go_ret
        exact ⟨by rw [HSS.out, ← HT2.out]; have := HT8.out; subst this; rfl, HW.out _ HB.out⟩
theorem okE6_next {l : List OpR} {k : Nat} {x : OpR} (h : okE6 (l.take k)) (hget : l[k]? = some x) (hx : ¬ badE6 x k) : okE6 (l.take (k + 1)) := by
  obtain ⟨hk, e⟩ := List.getElem?_eq_some_iff.1 hget
  intro i y hy
  by_cases hi : i < k
  · exact h i y (by rw [List.getElem?_take] at hy ⊢; rw [if_pos (by omega)] at hy; rw [if_pos hi]; exact hy)
  · have hik : i = k := by
      rw [List.getElem?_take] at hy
      by_cases h1 : i < k + 1
      · omega
      · rw [if_neg h1] at hy; cases hy
    subst hik
    rw [List.getElem?_take, if_pos (by omega), hget] at hy
    obtain rfl := Option.some.inj hy
    exact hx
set_option maxHeartbeats 4000000 in
set_option maxRecDepth 20000 in
theorem pexts12_any (A : Option Addr) (c : Nat) (l : List OpR) (Q : Bool) (w : World) (h : RowL EOpt w A l) (hl : l.length ≤ 8) (hd : ∀ x ∈ l, x.dat.length ≤ 4611686018427387904) (hQ : decide (okE6 l) = Q) :
    Calls Try.prog 52 #[.slice A l.length c] w fun e w' => e = .returned (.bool Q) ∧ Below w.heap.size w w' := by
  obtain ⟨n, hn⟩ : ∃ n, n = l.length := ⟨_, rfl⟩
  rw [← hn] at hl ⊢
  have HN := Lib.hid hn
  have HS := Lib.hid h
  have HD := Lib.hid hd
  have HQ := Lib.hid hQ
  clear hn h hd hQ
  go_enter Try.func52, Try.ntmps52
  go_wp2_with fail
  go_loopw [8] (fun i wr => ∃ k : Nat, i = .int .i64 (k : Int) ∧ k ≤ n ∧ Hid (okE6 (l.take k)) ∧ Hid (Below w.heap.size w wr)) (fun i _ => n - (intOf i).toNat)
  case atStart => exact ⟨0, rfl, Nat.zero_le _, Lib.hid (fun i x hx => by simp at hx), Lib.hid (Below.refl _ _)⟩
  case round =>
    obtain ⟨k, rfl, hk, HK, HB⟩ := hrel
    by_cases hlt : k < n
    · have hki : (k : Int) < (n : Int) := by omega
      have hki0 : (0 : Int) ≤ (k : Int) := by omega
      have dlt : decide ((k : Int) < (n : Int)) = true := by simp; omega
      obtain ⟨x, hget⟩ : ∃ x, l[k]? = some x := ⟨l[k]'(by have := HN.out; omega), List.getElem?_eq_getElem _⟩
      obtain ⟨g, ob, rfl, hg⟩ := HS.out.shapeA (by have := HN.out; omega)
      obtain ⟨c0, c1⟩ := opt_at HS.out hget HB.out
      have hxd := HD.out x (List.mem_of_getElem? hget)
      obtain ⟨y, hy⟩ : ∃ y, y = x.dat.length := ⟨_, rfl⟩
      have hsz : (str x.dat).size = y := by rw [str_size, hy]
      rw [← hy] at hxd
      have HBAD := Lib.hid (show badE6 x k → Q = false from fun hb => by rw [← HQ.out]; exact decide_eq_false (fun ho => ho k x hget hb))
      have HNXT := Lib.hid (show ¬ badE6 x k → okE6 (l.take (k + 1)) from fun hb => okE6_next HK.out hget hb)
      have HBE := Lib.hid (show badE6 x k ↔ ¬ extK x.kd ∨ (x.kd = 0 ∧ 0 < k) ∨ y % 8 ≠ 6 ∨ 2046 < y by rw [hy]; exact Iff.rfl)
      have HBA := Lib.hid (HB.out.alloc HB.out.size (.cells #[.int .i64 x.kd, .string (str x.dat)] 59))
      generalize badE6 x k = BAD at *
      generalize str x.dat = E at *
      generalize x.kd = kd at *
      clear hget hy
      obtain ⟨W2, hW2⟩ : ∃ W, W = (wr.alloc (.cells #[.int .i64 kd, .string E] 59)) := ⟨_, rfl⟩
      obtain ⟨g2, hg2⟩ : ∃ g, g = wr.heap.size := ⟨_, rfl⟩
      have hX2 : Cells W2 g2 59 #[.int .i64 kd, .string E] := by rw [hW2, hg2]; exact heap_alloc_new wr _
      rw [← hW2] at HBA
      have HBA2 := Lib.hid (HBA.out.alloc HBA.out.size (.cells #[.int .i64 0, .int .i64 43, .int .i64 60] 3))
      go_upto_region 4 with fail
      rw [← hW2, ← hg2]
      clear hW2 hg2
      have x0 := (Cells.cell hX2 0).trans (show _ = some (Value.int .i64 kd) from rfl)
      have x1 := (Cells.cell hX2 1).trans (show _ = some (Value.string E) from rfl)
      have hgl := hX2.lt
      clear c0 c1
      obtain ⟨q1, hq1⟩ : ∃ q : Bool, decide (extK kd) = q := ⟨_, rfl⟩
      have HQ1 := Lib.hid hq1
      clear hq1
      go_wp2_with fail
      refine (pany3_12 kd q1 HQ1.out _ _ (heap_alloc_new W2 _)).mono ?_
      rintro e w3 ⟨rfl, rfl⟩
      cases q1
      · have HF := Lib.hid (HBAD.out (HBE.out.2 (.inl (of_decide_eq_false HQ1.out))))
        go_wp2_with fail
        go_ret
        exact ⟨by rw [HF.out]; rfl, HBA2.out⟩
      have HEX := Lib.hid (of_decide_eq_true HQ1.out)
      obtain ⟨z, hz⟩ : ∃ z : Int, z = (y : Int) - 6 := ⟨_, rfl⟩
      have hz' : (y : Int) - 6 = z := hz.symm
      obtain ⟨q2, hq2⟩ : ∃ q : Bool, decide (0 ≤ z ∧ z ≤ 2040) = q := ⟨_, rfl⟩
      obtain ⟨q3, hq3⟩ : ∃ q : Bool, (z.tmod 8 != 0) = q := ⟨_, rfl⟩
      have HQ2 := Lib.hid hq2
      have HQ3 := Lib.hid hq3
      have HZ := Lib.hid hz
      have hzl : z ≤ 4611686018427387904 := by omega
      have hzg : -6 ≤ z := by omega
      have HBAD2 := Lib.hid (show kd = 0 ∧ 0 < k → Q = false from fun h => HBAD.out (HBE.out.2 (.inr (.inl h))))
      have HCORE := Lib.hid (show (q2 = false → Q = false) ∧ (q2 = true → q3 = true → Q = false) ∧ (q2 = true → q3 = false → ¬ (kd = 0 ∧ 0 < k) → okE6 (l.take (k + 1))) by
        refine ⟨fun h => ?_, fun h h3 => ?_, fun h h3 hn => ?_⟩
        · rw [h] at hq2
          have := of_decide_eq_false hq2
          refine HBAD.out (HBE.out.2 (.inr (.inr ?_)))
          omega
        · rw [h] at hq2
          have h2 := of_decide_eq_true hq2
          rw [h3, bne_iff_ne, Int.tmod_eq_emod_of_nonneg h2.1] at hq3
          refine HBAD.out (HBE.out.2 (.inr (.inr (.inl ?_))))
          omega
        · rw [h] at hq2
          have h2 := of_decide_eq_true hq2
          rw [h3, bne_eq_false_iff_eq, Int.tmod_eq_emod_of_nonneg h2.1] at hq3
          refine HNXT.out (fun hb => ?_)
          rcases HBE.out.1 hb with h | h | h | h
          · exact h HEX.out
          · exact hn h
          · omega
          · omega)
      clear hz HBAD HNXT HBE HQ1
      by_cases h0 : kd = 0
      · have e0 : (kd == 0) = true := by simp [h0]
        by_cases hk0 : 0 < k
        · have d0 : decide ((0 : Int) < (k : Int)) = true := by simp; omega
          have p0 : (0 : Int) < (k : Int) := by omega
          have HF := Lib.hid (HBAD2.out ⟨h0, hk0⟩)
          clear h0
          go_wp2_with fail
          go_ret
          exact ⟨by rw [HF.out]; rfl, HBA2.out⟩
        · have d0 : decide ((0 : Int) < (k : Int)) = false := by simp; omega
          have p0 : ¬ (0 : Int) < (k : Int) := by omega
          have HNB := Lib.hid (show ¬ (kd = 0 ∧ 0 < k) from fun h => hk0 h.2)
          clear h0
          go_wp2_with fail
          refine (pupto12_any z 2040 _).mono ?_
          rw [HQ2.out]
          rintro e w3 ⟨rfl, rfl⟩
          cases q2
          · have HF := Lib.hid (HCORE.out.1 rfl)
            go_wp2_with fail
            go_ret
            exact ⟨by rw [HF.out]; rfl, HBA2.out⟩
          have hzz := of_decide_eq_true HQ2.out
          have hz0 : 0 ≤ z := hzz.1
          have htm : z.tmod 8 = z % 8 := Int.tmod_eq_emod_of_nonneg hz0
          cases q3
          · have hq3 := HQ3.out
            have HF := Lib.hid (HCORE.out.2.2 rfl rfl HNB.out)
            have nq3 : z.tmod 8 = 0 := by simpa using hq3
            have nq3' : z % 8 = 0 := by rw [← htm]; exact nq3
            clear htm
            go_wp2_with fail
            go_roundw
            case rel => exact ⟨k + 1, by go_num, by omega, HF, HBA2⟩
            case measure => simp [intOf]; omega
          · have hq3 := HQ3.out
            have HF := Lib.hid (HCORE.out.2.1 rfl rfl)
            have nq3 : ¬ z.tmod 8 = 0 := by simpa using hq3
            have nq3' : ¬ z % 8 = 0 := by rw [← htm]; exact nq3
            clear htm
            go_wp2_with fail
            go_ret
            exact ⟨by rw [HF.out]; rfl, HBA2.out⟩
      · have e0 : (kd == 0) = false := by simp [h0]
        have HNB := Lib.hid (show ¬ (kd = 0 ∧ 0 < k) from fun h => h0 h.1)
        go_wp2_with fail
        refine (pupto12_any z 2040 _).mono ?_
        rw [HQ2.out]
        rintro e w3 ⟨rfl, rfl⟩
        cases q2
        · have HF := Lib.hid (HCORE.out.1 rfl)
          go_wp2_with fail
          go_ret
          exact ⟨by rw [HF.out]; rfl, HBA2.out⟩
        have hzz := of_decide_eq_true HQ2.out
        have hz0 : 0 ≤ z := hzz.1
        have htm : z.tmod 8 = z % 8 := Int.tmod_eq_emod_of_nonneg hz0
        cases q3
        · have hq3 := HQ3.out
          have HF := Lib.hid (HCORE.out.2.2 rfl rfl HNB.out)
          have nq3 : z.tmod 8 = 0 := by simpa using hq3
          have nq3' : z % 8 = 0 := by rw [← htm]; exact nq3
          clear htm
          go_wp2_with fail
          go_roundw
          case rel => exact ⟨k + 1, by go_num, by omega, HF, HBA2⟩
          case measure => simp [intOf]; omega
        · have hq3 := HQ3.out
          have HF := Lib.hid (HCORE.out.2.1 rfl rfl)
          have nq3 : ¬ z.tmod 8 = 0 := by simpa using hq3
          have nq3' : ¬ z % 8 = 0 := by rw [← htm]; exact nq3
          clear htm
          go_wp2_with fail
          go_ret
          exact ⟨by rw [HF.out]; rfl, HBA2.out⟩
    · obtain rfl : k = n := by omega
      have dlt : decide ((k : Int) < (k : Int)) = false := by simp
      have nlt : ¬ (k : Int) < (k : Int) := by omega
      have HT := Lib.hid (show Q = true by rw [← HQ.out]; have := HK.out; rw [HN.out, List.take_length] at this; exact decide_eq_true this)
      go_wp2_with fail
      go_ret
      exact ⟨by rw [HT.out]; rfl, HB.out⟩
end Go.Proofs.Ytjjldolafnfpoaa
