/- Contracts of the functions, part 10: Ip4Mem, Ip6Mem, In12. -/
import Derived.SizedLaws
import Derived.Test.YtjjldolafnfpoaaPE3
import Derived.Test.YtjjldolafnfpoaaPE5
import Derived.Test.YtjjldolafnfpoaaPE7
import Derived.Test.YtjjldolafnfpoaaPE9
/- IPv4 packets in memory; the reference's small functions. -/
namespace Go.Proofs.Ytjjldolafnfpoaa
open Go.ChangeShapes Go.WideShapes Go.ChangeAt Go.RowKit
set_option linter.unusedVariables false

/-- Options as elements. -/
def EOpt : Enc OpR := ⟨2, by decide, fun x => [.int .i64 x.kd, .string (str x.dat)], fun _ => rfl, fun x v hv => by
  simp only [List.mem_cons, List.not_mem_nil, or_false] at hv
  rcases hv with rfl | rfl <;> rfl⟩
/-- A packet's cells. -/
def ipC (p : Ip4R) (n : Nat) (A : Option Addr) (c : Nat) (D : ByteArray) : Array Value :=
  #[.int .i64 p.tos, .int .i64 p.id, .int .i64 p.ttl, .int .i64 p.proto, .bool p.dont, .bool p.more, .int .i64 p.off, .bool p.src.v6, .int .u64 (p.src.hi : Int), .int .u64 (p.src.lo : Int), .bool p.dst.v6, .int .u64 (p.dst.hi : Int), .int .u64 (p.dst.lo : Int), .slice A n c, .string D]
theorem opt_at {w0 w : World} {g ob : Nat} {l : List OpR} {k : Nat} {x : OpR} (h : RowL EOpt w0 (some ⟨g, ob, none⟩) l) (hx : l[k]? = some x) (hb : Below w0.heap.size w0 w) : w.cell? ⟨g, ob + k * 2, none⟩ = some (.int .i64 x.kd) ∧ w.cell? ⟨g, ob + k * 2 + 1, none⟩ = some (.string (str x.dat)) :=
  ⟨h.at_ hx hb 0 _ rfl, h.at_ hx hb 1 _ rfl⟩
end Go.Proofs.Ytjjldolafnfpoaa

/- IPv6 packets in memory; small functions of the reference. -/
namespace Go.Proofs.Ytjjldolafnfpoaa
open Go.ChangeShapes Go.WideShapes Go.ChangeAt Go.RowKit
set_option linter.unusedVariables false

theorem info_ext : (Try.prog.info? 59).map (fun i => (i.zero, i.size, i.bytes)) = some (some (.agg #[.int .i64 0, .string ⟨#[]⟩]), 2, 24) := by kernel_rfl
theorem extTy : ElemTy 26 59 2 24 :=
  ⟨Try.underlying26, by
    obtain ⟨i, h1, h2, h3, h4⟩ := info_parts info_ext
    exact ⟨i, _, h1, h2, h3, h4, rfl⟩⟩
theorem ip6Ty : BoxTy 28 16 := ⟨⟨_, Try.underlying28⟩, by kernel_rfl⟩
/-- A packet's cells. -/
def ip6C (p : Ip6R) (n : Nat) (A : Option Addr) (c : Nat) (D : ByteArray) : Array Value :=
  #[.int .i64 p.cls, .int .i64 p.lab, .int .i64 p.hops, .int .i64 p.nxt, .bool p.src.v6, .int .u64 (p.src.hi : Int), .int .u64 (p.src.lo : Int), .bool p.dst.v6, .int .u64 (p.dst.hi : Int), .int .u64 (p.dst.lo : Int), .slice A n c, .bool p.frg, .int .i64 p.id, .int .i64 p.off, .bool p.more, .string D]
theorem beL_snoc {size n j : Nat} (h : j < size) : (beL size n).take (j + 1) = (beL size n).take j ++ [UInt8.ofNat (n / 256 ^ (size - 1 - j) % 256)] := by
  have hl : j < (beL size n).length := by rw [beL_len]; exact h
  rw [List.take_succ_eq_append_getElem hl]
  congr 2
  simp only [beL, List.getElem_reverse, leL_get, leL_length]
set_option maxHeartbeats 1000000 in
set_option maxRecDepth 20000 in
theorem rnum12_any (D : ByteArray) (S : List UInt8) (h : D = str S) (hs : S.length ≤ 7) (w : World) :
    Calls Try.prog 27 #[.string D] w fun e w' => e = .returned (.int .i64 (num S : Nat)) ∧ w = w' := by
  obtain ⟨n, hn⟩ : ∃ n, n = D.size := ⟨_, rfl⟩
  have hlen : S.length = n := by rw [hn, h, str_size]
  have HN := Lib.hid hlen
  have HS := Lib.hid h
  have h7 : D.size ≤ 7 := by omega
  have HD := Lib.hid hn
  clear hlen h hs hn
  go_enter Try.func27, Try.ntmps27
  go_wp2_with fail
  go_loopw [3, 4] (fun v5 v6 wr => ∃ i m : Nat, v5 = .int .i64 m ∧ v6 = .int .i64 i ∧ i ≤ D.size ∧ Hid (m = num (S.take i)) ∧ w = wr) (fun _ v6 _ => D.size - (intOf v6).toNat)
  case atStart => exact ⟨0, 0, rfl, rfl, Nat.zero_le _, Lib.hid rfl, rfl⟩
  case round =>
    obtain ⟨i, m, rfl, rfl, hi, HM, rfl⟩ := hrel
    obtain ⟨i1, hi1⟩ : ∃ i1, i1 = i + 1 := ⟨_, rfl⟩
    have i1i : (i : Int) + 1 = (i1 : Int) := by omega
    have HI1 := Lib.hid hi1
    by_cases hlt : i < D.size
    · have dlt : decide ((i : Int) < (D.size : Int)) = true := by simp; omega
      have hki : (i : Int) < (D.size : Int) := by omega
      have i1n : i1 ≤ D.size := by omega
      have hm6 : m < 281474976710656 := by rw [HM.out]; exact num_lt6 (by rw [List.length_take]; have := HN.out; have := HD.out; omega)
      have hg2 : S[i]? = some (D[i]'hlt) := by
        have hil : i < S.length := by have := HN.out; have := HD.out; omega
        rw [List.getElem?_eq_getElem hil]
        have hsd := HS.out
        subst hsd
        congr 1
      have hnm := num_take hg2
      rw [← HM.out, ← hi1] at hnm
      have hx8 := u8_lt (D[i]'hlt)
      obtain ⟨x, hx⟩ : ∃ x, x = (D[i]'hlt).toNat := ⟨_, rfl⟩
      rw [← hx] at hnm hx8
      have hor := or_i64 m x (by omega) hx8
      obtain ⟨m1, hm1⟩ : ∃ m1, m1 = m * 256 + x := ⟨_, rfl⟩
      rw [← hm1] at hnm hor
      have HM2 := Lib.hid (show m1 = num (S.take i1) from hnm.symm)
      have hx' : (((D[i]'hlt).toNat : Nat) : Int) = (x : Int) := by rw [hx]
      clear hg2 hnm hm1 hi1 hx
      go_wp2_with fail
      go_roundw
      case rel => exact ⟨i1, m1, rfl, rfl, i1n, HM2, by trivial⟩
      case measure => have := HI1.out; simp [intOf]; omega
    · have dlt : decide ((i : Int) < (D.size : Int)) = false := by simp; omega
      have nlt : ¬ (i : Int) < (D.size : Int) := by omega
      have HE := Lib.hid (show m = num S by rw [HM.out, List.take_of_length_le (by have := HN.out; have := HD.out; omega)])
      clear hi1 HM
      go_wp2_with fail
      go_ret
      exact ⟨by rw [HE.out]; rfl, rfl⟩
set_option maxHeartbeats 1000000 in
set_option maxRecDepth 20000 in
theorem rput12_any (n size : Nat) (N Z : Int) (hN : (n : Int) = N) (hZ : (size : Int) = Z) (hn : n < 9223372036854775808) (hsz : size ≤ 7) (w : World) :
    Calls Try.prog 36 #[.int .i64 N, .int .i64 Z] w fun e w' => e = .returned (.string (str (beL size n))) ∧ Below w.heap.size w w' := by
  subst hN hZ
  obtain ⟨i0, hinf, hz0, hz1, hz2⟩ := info_parts info5
  have HB0 := Lib.hid (Below.refl w.heap.size w)
  have HO0 := Lib.hid (show w.ownsRow w.heap.size 5 1 (.slice none 0 0) 0 (cellsOf []) from World.ownsRow_nil w w.heap.size 5 1)
  have hs7 : size ≤ 7 := hsz
  go_enter Try.func36, Try.ntmps36
  go_wp2_with fail
  go_loopw [5, 6] (fun v5 v6 wr => ∃ (j cap : Nat) (i : Int) (A : Option Addr), v5 = .slice A j cap ∧ v6 = .int .i64 i ∧ i = (size : Int) - 1 - (j : Int) ∧ j ≤ size ∧ Hid (Below w.heap.size w wr) ∧ Hid (wr.ownsRow w.heap.size 5 1 (.slice A j cap) j (cellsOf ((beL size n).take j)))) (fun _ v6 _ => (intOf v6 + 1).toNat)
  case atStart => exact ⟨0, 0, (size : Int) - 1, none, rfl, rfl, by omega, Nat.zero_le _, HB0, HO0⟩
  case round =>
    clear HB0 HO0
    obtain ⟨j, cap, i, A, rfl, rfl, hij, hj, HB, HO⟩ := hrel
    obtain ⟨j1, hj1⟩ : ∃ j1, j1 = j + 1 := ⟨_, rfl⟩
    by_cases hlt : j < size
    · obtain ⟨k, hk⟩ : ∃ k, k = size - 1 - j := ⟨_, rfl⟩
      have hik : i = (k : Int) := by omega
      subst hik
      have dlt : decide ((0 : Int) ≤ (k : Int)) = true := by simp
      have hk0 : (0 : Int) ≤ (k : Int) := by omega
      obtain ⟨s, hs⟩ : ∃ s, s = 8 * k := ⟨_, rfl⟩
      have hsi : (8 : Int) * (k : Int) = (s : Int) := by omega
      have hs64 : s < 64 := by omega
      obtain ⟨q, hq⟩ : ∃ q, q = n / 2 ^ s := ⟨_, rfl⟩
      have hqi : (n : Int) / 2 ^ s = (q : Int) := by rw [hq, Int.natCast_ediv]; simp
      have hq63 : q < 9223372036854775808 := Nat.lt_of_le_of_lt (by rw [hq]; exact Nat.div_le_self _ _) hn
      have hqd : q = n / 256 ^ k := by rw [hq, hs, Nat.pow_mul]
      obtain ⟨X, hX⟩ : ∃ X : Nat, X = (UInt8.ofNat (n / 256 ^ k % 256)).toNat := ⟨_, rfl⟩
      have hXi : (q : Int) % 256 = (X : Int) := by rw [hX, UInt8.toNat_ofNat', hqd]; simp
      have HSN := Lib.hid (show cellsOf ((beL size n).take j) ++ [.int .u8 (X : Int)] = cellsOf ((beL size n).take j1) by rw [hj1, beL_snoc hlt]; exact cells_snoc9 _ _ _ (by rw [hX, hk]))
      have hsz2 := HB.out.size
      have HB2 := Lib.hid (HB.out.alloc hsz2 (.cells #[.int .u8 (X : Int)] 5))
      have HJ1 := Lib.hid hj1
      have HIJ := Lib.hid hij
      have HLT := Lib.hid hlt
      have j1s : j1 ≤ size := by omega
      have hj7 : j ≤ 7 := by omega
      have hk7 : k ≤ 7 := by omega
      have hk1 : (k : Int) - 1 = (size : Int) - 1 - (j1 : Int) := by omega
      have HK1 := Lib.hid hk1
      clear hq hs hqd hX hj1 hij hk hlt hk1
      go_wp2_with (at_builtin; refine wpList_append_lies _ rfl _ _ 83 rfl w.heap.size 5 i0 (.int .u8 0) 1 1 Try.underlying83 hinf hz0 hz1 hz2 rfl (by omega) _ j (cellsOf ((beL size n).take j)) rfl (HO.out.alloc _) ⟨wr.heap.size, 0, none⟩ 1 1 [.int .u8 (X : Int)] rfl rfl ?c1 ?c2 (by omega) ?c3 ?c4 ?c5 _ rfl ?_)
      case c1 => exact World.news_of_block (cs := #[.int .u8 (X : Int)]) (t := 5) (fr := (0, 0)) (heap_alloc_new wr _)
      case c2 => simp [Value.oneCell']
      case c3 => unfold maxLen; omega
      case c4 => omega
      case c5 => simp; omega
      intro g2 cap2 w3 hown3 hgrow hat hlt2
      have hB3 := HB2.out.grown hgrow (by simp; omega) (fun j hj => (HO.out.lt j hj).1)
      rw [HSN.out] at hown3
      have HB3 := Lib.hid hB3
      have HO3 := Lib.hid (show w3.ownsRow w.heap.size 5 1 (.slice (some ⟨g2, 0, none⟩) j1 cap2) j1 (cellsOf ((beL size n).take j1)) by rw [HJ1.out] at hown3 ⊢; exact hown3)
      clear hB3 hown3 hgrow hat hlt2 HB HO HB2
      go_wp2_with fail
      go_roundw
      case rel => exact ⟨j1, cap2, _, some ⟨g2, 0, none⟩, by rw [HJ1.out], rfl, HK1.out, j1s, HB3, HO3⟩
      case measure => have := HJ1.out; simp [intOf]
    · have hi1 : i = -1 := by omega
      subst hi1
      obtain rfl : j = size := by omega
      have hl := beL_len j n
      have hto : (beL j n).take j = beL j n := List.take_of_length_le (by rw [hl]; exact Nat.le_refl _)
      rw [hto] at HO
      have hbs := bs_of_own (l := beL j n) (by rw [hl]; exact HO.out)
      have hcv := bs_string hbs
      rw [hl] at hcv
      clear hbs hl HO hj1 hij hto hlt
      go_wp2_with fail
      go_ret
      exact ⟨rfl, HB.out⟩
theorem rextension12_any (k : Int) (w : World) : Calls Try.prog 29 #[.int .i64 k] w fun e w' => e = .returned (.bool (decide (extK k))) ∧ w = w' := by
  by_cases h0 : k = 0
  · subst h0
    rw [show decide (extK 0) = true by decide]
    go_enter Try.func29, Try.ntmps29
    go_wp2_with fail
    go_ret
    exact ⟨rfl, rfl⟩
  have d0 : (k == 0) = false := by simpa using h0
  by_cases h43 : k = 43
  · subst h43
    rw [show decide (extK 43) = true by decide]
    go_enter Try.func29, Try.ntmps29
    go_wp2_with fail
    go_ret
    exact ⟨rfl, rfl⟩
  have d43 : (k == 43) = false := by simpa using h43
  by_cases h60 : k = 60
  · subst h60
    rw [show decide (extK 60) = true by decide]
    go_enter Try.func29, Try.ntmps29
    go_wp2_with fail
    go_ret
    exact ⟨rfl, rfl⟩
  have d60 : (k == 60) = false := by simpa using h60
  rw [show decide (extK k) = false by rw [decide_eq_false_iff_not]; unfold extK; omega]
  go_enter Try.func29, Try.ntmps29
  go_wp2_with fail
  go_ret
  exact ⟨rfl, rfl⟩
end Go.Proofs.Ytjjldolafnfpoaa

/- A packet as the laws of layer 12 take it. -/
namespace Go.Proofs.Ytjjldolafnfpoaa
open Go.ChangeShapes Go.WideShapes Go.ChangeAt Go.RowKit
set_option linter.unusedVariables false

theorem cellsIp12 : Try.prog.cellsOf 28 = 16 := by kernel_rfl
theorem cellsInt12 : Try.prog.cellsOf 3 = 1 := by kernel_rfl
theorem cellsBool12 : Try.prog.cellsOf 4 = 1 := by kernel_rfl
theorem cellsU6412 : Try.prog.cellsOf 23 = 1 := by kernel_rfl
theorem cellsStr12 : Try.prog.cellsOf 9 = 1 := by kernel_rfl
theorem cellsAd12 : Try.prog.cellsOf 25 = 3 := by kernel_rfl
theorem cellsOpt12 : Try.prog.cellsOf 59 = 2 := by kernel_rfl
theorem cellsOps12 : Try.prog.cellsOf 26 = 1 := by kernel_rfl
theorem offsA12 : ∃ f0 f1 f2, Try.prog.underlying 25 = some (.struct #[f0, f1, f2]) ∧ f0.type = 4 ∧ f0.offset = 0 ∧ f1.type = 23 ∧ f1.offset = 1 ∧ f2.type = 23 ∧ f2.offset = 2 := ⟨_, _, _, Try.underlying25, rfl, rfl, rfl, rfl, rfl, rfl⟩
theorem offsO12 : ∃ f0 f1, Try.prog.underlying 59 = some (.struct #[f0, f1]) ∧ f0.type = 3 ∧ f0.offset = 0 ∧ f1.type = 9 ∧ f1.offset = 1 := ⟨_, _, Try.underlying59, rfl, rfl, rfl, rfl⟩
theorem nat_of_wf12 {x : Int} (h : (Lit.int .u64 x).wf = true) : ∃ n : Nat, x = n ∧ n < 18446744073709551616 := by
  have h' : IntKind.u64.min ≤ x ∧ x ≤ IntKind.u64.max := by simpa [Lit.wf] using h
  have h0 : (0 : Int) ≤ x := h'.1
  have h1 : x ≤ 18446744073709551615 := h'.2
  obtain ⟨k, rfl⟩ := Int.eq_ofNat_of_zero_le h0
  exact ⟨k, rfl, by omega⟩
theorem toList_length12 (s : ByteArray) : s.data.toList.length = s.size := by show s.data.toList.length = s.data.size; simp only [Array.length_toList]
theorem arr16 {cs : Array Value} (h : cs.size = 16) : ∃ c0 c1 c2 c3 c4 c5 c6 c7 c8 c9 c10 c11 c12 c13 c14 c15, cs = #[c0, c1, c2, c3, c4, c5, c6, c7, c8, c9, c10, c11, c12, c13, c14, c15] := by
  obtain ⟨l⟩ := cs
  match l, h with
  | [c0, c1, c2, c3, c4, c5, c6, c7, c8, c9, c10, c11, c12, c13, c14, c15], _ => exact ⟨c0, c1, c2, c3, c4, c5, c6, c7, c8, c9, c10, c11, c12, c13, c14, c15, rfl⟩
instance : Inhabited OpR := ⟨⟨0, []⟩⟩
variable {H : Type} {enc : TypeId × Value → H}
def adrFits (a : AdR) : Prop := a.hi < 18446744073709551616 ∧ a.lo < 18446744073709551616
def optWf (y : OpR) : Prop := (Lit.int .i64 y.kd).wf = true ∧ y.dat.length ≤ 281474976710656
theorem open_ad12 {w : World} {base : Nat} {sp : Nat → Bool} {held : Bool} {fuel : Nat} {v0 v1 v2 : Value} {x : DataW H × List MemPlace} (h : DataW.trod enc Try.prog w base sp held fuel 25 [v0, v1, v2] = some x) : ∃ a : AdR, adrFits a ∧ v0 = .bool a.v6 ∧ v1 = .int .u64 (a.hi : Int) ∧ v2 = .int .u64 (a.lo : Int) := by
  obtain ⟨g0, g1, g2, hsA, u0, q0, u1, q1, u2, q2⟩ := offsA12
  obtain ⟨z0, z1, z2, m, hy, _, k0, k1, k2⟩ := Go.Deep.trod_struct3 hsA h
  rw [u0, q0, cellsBool12] at k0
  rw [u1, q1, cellsU6412] at k1
  rw [u2, q2, cellsU6412] at k2
  obtain ⟨b, e0, _⟩ := DataW.trod_bool Try.underlying4 k0
  obtain ⟨x, e1, _, wx⟩ := DataW.trod_int Try.underlying23 k1
  obtain ⟨z, e2, _, wz⟩ := DataW.trod_int Try.underlying23 k2
  simp at e0 e1 e2
  obtain ⟨X, rfl, hX⟩ := nat_of_wf12 wx
  obtain ⟨Z, rfl, hZ⟩ := nat_of_wf12 wz
  exact ⟨⟨b, X, Z⟩, ⟨hX, hZ⟩, e0, e1, e2⟩
/-- A slice that is a field of what comes in, where what comes in holds a bounded number of bytes. -/
theorem weightsAll_mem {P : Program} {e : TypeId} {n : Nat} : ∀ {ds : List (DataW H)} {d : DataW H}, d ∈ ds → n ∈ d.weights P e → n ∈ DataW.weightsAll P e ds
  | d0 :: r, d, hd, hn => by
    simp only [DataW.weightsAll, List.mem_append]
    rcases List.mem_cons.1 hd with rfl | hd
    · exact Or.inl hn
    · exact Or.inr (weightsAll_mem hd hn)
theorem in_rowS {α : Type} [Inhabited α] {E : Enc α} {P : α → Prop} {t e : TypeId} (ht : Try.prog.underlying t = some (.slice e)) (hk : Try.prog.cellsOf e = E.k)
    {W : World} {base : Nat} {sp : Nat → Bool} {held : Bool} (each : ∀ fuel (cs : List Value) (x : DataW H × List MemPlace), cs.length = E.k → DataW.trod enc Try.prog W base sp held fuel e cs = some x → (∀ k ∈ x.1.weights Try.prog e, k ≤ reachBytes) → ∃ q : α, P q ∧ cs = E.c q)
    {fuel : Nat} {cs : List Value} {x : DataW H × List MemPlace} (h : DataW.trod enc Try.prog W base sp held fuel t cs = some x) (hz : ∀ k ∈ x.1.weights Try.prog t, k ≤ reachBytes) : ∃ (A : Option Addr) (cap : Nat) (l : List α), cs = [.slice A l.length cap] ∧ RowL E W A l ∧ (A = none → cap = 0) ∧ l.length ≤ maxLen ∧ ∀ r ∈ l, P r := by
  rcases Go.Deep.open_slice ht h with ⟨hcs, _⟩ | ⟨a, n, cap, m, k, D, Pl, rfl, _, hl, hm, hmm, hxx, hx⟩
  · exact ⟨none, 0, [], hcs, RowL.nil _ _, fun _ => rfl, by simp [maxLen], by simp⟩
  · have hlm : n ≤ m := by rw [hmm]; split <;> omega
    have every : ∀ i, i < n → ∃ q : α, P q ∧ ∀ j v, (E.c q)[j]? = some v → W.cell? (a.add (i * E.k + j)) = some v := by
      intro i hi
      obtain ⟨cs', h1, h2⟩ := hx i (by omega)
      rw [hk] at h1
      obtain ⟨_, hlen, hcell⟩ := World.cells?_some h1
      obtain ⟨q, hq, rfl⟩ := each _ cs' _ hlen h2 (fun y hy => hz y (by
        rw [hxx]
        simp only [DataW.weights, ht]
        exact List.mem_cons_of_mem _ (List.mem_append_left _ (weightsAll_mem (List.mem_map.2 ⟨i, List.mem_range.2 hi, rfl⟩) hy))))
      refine ⟨q, hq, fun j v hv => ?_⟩
      have hj : j < E.k := by rw [← E.len q]; exact (List.getElem?_eq_some_iff.1 hv).1
      have := hcell j hj
      rw [addr_twice] at this
      rw [this]
      exact hv
    obtain ⟨q, hq⟩ := choose_some every
    refine ⟨some a, cap, (List.range n).map q, by simp, fun hp => ?_, (fun e => by simp at e), by simp; omega, fun r hr => ?_⟩
    · simp only [List.length_map, List.length_range] at hp
      obtain ⟨b, off, spot⟩ := a
      have hpos := E.pos
      obtain ⟨u, hu⟩ : ∃ u, (E.c (q 0))[0]? = some u := ⟨_, List.getElem?_eq_getElem (by rw [E.len]; exact hpos)⟩
      have h0 := (hq 0 hp).2 0 u hu
      have hspot : spot = none := by simpa [Addr.add] using World.cell?_spot h0
      subst hspot
      have hlt := World.block_lt_of_cell? W _ h0
      refine ⟨b, off, rfl, by simpa [Addr.add] using hlt, fun i x hx j v hv => ?_⟩
      rw [List.getElem?_map] at hx
      by_cases hi : i < n
      · rw [List.getElem?_range hi] at hx
        simp only [Option.map_some, Option.some.injEq] at hx
        subst hx
        have := (hq i hi).2 j v hv
        rw [addr_add7] at this
        rw [Nat.add_assoc]
        exact this
      · rw [List.getElem?_eq_none (by simpa using hi)] at hx
        simp at hx
    · obtain ⟨i, hi, rfl⟩ := List.mem_map.1 hr
      exact (hq i (List.mem_range.1 hi)).1
theorem weights_str {P : Program} {t : TypeId} (s : List UInt8) : s.length ∈ (DataW.lit (.string s) : DataW H).weights P t := by simp [DataW.weights]
theorem open_opt12 {w : World} {base : Nat} {sp : Nat → Bool} {held : Bool} (fuel : Nat) (cs : List Value) (x : DataW H × List MemPlace) (hl : cs.length = 2) (h : DataW.trod enc Try.prog w base sp held fuel 59 cs = some x) (hz : ∀ k ∈ x.1.weights Try.prog 59, k ≤ reachBytes) : ∃ y : OpR, optWf y ∧ cs = EOpt.c y := by
  obtain ⟨f0, f1, hs, t0, o0, t1, o1⟩ := offsO12
  obtain ⟨y0, y1, m, hxx, _, h0, h1⟩ := trod_struct2 hs h
  rw [t0, o0, cellsInt12] at h0
  rw [t1, o1, cellsStr12] at h1
  match cs, hl with
  | [v0, v1], _ =>
    obtain ⟨k, e0, _, wk⟩ := DataW.trod_int Try.underlying3 h0
    obtain ⟨s, e1, hy1, hs1⟩ := DataW.trod_string Try.underlying9 h1
    have hr : s.data.toList.length ≤ reachBytes := hz _ (by
      rw [hxx]
      simp only [DataW.weights, hs]
      refine DataW.weights_mem_each (j := 1) (t := f1.type) (d := y1.1) rfl rfl _ ?_
      rw [hy1]
      exact weights_str _)
    simp at e0 e1
    subst e0 e1
    refine ⟨⟨k, s.data.toList⟩, ⟨wk, Nat.le_trans hr (by decide)⟩, ?_⟩
    show _ = [_, _]
    simp only [str_of]
/-- What a packet that comes in is known to be. -/
def ip6Wf (x : Ip6R) : Prop := ((Lit.int .i64 x.cls).wf = true ∧ (Lit.int .i64 x.lab).wf = true ∧ (Lit.int .i64 x.hops).wf = true ∧ (Lit.int .i64 x.nxt).wf = true ∧ (Lit.int .i64 x.id).wf = true ∧ (Lit.int .i64 x.off).wf = true) ∧ adrFits x.src ∧ adrFits x.dst ∧ x.pay.length ≤ maxLen ∧ x.exts.length ≤ maxLen ∧ ∀ y ∈ x.exts, optWf y
theorem in_ip6 {r : Reach} {w : World} {base b0 : Nat} {spare : Nat → Bool} {held : Bool} {v : Value} {d : DataW H} {p : List MemPlace} (hv : Value.okWide Try.prog w r b0 28 v) (h : DataW.Trod enc Try.prog w base spare held 28 v d p) (hz : ∀ k ∈ d.weights Try.prog 28, k ≤ reachBytes) :
    ∃ (x : Ip6R) (A : Option Addr) (c : Nat), ip6Wf x ∧ v = .agg (ip6C x x.exts.length A c (str x.pay)) ∧ RowL EOpt w A x.exts ∧ (A = none → c = 0) := by
  have hs := Try.underlying28
  obtain ⟨cs, rfl, hsz⟩ := okWide_struct hs hv
  obtain ⟨c0, c1, c2, c3, c4, c5, c6, c7, c8, c9, c10, c11, c12, c13, c14, c15, rfl⟩ := arr16 (hsz.trans cellsIp12)
  obtain ⟨fuel, hf⟩ := h
  obtain ⟨xs, k', _, hxy, _, hxl, hfs⟩ := DataW.trod_struct hs hf
  match xs, hxl with
  | [y0, y1, y2, y3, y4, y5, y6, y7, y8, y9, y10, y11], _ =>
    have g0 := hfs 0 _ rfl
    have g1 := hfs 1 _ rfl
    have g2 := hfs 2 _ rfl
    have g3 := hfs 3 _ rfl
    have g4 := hfs 4 _ rfl
    have g5 := hfs 5 _ rfl
    have g6 := hfs 6 _ rfl
    have g7 := hfs 7 _ rfl
    have g8 := hfs 8 _ rfl
    have g9 := hfs 9 _ rfl
    have g10 := hfs 10 _ rfl
    have g11 := hfs 11 _ rfl
    simp [cellsInt12, cellsBool12, cellsStr12, cellsAd12, cellsOps12, Value.cells] at g0 g1 g2 g3 g4 g5 g6 g7 g8 g9 g10 g11
    obtain ⟨a0, e0, _, w0⟩ := DataW.trod_int Try.underlying3 g0
    obtain ⟨a1, e1, _, w1⟩ := DataW.trod_int Try.underlying3 g1
    obtain ⟨a2, e2, _, w2⟩ := DataW.trod_int Try.underlying3 g2
    obtain ⟨a3, e3, _, w3⟩ := DataW.trod_int Try.underlying3 g3
    obtain ⟨s, hsf, rfl, rfl, rfl⟩ := open_ad12 g4
    obtain ⟨t, htf, rfl, rfl, rfl⟩ := open_ad12 g5
    obtain ⟨A, cap, l, e6, hr, hn, hl, hw⟩ := in_rowS (E := EOpt) (P := optWf) Try.underlying26 cellsOpt12 (fun fuel cs x hl h => open_opt12 fuel cs x hl h) g6 (fun k hk => hz k (by
      rw [show d = .agg [y0.1, y1.1, y2.1, y3.1, y4.1, y5.1, y6.1, y7.1, y8.1, y9.1, y10.1, y11.1] from congrArg Prod.fst hxy]
      simp only [DataW.weights, hs]
      exact DataW.weights_mem_each (j := 6) (t := 26) (d := y6.1) rfl rfl _ hk))
    obtain ⟨a7, e7, _⟩ := DataW.trod_bool Try.underlying4 g7
    obtain ⟨a8, e8, _, w8⟩ := DataW.trod_int Try.underlying3 g8
    obtain ⟨a9, e9, _, w9⟩ := DataW.trod_int Try.underlying3 g9
    obtain ⟨a10, e10, _⟩ := DataW.trod_bool Try.underlying4 g10
    obtain ⟨q, e11, _, hq⟩ := DataW.trod_string Try.underlying9 g11
    simp at e0 e1 e2 e3 e6 e7 e8 e9 e10 e11
    subst e0 e1 e2 e3 e6 e7 e8 e9 e10 e11
    refine ⟨⟨a0, a1, a2, a3, s, t, l, a7, a8, a9, a10, q.data.toList⟩, A, cap, ⟨⟨w0, w1, w2, w3, w8, w9⟩, hsf, htf, by simp only [toList_length12]; exact hq, hl, hw⟩, ?_, hr, hn⟩
    simp only [str_of]
    rfl
end Go.Proofs.Ytjjldolafnfpoaa
