/- Contracts of the functions, part 22: UdpPs, In13. -/
import Derived.SizedLaws
import Derived.Test.YtnpklepafpdadaaDoorPA5
import Derived.Test.YtnpklepafpdadaaDoorPA7
import Derived.Test.YtnpklepafpdadaaDoorPA9
import Derived.Test.YtnpklepafpdadaaDoorPA10
import Derived.Test.YtnpklepafpdadaaDoorPA20
import Derived.Test.YtnpklepafpdadaaDoorPA21
/- Pseudo headers and checksums of UDP: the reference's and the program's, as bytes. -/
namespace Go.Proofs.YtnpklepafpdadaaDoor
open Go.ChangeShapes Go.WideShapes Go.ChangeAt Go.RowKit
set_option linter.unusedVariables false

def fits13 (a : AdR) : Prop := a.hi < 18446744073709551616 ∧ a.lo < 18446744073709551616
theorem vadr_fine (a : AdR) : vadr a.v6 a.hi a.lo = true ↔ fineU a := by
  unfold vadr fineU
  rw [Bool.or_eq_true, Bool.and_eq_true, beq_iff_eq, decide_eq_true_iff]
theorem vldA_fine (a : AdR) : vldA a.v6 a.hi a.lo = decide (fineU a) := by
  have h : vldA a.v6 a.hi a.lo = true ↔ fineU a := by
    unfold vldA fineU
    rw [Bool.or_eq_true, Bool.and_eq_true, beq_iff_eq, decide_eq_true_iff]
  by_cases hf : fineU a
  · rw [decide_eq_true hf, h.2 hf]
  · rw [decide_eq_false hf, ← Bool.not_eq_true]
    exact fun e => hf (h.1 e)
theorem psU_size (a b : AdR) (pr z : Nat) : (psU a b pr z).length ≤ 40 := by
  unfold psU adU
  split <;> split <;> simp [beL_len]
theorem rpseudoU (a b : AdR) (z : Nat) (hf : fitU a b) (ha : fits13 a) (hb : fits13 b) (hz : z ≤ 65535) (w : World) :
    Calls Tryd.prog 28 #[.agg #[.bool a.v6, .int .u64 (a.hi : Int), .int .u64 (a.lo : Int)], .agg #[.bool b.v6, .int .u64 (b.hi : Int), .int .u64 (b.lo : Int)], .int .i64 17, .int .i64 (z : Int)] w fun e w' => e = .returned (.string (str (psU a b 17 z))) ∧ Below w.heap.size w w' := by
  obtain ⟨h1, h2, h3⟩ := hf
  have v1 := (vadr_fine a).2 h1
  have v2 := (vadr_fine b).2 h2
  obtain ⟨v, ah, al⟩ := a
  obtain ⟨bv, bh, bl⟩ := b
  dsimp only at h3 v1 v2 ⊢
  subst h3
  have hps : psU ⟨v, ah, al⟩ ⟨v, bh, bl⟩ 17 z = adr v ah al ++ adr v bh bl ++ (if v then beL 4 z ++ beL 4 17 else beL 2 17 ++ beL 2 z) := rfl
  rw [hps]
  obtain ⟨k, hk⟩ : ∃ k : Nat, k = if v then 4 else 2 := ⟨_, rfl⟩
  have hk4 : k ≤ 4 := by rw [hk]; split <;> omega
  refine (rpseudo_good v ah al bh bl 17 (z : Int) k _ _ (str (leL k 17).reverse) (str (leL k z).reverse) w hk v1 v2 (fun W => raddr_any v ah al W ha.1 ha.2 v1) (fun W => raddr_any v bh bl W hb.1 hb.2 v2) (adr_le ..) (adr_le ..) (by decide) (by decide) (by simp) (fun W => ?_) (fun W => ?_) (by rw [be_size]; omega) (by rw [be_size]; omega) ?_).mono ?_
  · exact rnum_any 17 k W (by omega) (by omega)
  · exact rnum_any z k W (by omega) (by omega)
  · cases v <;> simp <;> omega
  · rintro e w' ⟨rfl, hw⟩
    refine ⟨?_, hw⟩
    subst hk
    cases v
    · simp only [Bool.false_eq_true, if_false, str_append, List.append_assoc]
      rfl
    · simp only [if_true, str_append, List.append_assoc]
      rfl
theorem ppseudoU (a b : AdR) (z : Nat) (hf : fitU a b) (ha : fits13 a) (hb : fits13 b) (hz : z ≤ 65535) (w : World) (hsh : Sh w) :
    Calls Tryd.prog 21 #[.agg #[.bool a.v6, .int .u64 (a.hi : Int), .int .u64 (a.lo : Int)], .agg #[.bool b.v6, .int .u64 (b.hi : Int), .int .u64 (b.lo : Int)], .int .i64 17, .int .i64 (z : Int)] w fun e w' => e = .returned (.string (str (psU a b 17 z))) ∧ Below w.heap.size w w' := by
  obtain ⟨h1, h2, h3⟩ := hf
  have v1 := (vadr_fine a).2 h1
  have v2 := (vadr_fine b).2 h2
  obtain ⟨v, ah, al⟩ := a
  obtain ⟨bv, bh, bl⟩ := b
  dsimp only at h3 v1 v2 ⊢
  subst h3
  have hps : psU ⟨v, ah, al⟩ ⟨v, bh, bl⟩ 17 z = adr v ah al ++ adr v bh bl ++ (if v then beL 4 z ++ beL 4 17 else beL 2 17 ++ beL 2 z) := rfl
  rw [hps]
  obtain ⟨k, hk⟩ : ∃ k : Nat, k = if v then 4 else 2 := ⟨_, rfl⟩
  have hk4 : 2 ≤ k ∧ k ≤ 4 := by rw [hk]; split <;> omega
  have hp2 : z < 256 ^ k := by
    have : 256 ^ 2 ≤ 256 ^ k := Nat.pow_le_pow_right (by decide) hk4.1
    omega
  refine (pseudo_good v ah al bh bl 17 (z : Int) k (str (beL 1 17)) (str (beL k z)) _ _ w hsh hk v1 v2 (fun W => pputB_any 1 17 17 1 rfl rfl (by decide) (by decide) (by decide) (by decide) W) (fun W => pputB_any k z (z : Int) (k : Int) rfl rfl (by omega) (by omega) hp2 (by omega) W)
    (fun W hW => addrb_any v ah al W ha.1 ha.2 hW) (fun W hW => addrb_any v bh bl W hb.1 hb.2 hW) (by rw [str_isEmpty]; decide) ?_ (by rw [str_size, beL_len]; omega) (by rw [str_size, beL_len]; omega) (adr_le ..) (adr_le ..)).mono ?_
  · rw [str_isEmpty]
    cases hq : beL k z with
    | nil => have := beL_len k z; rw [hq] at this; simp at this; omega
    | cons x r => rfl
  · rintro e w' ⟨rfl, hw⟩
    refine ⟨?_, hw⟩
    subst hk
    have e4 : beL 4 17 = [0, 0, 0] ++ beL 1 17 := by decide
    have e2 : beL 2 17 = [0] ++ beL 1 17 := by decide
    cases v
    · simp only [Bool.false_eq_true, if_false]
      show Ending.returned (.string (str (adr false ah al ++ adr false bh bl) ++ str [0] ++ str (beL 1 17) ++ str (beL 2 z))) = _
      simp only [str_append, List.append_assoc, e2]
    · simp only [if_true]
      show Ending.returned (.string (str (adr true ah al ++ adr true bh bl) ++ str (beL 4 z) ++ str [0, 0, 0] ++ str (beL 1 17))) = _
      simp only [str_append, List.append_assoc, e4]
end Go.Proofs.YtnpklepafpdadaaDoor

/- Two addresses, a datagram, as the laws of layer 13 take them. -/
namespace Go.Proofs.YtnpklepafpdadaaDoor
open Go.ChangeShapes Go.WideShapes Go.ChangeAt Go.RowKit
set_option linter.unusedVariables false

theorem cellsPair13 : Tryd.prog.cellsOf 26 = 6 := by kernel_rfl
theorem cellsUdp13 : Tryd.prog.cellsOf 29 = 3 := by kernel_rfl
theorem cellsInt13 : Tryd.prog.cellsOf 3 = 1 := by kernel_rfl
theorem cellsBool13 : Tryd.prog.cellsOf 4 = 1 := by kernel_rfl
theorem cellsU6413 : Tryd.prog.cellsOf 22 = 1 := by kernel_rfl
theorem cellsStr13 : Tryd.prog.cellsOf 9 = 1 := by kernel_rfl
theorem cellsAd13 : Tryd.prog.cellsOf 24 = 3 := by kernel_rfl
theorem offsA13 : ∃ f0 f1 f2, Tryd.prog.underlying 24 = some (.struct #[f0, f1, f2]) ∧ f0.type = 4 ∧ f0.offset = 0 ∧ f1.type = 22 ∧ f1.offset = 1 ∧ f2.type = 22 ∧ f2.offset = 2 := ⟨_, _, _, Tryd.underlying24, rfl, rfl, rfl, rfl, rfl, rfl⟩
theorem nat_of_wf13 {x : Int} (h : (Lit.int .u64 x).wf = true) : ∃ n : Nat, x = n ∧ n < 18446744073709551616 := by
  have h' : IntKind.u64.min ≤ x ∧ x ≤ IntKind.u64.max := by simpa [Lit.wf] using h
  have h0 : (0 : Int) ≤ x := h'.1
  have h1 : x ≤ 18446744073709551615 := h'.2
  obtain ⟨k, rfl⟩ := Int.eq_ofNat_of_zero_le h0
  exact ⟨k, rfl, by omega⟩
theorem toList_length13 (s : ByteArray) : s.data.toList.length = s.size := by show s.data.toList.length = s.data.size; simp only [Array.length_toList]
theorem arr6_13 {cs : Array Value} (h : cs.size = 6) : ∃ c0 c1 c2 c3 c4 c5, cs = #[c0, c1, c2, c3, c4, c5] := by
  obtain ⟨l⟩ := cs
  match l, h with
  | [c0, c1, c2, c3, c4, c5], _ => exact ⟨c0, c1, c2, c3, c4, c5, rfl⟩
theorem arr3_13 {cs : Array Value} (h : cs.size = 3) : ∃ c0 c1 c2, cs = #[c0, c1, c2] := by
  obtain ⟨l⟩ := cs
  match l, h with
  | [c0, c1, c2], _ => exact ⟨c0, c1, c2, rfl⟩
variable {H : Type} {enc : TypeId × Value → H}
theorem open_ad13 {w : World} {base : Nat} {sp : Nat → Bool} {held : Bool} {fuel : Nat} {v0 v1 v2 : Value} {x : DataW H × List MemPlace} (h : DataW.trod enc Tryd.prog w base sp held fuel 24 [v0, v1, v2] = some x) : ∃ a : AdR, fits13 a ∧ v0 = .bool a.v6 ∧ v1 = .int .u64 (a.hi : Int) ∧ v2 = .int .u64 (a.lo : Int) := by
  obtain ⟨g0, g1, g2, hsA, u0, q0, u1, q1, u2, q2⟩ := offsA13
  obtain ⟨z0, z1, z2, m, hy, _, k0, k1, k2⟩ := Go.Deep.trod_struct3 hsA h
  rw [u0, q0, cellsBool13] at k0
  rw [u1, q1, cellsU6413] at k1
  rw [u2, q2, cellsU6413] at k2
  obtain ⟨b, e0, _⟩ := DataW.trod_bool Tryd.underlying4 k0
  obtain ⟨x, e1, _, wx⟩ := DataW.trod_int Tryd.underlying22 k1
  obtain ⟨z, e2, _, wz⟩ := DataW.trod_int Tryd.underlying22 k2
  simp at e0 e1 e2
  obtain ⟨X, rfl, hX⟩ := nat_of_wf13 wx
  obtain ⟨Z, rfl, hZ⟩ := nat_of_wf13 wz
  exact ⟨⟨b, X, Z⟩, ⟨hX, hZ⟩, e0, e1, e2⟩
/-- The cells of a pair of addresses, of a datagram. -/
def pairC (a b : AdR) : Array Value := #[.bool a.v6, .int .u64 (a.hi : Int), .int .u64 (a.lo : Int), .bool b.v6, .int .u64 (b.hi : Int), .int .u64 (b.lo : Int)]
def udpC (u : UdpR) : Array Value := #[.int .i64 u.src, .int .i64 u.dst, .string (str u.pay)]
theorem in_pair13 {r : Reach} {w : World} {base b0 : Nat} {spare : Nat → Bool} {held : Bool} {v : Value} {d : DataW H} {p : List MemPlace} (hv : Value.okWide Tryd.prog w r b0 26 v) (h : DataW.Trod enc Tryd.prog w base spare held 26 v d p) :
    ∃ a b : AdR, fits13 a ∧ fits13 b ∧ v = .agg (pairC a b) := by
  have hs := Tryd.underlying26
  obtain ⟨cs, rfl, hsz⟩ := okWide_struct hs hv
  obtain ⟨c0, c1, c2, c3, c4, c5, rfl⟩ := arr6_13 (hsz.trans cellsPair13)
  obtain ⟨fuel, hf⟩ := h
  obtain ⟨xs, k', _, hxy, _, hxl, hfs⟩ := DataW.trod_struct hs hf
  match xs, hxl with
  | [y0, y1], _ =>
    have g0 := hfs 0 _ rfl
    have g1 := hfs 1 _ rfl
    simp [cellsAd13, Value.cells] at g0 g1
    obtain ⟨s, hsf, rfl, rfl, rfl⟩ := open_ad13 g0
    obtain ⟨t, htf, rfl, rfl, rfl⟩ := open_ad13 g1
    exact ⟨s, t, hsf, htf, rfl⟩
def udpWf (u : UdpR) : Prop := (Lit.int .i64 u.src).wf = true ∧ (Lit.int .i64 u.dst).wf = true ∧ u.pay.length ≤ maxLen
theorem in_udp13 {r : Reach} {w : World} {base b0 : Nat} {spare : Nat → Bool} {held : Bool} {v : Value} {d : DataW H} {p : List MemPlace} (hv : Value.okWide Tryd.prog w r b0 29 v) (h : DataW.Trod enc Tryd.prog w base spare held 29 v d p) :
    ∃ u : UdpR, udpWf u ∧ v = .agg (udpC u) := by
  have hs := Tryd.underlying29
  obtain ⟨cs, rfl, hsz⟩ := okWide_struct hs hv
  obtain ⟨c0, c1, c2, rfl⟩ := arr3_13 (hsz.trans cellsUdp13)
  obtain ⟨fuel, hf⟩ := h
  obtain ⟨xs, k', _, hxy, _, hxl, hfs⟩ := DataW.trod_struct hs hf
  match xs, hxl with
  | [y0, y1, y2], _ =>
    have g0 := hfs 0 _ rfl
    have g1 := hfs 1 _ rfl
    have g2 := hfs 2 _ rfl
    simp [cellsInt13, cellsStr13, Value.cells] at g0 g1 g2
    obtain ⟨a0, e0, _, w0⟩ := DataW.trod_int Tryd.underlying3 g0
    obtain ⟨a1, e1, _, w1⟩ := DataW.trod_int Tryd.underlying3 g1
    obtain ⟨q, e2, _, hq⟩ := DataW.trod_string Tryd.underlying9 g2
    simp at e0 e1 e2
    subst e0 e1 e2
    refine ⟨⟨a0, a1, q.data.toList⟩, ⟨w0, w1, by simp only [toList_length13]; exact hq⟩, ?_⟩
    unfold udpC
    simp only [str_of]
end Go.Proofs.YtnpklepafpdadaaDoor
