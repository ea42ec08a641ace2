/- Contracts of the functions, part 41: Ip6PStw. -/
import Derived.StillTailTactics
import Derived.Test.YtjjldolafnfpoaaPE7
import Derived.Test.YtjjldolafnfpoaaPE11
import Derived.Test.YtjjldolafnfpoaaPE13
import Derived.Test.YtjjldolafnfpoaaPE39
/- Contract of the program of layer 12: readStart. -/
namespace Go.Proofs.Ytjjldolafnfpoaa
open Go.ChangeShapes Go.WideShapes Go.ChangeAt Go.RowKit
set_option linter.unusedVariables false

theorem st6Ty : BoxTy 49 18 := ⟨⟨_, Try.underlying49⟩, by kernel_rfl⟩
theorem wpStill_load_row12 {P : Program} {ops : Array Oper} {rest : List Oper} {o : Oper} {a : Act} {w : World} {Q : Act → Prop} (hgd : o.guard = none) (ty : TypeId) (x : Operand) (ho : o.op = .load ty x)
    (g : Nat) (hx : a.eval x = .pointer (some ⟨g, 0, none⟩)) (t : TypeId) (cs : Array Value) (fr : Nat × Nat) (d : TypeDesc) (hg : w.heap[g]? = some (.cells cs t fr))
    (hu : P.underlying ty = some d) (hd : (match d with | .struct _ | .array _ _ => true | _ => false) = true) (hi : (P.info? ty).map (·.size) = some cs.size)
    (h : wpStill P ops w Q rest (a.put o.dst (.agg cs))) : wpStill P ops w Q (o :: rest) a := by
  refine wpStill_step (fun K hK => ?_)
  have hw : Region.wanted o (yielded ops a.tmps) = true := by unfold Region.wanted; rw [hgd]
  rw [if_pos hw]
  unfold Oper.still execOp
  simp only [ho, hx, Instr.loadAt, Instr.sureAddr, Sem.run_bind, Sem.run_pure, Result.andThen_ok, run_loadVar_row w g t ty cs fr d hg hu hd hi]
  rw [Oper.stillUpon_value]
  exact hK _ h
theorem take_min40 (S : List UInt8) : S.take (min S.length 40) = S.take 40 := by
  by_cases h : S.length ≤ 40
  · rw [Nat.min_eq_left h, List.take_of_length_le (Nat.le_refl _), List.take_of_length_le h]
  · rw [Nat.min_eq_right (by omega)]
/-- What readStart returns. -/
def StartC6 (fi sz X H h1 l1 h2 l2 : Nat) (b1 b2 : Bool) : Array Value :=
  #[.int .i64 ((fi / 268435456 : Nat) : Int), .int .i64 (sz : Int), .int .i64 ((fi / 1048576 % 256 : Nat) : Int), .int .i64 ((fi % 1048576 : Nat) : Int), .int .i64 (H : Int), .int .i64 (X : Int), .bool b1, .int .u64 (h1 : Int), .int .u64 (l1 : Int), .bool b2, .int .u64 (h2 : Int), .int .u64 (l2 : Int), .slice none 0 0, .bool false, .int .i64 0, .int .i64 0, .bool false, .string ⟨#[]⟩]
def StartP6 (S : List UInt8) (w : World) (e : Ending) (w' : World) : Prop :=
  ∃ (fi sz X H h1 l1 h2 l2 er : Nat) (b1 b2 : Bool), e = .returned (.tuple #[.agg (StartC6 fi sz X H h1 l1 h2 l2 b1 b2), .int .i64 (er : Int)]) ∧ Hid (fi < 4294967296 ∧ sz < 65536 ∧ X < 256 ∧ H < 256 ∧ h1 < 18446744073709551616 ∧ l1 < 18446744073709551616 ∧ h2 < 18446744073709551616 ∧ l2 < 18446744073709551616) ∧
    Hid ((S.length < 40 ∧ er = 1) ∨ (40 ≤ S.length ∧ er = 0 ∧ fi = nm4 S 0 ∧ sz = nm2 S 4 ∧ X = byt S 6 ∧ H = byt S 7 ∧ b1 = true ∧ h1 = nm8 S 8 ∧ l1 = nm8 S 16 ∧ b2 = true ∧ h2 = nm8 S 24 ∧ l2 = nm8 S 32)) ∧ Below w.heap.size w w'
set_option maxHeartbeats 8000000 in
set_option maxRecDepth 20000 in
theorem pstart12_any (S : List UInt8) (w : World) (hs : S.length ≤ 1000000) :
    Calls Try.prog 25 #[.string (str S)] w (StartP6 S w) := by
  obtain ⟨s, hS⟩ : ∃ s, s = str S := ⟨_, rfl⟩
  have hsz : s.size = S.length := by rw [hS, str_size]
  have hs6 : s.size ≤ 1000000 := by omega
  obtain ⟨q, hq⟩ : ∃ q, q = min s.size 40 := ⟨_, rfl⟩
  have hmn : min (s.size : Int) 40 = (q : Int) := by omega
  have hqs : q ≤ s.size := by omega
  have hqsi : (q : Int) ≤ (s.size : Int) := by omega
  have HQX := Lib.hid (show s.extract 0 q = str (S.take 40) by rw [extract_str11 s S hS, List.drop_zero, hq, hsz, Nat.sub_zero, take_min40])
  have HNEW := Lib.hid (fun (D : ByteArray) (hD : D = str (S.take 40)) (W : World) => show Calls Try.prog 42 #[.string D] W fun e w' => ∃ p, e = .returned (.pointer (some ⟨p, 0, none⟩)) ∧ W.heap.size ≤ p ∧ Rd w' p (S.take 40) 0 ∧ Below W.heap.size W w' from by
    subst hD
    have := new_any (str (S.take 40)) W
    rwa [str_toList] at this)
  have HSL := Lib.hid (show (S.take 40).length ≤ 1000000 by rw [List.length_take]; omega)
  rw [← hS]
  obtain ⟨q1, hq1⟩ : ∃ q, rdI (S.take 40) 0 4 = q := ⟨_, rfl⟩
  have hlt1 := rdI_lt (S.take 40) 0 4
  rw [hq1] at hlt1
  obtain ⟨fi, l1, e1⟩ := q1
  simp only at hlt1
  obtain ⟨q2, hq2⟩ : ∃ q, rdI l1 e1 2 = q := ⟨_, rfl⟩
  have hlt2 := rdI_lt l1 e1 2
  rw [hq2] at hlt2
  obtain ⟨sz, l2, e2⟩ := q2
  simp only at hlt2
  obtain ⟨q3, hq3⟩ : ∃ q, rdI l2 e2 1 = q := ⟨_, rfl⟩
  have hlt3 := rdI_lt l2 e2 1
  rw [hq3] at hlt3
  obtain ⟨X, l3, e3⟩ := q3
  simp only at hlt3
  obtain ⟨q4, hq4⟩ : ∃ q, rdI l3 e3 1 = q := ⟨_, rfl⟩
  have hlt4 := rdI_lt l3 e3 1
  rw [hq4] at hlt4
  obtain ⟨H, l4, e4⟩ := q4
  simp only at hlt4
  obtain ⟨q5, hq5⟩ : ∃ q, rdT l4 e4 16 = q := ⟨_, rfl⟩
  have hpt5 := rdT_part l4 e4 16
  rw [hq5] at hpt5
  obtain ⟨T1, l5, e5⟩ := q5
  simp only at hpt5
  obtain ⟨q6, hq6⟩ : ∃ q, rdT l5 e5 16 = q := ⟨_, rfl⟩
  have hpt6 := rdT_part l5 e5 16
  rw [hq6] at hpt6
  obtain ⟨T2, l6, e6⟩ := q6
  simp only at hpt6
  have HFIN := Lib.hid (start_fin6 hq1 hq2 hq3 hq4 hq5 hq6)
  have HQ1 := Lib.hid hq1
  have HQ2 := Lib.hid hq2
  have HQ3 := Lib.hid hq3
  have HQ4 := Lib.hid hq4
  have HQ5 := Lib.hid hq5
  have HQ6 := Lib.hid hq6
  have b0 : fi < 4294967296 := by omega
  have b1' : sz < 65536 := by omega
  have b2' : X < 256 := by omega
  have b3 : H < 256 := by omega
  have HBD := Lib.hid (show fi < 4294967296 ∧ sz < 65536 ∧ X < 256 ∧ H < 256 from ⟨b0, b1', b2', b3⟩)
  have HA1 := Lib.hid (ad6_lt T1)
  have HA2 := Lib.hid (ad6_lt T2)
  have HF1 := Lib.hid (fun (W : World) => from16p_any T1 hpt5 W)
  have HF2 := Lib.hid (fun (W : World) => from16p_any T2 hpt6 W)
  obtain ⟨⟨b1, h1, l1', er1⟩, ha1⟩ : ∃ a, ad6 T1 = a := ⟨_, rfl⟩
  obtain ⟨⟨b2, h2, l2', er2⟩, ha2⟩ : ∃ a, ad6 T2 = a := ⟨_, rfl⟩
  rw [ha1] at HF1 HA1
  rw [ha2] at HF2 HA2
  have HAD := Lib.hid (And.intro ha1 ha2)
  obtain ⟨v0, hv0⟩ : ∃ v, v = fi / 268435456 := ⟨_, rfl⟩
  obtain ⟨v1, hv1⟩ : ∃ v, v = fi / 1048576 := ⟨_, rfl⟩
  obtain ⟨C, hC⟩ : ∃ v, v = fi / 1048576 % 256 := ⟨_, rfl⟩
  obtain ⟨L, hL⟩ : ∃ v, v = fi % 1048576 := ⟨_, rfl⟩
  have k0 : (fi : Int) / 268435456 = (v0 : Int) := by omega
  have k0' : (fi : Int) / 2 ^ 28 = (v0 : Int) := by omega
  have k1 : (fi : Int) / 1048576 = (v1 : Int) := by omega
  have k1' : (fi : Int) / 2 ^ 20 = (v1 : Int) := by omega
  have a1 : bits .and .i64 (v1 : Int) 255 = (C : Int) := by
    have := and_low v1 8 255 rfl (by omega) (by decide)
    rw [hC, ← hv1]
    exact this
  have a2 : bits .and .i64 (fi : Int) 1048575 = (L : Int) := by
    have := and_low fi 20 1048575 rfl (by omega) (by decide)
    rw [hL]
    exact this
  have v0l : v0 < 16 := by omega
  have v1l : v1 < 4096 := by omega
  have Cl : C < 256 := by omega
  have Ll : L < 1048576 := by omega
  have HVV := Lib.hid (show v0 = fi / 268435456 ∧ C = fi / 1048576 % 256 ∧ L = fi % 1048576 from ⟨hv0, hC, hL⟩)
  have HSZ := Lib.hid hsz
  clear hq hsz hs hS ha1 ha2 hv0 hv1 hC hL hpt5 hpt6
  clear hq1 hq2 hq3 hq4 hq5 hq6 hlt1 hlt2 hlt3 hlt4
  go_enter Try.func25, Try.ntmps25
  go_wp2_with fail
  refine (HNEW.out _ HQX.out _).mono ?_
  rintro e w1 ⟨p, rfl, hp, hrd, hbw⟩
  obtain ⟨W2, hW2⟩ : ∃ W, W = w1.alloc (.cells zS6 49) := ⟨_, rfl⟩
  obtain ⟨gx, hgx⟩ : ∃ g, g = w1.heap.size := ⟨_, rfl⟩
  obtain ⟨g0, hg0⟩ : ∃ g, g = w.heap.size := ⟨_, rfl⟩
  have H0 := Lib.hid (show SD6 w W2 g0 gx p zS6 (S.take 40) 0 by rw [hW2, hgx, hg0]; exact SD6.init hbw hp hrd HSL.out)
  unfold zS6 at hW2
  clear hp hrd hbw HNEW HSL
  go_wp2_with fail
  rw [← hW2, ← hgx, ← hg0]
  clear hW2 hgx hg0
  refine (H0.out.int 4 4 rfl (by decide) (by decide)).mono ?_
  rintro e U1 ⟨rfl, h⟩
  rw [HQ1.out] at h ⊢
  have C1 := Lib.hid (show SD6 w U1 g0 gx p #[.int .i64 0, .int .i64 0, .int .i64 0, .int .i64 0, .int .i64 0, .int .i64 0, .bool false, .int .u64 0, .int .u64 0, .bool false, .int .u64 0, .int .u64 0, .slice none 0 0, .bool false, .int .i64 0, .int .i64 0, .bool false, .string ⟨#[]⟩] l1 e1 from h)
  clear h H0 HQ1
  dsimp only
  have x0 := (Cells.cell C1.out.x 0).trans (show _ = some (Value.int .i64 0) from rfl)
  have z0 := Cells.frozen C1.out.x 0
  have x2 := (Cells.cell C1.out.x 2).trans (show _ = some (Value.int .i64 0) from rfl)
  have z2 := Cells.frozen C1.out.x 2
  have x3 := (Cells.cell C1.out.x 3).trans (show _ = some (Value.int .i64 0) from rfl)
  have z3 := Cells.frozen C1.out.x 3
  have hgl := C1.out.x.lt
  go_wp2_with fail
  have S2 := Lib.hid (show SD6 w (((U1.setCell ⟨gx, 0, none⟩ (.int .i64 (v0 : Int))).setCell ⟨gx, 2, none⟩ (.int .i64 (C : Int))).setCell ⟨gx, 3, none⟩ (.int .i64 (L : Int))) g0 gx p #[.int .i64 (v0 : Int), .int .i64 0, .int .i64 (C : Int), .int .i64 (L : Int), .int .i64 0, .int .i64 0, .bool false, .int .u64 0, .int .u64 0, .bool false, .int .u64 0, .int .u64 0, .slice none 0 0, .bool false, .int .i64 0, .int .i64 0, .bool false, .string ⟨#[]⟩] l1 e1 from (((C1.out.set 0 (.int .i64 (v0 : Int))).set 2 (.int .i64 (C : Int))).set 3 (.int .i64 (L : Int))))
  clear x0 z0 x2 z2 x3 z3 C1 hgl
  generalize (((U1.setCell ⟨gx, 0, none⟩ (.int .i64 (v0 : Int))).setCell ⟨gx, 2, none⟩ (.int .i64 (C : Int))).setCell ⟨gx, 3, none⟩ (.int .i64 (L : Int))) = V2 at *
  refine (S2.out.int 2 2 rfl (by decide) (by decide)).mono ?_
  rintro e U3 ⟨rfl, h⟩
  rw [HQ2.out] at h ⊢
  have C3 := Lib.hid (show SD6 w U3 g0 gx p #[.int .i64 (v0 : Int), .int .i64 0, .int .i64 (C : Int), .int .i64 (L : Int), .int .i64 0, .int .i64 0, .bool false, .int .u64 0, .int .u64 0, .bool false, .int .u64 0, .int .u64 0, .slice none 0 0, .bool false, .int .i64 0, .int .i64 0, .bool false, .string ⟨#[]⟩] l2 e2 from h)
  clear h S2 HQ2
  dsimp only
  have x1 := (Cells.cell C3.out.x 1).trans (show _ = some (Value.int .i64 0) from rfl)
  have z1 := Cells.frozen C3.out.x 1
  have hgl := C3.out.x.lt
  go_wp2_with fail
  have S4 := Lib.hid (show SD6 w (U3.setCell ⟨gx, 1, none⟩ (.int .i64 (sz : Int))) g0 gx p #[.int .i64 (v0 : Int), .int .i64 (sz : Int), .int .i64 (C : Int), .int .i64 (L : Int), .int .i64 0, .int .i64 0, .bool false, .int .u64 0, .int .u64 0, .bool false, .int .u64 0, .int .u64 0, .slice none 0 0, .bool false, .int .i64 0, .int .i64 0, .bool false, .string ⟨#[]⟩] l2 e2 from (C3.out.set 1 (.int .i64 (sz : Int))))
  clear x1 z1 C3 hgl
  generalize (U3.setCell ⟨gx, 1, none⟩ (.int .i64 (sz : Int))) = V4 at *
  refine (S4.out.int 1 1 rfl (by decide) (by decide)).mono ?_
  rintro e U5 ⟨rfl, h⟩
  rw [HQ3.out] at h ⊢
  have C5 := Lib.hid (show SD6 w U5 g0 gx p #[.int .i64 (v0 : Int), .int .i64 (sz : Int), .int .i64 (C : Int), .int .i64 (L : Int), .int .i64 0, .int .i64 0, .bool false, .int .u64 0, .int .u64 0, .bool false, .int .u64 0, .int .u64 0, .slice none 0 0, .bool false, .int .i64 0, .int .i64 0, .bool false, .string ⟨#[]⟩] l3 e3 from h)
  clear h S4 HQ3
  dsimp only
  have x5 := (Cells.cell C5.out.x 5).trans (show _ = some (Value.int .i64 0) from rfl)
  have z5 := Cells.frozen C5.out.x 5
  have hgl := C5.out.x.lt
  go_wp2_with fail
  have S6 := Lib.hid (show SD6 w (U5.setCell ⟨gx, 5, none⟩ (.int .i64 (X : Int))) g0 gx p #[.int .i64 (v0 : Int), .int .i64 (sz : Int), .int .i64 (C : Int), .int .i64 (L : Int), .int .i64 0, .int .i64 (X : Int), .bool false, .int .u64 0, .int .u64 0, .bool false, .int .u64 0, .int .u64 0, .slice none 0 0, .bool false, .int .i64 0, .int .i64 0, .bool false, .string ⟨#[]⟩] l3 e3 from (C5.out.set 5 (.int .i64 (X : Int))))
  clear x5 z5 C5 hgl
  generalize (U5.setCell ⟨gx, 5, none⟩ (.int .i64 (X : Int))) = V6 at *
  refine (S6.out.int 1 1 rfl (by decide) (by decide)).mono ?_
  rintro e U7 ⟨rfl, h⟩
  rw [HQ4.out] at h ⊢
  have C7 := Lib.hid (show SD6 w U7 g0 gx p #[.int .i64 (v0 : Int), .int .i64 (sz : Int), .int .i64 (C : Int), .int .i64 (L : Int), .int .i64 0, .int .i64 (X : Int), .bool false, .int .u64 0, .int .u64 0, .bool false, .int .u64 0, .int .u64 0, .slice none 0 0, .bool false, .int .i64 0, .int .i64 0, .bool false, .string ⟨#[]⟩] l4 e4 from h)
  clear h S6 HQ4
  dsimp only
  have x4 := (Cells.cell C7.out.x 4).trans (show _ = some (Value.int .i64 0) from rfl)
  have z4 := Cells.frozen C7.out.x 4
  have hgl := C7.out.x.lt
  go_wp2_with fail
  have S8 := Lib.hid (show SD6 w (U7.setCell ⟨gx, 4, none⟩ (.int .i64 (H : Int))) g0 gx p #[.int .i64 (v0 : Int), .int .i64 (sz : Int), .int .i64 (C : Int), .int .i64 (L : Int), .int .i64 (H : Int), .int .i64 (X : Int), .bool false, .int .u64 0, .int .u64 0, .bool false, .int .u64 0, .int .u64 0, .slice none 0 0, .bool false, .int .i64 0, .int .i64 0, .bool false, .string ⟨#[]⟩] l4 e4 from (C7.out.set 4 (.int .i64 (H : Int))))
  clear x4 z4 C7 hgl
  generalize (U7.setCell ⟨gx, 4, none⟩ (.int .i64 (H : Int))) = V8 at *
  refine (S8.out.take 16 16 rfl).mono ?_
  rintro e U9 ⟨rfl, h⟩
  rw [HQ5.out] at h ⊢
  have C9 := Lib.hid (show SD6 w U9 g0 gx p #[.int .i64 (v0 : Int), .int .i64 (sz : Int), .int .i64 (C : Int), .int .i64 (L : Int), .int .i64 (H : Int), .int .i64 (X : Int), .bool false, .int .u64 0, .int .u64 0, .bool false, .int .u64 0, .int .u64 0, .slice none 0 0, .bool false, .int .i64 0, .int .i64 0, .bool false, .string ⟨#[]⟩] l5 e5 from h)
  clear h S8 HQ5
  dsimp only
  go_wp2_with fail
  refine (HF1.out _).mono ?_
  rintro e U10 ⟨rfl, hb⟩
  have C10 := Lib.hid (C9.out.below hb)
  clear hb C9 HF1
  dsimp only
  have x6 := (Cells.cell C10.out.x 6).trans (show _ = some (Value.bool false) from rfl)
  have z6 := Cells.frozen C10.out.x 6
  have x7 := (Cells.cell C10.out.x 7).trans (show _ = some (Value.int .u64 0) from rfl)
  have z7 := Cells.frozen C10.out.x 7
  have x8 := (Cells.cell C10.out.x 8).trans (show _ = some (Value.int .u64 0) from rfl)
  have z8 := Cells.frozen C10.out.x 8
  have hgl := C10.out.x.lt
  go_wp2_with fail
  have S11 := Lib.hid (show SD6 w (((U10.setCell ⟨gx, 6, none⟩ (.bool b1)).setCell ⟨gx, 7, none⟩ (.int .u64 (h1 : Int))).setCell ⟨gx, 8, none⟩ (.int .u64 (l1' : Int))) g0 gx p #[.int .i64 (v0 : Int), .int .i64 (sz : Int), .int .i64 (C : Int), .int .i64 (L : Int), .int .i64 (H : Int), .int .i64 (X : Int), .bool b1, .int .u64 (h1 : Int), .int .u64 (l1' : Int), .bool false, .int .u64 0, .int .u64 0, .slice none 0 0, .bool false, .int .i64 0, .int .i64 0, .bool false, .string ⟨#[]⟩] l5 e5 from (((C10.out.set 6 (.bool b1)).set 7 (.int .u64 (h1 : Int))).set 8 (.int .u64 (l1' : Int))))
  clear x6 z6 x7 z7 x8 z8 C10 hgl
  generalize (((U10.setCell ⟨gx, 6, none⟩ (.bool b1)).setCell ⟨gx, 7, none⟩ (.int .u64 (h1 : Int))).setCell ⟨gx, 8, none⟩ (.int .u64 (l1' : Int))) = V11 at *
  refine (S11.out.take 16 16 rfl).mono ?_
  rintro e U12 ⟨rfl, h⟩
  rw [HQ6.out] at h ⊢
  have C12 := Lib.hid (show SD6 w U12 g0 gx p #[.int .i64 (v0 : Int), .int .i64 (sz : Int), .int .i64 (C : Int), .int .i64 (L : Int), .int .i64 (H : Int), .int .i64 (X : Int), .bool b1, .int .u64 (h1 : Int), .int .u64 (l1' : Int), .bool false, .int .u64 0, .int .u64 0, .slice none 0 0, .bool false, .int .i64 0, .int .i64 0, .bool false, .string ⟨#[]⟩] l6 e6 from h)
  clear h S11 HQ6
  dsimp only
  go_wp2_with fail
  refine (HF2.out _).mono ?_
  rintro e U13 ⟨rfl, hb⟩
  have C13 := Lib.hid (C12.out.below hb)
  clear hb C12 HF2
  dsimp only
  have x9 := (Cells.cell C13.out.x 9).trans (show _ = some (Value.bool false) from rfl)
  have z9 := Cells.frozen C13.out.x 9
  have x10 := (Cells.cell C13.out.x 10).trans (show _ = some (Value.int .u64 0) from rfl)
  have z10 := Cells.frozen C13.out.x 10
  have x11 := (Cells.cell C13.out.x 11).trans (show _ = some (Value.int .u64 0) from rfl)
  have z11 := Cells.frozen C13.out.x 11
  have hgl := C13.out.x.lt
  go_wp2_with fail
  have S14 := Lib.hid (show SD6 w (((U13.setCell ⟨gx, 9, none⟩ (.bool b2)).setCell ⟨gx, 10, none⟩ (.int .u64 (h2 : Int))).setCell ⟨gx, 11, none⟩ (.int .u64 (l2' : Int))) g0 gx p #[.int .i64 (v0 : Int), .int .i64 (sz : Int), .int .i64 (C : Int), .int .i64 (L : Int), .int .i64 (H : Int), .int .i64 (X : Int), .bool b1, .int .u64 (h1 : Int), .int .u64 (l1' : Int), .bool b2, .int .u64 (h2 : Int), .int .u64 (l2' : Int), .slice none 0 0, .bool false, .int .i64 0, .int .i64 0, .bool false, .string ⟨#[]⟩] l6 e6 from (((C13.out.set 9 (.bool b2)).set 10 (.int .u64 (h2 : Int))).set 11 (.int .u64 (l2' : Int))))
  clear x9 z9 x10 z10 x11 z11 C13 hgl
  generalize (((U13.setCell ⟨gx, 9, none⟩ (.bool b2)).setCell ⟨gx, 10, none⟩ (.int .u64 (h2 : Int))).setCell ⟨gx, 11, none⟩ (.int .u64 (l2' : Int))) = V14 at *
  have HRD := Lib.hid S14.out.rd.rd
  have HX := Lib.hid (show V14.drew.heap[gx]? = some (.cells #[.int .i64 (v0 : Int), .int .i64 (sz : Int), .int .i64 (C : Int), .int .i64 (L : Int), .int .i64 (H : Int), .int .i64 (X : Int), .bool b1, .int .u64 (h1 : Int), .int .u64 (l1' : Int), .bool b2, .int .u64 (h2 : Int), .int .u64 (l2' : Int), .slice none 0 0, .bool false, .int .i64 0, .int .i64 0, .bool false, .string ⟨#[]⟩] 49 (0, 0)) from S14.out.x)
  have HG := Lib.hid (show V14.drew.heap[g0]? = some (.cells zS6 49 (0, 0)) from S14.out.g)
  have HB := Lib.hid S14.out.bel.drew
  have HLO := Lib.hid S14.out.lo
  have HNC := Lib.hid (show Calls Try.prog 46 #[.pointer (some ⟨p, 0, none⟩)] V14.drew fun e w' => e = .returned (.int .i64 (e6 : Int)) ∧ w' = V14.drew from (err_any p l6 (e6 : Int) V14.drew (by obtain ⟨A, c, h1, h2⟩ := HRD.out; exact ⟨A, c, h1, h2⟩)).mono fun e w' h => ⟨h.1, h.2.symm⟩)
  clear HRD S14
  refine wp_region_still_tail 3 (by kernel_rfl) (by kernel_rfl) ?_
  simp only [List.take_succ_cons, List.take_zero, List.drop_succ_cons, List.drop_zero]
  change wpStill _ _ V14.drew _ _ _
  refine wpStill_load_row12 (by rfl) 49 _ (by rfl) gx (by rfl) 49 _ (0, 0) _ HX.out Try.underlying49 (by rfl) (by kernel_rfl) ?_
  repeat (first | still_step | still_call HNC.out)
  refine wpStill_nil ?_
  change wpList _ _ _ _ _ V14.drew
  generalize V14.drew = W7 at *
  refine wpList_store_row (by rfl) 49 _ _ (by rfl) g0 #[.int .i64 (v0 : Int), .int .i64 (sz : Int), .int .i64 (C : Int), .int .i64 (L : Int), .int .i64 (H : Int), .int .i64 (X : Int), .bool b1, .int .u64 (h1 : Int), .int .u64 (l1' : Int), .bool b2, .int .u64 (h2 : Int), .int .u64 (l2' : Int), .slice none 0 0, .bool false, .int .i64 0, .int .i64 0, .bool false, .string ⟨#[]⟩] (by rfl) (by rfl) 49 zS6 HG.out (by kernel_rfl) (by rfl) (by simp [Value.oneCell']) ?_
  have HGZ := Lib.hid ((show Cells W7 g0 49 zS6 from HG.out).row #[.int .i64 (v0 : Int), .int .i64 (sz : Int), .int .i64 (C : Int), .int .i64 (L : Int), .int .i64 (H : Int), .int .i64 (X : Int), .bool b1, .int .u64 (h1 : Int), .int .u64 (l1' : Int), .bool b2, .int .u64 (h2 : Int), .int .u64 (l2' : Int), .slice none 0 0, .bool false, .int .i64 0, .int .i64 0, .bool false, .string ⟨#[]⟩])
  have HBZ := Lib.hid (below_row HB.out g0 (Nat.le_of_eq HLO.out) #[.int .i64 (v0 : Int), .int .i64 (sz : Int), .int .i64 (C : Int), .int .i64 (L : Int), .int .i64 (H : Int), .int .i64 (X : Int), .bool b1, .int .u64 (h1 : Int), .int .u64 (l1' : Int), .bool b2, .int .u64 (h2 : Int), .int .u64 (l2' : Int), .slice none 0 0, .bool false, .int .i64 0, .int .i64 0, .bool false, .string ⟨#[]⟩])
  obtain ⟨WZ, hWZ⟩ : ∃ W, W = W7.setRow g0 #[.int .i64 (v0 : Int), .int .i64 (sz : Int), .int .i64 (C : Int), .int .i64 (L : Int), .int .i64 (H : Int), .int .i64 (X : Int), .bool b1, .int .u64 (h1 : Int), .int .u64 (l1' : Int), .bool b2, .int .u64 (h2 : Int), .int .u64 (l2' : Int), .slice none 0 0, .bool false, .int .i64 0, .int .i64 0, .bool false, .string ⟨#[]⟩] := ⟨_, rfl⟩
  rw [← hWZ] at HGZ HBZ ⊢
  clear hWZ HG HB HX HNC
  go_wp2_with fail
  refine bodyPost_ret (res_box2 st6Ty rfl _ _ rfl HGZ.out) rfl ?_
  obtain ⟨hv0, hC, hL⟩ := HVV.out
  obtain ⟨ha1, ha2⟩ := HAD.out
  obtain ⟨g0', g1, g2, g3⟩ := HBD.out
  refine ⟨fi, sz, X, H, h1, l1', h2, l2', e6, b1, b2, ?_, Lib.hid ⟨g0', g1, g2, g3, HA1.out.1, HA1.out.2, HA2.out.1, HA2.out.2⟩, Lib.hid ?_, HBZ.out⟩
  · unfold StartC6
    rw [← hv0, ← hC, ← hL]
    rfl
  · rcases HFIN.out with h | ⟨h1', h2', h3⟩
    · exact .inl h
    · obtain ⟨k0, k1, k2, k3, t1, k4, k5, t2, k6, k7⟩ := h3
      unfold ad6 at ha1 ha2
      rw [if_pos t1] at ha1
      rw [if_pos t2] at ha2
      obtain ⟨rfl, rfl, rfl, -⟩ := (by simpa only [Prod.mk.injEq] using ha1 : _ ∧ _ ∧ _ ∧ _)
      obtain ⟨rfl, rfl, rfl, -⟩ := (by simpa only [Prod.mk.injEq] using ha2 : _ ∧ _ ∧ _ ∧ _)
      exact .inr ⟨h1', h2', k0, k1, k2, k3, rfl, k4, k5, rfl, k6, k7⟩
end Go.Proofs.Ytjjldolafnfpoaa
