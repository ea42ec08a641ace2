/- Contracts of the functions, part 32: Ip4PStw, Ip4PRdO. -/
import Derived.StillTailTactics
import Derived.WalkMore
import Derived.Test.YtimilcjlogcfhaaPE5
import Derived.Test.YtimilcjlogcfhaaPE8
import Derived.Test.YtimilcjlogcfhaaPE13
import Derived.Test.YtimilcjlogcfhaaPE29
import Derived.Test.YtimilcjlogcfhaaPE31
/- Contract of the program of layer 11: readStart. -/
namespace Go.Proofs.Ytimilcjlogcfhaa
open Go.ChangeShapes Go.WideShapes Go.ChangeAt Go.RowKit
set_option linter.unusedVariables false

theorem wpStill_load_row {P : Program} {ops : Array Oper} {rest : List Oper} {o : Oper} {a : Act} {w : World} {Q : Act → Prop} (hgd : o.guard = none) (ty : TypeId) (x : Operand) (ho : o.op = .load ty x)
    (g : Nat) (hx : a.eval x = .pointer (some ⟨g, 0, none⟩)) (t : TypeId) (cs : Array Value) (fr : Nat × Nat) (d : TypeDesc) (hg : w.heap[g]? = some (.cells cs t fr))
    (hu : P.underlying ty = some d) (hd : (match d with | .struct _ | .array _ _ => true | _ => false) = true) (hi : (P.info? ty).map (·.size) = some cs.size)
    (h : wpStill P ops w Q rest (a.put o.dst (.agg cs))) : wpStill P ops w Q (o :: rest) a := by
  refine wpStill_step (fun K hK => ?_)
  have hw : Region.wanted o (yielded ops a.tmps) = true := by unfold Region.wanted; rw [hgd]
  rw [if_pos hw]
  unfold Oper.still execOp
  simp only [ho, hx, Instr.loadAt, Instr.sureAddr, Sem.run_bind, Sem.run_pure, Result.andThen_ok, run_loadVar_row w g t ty cs fr d hg hu hd hi]
  rw [Oper.stillUpon_value]
  exact hK _ h
theorem stTy : BoxTy 52 19 := ⟨⟨_, Try.underlying52⟩, by kernel_rfl⟩
theorem take_min20 (S : List UInt8) : S.take (min S.length 20) = S.take 20 := by
  by_cases h : S.length ≤ 20
  · rw [Nat.min_eq_left h, List.take_of_length_le (Nat.le_refl _), List.take_of_length_le h]
  · rw [Nat.min_eq_right (by omega)]
/-- What readStart returns. -/
def StartC (c0 tos tot id wd ttl pr a1 a2 : Nat) : Array Value :=
  #[.int .i64 ((c0 / 16 : Nat) : Int), .int .i64 ((c0 % 16 * 4 : Nat) : Int), .int .i64 (tot : Int), .bool (decide (wd / 32768 % 2 = 1)), .int .i64 (tos : Int), .int .i64 (id : Int), .int .i64 (ttl : Int), .int .i64 (pr : Int), .bool (decide (wd / 16384 % 2 = 1)), .bool (decide (wd / 8192 % 2 = 1)), .int .i64 ((wd % 8192 * 8 : Nat) : Int), .bool false, .int .u64 0, .int .u64 (a1 : Int), .bool false, .int .u64 0, .int .u64 (a2 : Int), .slice none 0 0, .string ⟨#[]⟩]
def StartP (S : List UInt8) (w : World) (e : Ending) (w' : World) : Prop :=
  ∃ (c0 tos tot id wd ttl pr a1 a2 er : Nat), e = .returned (.tuple #[.agg (StartC c0 tos tot id wd ttl pr a1 a2), .int .i64 (er : Int)]) ∧ Hid (c0 < 256 ∧ tos < 256 ∧ tot < 65536 ∧ id < 65536 ∧ wd < 65536 ∧ ttl < 256 ∧ pr < 256 ∧ a1 < 4294967296 ∧ a2 < 4294967296) ∧
    Hid ((S.length < 20 ∧ er = 1) ∨ (20 ≤ S.length ∧ er = 0 ∧ c0 = byt S 0 ∧ tos = byt S 1 ∧ tot = nm2 S 2 ∧ id = nm2 S 4 ∧ wd = nm2 S 6 ∧ ttl = byt S 8 ∧ pr = byt S 9 ∧ a1 = nm4 S 12 ∧ a2 = nm4 S 16)) ∧ Below w.heap.size w w'
set_option maxHeartbeats 8000000 in
set_option maxRecDepth 20000 in
theorem pstart11_any (S : List UInt8) (w : World) (hs : S.length ≤ 1000000) :
    Calls Try.prog 25 #[.string (str S)] w (StartP S w) := by
  obtain ⟨s, hS⟩ : ∃ s, s = str S := ⟨_, rfl⟩
  have hsz : s.size = S.length := by rw [hS, str_size]
  have hs6 : s.size ≤ 1000000 := by omega
  obtain ⟨q, hq⟩ : ∃ q, q = min s.size 20 := ⟨_, rfl⟩
  have hmn : min (s.size : Int) 20 = (q : Int) := by omega
  have hqs : q ≤ s.size := by omega
  have hqsi : (q : Int) ≤ (s.size : Int) := by omega
  have HQX := Lib.hid (show s.extract 0 q = str (S.take 20) by rw [extract_str11 s S hS, List.drop_zero, hq, hsz, Nat.sub_zero, take_min20])
  have HNEW := Lib.hid (fun (D : ByteArray) (hD : D = str (S.take 20)) (W : World) => show Calls Try.prog 52 #[.string D] W fun e w' => ∃ p, e = .returned (.pointer (some ⟨p, 0, none⟩)) ∧ W.heap.size ≤ p ∧ Rd w' p (S.take 20) 0 ∧ Below W.heap.size W w' from by
    subst hD
    have := new_any (str (S.take 20)) W
    rwa [str_toList] at this)
  have HSL := Lib.hid (show (S.take 20).length ≤ 1000000 by rw [List.length_take]; omega)
  rw [← hS]
  obtain ⟨q1, hq1⟩ : ∃ q, rdI (S.take 20) 0 1 = q := ⟨_, rfl⟩
  have hlt1 := rdI_lt (S.take 20) 0 1
  rw [hq1] at hlt1
  obtain ⟨c0, l1, e1⟩ := q1
  simp only at hlt1
  obtain ⟨q2, hq2⟩ : ∃ q, rdI l1 e1 1 = q := ⟨_, rfl⟩
  have hlt2 := rdI_lt l1 e1 1
  rw [hq2] at hlt2
  obtain ⟨tos, l2, e2⟩ := q2
  simp only at hlt2
  obtain ⟨q3, hq3⟩ : ∃ q, rdI l2 e2 2 = q := ⟨_, rfl⟩
  have hlt3 := rdI_lt l2 e2 2
  rw [hq3] at hlt3
  obtain ⟨tot, l3, e3⟩ := q3
  simp only at hlt3
  obtain ⟨q4, hq4⟩ : ∃ q, rdI l3 e3 2 = q := ⟨_, rfl⟩
  have hlt4 := rdI_lt l3 e3 2
  rw [hq4] at hlt4
  obtain ⟨id, l4, e4⟩ := q4
  simp only at hlt4
  obtain ⟨q5, hq5⟩ : ∃ q, rdI l4 e4 2 = q := ⟨_, rfl⟩
  have hlt5 := rdI_lt l4 e4 2
  rw [hq5] at hlt5
  obtain ⟨wd, l5, e5⟩ := q5
  simp only at hlt5
  obtain ⟨q6, hq6⟩ : ∃ q, rdI l5 e5 1 = q := ⟨_, rfl⟩
  have hlt6 := rdI_lt l5 e5 1
  rw [hq6] at hlt6
  obtain ⟨ttl, l6, e6⟩ := q6
  simp only at hlt6
  obtain ⟨q7, hq7⟩ : ∃ q, rdI l6 e6 1 = q := ⟨_, rfl⟩
  have hlt7 := rdI_lt l6 e6 1
  rw [hq7] at hlt7
  obtain ⟨pr, l7, e7⟩ := q7
  simp only at hlt7
  obtain ⟨q8, hq8⟩ : ∃ q, rdI l7 e7 2 = q := ⟨_, rfl⟩
  have hlt8 := rdI_lt l7 e7 2
  rw [hq8] at hlt8
  obtain ⟨ck, l8, e8⟩ := q8
  simp only at hlt8
  obtain ⟨q9, hq9⟩ : ∃ q, rdT l8 e8 4 = q := ⟨_, rfl⟩
  have hpt9 := rdT_part l8 e8 4
  rw [hq9] at hpt9
  obtain ⟨T1, l9, e9⟩ := q9
  simp only at hpt9
  obtain ⟨q10, hq10⟩ : ∃ q, rdT l9 e9 4 = q := ⟨_, rfl⟩
  have hpt10 := rdT_part l9 e9 4
  rw [hq10] at hpt10
  obtain ⟨T2, l10, e10⟩ := q10
  simp only at hpt10
  have HFIN := Lib.hid (start_fin hq1 hq2 hq3 hq4 hq5 hq6 hq7 hq8 hq9 hq10)
  have HQ1 := Lib.hid hq1
  have HQ2 := Lib.hid hq2
  have HQ3 := Lib.hid hq3
  have HQ4 := Lib.hid hq4
  have HQ5 := Lib.hid hq5
  have HQ6 := Lib.hid hq6
  have HQ7 := Lib.hid hq7
  have HQ8 := Lib.hid hq8
  have HQ9 := Lib.hid hq9
  have HQ10 := Lib.hid hq10
  have b0 : c0 < 256 := by omega
  have b1 : tos < 256 := by omega
  have b2 : tot < 65536 := by omega
  have b3 : id < 65536 := by omega
  have b4 : wd < 65536 := by omega
  have b6 : ttl < 256 := by omega
  have b7 : pr < 256 := by omega
  have HBD := Lib.hid (show c0 < 256 ∧ tos < 256 ∧ tot < 65536 ∧ id < 65536 ∧ wd < 65536 ∧ ttl < 256 ∧ pr < 256 from ⟨b0, b1, b2, b3, b4, b6, b7⟩)
  obtain ⟨a1, ha1⟩ : ∃ a, (adN T1).1 = a := ⟨_, rfl⟩
  obtain ⟨a2, ha2⟩ : ∃ a, (adN T2).1 = a := ⟨_, rfl⟩
  have HAD := Lib.hid (And.intro ha1 ha2)
  have HF1 := Lib.hid (fun (W : World) => show Calls Try.prog 54 #[.string (str T1)] W fun e w' => e = .returned (.tuple #[.agg #[.bool false, .int .u64 0, .int .u64 (a1 : Int)], .int .i64 ((adN T1).2 : Int)]) ∧ Below W.heap.size W w' from by rw [← ha1]; exact from11_any (str T1) T1 rfl hpt9 W)
  have HF2 := Lib.hid (fun (W : World) => show Calls Try.prog 54 #[.string (str T2)] W fun e w' => e = .returned (.tuple #[.agg #[.bool false, .int .u64 0, .int .u64 (a2 : Int)], .int .i64 ((adN T2).2 : Int)]) ∧ Below W.heap.size W w' from by rw [← ha2]; exact from11_any (str T2) T2 rfl hpt10 W)
  obtain ⟨er1, her1⟩ : ∃ a : Nat, (adN T1).2 = a := ⟨_, rfl⟩
  obtain ⟨er2, her2⟩ : ∃ a : Nat, (adN T2).2 = a := ⟨_, rfl⟩
  rw [her1] at HF1
  rw [her2] at HF2
  obtain ⟨v0, hv0⟩ : ∃ v, v = c0 / 16 := ⟨_, rfl⟩
  obtain ⟨v1, hv1⟩ : ∃ v, v = c0 % 16 * 4 := ⟨_, rfl⟩
  obtain ⟨v1', hv1'⟩ : ∃ v, v = c0 % 16 := ⟨_, rfl⟩
  have a15 : bits .and .i64 (c0 : Int) 15 = (v1' : Int) := by rw [hv1']; exact and15_i64 c0 (by omega)
  have m4 : (v1' : Int) * 4 = (v1 : Int) := by omega
  have s4 : (c0 : Int) / 16 = (v0 : Int) := by omega
  have s4' : (c0 : Int) / 2 ^ 4 = (v0 : Int) := by omega
  have hv1l : v1 ≤ 60 := by omega
  have hv1l' : v1' ≤ 15 := by omega
  have hv0l : v0 ≤ 15 := by omega
  have HV01 := Lib.hid (And.intro hv0 hv1)
  obtain ⟨br, hbr⟩ : ∃ b : Bool, (bits .and .i64 (wd : Int) 32768 != 0) = b := ⟨_, rfl⟩
  obtain ⟨bd, hbd⟩ : ∃ b : Bool, (bits .and .i64 (wd : Int) 16384 != 0) = b := ⟨_, rfl⟩
  obtain ⟨bm, hbm⟩ : ∃ b : Bool, (bits .and .i64 (wd : Int) 8192 != 0) = b := ⟨_, rfl⟩
  have HBR := Lib.hid (show br = decide (wd / 32768 % 2 = 1) by rw [← hbr]; exact and_bit wd 15 (by omega) (by omega))
  have HBD2 := Lib.hid (show bd = decide (wd / 16384 % 2 = 1) by rw [← hbd]; exact and_bit wd 14 (by omega) (by omega))
  have HBM := Lib.hid (show bm = decide (wd / 8192 % 2 = 1) by rw [← hbm]; exact and_bit wd 13 (by omega) (by omega))
  obtain ⟨fo, hfo⟩ : ∃ v, v = wd % 8192 * 8 := ⟨_, rfl⟩
  obtain ⟨fr, hfr⟩ : ∃ v, v = wd % 8192 := ⟨_, rfl⟩
  have tm : (wd : Int).tmod 8192 = (fr : Int) := by rw [Int.tmod_eq_emod_of_nonneg (by omega)]; omega
  have fm : (fr : Int) * 8 = (fo : Int) := by omega
  have hfol : fo ≤ 65528 := by omega
  have hfrl : fr ≤ 8191 := by omega
  have HFO := Lib.hid hfo
  have HSZ := Lib.hid hsz
  clear hq hsz hs hS ha1 ha2 her1 her2 hv0 hv1 hv1' hfo hfr hpt9 hpt10
  clear hq1 hq2 hq3 hq4 hq5 hq6 hq7 hq8 hq9 hq10 hlt1 hlt2 hlt3 hlt4 hlt5 hlt6 hlt7 hlt8
  go_enter Try.func25, Try.ntmps25
  go_wp2_with fail
  refine (HNEW.out _ HQX.out _).mono ?_
  rintro e w1 ⟨p, rfl, hp, hrd, hbw⟩
  obtain ⟨W2, hW2⟩ : ∃ W, W = w1.alloc (.cells zS 52) := ⟨_, rfl⟩
  obtain ⟨gx, hgx⟩ : ∃ g, g = w1.heap.size := ⟨_, rfl⟩
  obtain ⟨g0, hg0⟩ : ∃ g, g = w.heap.size := ⟨_, rfl⟩
  have H0 := Lib.hid (show SD w W2 g0 gx p zS (S.take 20) 0 by rw [hW2, hgx, hg0]; exact SD.init hbw hp hrd HSL.out)
  unfold zS at hW2
  clear hp hrd hbw HNEW HSL
  go_wp2_with fail
  rw [← hW2, ← hgx, ← hg0]
  clear hW2 hgx hg0
  refine (H0.out.int 1 1 rfl (by decide) (by decide)).mono ?_
  rintro e U1 ⟨rfl, h⟩
  rw [HQ1.out] at h ⊢
  have C1 := Lib.hid (show SD w U1 g0 gx p #[.int .i64 0, .int .i64 0, .int .i64 0, .bool false, .int .i64 0, .int .i64 0, .int .i64 0, .int .i64 0, .bool false, .bool false, .int .i64 0, .bool false, .int .u64 0, .int .u64 0, .bool false, .int .u64 0, .int .u64 0, .slice none 0 0, .string ⟨#[]⟩] l1 e1 from h)
  clear h H0 HQ1
  dsimp only
  have x0 := (Cells.cell C1.out.x 0).trans (show _ = some (Value.int .i64 0) from rfl)
  have z0 := Cells.frozen C1.out.x 0
  have x1 := (Cells.cell C1.out.x 1).trans (show _ = some (Value.int .i64 0) from rfl)
  have z1 := Cells.frozen C1.out.x 1
  have hgl := C1.out.x.lt
  go_wp2_with fail
  have S2 := Lib.hid (show SD w ((U1.setCell ⟨gx, 0, none⟩ (.int .i64 (v0 : Int))).setCell ⟨gx, 1, none⟩ (.int .i64 (v1 : Int))) g0 gx p #[.int .i64 (v0 : Int), .int .i64 (v1 : Int), .int .i64 0, .bool false, .int .i64 0, .int .i64 0, .int .i64 0, .int .i64 0, .bool false, .bool false, .int .i64 0, .bool false, .int .u64 0, .int .u64 0, .bool false, .int .u64 0, .int .u64 0, .slice none 0 0, .string ⟨#[]⟩] l1 e1 from ((C1.out.set 0 (.int .i64 (v0 : Int))).set 1 (.int .i64 (v1 : Int))))
  clear x0 z0 x1 z1 C1 hgl
  generalize ((U1.setCell ⟨gx, 0, none⟩ (.int .i64 (v0 : Int))).setCell ⟨gx, 1, none⟩ (.int .i64 (v1 : Int))) = V2 at *
  refine (S2.out.int 1 1 rfl (by decide) (by decide)).mono ?_
  rintro e U3 ⟨rfl, h⟩
  rw [HQ2.out] at h ⊢
  have C3 := Lib.hid (show SD w U3 g0 gx p #[.int .i64 (v0 : Int), .int .i64 (v1 : Int), .int .i64 0, .bool false, .int .i64 0, .int .i64 0, .int .i64 0, .int .i64 0, .bool false, .bool false, .int .i64 0, .bool false, .int .u64 0, .int .u64 0, .bool false, .int .u64 0, .int .u64 0, .slice none 0 0, .string ⟨#[]⟩] l2 e2 from h)
  clear h S2 HQ2
  dsimp only
  have x4 := (Cells.cell C3.out.x 4).trans (show _ = some (Value.int .i64 0) from rfl)
  have z4 := Cells.frozen C3.out.x 4
  have hgl := C3.out.x.lt
  go_wp2_with fail
  have S4 := Lib.hid (show SD w (U3.setCell ⟨gx, 4, none⟩ (.int .i64 (tos : Int))) g0 gx p #[.int .i64 (v0 : Int), .int .i64 (v1 : Int), .int .i64 0, .bool false, .int .i64 (tos : Int), .int .i64 0, .int .i64 0, .int .i64 0, .bool false, .bool false, .int .i64 0, .bool false, .int .u64 0, .int .u64 0, .bool false, .int .u64 0, .int .u64 0, .slice none 0 0, .string ⟨#[]⟩] l2 e2 from (C3.out.set 4 (.int .i64 (tos : Int))))
  clear x4 z4 C3 hgl
  generalize (U3.setCell ⟨gx, 4, none⟩ (.int .i64 (tos : Int))) = V4 at *
  refine (S4.out.int 2 2 rfl (by decide) (by decide)).mono ?_
  rintro e U5 ⟨rfl, h⟩
  rw [HQ3.out] at h ⊢
  have C5 := Lib.hid (show SD w U5 g0 gx p #[.int .i64 (v0 : Int), .int .i64 (v1 : Int), .int .i64 0, .bool false, .int .i64 (tos : Int), .int .i64 0, .int .i64 0, .int .i64 0, .bool false, .bool false, .int .i64 0, .bool false, .int .u64 0, .int .u64 0, .bool false, .int .u64 0, .int .u64 0, .slice none 0 0, .string ⟨#[]⟩] l3 e3 from h)
  clear h S4 HQ3
  dsimp only
  have x2 := (Cells.cell C5.out.x 2).trans (show _ = some (Value.int .i64 0) from rfl)
  have z2 := Cells.frozen C5.out.x 2
  have hgl := C5.out.x.lt
  go_wp2_with fail
  have S6 := Lib.hid (show SD w (U5.setCell ⟨gx, 2, none⟩ (.int .i64 (tot : Int))) g0 gx p #[.int .i64 (v0 : Int), .int .i64 (v1 : Int), .int .i64 (tot : Int), .bool false, .int .i64 (tos : Int), .int .i64 0, .int .i64 0, .int .i64 0, .bool false, .bool false, .int .i64 0, .bool false, .int .u64 0, .int .u64 0, .bool false, .int .u64 0, .int .u64 0, .slice none 0 0, .string ⟨#[]⟩] l3 e3 from (C5.out.set 2 (.int .i64 (tot : Int))))
  clear x2 z2 C5 hgl
  generalize (U5.setCell ⟨gx, 2, none⟩ (.int .i64 (tot : Int))) = V6 at *
  refine (S6.out.int 2 2 rfl (by decide) (by decide)).mono ?_
  rintro e U7 ⟨rfl, h⟩
  rw [HQ4.out] at h ⊢
  have C7 := Lib.hid (show SD w U7 g0 gx p #[.int .i64 (v0 : Int), .int .i64 (v1 : Int), .int .i64 (tot : Int), .bool false, .int .i64 (tos : Int), .int .i64 0, .int .i64 0, .int .i64 0, .bool false, .bool false, .int .i64 0, .bool false, .int .u64 0, .int .u64 0, .bool false, .int .u64 0, .int .u64 0, .slice none 0 0, .string ⟨#[]⟩] l4 e4 from h)
  clear h S6 HQ4
  dsimp only
  have x5 := (Cells.cell C7.out.x 5).trans (show _ = some (Value.int .i64 0) from rfl)
  have z5 := Cells.frozen C7.out.x 5
  have hgl := C7.out.x.lt
  go_wp2_with fail
  have S8 := Lib.hid (show SD w (U7.setCell ⟨gx, 5, none⟩ (.int .i64 (id : Int))) g0 gx p #[.int .i64 (v0 : Int), .int .i64 (v1 : Int), .int .i64 (tot : Int), .bool false, .int .i64 (tos : Int), .int .i64 (id : Int), .int .i64 0, .int .i64 0, .bool false, .bool false, .int .i64 0, .bool false, .int .u64 0, .int .u64 0, .bool false, .int .u64 0, .int .u64 0, .slice none 0 0, .string ⟨#[]⟩] l4 e4 from (C7.out.set 5 (.int .i64 (id : Int))))
  clear x5 z5 C7 hgl
  generalize (U7.setCell ⟨gx, 5, none⟩ (.int .i64 (id : Int))) = V8 at *
  refine (S8.out.int 2 2 rfl (by decide) (by decide)).mono ?_
  rintro e U9 ⟨rfl, h⟩
  rw [HQ5.out] at h ⊢
  have C9 := Lib.hid (show SD w U9 g0 gx p #[.int .i64 (v0 : Int), .int .i64 (v1 : Int), .int .i64 (tot : Int), .bool false, .int .i64 (tos : Int), .int .i64 (id : Int), .int .i64 0, .int .i64 0, .bool false, .bool false, .int .i64 0, .bool false, .int .u64 0, .int .u64 0, .bool false, .int .u64 0, .int .u64 0, .slice none 0 0, .string ⟨#[]⟩] l5 e5 from h)
  clear h S8 HQ5
  dsimp only
  have x3 := (Cells.cell C9.out.x 3).trans (show _ = some (Value.bool false) from rfl)
  have z3 := Cells.frozen C9.out.x 3
  have x8 := (Cells.cell C9.out.x 8).trans (show _ = some (Value.bool false) from rfl)
  have z8 := Cells.frozen C9.out.x 8
  have x9 := (Cells.cell C9.out.x 9).trans (show _ = some (Value.bool false) from rfl)
  have z9 := Cells.frozen C9.out.x 9
  have x10 := (Cells.cell C9.out.x 10).trans (show _ = some (Value.int .i64 0) from rfl)
  have z10 := Cells.frozen C9.out.x 10
  have hgl := C9.out.x.lt
  go_wp2_with fail
  have S10 := Lib.hid (show SD w ((((U9.setCell ⟨gx, 3, none⟩ (.bool br)).setCell ⟨gx, 8, none⟩ (.bool bd)).setCell ⟨gx, 9, none⟩ (.bool bm)).setCell ⟨gx, 10, none⟩ (.int .i64 (fo : Int))) g0 gx p #[.int .i64 (v0 : Int), .int .i64 (v1 : Int), .int .i64 (tot : Int), .bool br, .int .i64 (tos : Int), .int .i64 (id : Int), .int .i64 0, .int .i64 0, .bool bd, .bool bm, .int .i64 (fo : Int), .bool false, .int .u64 0, .int .u64 0, .bool false, .int .u64 0, .int .u64 0, .slice none 0 0, .string ⟨#[]⟩] l5 e5 from ((((C9.out.set 3 (.bool br)).set 8 (.bool bd)).set 9 (.bool bm)).set 10 (.int .i64 (fo : Int))))
  clear x3 z3 x8 z8 x9 z9 x10 z10 C9 hgl
  generalize ((((U9.setCell ⟨gx, 3, none⟩ (.bool br)).setCell ⟨gx, 8, none⟩ (.bool bd)).setCell ⟨gx, 9, none⟩ (.bool bm)).setCell ⟨gx, 10, none⟩ (.int .i64 (fo : Int))) = V10 at *
  refine (S10.out.int 1 1 rfl (by decide) (by decide)).mono ?_
  rintro e U11 ⟨rfl, h⟩
  rw [HQ6.out] at h ⊢
  have C11 := Lib.hid (show SD w U11 g0 gx p #[.int .i64 (v0 : Int), .int .i64 (v1 : Int), .int .i64 (tot : Int), .bool br, .int .i64 (tos : Int), .int .i64 (id : Int), .int .i64 0, .int .i64 0, .bool bd, .bool bm, .int .i64 (fo : Int), .bool false, .int .u64 0, .int .u64 0, .bool false, .int .u64 0, .int .u64 0, .slice none 0 0, .string ⟨#[]⟩] l6 e6 from h)
  clear h S10 HQ6
  dsimp only
  have x6 := (Cells.cell C11.out.x 6).trans (show _ = some (Value.int .i64 0) from rfl)
  have z6 := Cells.frozen C11.out.x 6
  have hgl := C11.out.x.lt
  go_wp2_with fail
  have S12 := Lib.hid (show SD w (U11.setCell ⟨gx, 6, none⟩ (.int .i64 (ttl : Int))) g0 gx p #[.int .i64 (v0 : Int), .int .i64 (v1 : Int), .int .i64 (tot : Int), .bool br, .int .i64 (tos : Int), .int .i64 (id : Int), .int .i64 (ttl : Int), .int .i64 0, .bool bd, .bool bm, .int .i64 (fo : Int), .bool false, .int .u64 0, .int .u64 0, .bool false, .int .u64 0, .int .u64 0, .slice none 0 0, .string ⟨#[]⟩] l6 e6 from (C11.out.set 6 (.int .i64 (ttl : Int))))
  clear x6 z6 C11 hgl
  generalize (U11.setCell ⟨gx, 6, none⟩ (.int .i64 (ttl : Int))) = V12 at *
  refine (S12.out.int 1 1 rfl (by decide) (by decide)).mono ?_
  rintro e U13 ⟨rfl, h⟩
  rw [HQ7.out] at h ⊢
  have C13 := Lib.hid (show SD w U13 g0 gx p #[.int .i64 (v0 : Int), .int .i64 (v1 : Int), .int .i64 (tot : Int), .bool br, .int .i64 (tos : Int), .int .i64 (id : Int), .int .i64 (ttl : Int), .int .i64 0, .bool bd, .bool bm, .int .i64 (fo : Int), .bool false, .int .u64 0, .int .u64 0, .bool false, .int .u64 0, .int .u64 0, .slice none 0 0, .string ⟨#[]⟩] l7 e7 from h)
  clear h S12 HQ7
  dsimp only
  have x7 := (Cells.cell C13.out.x 7).trans (show _ = some (Value.int .i64 0) from rfl)
  have z7 := Cells.frozen C13.out.x 7
  have hgl := C13.out.x.lt
  go_wp2_with fail
  have S14 := Lib.hid (show SD w (U13.setCell ⟨gx, 7, none⟩ (.int .i64 (pr : Int))) g0 gx p #[.int .i64 (v0 : Int), .int .i64 (v1 : Int), .int .i64 (tot : Int), .bool br, .int .i64 (tos : Int), .int .i64 (id : Int), .int .i64 (ttl : Int), .int .i64 (pr : Int), .bool bd, .bool bm, .int .i64 (fo : Int), .bool false, .int .u64 0, .int .u64 0, .bool false, .int .u64 0, .int .u64 0, .slice none 0 0, .string ⟨#[]⟩] l7 e7 from (C13.out.set 7 (.int .i64 (pr : Int))))
  clear x7 z7 C13 hgl
  generalize (U13.setCell ⟨gx, 7, none⟩ (.int .i64 (pr : Int))) = V14 at *
  refine (S14.out.int 2 2 rfl (by decide) (by decide)).mono ?_
  rintro e U15 ⟨rfl, h⟩
  rw [HQ8.out] at h ⊢
  have C15 := Lib.hid (show SD w U15 g0 gx p #[.int .i64 (v0 : Int), .int .i64 (v1 : Int), .int .i64 (tot : Int), .bool br, .int .i64 (tos : Int), .int .i64 (id : Int), .int .i64 (ttl : Int), .int .i64 (pr : Int), .bool bd, .bool bm, .int .i64 (fo : Int), .bool false, .int .u64 0, .int .u64 0, .bool false, .int .u64 0, .int .u64 0, .slice none 0 0, .string ⟨#[]⟩] l8 e8 from h)
  clear h S14 HQ8
  dsimp only
  go_wp2_with fail
  refine (C15.out.take 4 4 rfl).mono ?_
  rintro e U16 ⟨rfl, h⟩
  rw [HQ9.out] at h ⊢
  have C16 := Lib.hid (show SD w U16 g0 gx p #[.int .i64 (v0 : Int), .int .i64 (v1 : Int), .int .i64 (tot : Int), .bool br, .int .i64 (tos : Int), .int .i64 (id : Int), .int .i64 (ttl : Int), .int .i64 (pr : Int), .bool bd, .bool bm, .int .i64 (fo : Int), .bool false, .int .u64 0, .int .u64 0, .bool false, .int .u64 0, .int .u64 0, .slice none 0 0, .string ⟨#[]⟩] l9 e9 from h)
  clear h C15 HQ9
  dsimp only
  go_wp2_with fail
  refine (HF1.out _).mono ?_
  rintro e U17 ⟨rfl, hb⟩
  have C17 := Lib.hid (C16.out.below hb)
  clear hb C16 HF1
  have x11 := (Cells.cell C17.out.x 11).trans (show _ = some (Value.bool false) from rfl)
  have z11 := Cells.frozen C17.out.x 11
  have x12 := (Cells.cell C17.out.x 12).trans (show _ = some (Value.int .u64 0) from rfl)
  have z12 := Cells.frozen C17.out.x 12
  have x13 := (Cells.cell C17.out.x 13).trans (show _ = some (Value.int .u64 0) from rfl)
  have z13 := Cells.frozen C17.out.x 13
  have hgl := C17.out.x.lt
  go_wp2_with fail
  have S18 := Lib.hid (show SD w (((U17.setCell ⟨gx, 11, none⟩ (.bool false)).setCell ⟨gx, 12, none⟩ (.int .u64 0)).setCell ⟨gx, 13, none⟩ (.int .u64 (a1 : Int))) g0 gx p #[.int .i64 (v0 : Int), .int .i64 (v1 : Int), .int .i64 (tot : Int), .bool br, .int .i64 (tos : Int), .int .i64 (id : Int), .int .i64 (ttl : Int), .int .i64 (pr : Int), .bool bd, .bool bm, .int .i64 (fo : Int), .bool false, .int .u64 0, .int .u64 (a1 : Int), .bool false, .int .u64 0, .int .u64 0, .slice none 0 0, .string ⟨#[]⟩] l9 e9 from (((C17.out.set 11 (.bool false)).set 12 (.int .u64 0)).set 13 (.int .u64 (a1 : Int))))
  clear x11 z11 x12 z12 x13 z13 C17 hgl
  generalize (((U17.setCell ⟨gx, 11, none⟩ (.bool false)).setCell ⟨gx, 12, none⟩ (.int .u64 0)).setCell ⟨gx, 13, none⟩ (.int .u64 (a1 : Int))) = V18 at *
  refine (S18.out.take 4 4 rfl).mono ?_
  rintro e U19 ⟨rfl, h⟩
  rw [HQ10.out] at h ⊢
  have C19 := Lib.hid (show SD w U19 g0 gx p #[.int .i64 (v0 : Int), .int .i64 (v1 : Int), .int .i64 (tot : Int), .bool br, .int .i64 (tos : Int), .int .i64 (id : Int), .int .i64 (ttl : Int), .int .i64 (pr : Int), .bool bd, .bool bm, .int .i64 (fo : Int), .bool false, .int .u64 0, .int .u64 (a1 : Int), .bool false, .int .u64 0, .int .u64 0, .slice none 0 0, .string ⟨#[]⟩] l10 e10 from h)
  clear h S18 HQ10
  dsimp only
  go_wp2_with fail
  refine (HF2.out _).mono ?_
  rintro e U20 ⟨rfl, hb⟩
  have C20 := Lib.hid (C19.out.below hb)
  clear hb C19 HF2
  have x14 := (Cells.cell C20.out.x 14).trans (show _ = some (Value.bool false) from rfl)
  have z14 := Cells.frozen C20.out.x 14
  have x15 := (Cells.cell C20.out.x 15).trans (show _ = some (Value.int .u64 0) from rfl)
  have z15 := Cells.frozen C20.out.x 15
  have x16 := (Cells.cell C20.out.x 16).trans (show _ = some (Value.int .u64 0) from rfl)
  have z16 := Cells.frozen C20.out.x 16
  have hgl := C20.out.x.lt
  go_wp2_with fail
  have S21 := Lib.hid (show SD w (((U20.setCell ⟨gx, 14, none⟩ (.bool false)).setCell ⟨gx, 15, none⟩ (.int .u64 0)).setCell ⟨gx, 16, none⟩ (.int .u64 (a2 : Int))) g0 gx p #[.int .i64 (v0 : Int), .int .i64 (v1 : Int), .int .i64 (tot : Int), .bool br, .int .i64 (tos : Int), .int .i64 (id : Int), .int .i64 (ttl : Int), .int .i64 (pr : Int), .bool bd, .bool bm, .int .i64 (fo : Int), .bool false, .int .u64 0, .int .u64 (a1 : Int), .bool false, .int .u64 0, .int .u64 (a2 : Int), .slice none 0 0, .string ⟨#[]⟩] l10 e10 from (((C20.out.set 14 (.bool false)).set 15 (.int .u64 0)).set 16 (.int .u64 (a2 : Int))))
  clear x14 z14 x15 z15 x16 z16 C20 hgl
  generalize (((U20.setCell ⟨gx, 14, none⟩ (.bool false)).setCell ⟨gx, 15, none⟩ (.int .u64 0)).setCell ⟨gx, 16, none⟩ (.int .u64 (a2 : Int))) = V21 at *
  have HRD := Lib.hid S21.out.rd.rd
  have HX := Lib.hid (show V21.drew.heap[gx]? = some (.cells #[.int .i64 (v0 : Int), .int .i64 (v1 : Int), .int .i64 (tot : Int), .bool br, .int .i64 (tos : Int), .int .i64 (id : Int), .int .i64 (ttl : Int), .int .i64 (pr : Int), .bool bd, .bool bm, .int .i64 (fo : Int), .bool false, .int .u64 0, .int .u64 (a1 : Int), .bool false, .int .u64 0, .int .u64 (a2 : Int), .slice none 0 0, .string ⟨#[]⟩] 52 (0, 0)) from S21.out.x)
  have HG := Lib.hid (show V21.drew.heap[g0]? = some (.cells zS 52 (0, 0)) from S21.out.g)
  have HB := Lib.hid S21.out.bel.drew
  have HLO := Lib.hid S21.out.lo
  have HNC := Lib.hid (show Calls Try.prog 56 #[.pointer (some ⟨p, 0, none⟩)] V21.drew fun e w' => e = .returned (.int .i64 (e10 : Int)) ∧ w' = V21.drew from (err_any p l10 (e10 : Int) V21.drew (by obtain ⟨A, c, h1, h2⟩ := HRD.out; exact ⟨A, c, h1, h2⟩)).mono fun e w' h => ⟨h.1, h.2.symm⟩)
  clear HRD S21
  refine wp_region_still_tail 3 (by kernel_rfl) (by kernel_rfl) ?_
  simp only [List.take_succ_cons, List.take_zero, List.drop_succ_cons, List.drop_zero]
  change wpStill _ _ V21.drew _ _ _
  refine wpStill_load_row (by rfl) 52 _ (by rfl) gx (by rfl) 52 _ (0, 0) _ HX.out Try.underlying52 (by rfl) (by kernel_rfl) ?_
  repeat (first | still_step | still_call HNC.out)
  refine wpStill_nil ?_
  change wpList _ _ _ _ _ V21.drew
  generalize V21.drew = W7 at *
  refine wpList_store_row (by rfl) 52 _ _ (by rfl) g0 #[.int .i64 (v0 : Int), .int .i64 (v1 : Int), .int .i64 (tot : Int), .bool br, .int .i64 (tos : Int), .int .i64 (id : Int), .int .i64 (ttl : Int), .int .i64 (pr : Int), .bool bd, .bool bm, .int .i64 (fo : Int), .bool false, .int .u64 0, .int .u64 (a1 : Int), .bool false, .int .u64 0, .int .u64 (a2 : Int), .slice none 0 0, .string ⟨#[]⟩] (by rfl) (by rfl) 52 zS HG.out (by kernel_rfl) (by rfl) (by simp [Value.oneCell']) ?_
  have HGZ := Lib.hid ((show Cells W7 g0 52 zS from HG.out).row #[.int .i64 (v0 : Int), .int .i64 (v1 : Int), .int .i64 (tot : Int), .bool br, .int .i64 (tos : Int), .int .i64 (id : Int), .int .i64 (ttl : Int), .int .i64 (pr : Int), .bool bd, .bool bm, .int .i64 (fo : Int), .bool false, .int .u64 0, .int .u64 (a1 : Int), .bool false, .int .u64 0, .int .u64 (a2 : Int), .slice none 0 0, .string ⟨#[]⟩])
  have HBZ := Lib.hid (below_row HB.out g0 (Nat.le_of_eq HLO.out) #[.int .i64 (v0 : Int), .int .i64 (v1 : Int), .int .i64 (tot : Int), .bool br, .int .i64 (tos : Int), .int .i64 (id : Int), .int .i64 (ttl : Int), .int .i64 (pr : Int), .bool bd, .bool bm, .int .i64 (fo : Int), .bool false, .int .u64 0, .int .u64 (a1 : Int), .bool false, .int .u64 0, .int .u64 (a2 : Int), .slice none 0 0, .string ⟨#[]⟩])
  obtain ⟨WZ, hWZ⟩ : ∃ W, W = W7.setRow g0 #[.int .i64 (v0 : Int), .int .i64 (v1 : Int), .int .i64 (tot : Int), .bool br, .int .i64 (tos : Int), .int .i64 (id : Int), .int .i64 (ttl : Int), .int .i64 (pr : Int), .bool bd, .bool bm, .int .i64 (fo : Int), .bool false, .int .u64 0, .int .u64 (a1 : Int), .bool false, .int .u64 0, .int .u64 (a2 : Int), .slice none 0 0, .string ⟨#[]⟩] := ⟨_, rfl⟩
  rw [← hWZ] at HGZ HBZ ⊢
  clear hWZ HG HB HX HNC
  go_wp2_with fail
  refine bodyPost_ret (res_box2 stTy rfl _ _ rfl HGZ.out) rfl ?_
  obtain ⟨hv0, hv1⟩ := HV01.out
  obtain ⟨ha1, ha2⟩ := HAD.out
  obtain ⟨g0', g1, g2, g3, g4, g6, g7⟩ := HBD.out
  refine ⟨c0, tos, tot, id, wd, ttl, pr, a1, a2, e10, ?_, Lib.hid ⟨g0', g1, g2, g3, g4, g6, g7, by rw [← ha1]; exact adN_lt _, by rw [← ha2]; exact adN_lt _⟩, Lib.hid ?_, HBZ.out⟩
  · unfold StartC
    rw [← hv0, ← hv1, ← HBR.out, ← HBD2.out, ← HBM.out, ← HFO.out]
    rfl
  · rcases HFIN.out with h | ⟨h1, h2, h3⟩
    · exact .inl h
    · obtain ⟨k0, k1, k2, k3, k4, k5, k6, t1, k7, t2, k8⟩ := h3
      refine .inr ⟨h1, h2, k0, k1, k2, k3, k4, k5, k6, ?_, ?_⟩
      · rw [← ha1]; unfold adN; rw [if_pos t1]; exact k7
      · rw [← ha2]; unfold adN; rw [if_pos t2]; exact k8
end Go.Proofs.Ytimilcjlogcfhaa

/- Contract of the program of layer 11: readOptions. -/
namespace Go.Proofs.Ytimilcjlogcfhaa
open Go.ChangeShapes Go.WideShapes Go.ChangeAt Go.RowKit
set_option linter.unusedVariables false

/-- Bytes that lie in a row. -/
def AtB (w : World) (g o : Nat) (S : List UInt8) : Prop := g < w.heap.size ∧ ∀ j (hj : j < S.length), w.cell? ⟨g, o + j, none⟩ = some (.int .u8 (S[j].toNat : Int)) ∧ w.frozen? ⟨g, o + j, none⟩ = false
theorem AtB.bs {w W : World} {g o : Nat} {S : List UInt8} (h : AtB w g o S) (hb : Below w.heap.size w W) (i n c : Nat) (hi : i + n ≤ S.length) (hc : n ≤ c) (A : Option Addr) (hA : 0 < n → A = some ⟨g, o + i, none⟩) :
    BS W 0 (.slice A ((S.drop i).take n).length c) ((S.drop i).take n) := by
  have hl : ((S.drop i).take n).length = n := by rw [List.length_take, List.length_drop]; omega
  refine ⟨A, c, rfl, by omega, fun hp => ⟨g, o + i, hA (by omega), Nat.zero_le _, Nat.lt_of_lt_of_le h.1 hb.size, fun j hj => ?_⟩⟩
  have hg : W.heap[g]? = w.heap[g]? := hb.block g h.1
  have := h.2 (i + j) (by omega)
  rw [World.cell?_of_block (w := w) (w' := W) (a := ⟨g, o + i + j, none⟩) hg, World.frozen?_of_block (w := w) (w' := W) (a := ⟨g, o + i + j, none⟩) hg, Nat.add_assoc, List.getElem_take, List.getElem_drop]
  exact this
def sliceLen11 : Value → Nat
  | .slice _ n _ => n
  | _ => 0
set_option maxHeartbeats 4000000 in
set_option maxRecDepth 20000 in
theorem popts11_any (S : List UInt8) (A0 : Option Addr) (c0 : Nat) (w : World) (h : BS w 0 (.slice A0 S.length c0) S) (hs : S.length ≤ 1000000) (hc9 : c0 ≤ 9223372036854775807) :
    Calls Try.prog 26 #[.slice A0 S.length c0] w (OptP w (optsD S)) := by
  obtain ⟨N, hN⟩ : ∃ N, N = S.length := ⟨_, rfl⟩
  have hcap : S.length ≤ c0 := by obtain ⟨A', c', e, h1, _⟩ := h; cases e; exact h1
  obtain ⟨g, o, hg0, hA0, hAt⟩ : ∃ g o, (0 < N → g < w.heap.size) ∧ (0 < N → A0 = some ⟨g, o, none⟩) ∧ (0 < N → AtB w g o S) := by
    obtain ⟨A', c', e, h1, h2⟩ := h
    cases e
    by_cases hp : 0 < N
    · obtain ⟨g, o, e, _, hlt, hc⟩ := h2 (by omega)
      exact ⟨g, o, fun _ => hlt, fun _ => e, fun _ => ⟨hlt, hc⟩⟩
    · exact ⟨0, 0, fun h => absurd h hp, fun h => absurd h hp, fun h => absurd h hp⟩
  rw [← hN] at hcap hs ⊢
  obtain ⟨R, hR⟩ : ∃ R, R = optsD S := ⟨_, rfl⟩
  rw [← hR]
  have HR0 := Lib.hid (show R = (optsD (S.drop 0)).map (fun l => ([] : List OpR) ++ l) by rw [hR, List.drop_zero]; cases optsD S <;> rfl)
  have HNN := Lib.hid hN
  have HAT := Lib.hid hAt
  have HG0 := Lib.hid hg0
  have HA0 := Lib.hid hA0
  have HO0 := Lib.hid (show w.ownsRow w.heap.size 50 2 (.slice none 0 0) 0 (EOpt.cells []) from World.ownsRow_nil w w.heap.size 50 2)
  clear hR hN h hA0 hAt hg0
  go_enter Try.func26, Try.ntmps26
  go_wp2_with fail
  go_step3
  go_wp2_with fail
  go_step3
  go_wp2_with fail
  go_loopw [0, 4] (fun v0 v4 wr => ∃ (i q d n : Nat) (A1 A : Option Addr) (c : Nat) (out : List OpR), v0 = .slice A1 q d ∧ v4 = .slice A n c ∧ q ≤ d ∧ d ≤ 9223372036854775807 ∧ q ≤ N ∧ n ≤ N ∧ Hid (i + q = N) ∧ Hid (n ≤ i) ∧ Hid (0 < q → A1 = some ⟨g, o + i, none⟩) ∧ Hid (n = out.length) ∧ Hid (R = (optsD (S.drop i)).map (fun l => out ++ l)) ∧ Hid (wr.ownsRow w.heap.size 50 2 (.slice A n c) n (EOpt.cells out)) ∧ Hid (Below w.heap.size w wr)) (fun v0 _ _ => sliceLen11 v0)
  case atStart => exact ⟨0, N, c0, 0, A0, none, 0, [], rfl, rfl, hcap, hc9, Nat.le_refl _, Nat.zero_le _, Lib.hid (by omega), Lib.hid (Nat.le_refl _), HA0, Lib.hid rfl, HR0, HO0, Lib.hid (Below.refl _ _)⟩
  case round =>
    clear HO0 HR0 HA0 hcap hc9
    obtain ⟨i, q, d, n, A1, A, c, out, rfl, rfl, hqd, hd9, hqN, hnN, HIQ, HNI, HA1, HN, HR, HO, HB⟩ := hrel
    have hlen : i + q = S.length := by have h1 := HIQ.out; have h2 := HNN.out; omega
    by_cases hlt : 0 < q
    · have hki : (0 : Int) < (q : Int) := by omega
      have dlt : decide ((0 : Int) < (q : Int)) = true := by simp; omega
      obtain rfl := HA1.out hlt
      have hat := HAT.out (by omega)
      have hgw : g < wr.heap.size := Nat.lt_of_lt_of_le hat.1 HB.out.size
      have hS1 : i < S.length := by omega
      obtain ⟨b0, hb0⟩ : ∃ b, S[i].toNat = b := ⟨_, rfl⟩
      have hb0l : b0 < 256 := by rw [← hb0]; exact u8_lt _
      have HCL := Lib.hid (fun (j : Nat) (hj : j < S.length) => show wr.cell? ⟨g, o + j, none⟩ = some (.int .u8 (S[j].toNat : Int)) from (HB.out.cell (p := ⟨g, o + j, none⟩) hat.1).trans (hat.2 j hj).1)
      have x0 : wr.cell? ⟨g, o + i, none⟩ = some (.int .u8 (b0 : Int)) := by rw [HCL.out i hS1, hb0]
      have HHAT := Lib.hid hat
      clear hat
      by_cases h0 : b0 = 0
      · have e0 : ((b0 : Int) == 0) = true := by rw [beq_iff_eq]; omega
        have n0 : (b0 : Int) = 0 := by omega
        have HF := Lib.hid (show R = some out by rw [HR.out, optsD_zero hS1 (by omega)]; simp)
        clear hb0 h0 hlen
        go_wp2_with fail
        (try rw [Exit.noGoto_ret])
        go_ret2
        rw [HF.out]
        exact ⟨A, c, by rw [← HN.out]; rfl, rowl_of_own (E := EOpt) HO.out HN.out, fun hA => by subst hA; exact (own_none HO.out).2, fun a ha => (own_blk_in HO.out a.block (by rw [ha]; rfl)).1, HB.out⟩
      have e0 : ((b0 : Int) == 0) = false := by rw [beq_eq_false_iff_ne]; omega
      have n0 : ¬ (b0 : Int) = 0 := by omega
      by_cases h1 : b0 = 1
      · have e1 : ((b0 : Int) == 1) = true := by rw [beq_iff_eq]; omega
        have n1 : (b0 : Int) = 1 := by omega
        have HF := Lib.hid (show R = (optsD (S.drop (i + 1))).map (fun l => out ++ l) by rw [HR.out, optsD_one hS1 (by omega)])
        have HI1 := Lib.hid (show i + 1 + (q - 1) = N by have := HIQ.out; omega)
        have HNI1 := Lib.hid (show n ≤ i + 1 by have := HNI.out; omega)
        by_cases hd1 : d = 1
        · have HQ0 := Lib.hid (show q - 1 = 0 by omega)
          clear hb0 h0 h1 hlen
          go_wp2_with fail
          go_roundw
          case rel => exact ⟨i + 1, q - 1, 0, n, _, A, c, out, rfl, rfl, by have := HQ0.out; omega, by omega, by omega, hnN, HI1, HNI1, Lib.hid (fun hq => by have := HQ0.out; omega), HN, HF, HO, HB⟩
          case measure => simp only [sliceLen11]; omega
        · clear hb0 h0 h1 hlen
          go_wp2_with fail
          go_roundw
          case rel => exact ⟨i + 1, q - 1, d - 1, n, _, A, c, out, rfl, rfl, by omega, by omega, by omega, hnN, HI1, HNI1, Lib.hid (fun _ => rfl), HN, HF, HO, HB⟩
          case measure => simp only [sliceLen11]; omega
      have e1 : ((b0 : Int) == 1) = false := by rw [beq_eq_false_iff_ne]; omega
      have n1 : ¬ (b0 : Int) = 1 := by omega
      by_cases h2 : q < 2
      · have d2 : decide ((q : Int) < 2) = true := by simp; omega
        have n2 : (q : Int) < 2 := by omega
        have HF := Lib.hid (show R = none by rw [HR.out, optsD_last hS1 (by omega) (by omega) (by omega)]; rfl)
        clear hb0 h0 h1 hlen h2
        go_wp2_with fail
        (try rw [Exit.noGoto_ret])
        go_ret2
        rw [HF.out]
        exact ⟨rfl, HB.out⟩
      have d2 : decide ((q : Int) < 2) = false := by simp; omega
      have n2 : ¬ (q : Int) < 2 := by omega
      have hq1 : (1 : Int) < (q : Int) := by omega
      have hS2 : i + 1 < S.length := by omega
      obtain ⟨b1, hb1⟩ : ∃ b, S[i + 1].toNat = b := ⟨_, rfl⟩
      have hb1l : b1 < 256 := by rw [← hb1]; exact u8_lt _
      have x1 : wr.cell? ⟨g, o + i + 1, none⟩ = some (.int .u8 (b1 : Int)) := by rw [Nat.add_assoc, HCL.out (i + 1) hS2, hb1]
      have wb1 : IntKind.i64.wrap (b1 : Int) = (b1 : Int) := by rw [IntKind.wrap_i64]; omega
      by_cases h3 : b1 < 2
      · have d3 : decide ((b1 : Int) < 2) = true := by simp; omega
        have n3 : (b1 : Int) < 2 := by omega
        have HF := Lib.hid (show R = none by rw [HR.out, optsD_bad hS2 (by omega) (by omega) (.inl (by omega))]; rfl)
        clear hb0 hb1 h0 h1 hlen h2 h3
        go_wp2_with fail
        (try rw [Exit.noGoto_ret])
        go_ret2
        rw [HF.out]
        exact ⟨rfl, HB.out⟩
      have d3 : decide ((b1 : Int) < 2) = false := by simp; omega
      have n3 : ¬ (b1 : Int) < 2 := by omega
      by_cases h4 : q < b1
      · have d4 : decide ((q : Int) < (b1 : Int)) = true := by simp; omega
        have n4 : (q : Int) < (b1 : Int) := by omega
        have HF := Lib.hid (show R = none by rw [HR.out, optsD_bad hS2 (by omega) (by omega) (.inr (by omega))]; rfl)
        clear hb0 hb1 h0 h1 hlen h2 h3 h4
        go_wp2_with fail
        (try rw [Exit.noGoto_ret])
        go_ret2
        rw [HF.out]
        exact ⟨rfl, HB.out⟩
      have d4 : decide ((q : Int) < (b1 : Int)) = false := by simp; omega
      have n4 : ¬ (q : Int) < (b1 : Int) := by omega
      have wb : IntKind.i64.wrap (b0 : Int) = (b0 : Int) := by rw [IntKind.wrap_i64]; omega
      have hb2 : 2 ≤ b1 := by omega
      have hb2i : (2 : Int) ≤ (b1 : Int) := by omega
      have hb1d : b1 ≤ d := by omega
      have hb1di : (b1 : Int) ≤ (d : Int) := by omega
      have hb1q : b1 ≤ q := by omega
      have HF := Lib.hid (show R = (optsD (S.drop (i + b1))).map (fun l => (out ++ [⟨(b0 : Int), (S.drop (i + 2)).take (b1 - 2)⟩]) ++ l) by
        rw [HR.out, optsD_opt hS2 (by omega) (by omega) (by omega) (by omega), hb1, hb0]
        cases optsD (S.drop (i + b1)) <;> simp)
      obtain ⟨Ad, hAd⟩ : ∃ Ad : Option Addr, Ad = (if b1 = 2 then some ⟨g, o + i, none⟩ else some ⟨g, o + i + 2, none⟩) := ⟨_, rfl⟩
      have hcv0 : ∀ W : World, Below w.heap.size w W → (convert 46 9 (.slice Ad (b1 - 2) (b1 - 2))).run Try.prog W = .ok (.string (str ((S.drop (i + 2)).take (b1 - 2)))) W := fun W hW => by
        have hb := HHAT.out.bs hW (i + 2) (b1 - 2) (b1 - 2) (by omega) (Nat.le_refl _) Ad (fun hp => by rw [hAd, if_neg (by omega), Nat.add_assoc])
        have h2 := bs_string hb
        rwa [show ((S.drop (i + 2)).take (b1 - 2)).length = b1 - 2 by rw [List.length_take, List.length_drop]; omega] at h2
      have hcv := hcv0 wr HB.out
      have hcvd : (convert 46 9 (.slice Ad (b1 - 2) (b1 - 2))).run Try.prog wr.drew = .ok (.string (str ((S.drop (i + 2)).take (b1 - 2)))) wr.drew := hcv0 wr.drew ⟨HB.out.os, HB.out.tape, HB.out.output, HB.out.size, HB.out.block⟩
      obtain ⟨x, hx⟩ : ∃ x : OpR, x = ⟨(b0 : Int), (S.drop (i + 2)).take (b1 - 2)⟩ := ⟨_, rfl⟩
      rw [← hx] at HF
      have HXC := Lib.hid (show EOpt.cells [x] = [.int .i64 (b0 : Int), .string (str ((S.drop (i + 2)).take (b1 - 2)))] by rw [hx]; rfl)
      generalize str ((S.drop (i + 2)).take (b1 - 2)) = D at *
      have HI1 := Lib.hid (show i + b1 + (q - b1) = N by have := HIQ.out; omega)
      have hn9 : n + 1 ≤ 1000000 := by have h1 := HNI.out; have h2 := HIQ.out; omega
      have hbz : w.heap.size ≤ wr.heap.size := HB.out.size
      have HNI1 := Lib.hid (show n + 1 ≤ i + b1 by have := HNI.out; omega)
      have HAD := Lib.hid hAd
      have HNN1 := Lib.hid (show n + 1 ≤ N by have h1 := HNI1.out; have h2 := HIQ.out; omega)
      clear hb0 hb1 h0 h1 hlen h2 h3 h4 hx hcv0 hAd
      by_cases hs2 : b1 = 2
      · skip
        by_cases hdc : d = b1
        · have HQ0 := Lib.hid (show q - b1 = 0 by omega)
          have hAd := HAD.out
          rw [if_pos hs2] at hAd
          subst hAd
          subst hs2
          go_wp2_with fail
          go_region_law ((refine step_push (E := EOpt) optTy (by rfl) _ _ (by rfl) w.heap.size (.slice A n c) n out [x] (by rfl) ((HO.out.alloc _).drew) wr.heap.size 1 1 #[.int .i64 (b0 : Int), .string D] (0, 0) (by rfl) (heap_alloc_new wr _) HXC.out.symm rfl (by omega) (by omega) (by decide) (Nat.le_trans hbz (Nat.le_of_lt (alloc_lt6 wr _))) ?_; intro g2 cap2 wz hown hgrow hat hlt2))
          all_goals
            have HB9 := Lib.hid ((HB.out.alloc HB.out.size (.cells #[.int .i64 (b0 : Int), .string D] 50)).grown (show (wr.alloc (.cells #[.int .i64 (b0 : Int), .string D] 50)).grownBy wz _ from ⟨hgrow.os, hgrow.tape, hgrow.output, hgrow.size, hgrow.block⟩) (by have := HB.out.size; simp; omega) (fun j hj => (own_blk_in HO.out _ hj).1))
            have HO9 := Lib.hid (show wz.ownsRow w.heap.size 50 2 (.slice (some ⟨g2, 0, none⟩) (n + 1) cap2) (n + 1) (EOpt.cells (out ++ [x])) from hown)
            have HN9 := Lib.hid (show n + 1 = (out ++ [x]).length by rw [List.length_append, HN.out]; rfl)
            clear hown hgrow hat hlt2 HB HO x0 x1
            go_wp2_with fail
            go_roundw
            case rel => exact ⟨i + 2, q - 2, 0, n + 1, _, some ⟨g2, 0, none⟩, cap2, out ++ [x], rfl, rfl, by have := HQ0.out; omega, by omega, by omega, HNN1.out, HI1, HNI1, Lib.hid (fun hq => by have := HQ0.out; omega), HN9, HF, HO9, HB9⟩
            case measure => simp only [sliceLen11]; omega
        · have hAd := HAD.out
          rw [if_pos hs2] at hAd
          subst hAd
          subst hs2
          go_wp2_with fail
          go_region_law ((refine step_push (E := EOpt) optTy (by rfl) _ _ (by rfl) w.heap.size (.slice A n c) n out [x] (by rfl) ((HO.out.alloc _).drew) wr.heap.size 1 1 #[.int .i64 (b0 : Int), .string D] (0, 0) (by rfl) (heap_alloc_new wr _) HXC.out.symm rfl (by omega) (by omega) (by decide) (Nat.le_trans hbz (Nat.le_of_lt (alloc_lt6 wr _))) ?_; intro g2 cap2 wz hown hgrow hat hlt2))
          all_goals
            have HB9 := Lib.hid ((HB.out.alloc HB.out.size (.cells #[.int .i64 (b0 : Int), .string D] 50)).grown (show (wr.alloc (.cells #[.int .i64 (b0 : Int), .string D] 50)).grownBy wz _ from ⟨hgrow.os, hgrow.tape, hgrow.output, hgrow.size, hgrow.block⟩) (by have := HB.out.size; simp; omega) (fun j hj => (own_blk_in HO.out _ hj).1))
            have HO9 := Lib.hid (show wz.ownsRow w.heap.size 50 2 (.slice (some ⟨g2, 0, none⟩) (n + 1) cap2) (n + 1) (EOpt.cells (out ++ [x])) from hown)
            have HN9 := Lib.hid (show n + 1 = (out ++ [x]).length by rw [List.length_append, HN.out]; rfl)
            clear hown hgrow hat hlt2 HB HO x0 x1
            go_wp2_with fail
            go_roundw
            case rel => exact ⟨i + 2, q - 2, d - 2, n + 1, _, some ⟨g2, 0, none⟩, cap2, out ++ [x], rfl, rfl, by omega, by omega, by omega, HNN1.out, HI1, HNI1, Lib.hid (fun hq => by first | rfl | (congr 2; omega)), HN9, HF, HO9, HB9⟩
            case measure => simp only [sliceLen11]; omega
      · skip
        by_cases hdc : d = b1
        · have HQ0 := Lib.hid (show q - b1 = 0 by omega)
          have hAd := HAD.out
          rw [if_neg hs2] at hAd
          subst hAd
          go_wp2_with fail
          go_region_law ((refine step_push (E := EOpt) optTy (by rfl) _ _ (by rfl) w.heap.size (.slice A n c) n out [x] (by rfl) ((HO.out.alloc _).drew) wr.heap.size 1 1 #[.int .i64 (b0 : Int), .string D] (0, 0) (by rfl) (heap_alloc_new wr _) HXC.out.symm rfl (by omega) (by omega) (by decide) (Nat.le_trans hbz (Nat.le_of_lt (alloc_lt6 wr _))) ?_; intro g2 cap2 wz hown hgrow hat hlt2))
          all_goals
            have HB9 := Lib.hid ((HB.out.alloc HB.out.size (.cells #[.int .i64 (b0 : Int), .string D] 50)).grown (show (wr.alloc (.cells #[.int .i64 (b0 : Int), .string D] 50)).grownBy wz _ from ⟨hgrow.os, hgrow.tape, hgrow.output, hgrow.size, hgrow.block⟩) (by have := HB.out.size; simp; omega) (fun j hj => (own_blk_in HO.out _ hj).1))
            have HO9 := Lib.hid (show wz.ownsRow w.heap.size 50 2 (.slice (some ⟨g2, 0, none⟩) (n + 1) cap2) (n + 1) (EOpt.cells (out ++ [x])) from hown)
            have HN9 := Lib.hid (show n + 1 = (out ++ [x]).length by rw [List.length_append, HN.out]; rfl)
            clear hown hgrow hat hlt2 HB HO x0 x1
            go_wp2_with fail
            go_roundw
            case rel => exact ⟨i + b1, q - b1, 0, n + 1, _, some ⟨g2, 0, none⟩, cap2, out ++ [x], rfl, rfl, by have := HQ0.out; omega, by omega, by omega, HNN1.out, HI1, HNI1, Lib.hid (fun hq => by have := HQ0.out; omega), HN9, HF, HO9, HB9⟩
            case measure => simp only [sliceLen11]; omega
        · have hAd := HAD.out
          rw [if_neg hs2] at hAd
          subst hAd
          go_wp2_with fail
          go_region_law ((refine step_push (E := EOpt) optTy (by rfl) _ _ (by rfl) w.heap.size (.slice A n c) n out [x] (by rfl) ((HO.out.alloc _).drew) wr.heap.size 1 1 #[.int .i64 (b0 : Int), .string D] (0, 0) (by rfl) (heap_alloc_new wr _) HXC.out.symm rfl (by omega) (by omega) (by decide) (Nat.le_trans hbz (Nat.le_of_lt (alloc_lt6 wr _))) ?_; intro g2 cap2 wz hown hgrow hat hlt2))
          all_goals
            have HB9 := Lib.hid ((HB.out.alloc HB.out.size (.cells #[.int .i64 (b0 : Int), .string D] 50)).grown (show (wr.alloc (.cells #[.int .i64 (b0 : Int), .string D] 50)).grownBy wz _ from ⟨hgrow.os, hgrow.tape, hgrow.output, hgrow.size, hgrow.block⟩) (by have := HB.out.size; simp; omega) (fun j hj => (own_blk_in HO.out _ hj).1))
            have HO9 := Lib.hid (show wz.ownsRow w.heap.size 50 2 (.slice (some ⟨g2, 0, none⟩) (n + 1) cap2) (n + 1) (EOpt.cells (out ++ [x])) from hown)
            have HN9 := Lib.hid (show n + 1 = (out ++ [x]).length by rw [List.length_append, HN.out]; rfl)
            clear hown hgrow hat hlt2 HB HO x0 x1
            go_wp2_with fail
            go_roundw
            case rel => exact ⟨i + b1, q - b1, d - b1, n + 1, _, some ⟨g2, 0, none⟩, cap2, out ++ [x], rfl, rfl, by omega, by omega, by omega, HNN1.out, HI1, HNI1, Lib.hid (fun hq => by first | rfl | (congr 2; omega)), HN9, HF, HO9, HB9⟩
            case measure => simp only [sliceLen11]; omega
    · obtain rfl : q = 0 := by omega
      have dlt : decide ((0 : Int) < ((0 : Nat) : Int)) = false := by simp
      have HF := Lib.hid (show R = some out by rw [HR.out, optsD_end S i (by omega)]; simp)
      go_wp2_with fail
      (try rw [Exit.noGoto_ret])
      go_ret2
      rw [HF.out]
      exact ⟨A, c, by rw [← HN.out]; rfl, rowl_of_own (E := EOpt) HO.out HN.out, fun hA => by subst hA; exact (own_none HO.out).2, fun a ha => (own_blk_in HO.out a.block (by rw [ha]; rfl)).1, HB.out⟩
end Go.Proofs.Ytimilcjlogcfhaa
