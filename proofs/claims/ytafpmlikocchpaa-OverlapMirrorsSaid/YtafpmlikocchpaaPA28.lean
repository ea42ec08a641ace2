/- Contracts of the functions, part 28: BldLay, OvPData, OvPSeg. -/
import Derived.Shelf.LaysM
import Derived.Shelf.Strings.Builder1
import Derived.Test.YtafpmlikocchpaaProg
import Derived.Deep.Cut
import Derived.Lib.LazyBuf
import Derived.Laws.StructEq
import Derived.Test.YtafpmlikocchpaaPA24
/- Contracts of strings.Builder's WriteString and String laid at this seat, in plain words. -/
namespace Go.Proofs.Ytafpmlikocchpaa
open Go.Shelf Go.RowKit Go.Lib
def laysB_ren : Go.Shelf.Ren := ⟨fun | 166 => 41 | 169 => 42 | 240 => 45 | 276 => 47 | n => n, fun | 9 => 9 | 3 => 3 | 4 => 4 | 0 => 0 | 20 => 20 | 72 => 64 | 76 => 67 | 70 => 62 | 37 => 57 | 75 => 66 | 127 => 71 | 164 => 73 | 5 => 5 | 80 => 69 | n => n, fun | n => n⟩
theorem laysB166 : Go.Proofs.Lays.n166 Try.prog laysB_ren := {
  mixed := by kernel_rfl
  f166 := Try.func41.trans (congrArg some (by kernel_rfl))
  f240 := Try.func45.trans (congrArg some (by kernel_rfl))
  f276 := Try.func47.trans (congrArg some (by kernel_rfl))
  t0 := Try.underlying0
  a0 := Try.isAgg0
  z0 := Try.sizeOf0
  v0 := Try.zeroValue0
  t3 := Try.underlying3
  a3 := Try.isAgg3
  z3 := Try.sizeOf3
  v3 := Try.zeroValue3
  t4 := Try.underlying4
  a4 := Try.isAgg4
  z4 := Try.sizeOf4
  v4 := Try.zeroValue4
  t9 := Try.underlying9
  a9 := Try.isAgg9
  z9 := Try.sizeOf9
  v9 := Try.zeroValue9
  t20 := Try.underlying20
  a20 := Try.isAgg20
  z20 := Try.sizeOf20
  v20 := Try.zeroValue20
  t37 := Try.underlying57
  a37 := Try.isAgg57
  z37 := Try.sizeOf57
  v37 := Try.zeroValue57
  t70 := Try.underlying62
  a70 := Try.isAgg62
  z70 := Try.sizeOf62
  v70 := Try.zeroValue62
  t72 := Try.underlying64
  a72 := Try.isAgg64
  z72 := Try.sizeOf64
  v72 := Try.zeroValue64
  t75 := Try.underlying66
  a75 := Try.isAgg66
  z75 := Try.sizeOf66
  v75 := Try.zeroValue66
  t164 := Try.underlying73
  a164 := Try.isAgg73
  z164 := Try.sizeOf73
  v164 := Try.zeroValue73 }
theorem laysB169 : Go.Proofs.Lays.n169 Try.prog laysB_ren := {
  mixed := by kernel_rfl
  f169 := Try.func42.trans (congrArg some (by kernel_rfl))
  t0 := Try.underlying0
  a0 := Try.isAgg0
  z0 := Try.sizeOf0
  v0 := Try.zeroValue0
  t3 := Try.underlying3
  a3 := Try.isAgg3
  z3 := Try.sizeOf3
  v3 := Try.zeroValue3
  t9 := Try.underlying9
  a9 := Try.isAgg9
  z9 := Try.sizeOf9
  v9 := Try.zeroValue9
  t37 := Try.underlying57
  a37 := Try.isAgg57
  z37 := Try.sizeOf57
  v37 := Try.zeroValue57
  t70 := Try.underlying62
  a70 := Try.isAgg62
  z70 := Try.sizeOf62
  v70 := Try.zeroValue62
  t72 := Try.underlying64
  a72 := Try.isAgg64
  z72 := Try.sizeOf64
  v72 := Try.zeroValue64
  t127 := Try.underlying71
  a127 := Try.isAgg71
  z127 := Try.sizeOf71
  v127 := Try.zeroValue71 }
theorem Builder_ExtraB : Builder.Extra Try.prog laysB_ren := {
  sizeBuilder := by kernel_rfl
  liesBuilder := by kernel_rfl
  t5 := Try.underlying5
  a5 := Try.isAgg5
  z5 := Try.sizeOf5
  v5 := Try.zeroValue5
  infoByte := by kernel_rfl
  cellsByte := by kernel_rfl
  sizeByte := by kernel_rfl
  neB5 := by decide }
/-- WriteString: the bytes are behind those that the builder holds. -/
theorem bWrite (B b : Nat) (bs : List Value) (s : ByteArray) (w : World) (h : Lib.IsBuilder 64 5 B b bs w) (hlen : bs.length + s.size ≤ 140737488355328) (hBw : B ≤ w.heap.size) :
    Calls Try.prog 41 #[.pointer (some ⟨b, 0, none⟩), .string s] w fun e w' => e = .returned (.tuple #[.int .i64 s.size, .nilIface]) ∧ (Lib.BuilderAt 64 5 B b (.pointer (some ⟨b, 0, none⟩)) (bs ++ Lib.strCells s) w' ∧ Below B w w') := Any.Builder_WriteString laysB166 Builder_ExtraB B b bs s w h hlen hBw
/-- String: the bytes that the builder holds. -/
theorem bString (B b : Nat) (l : List UInt8) (w : World) (h : Lib.IsBuilder 64 5 B b (Lib.byteCells l) w) (hBw : B ≤ w.heap.size) :
    Calls Try.prog 42 #[.pointer (some ⟨b, 0, none⟩)] w fun e w' => e = .returned (.string ⟨l.toArray⟩) ∧ Below B w w' := Any.Builder_String_any laysB169 Builder_ExtraB B b l w h hBw
end Go.Proofs.Ytafpmlikocchpaa

/- Contracts of the program of layer 15: dataOf, with the library's Builder; Size; Clone. -/
namespace Go.Proofs.Ytafpmlikocchpaa
open Go.ChangeShapes Go.WideShapes Go.ChangeAt Go.RowKit
set_option linter.unusedVariables false
set_option maxRecDepth 100000

theorem bldAt_kept {T e : TypeId} {B b : Nat} {p : Value} {bs : List Value} {w w' : World} (h : Lib.BuilderAt T e B b p bs w) (hb : Below w.heap.size w w') : Lib.BuilderAt T e B b p bs w' := by
  have hl := h.lt
  obtain ⟨hB, v, h1, h2, h3⟩ := h
  exact ⟨hB, v, (hb.block _ hl).trans h1, own_kept h2 hb (Nat.le_refl _), h3⟩
theorem bld_kept {T e : TypeId} {B b : Nat} {bs : List Value} {w w' : World} (h : Lib.IsBuilder T e B b bs w) (hb : Below w.heap.size w w') : Lib.IsBuilder T e B b bs w' := by
  rcases h with h | h
  · exact Or.inl (bldAt_kept h hb)
  · exact Or.inr (bldAt_kept h hb)
set_option maxHeartbeats 8000000 in
theorem pdata15 (l : List PcR) (A : Option Addr) (c : Nat) (w : World) (h : RowL EPc w A l) (hl : l.length ≤ 1000000) (hz : sizeL l ≤ 1000000000) :
    Calls Try.prog 37 #[.slice A l.length c] w fun e w' => e = .returned (.string (str (datL l))) ∧ Below w.heap.size w w' := by
  obtain ⟨n, hnl⟩ : ∃ n, n = l.length := ⟨_, rfl⟩
  rw [← hnl] at hl ⊢
  have HN := Lib.hid hnl
  have HS := Lib.hid h
  have HZ := Lib.hid hz
  obtain ⟨W1, hW1⟩ : ∃ W, W = w.alloc (.cells #[.pointer none, .slice none 0 0] 64) := ⟨_, rfl⟩
  obtain ⟨g, hg⟩ : ∃ g, g = w.heap.size := ⟨_, rfl⟩
  have HBL := Lib.hid (show Lib.IsBuilder 64 5 w.heap.size g (Lib.byteCells []) W1 by rw [hW1, hg]; exact Lib.fresh_isBuilder _ _ w)
  have HB1 := Lib.hid (show Below w.heap.size w W1 by rw [hW1]; exact below_alloc6 w _)
  have HW1 := Lib.hid hW1
  have HG := Lib.hid hg
  clear hnl h hz hW1 hg
  go_enter Try.func37, Try.ntmps37
  go_upto_region 2 with fail
  rw [← HW1.out, ← HG.out]
  clear HW1 HG
  go_wp2_with fail
  go_loopw [8] (fun i wr => ∃ (k : Nat), i = .int .i64 (k : Int) ∧ k ≤ n ∧ Hid (Lib.IsBuilder 64 5 w.heap.size g (Lib.byteCells (datL (l.take k))) wr) ∧ Hid (Below w.heap.size w wr)) (fun i _ => n - (intOf i).toNat)
  case atStart => exact ⟨0, rfl, Nat.zero_le _, HBL, HB1⟩
  case round =>
    clear HBL HB1
    obtain ⟨k, rfl, hk, HO, HB⟩ := hrel
    by_cases hlt : k < n
    · obtain ⟨x, hget⟩ : ∃ x, l[k]? = some x := ⟨l[k]'(by have := HN.out; omega), List.getElem?_eq_getElem _⟩
      obtain ⟨ga, oa, rfl, hga⟩ := HS.out.shapeA (by have := HN.out; omega)
      obtain ⟨a0, a1, a2, a3⟩ := pc_at HS.out hget HB.out
      have hki : (k : Int) < (n : Int) := by omega
      have dlt : decide ((k : Int) < (n : Int)) = true := by simp; omega
      have hki0 : (0 : Int) ≤ (k : Int) := by omega
      have hnx := datL_next hget
      have hsl : (datL (l.take k)).length + x.dat.length ≤ 1000000000 := by
        have e1 := datL_len (l.take (k + 1))
        have e2 := sizeL_take l (k + 1)
        have e3 := HZ.out
        rw [hnx, List.length_append] at e1
        omega
      obtain ⟨p, dat, fr, to_⟩ := x
      dsimp only at a0 a1 a2 a3 hnx hsl
      obtain ⟨D, hD⟩ : ∃ D, D = str dat := ⟨_, rfl⟩
      have hDs : D.size = dat.length := by rw [hD, str_size]
      rw [← hD] at a1
      have hsz : w.heap.size ≤ wr.heap.size := HB.out.size
      have HNX := Lib.hid (show Lib.byteCells (datL (l.take (k + 1))) = Lib.byteCells (datL (l.take k)) ++ Lib.strCells D by rw [hnx, Lib.byteCells_append, hD]; rfl)
      have HLN := Lib.hid (show (Lib.byteCells (datL (l.take k))).length + D.size ≤ 140737488355328 by rw [Lib.byteCells_length, hDs]; omega)
      have HO2 := Lib.hid (fun o => bld_kept HO.out (below_alloc6 wr o))
      have HB2 := Lib.hid (fun o => HB.out.alloc hsz o)
      clear hget hnx hsl hD hDs HO HB
      go_wp2_with fail
      refine (bWrite w.heap.size g _ D _ (HO2.out _) HLN.out (HB2.out _).size).mono ?_
      rintro e wz ⟨rfl, hbz, hbe⟩
      have HO3 := Lib.hid (show Lib.IsBuilder 64 5 w.heap.size g (Lib.byteCells (datL (l.take (k + 1)))) wz by rw [HNX.out]; exact Or.inr hbz)
      have HB3 := Lib.hid (show Below w.heap.size w wz from (HB2.out _).trans hbe)
      clear hbz hbe HO2 HB2 HNX HLN hsz
      go_wp2_with fail
      go_roundw
      case rel => exact ⟨k + 1, by go_num, by omega, HO3, HB3⟩
      case measure => simp [intOf]; omega
    · obtain rfl : k = n := by omega
      have hd : decide ((k : Int) < (k : Int)) = false := by simp
      have HE := Lib.hid (show Lib.IsBuilder 64 5 w.heap.size g (Lib.byteCells (datL l)) wr by have := HO.out; rwa [HN.out, List.take_length] at this)
      have hsz : w.heap.size ≤ wr.heap.size := HB.out.size
      go_wp2_with fail
      refine (bString w.heap.size g (datL l) _ HE.out hsz).mono ?_
      rintro e wz ⟨rfl, hbe⟩
      have HB3 := Lib.hid (show Below w.heap.size w wz from HB.out.trans hbe)
      go_wp2_with fail
      go_ret
      exact ⟨rfl, HB3.out⟩

set_option maxHeartbeats 8000000 in
theorem psize15_any (l : List PcR) (A : Option Addr) (c : Nat) (w : World) (h : RowL EPc w A l) (hl : l.length ≤ 1000000) (hz : sizeL l ≤ 4611686018427387904) :
    Calls Try.prog 23 #[.slice A l.length c] w fun e w' => e = .returned (.int .i64 (sizeL l : Int)) ∧ Below w.heap.size w w' := by
  obtain ⟨n, hnl⟩ : ∃ n, n = l.length := ⟨_, rfl⟩
  obtain ⟨Q, hQ⟩ : ∃ Q, Q = sizeL l := ⟨_, rfl⟩
  rw [← hnl] at hl ⊢
  rw [← hQ] at hz ⊢
  have HN := Lib.hid hnl
  have HQ := Lib.hid hQ
  have HS := Lib.hid h
  clear hnl h hQ
  go_enter Try.func23, Try.ntmps23
  go_wp2_with fail
  go_loopw [3, 8] (fun s i wr => ∃ k m : Nat, s = .int .i64 (m : Int) ∧ i = .int .i64 (k : Int) ∧ k ≤ n ∧ m ≤ Q ∧ Hid (m = sizeL (l.take k)) ∧ Hid (Below w.heap.size w wr)) (fun _ i _ => n - (intOf i).toNat)
  case atStart => exact ⟨0, 0, rfl, rfl, Nat.zero_le _, Nat.zero_le _, Lib.hid (by simp [sizeL]), Lib.hid (Below.refl _ _)⟩
  case round =>
    obtain ⟨k, m, rfl, rfl, hk, hm, HM, HB⟩ := hrel
    by_cases hlt : k < n
    · obtain ⟨x, hget⟩ : ∃ x, l[k]? = some x := ⟨l[k]'(by have := HN.out; omega), List.getElem?_eq_getElem _⟩
      obtain ⟨ga, oa, rfl, hga⟩ := HS.out.shapeA (by have := HN.out; omega)
      obtain ⟨a0, a1, a2, a3⟩ := pc_at HS.out hget HB.out
      have hki : (k : Int) < (n : Int) := by omega
      have dlt : decide ((k : Int) < (n : Int)) = true := by simp; omega
      have hki0 : (0 : Int) ≤ (k : Int) := by omega
      have hnx := sizeL_next hget
      have hle := sizeL_take l (k + 1)
      rw [← HQ.out, hnx, ← HM.out] at hle
      rw [← HM.out] at hnx
      obtain ⟨p, dat, fr, to_⟩ := x
      dsimp only at a0 a1 a2 a3 hnx hle
      obtain ⟨D, hD⟩ : ∃ D, D = str dat := ⟨_, rfl⟩
      have hDs : D.size = dat.length := by rw [hD, str_size]
      rw [← hDs] at hle hnx
      rw [← hD] at a1
      obtain ⟨m2, hm2⟩ : ∃ m2, m2 = m + D.size := ⟨_, rfl⟩
      have km : (m : Int) + (D.size : Int) = (m2 : Int) := by omega
      have hmq : m2 ≤ Q := by omega
      have HM2 := Lib.hid (show m2 = sizeL (l.take (k + 1)) by rw [hnx, hm2])
      have HB2 := Lib.hid (HB.out.alloc HB.out.size (.cells #[.int .i64 p, .string D, .int .i64 fr, .int .i64 to_] 23))
      clear hget hnx hle hD hDs hm2 HM
      go_wp2_with fail
      go_roundw
      case rel => exact ⟨k + 1, m2, rfl, by go_num, by omega, hmq, HM2, HB2⟩
      case measure => simp [intOf]; omega
    · obtain rfl : k = n := by omega
      have hd : decide ((k : Int) < (k : Int)) = false := by simp
      have HE := Lib.hid (show m = Q by rw [HM.out, HQ.out, HN.out, List.take_length])
      go_wp2_with fail
      go_ret
      exact ⟨by rw [HE.out]; rfl, HB.out⟩
/-- A new list of pieces. -/
def NewP (l : List PcR) (w : World) (e : Ending) (w' : World) : Prop :=
  ∃ A c, e = .returned (.slice A l.length c) ∧ RowL EPc w' A l ∧ (A = none → c = 0) ∧ (∀ b, A = some b → w.heap.size ≤ b.block) ∧ Below w.heap.size w w'
set_option maxHeartbeats 4000000 in
set_option maxRecDepth 20000 in
theorem pclone15_any (A : Option Addr) (c : Nat) (l : List PcR) (w : World) (h : RowL EPc w A l) (hl : l.length ≤ 100000) :
    Calls Try.prog 27 #[.slice A l.length c] w (NewP l w) := by
  cases A with
  | none =>
    have hl0 : l = [] := by
      cases l with
      | nil => rfl
      | cons y r =>
        obtain ⟨g, o, e, _⟩ := h (by simp)
        cases e
    subst hl0
    have qT : ∀ W, (binOp .eql 26 (.slice none 0 c) (.slice none 0 0)).run Try.prog W = .ok (.bool true) W := fun W => run_eql_slice_nil W _ _ none 0 c Try.underlying26
    simp only [List.length_nil]
    go_enter Try.func27, Try.ntmps27
    go_wp2_with fail
    go_ret
    exact ⟨none, 0, rfl, RowL.nil _ _, fun _ => rfl, fun b hb => (by cases hb), Below.refl _ _⟩
  | some ad =>
    obtain ⟨n, hn⟩ : ∃ n, n = l.length := ⟨_, rfl⟩
    rw [← hn] at hl ⊢
    have qT : ∀ W, (binOp .eql 26 (.slice (some ad) n c) (.slice none 0 0)).run Try.prog W = .ok (.bool false) W := fun W => run_eql_slice_nil W _ _ (some ad) n c Try.underlying26
    have HN := Lib.hid hn
    have HB := Lib.hid (below_alloc6 w (.cells #[] 23))
    have HS := Lib.hid (h.kept HB.out)
    have HO := Lib.hid (own_empty EPc w 23 (Nat.le_refl w.heap.size))
    clear hn h
    go_enter Try.func27, Try.ntmps27
    go_wp2_with (at_builtin; refine wpList_cat (E := EPc) pcTy (by rfl) _ _ (by rfl) w.heap.size _ 0 [] l (by rfl) HO.out (some ad) n c (by rfl) HN.out (fun h => by cases h) HS.out (by omega) (by decide) HB.out.size ?_)
    intro A' c' w' hown hgr
    try simp only [Nat.zero_add, List.nil_append] at hown
    try simp only [Nat.zero_add]
    have HF := Lib.hid (show NewP l w (.returned (.slice A' l.length c')) w' from ⟨A', c', rfl, rowl_of_own (E := EPc) hown HN.out, fun hA => by subst hA; exact (own_none hown).2, fun b hb => (own_blk_in hown b.block (by rw [hb]; rfl)).1,
      ((HB.out).grown hgr HB.out.size (fun j hj => by have := (own_blk_in HO.out _ hj).1; exact this))⟩)
    rw [← HN.out] at HF
    clear hown hgr
    go_wp2_with fail
    go_ret
    exact HF.out
end Go.Proofs.Ytafpmlikocchpaa

/- The comparison of two arrays of two numbers. -/
namespace Go.Proofs.Ytafpmlikocchpaa
open Go.ChangeShapes Go.WideShapes Go.ChangeAt Go.RowKit
set_option linter.unusedVariables false
set_option maxRecDepth 100000
theorem seg_guard : Try.prog.eqGuardType Try.prog.depth 60 = false := by kernel_rfl
theorem seg_eql (f t f' t' : Int) (W : World) :
    (binOp .eql 60 (.agg #[.int .i64 f, .int .i64 t]) (.agg #[.int .i64 f', .int .i64 t'])).run Try.prog W = .ok (.bool (f == f' && t == t')) W := by
  have u3 := Try.underlying3
  have a3 := Try.isAgg3
  have z3 := Try.sizeOf3
  have h : (Op.equalIn (9999 + 1) 60 (.agg #[.int .i64 f, .int .i64 t]) (.agg #[.int .i64 f', .int .i64 t'])).run Try.prog W = .ok (f == f' && t == t') W := by
    unfold Op.equalIn
    simp [run_underlying Try.underlying60, z3]
    simp only [List.range']
    simp [part, a3, run_equalIn_int W 9998 _ _ _ _ _ u3]
    cases h1 : (f == f') <;> cases h2 : (t == t') <;> simp_all
  rw [run_eql_struct, show (10000 : Nat) = 9999 + 1 from rfl, h]
  rfl
end Go.Proofs.Ytafpmlikocchpaa
