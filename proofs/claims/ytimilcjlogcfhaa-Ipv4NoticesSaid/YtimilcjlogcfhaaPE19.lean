/- Contracts of the functions, part 19: Eu8, Ip4PByt. -/
import Derived.Lib.AppendStr
import Derived.Test.YtimilcjlogcfhaaPE1
import Derived.Test.YtimilcjlogcfhaaPE4
import Derived.Test.YtimilcjlogcfhaaPE5
import Derived.Test.YtimilcjlogcfhaaPE6
import Derived.Test.YtimilcjlogcfhaaPE17
/- Bytes as elements of a row that the call owns; Put of the program, of a number that fits. -/
namespace Go.Proofs.Ytimilcjlogcfhaa
open Go.ChangeShapes Go.WideShapes Go.ChangeAt Go.RowKit
set_option linter.unusedVariables false

/-- Bytes as elements. -/
def EU8 : Enc UInt8 := ⟨1, by decide, fun x => [.int .u8 (x.toNat : Int)], fun _ => rfl, fun s v hv => by
  simp only [List.mem_cons, List.not_mem_nil, or_false] at hv
  subst hv
  rfl⟩
theorem u8Ty10 : ElemTy 46 5 1 1 :=
  ⟨Try.underlying46, by
    obtain ⟨i, h1, h2, h3, h4⟩ := info_parts info5
    exact ⟨i, _, h1, h2, h3, h4, rfl⟩⟩
theorem eu8_cells (l : List UInt8) : EU8.cells l = cellsOf l := by
  induction l with
  | nil => rfl
  | cons a r ih => rw [Enc.cells_cons, ih]; rfl
/-- Put of the program, of a number that fits. -/
theorem pputB_any (k n : Nat) (N Z : Int) (hN : (n : Int) = N) (hZ : (k : Int) = Z) (hk : 1 ≤ k) (hk7 : k ≤ 7) (hn : n < 256 ^ k) (hn9 : n ≤ 9223372036854775807) (w : World) :
    Calls Try.prog 35 #[.int .i64 N, .int .i64 Z] w fun e w' => e = .returned (.string (str (beL k n))) ∧ Below w.heap.size w w' := by
  subst hN hZ
  have := put_yes (n : Int) (k : Int) w (by omega) (by omega) (by omega) (by omega) (by rw [Int.toNat_natCast, Int.toNat_natCast]; exact hn)
  rwa [Int.toNat_natCast, Int.toNat_natCast] at this
end Go.Proofs.Ytimilcjlogcfhaa

/- Contract of the program of layer 11: optionBytes. -/
namespace Go.Proofs.Ytimilcjlogcfhaa
open Go.ChangeShapes Go.WideShapes Go.ChangeAt Go.RowKit
set_option linter.unusedVariables false

theorem len_wrOs (l : List OpR) : l.length ≤ (wrOs l).length := by
  induction l with
  | nil => exact Nat.zero_le _
  | cons a r ih => rw [wrOs_cons, List.length_append, wrO_len, List.length_cons]; omega
theorem own_str11 {w : World} {base n c : Nat} {A : Option Addr} {l : List UInt8} (h : w.ownsRow base 5 1 (.slice A n c) n (cellsOf l)) (hn : n = l.length) : (convert 46 9 (.slice A n c)).run Try.prog w = .ok (.string (str l)) w := by
  subst hn
  exact bs_string (bs_of_own h)
theorem strCells_str (L : List UInt8) : Lib.strCells (str L) = cellsOf L := by
  unfold Lib.strCells
  rw [str_toList]
  rfl
theorem cellsOf_app (a b : List UInt8) : cellsOf (a ++ b) = cellsOf a ++ cellsOf b := by unfold cellsOf; simp
def lenOf11 : Value → Nat
  | .slice _ n _ => n
  | _ => 0
set_option maxHeartbeats 4000000 in
set_option maxRecDepth 20000 in
theorem pbytes11_any (A : Option Addr) (c : Nat) (l : List OpR) (w : World) (h : RowL EOpt w A l) (hl : (wrOs l).length ≤ 40) (hk : okK l) :
    Calls Try.prog 34 #[.slice A l.length c] w fun e w' => e = .returned (.string (str (wrP l))) ∧ Below w.heap.size w w' := by
  obtain ⟨i0, hi, hz0, hz1, hz2⟩ := info_parts info5
  obtain ⟨n, hn⟩ : ∃ n, n = l.length := ⟨_, rfl⟩
  rw [← hn]
  have HN := Lib.hid hn
  have HS := Lib.hid h
  have HL := Lib.hid hl
  have HK := Lib.hid hk
  have hn40 : n ≤ 40 := by rw [hn]; exact Nat.le_trans (len_wrOs l) hl
  have HO0 := Lib.hid (show w.ownsRow w.heap.size 5 1 (.slice none 0 0) 0 (cellsOf []) from World.ownsRow_nil w w.heap.size 5 1)
  clear hn h hl hk
  go_enter Try.func34, Try.ntmps34
  go_wp2_with fail
  go_loopw [3, 8] (fun v3 v8 wr => ∃ (k m : Nat) (A2 : Option Addr) (c2 : Nat), v3 = .slice A2 m c2 ∧ v8 = .int .i64 (k : Int) ∧ k ≤ n ∧ m ≤ 40 ∧ Hid (m = (wrOs (l.take k)).length) ∧ Hid (wr.ownsRow w.heap.size 5 1 (.slice A2 m c2) m (cellsOf (wrOs (l.take k)))) ∧ Hid (Below w.heap.size w wr)) (fun _ v8 _ => n - (intOf v8).toNat)
  case atStart => exact ⟨0, 0, none, 0, rfl, rfl, Nat.zero_le _, by omega, Lib.hid rfl, HO0, Lib.hid (Below.refl _ _)⟩
  case round =>
    clear HO0
    obtain ⟨k, m, A2, c2, rfl, rfl, hk, hm40, HM, HO, HB⟩ := hrel
    by_cases hlt : k < n
    · have hki : (k : Int) < (n : Int) := by omega
      have hki0 : (0 : Int) ≤ (k : Int) := by omega
      have dlt : decide ((k : Int) < (n : Int)) = true := by simp; omega
      obtain ⟨x, hget⟩ : ∃ x, l[k]? = some x := ⟨l[k]'(by have := HN.out; omega), List.getElem?_eq_getElem _⟩
      obtain ⟨g, ob, rfl, hg⟩ := HS.out.shapeA (by have := HN.out; omega)
      obtain ⟨c0, c1⟩ := opt_at HS.out hget HB.out
      obtain ⟨hx1, hx2⟩ := HK.out x (List.mem_of_getElem? hget)
      have htk := wrOs_take l (k + 1)
      rw [wrOs_next hget, List.length_append, wrO_len] at htk
      have hy40 : m + (2 + x.dat.length) ≤ 40 := by have h1 := HL.out; have h2 := HM.out; omega
      have HNX := Lib.hid (wrOs_next hget)
      obtain ⟨a, ha⟩ : ∃ a : Nat, x.kd = (a : Int) := ⟨x.kd.toNat, by omega⟩
      have HWO := Lib.hid (show wrO x = [UInt8.ofNat a, UInt8.ofNat (2 + x.dat.length)] ++ x.dat by unfold wrO; rw [ha, Int.toNat_natCast]; rfl)
      have hax := Lib.hid ha
      rw [ha] at c0
      have ha255 : a < 256 := by omega
      obtain ⟨y, hy⟩ : ∃ y, y = x.dat.length := ⟨_, rfl⟩
      have hsz : (str x.dat).size = y := by rw [str_size, hy]
      obtain ⟨b, hb⟩ : ∃ b, b = 2 + y := ⟨_, rfl⟩
      have hbi : (2 : Int) + (y : Int) = (b : Int) := by omega
      rw [← hy] at hy40 HWO
      rw [← hb] at HWO
      have hb255 : b < 256 := by omega
      have ua : IntKind.u8.wrap (a : Int) = (a : Int) := by rw [IntKind.wrap_u8]; omega
      have ub : IntKind.u8.wrap (b : Int) = (b : Int) := by rw [IntKind.wrap_u8]; omega
      have HAB := Lib.hid (show EU8.cells [UInt8.ofNat a, UInt8.ofNat b] = [.int .u8 (a : Int), .int .u8 (b : Int)] by
        show [Value.int .u8 ((UInt8.ofNat a).toNat : Int), Value.int .u8 ((UInt8.ofNat b).toNat : Int)] = _
        rw [u8n ha255, u8n hb255])
      have HSC := Lib.hid (strCells_str x.dat)
      have hgw : g < wr.heap.size := Nat.lt_of_lt_of_le hg HB.out.size
      have hbw := HB.out.size
      have HBW := Lib.hid hbw
      have hX : Cells (wr.alloc (.cells #[.int .i64 (a : Int), .string (str x.dat)] 50)) wr.heap.size 50 #[.int .i64 (a : Int), .string (str x.dat)] := heap_alloc_new wr _
      have HXX := Lib.hid (fun (W : World) (hW : Cells W wr.heap.size 50 #[.int .i64 (a : Int), .string (str x.dat)]) => (Cells.cell hW 1).trans (show _ = some (Value.string (str x.dat)) from rfl))
      have hO := HO.out
      rw [← eu8_cells] at hO
      have HOE := Lib.hid hO
      have HX := Lib.hid hX
      have HB2 := Lib.hid (HB.out.alloc HB.out.size (.cells #[.int .i64 (a : Int), .string (str x.dat)] 50))
      have hmb : m + b + y ≤ 200 := by omega
      have hsy : (str x.dat).size ≤ 40 := by omega
      have hxs : b = 2 + y := hb
      have HBY := Lib.hid hb
      have HYD := Lib.hid hy
      generalize str x.dat = D at *
      clear hget htk hx1 hx2 ha hy hb hX hO HO hxs
      go_wp2_with (at_builtin; refine wpList_push (E := EU8) u8Ty10 (by rfl) _ _ (by rfl) w.heap.size _ m (wrOs (l.take k)) [UInt8.ofNat a, UInt8.ofNat b] (by rfl) ((HOE.out.alloc _).alloc _) _ 2 2 #[.int .u8 (a : Int), .int .u8 (b : Int)] (0, 0) (by rfl) (alloc2_1 _ _ _) HAB.out.symm rfl (by omega) (by omega) (by decide) ?hb ?_)
      case hb => have := HBW.out; simp; omega
      intro g2 cap2 w9 hown hgrow hat hlt2
      have HX9 := Lib.hid ((HX.out.kept (below_alloc6 _ _) HX.out.lt).only hgrow (fun e => by
        have := (own_blk_in HOE.out _ e.symm).2
        omega))
      have hb9 := (HB2.out.alloc HB2.out.size (.cells #[.int .u8 (a : Int), .int .u8 (b : Int)] 5)).grown hgrow (by have := HBW.out; simp; omega) (fun j hj => (own_blk_in HOE.out _ hj).1)
      have HB9 := Lib.hid hb9
      have x1 := HXX.out w9 HX9.out
      have HO9 := Lib.hid (show w9.ownsRow w.heap.size 5 1 (.slice (some ⟨g2, 0, none⟩) (m + 2) cap2) (m + 2) (cellsOf (wrOs (l.take k) ++ [UInt8.ofNat a, UInt8.ofNat b])) by rw [← eu8_cells]; exact hown)
      have hbs9 : w.heap.size ≤ w9.heap.size := hb9.size
      have HEQ := Lib.hid (show cellsOf (wrOs (l.take k) ++ [UInt8.ofNat a, UInt8.ofNat b]) ++ cellsOf x.dat = cellsOf (wrOs (l.take (k + 1))) by rw [HNX.out, HWO.out, ← cellsOf_app]; simp)
      clear hown hgrow hat hlt2 hb9 HB2 HOE HX c0 c1 HAB HXX HB
      go_wp2_with (at_builtin; refine Lib.wpList_append_own_string _ rfl _ _ 46 9 rfl w.heap.size 5 i0 Try.underlying46 Try.underlying9 hi hz0 hz1 hz2 _ (m + 2) _ rfl HO9.out D rfl ?c3 ?c4 ?c5 ?_)
      case c3 => unfold maxLen; omega
      case c4 => omega
      case c5 => exact hbs9
      intro v' w3 hown3 hgrow _
      rw [HSC.out, HEQ.out] at hown3
      obtain ⟨A3, c3, rfl⟩ := own_shape hown3
      have HB3 := Lib.hid (HB9.out.grown hgrow hbs9 (fun j hj => (own_blk_in HO9.out _ hj).1))
      have HO3 := Lib.hid hown3
      have HM3 := Lib.hid (show m + 2 + y = (wrOs (l.take (k + 1))).length by
        have := HO3.out.1
        rw [cellsOf_length] at this
        omega)
      have hm3 : m + 2 + y ≤ 40 := by omega
      clear hown3 hgrow HB9 HO9 x1 HX9
      go_wp2_with fail
      go_roundw
      case rel => exact ⟨k + 1, _, A3, c3, rfl, by go_num, by omega, hm3, HM3, HO3, HB3⟩
      case measure => simp [intOf]; omega
    · obtain rfl : k = n := by omega
      have dlt : decide ((k : Int) < (k : Int)) = false := by simp
      have nlt : ¬ (k : Int) < (k : Int) := by omega
      have HO2 := Lib.hid (show wr.ownsRow w.heap.size 5 1 (.slice A2 m c2) m (cellsOf (wrOs l ++ List.replicate 0 0)) by have := HO.out; rw [HN.out, List.take_length] at this; simpa using this)
      have HM2 := Lib.hid (show m = (wrOs l).length by have := HM.out; rw [HN.out, List.take_length] at this; exact this)
      clear HO HM
      go_wp2_with fail
      go_loopw [3] (fun v3 wz => ∃ (j z : Nat) (A3 : Option Addr) (c3 : Nat), v3 = .slice A3 z c3 ∧ j ≤ padN m ∧ Hid (z = m + j) ∧ Hid (wz.ownsRow w.heap.size 5 1 (.slice A3 z c3) z (cellsOf (wrOs l ++ List.replicate j 0))) ∧ Hid (Below w.heap.size w wz)) (fun v3 _ => 44 - lenOf11 v3)
      case atStart => exact ⟨0, m, A2, c2, rfl, Nat.zero_le _, Lib.hid rfl, HO2, HB⟩
      case round =>
        obtain ⟨j, z, A3, c3, rfl, hj, HZ, HOz, HBz⟩ := hrel
        have hpad : padN m ≤ 3 := by unfold padN; omega
        have hz43 : z ≤ 43 := by have := HZ.out; omega
        have htm : (z : Int).tmod 4 = (z : Int) % 4 := Int.tmod_eq_emod_of_nonneg (by omega)
        by_cases h4 : z % 4 = 0
        · have e4 : (z : Int) % 4 = 0 := by omega
          have e5 : (z : Int).tmod 4 = 0 := by rw [htm]; exact e4
          have HP := Lib.hid (show wrOs l ++ List.replicate j 0 = wrP l by unfold wrP; rw [← HM2.out, show padN m = j by have := HZ.out; unfold padN at hj ⊢; omega])
          have hown := HOz.out
          rw [HP.out] at hown
          have hcv := own_str11 hown (by have := hown.1; rw [cellsOf_length] at this; omega)
          clear h4 htm hown
          go_wp2_with fail
          go_ret
          exact ⟨rfl, HBz.out⟩
        · have e4 : ¬ (z : Int) % 4 = 0 := by omega
          have e5 : ¬ (z : Int).tmod 4 = 0 := by rw [htm]; exact e4
          have d4 : ((z : Int) % 4 != 0) = true := by rw [bne_iff_ne]; exact e4
          have d5 : ((z : Int).tmod 4 != 0) = true := by rw [bne_iff_ne]; exact e5
          have hj1 : j + 1 ≤ padN m := by have := HZ.out; unfold padN at hj ⊢; omega
          have hO := HOz.out
          rw [← eu8_cells] at hO
          have HOE := Lib.hid hO
          have hbz := HBz.out.size
          have HBS := Lib.hid hbz
          clear h4 htm hO HOz
          go_wp2_with (at_builtin; refine wpList_push (E := EU8) u8Ty10 (by rfl) _ _ (by rfl) w.heap.size _ z (wrOs l ++ List.replicate j 0) [0] (by rfl) (HOE.out.alloc _) _ 1 1 #[.int .u8 0] (0, 0) (by rfl) (heap_alloc_new _ _) rfl rfl (by omega) (by omega) (by decide) ?hb ?_)
          case hb => have := HBS.out; simp; omega
          intro g2 cap2 w9 hown hgrow hat hlt2
          have HB9 := Lib.hid ((HBz.out.alloc HBz.out.size (.cells #[.int .u8 0] 5)).grown hgrow (by have := HBS.out; simp; omega) (fun j hj => (own_blk_in HOE.out _ hj).1))
          have HO9 := Lib.hid (show w9.ownsRow w.heap.size 5 1 (.slice (some ⟨g2, 0, none⟩) (z + 1) cap2) (z + 1) (cellsOf (wrOs l ++ List.replicate (j + 1) 0)) by
            rw [List.replicate_succ', ← eu8_cells]
            first | exact hown | simpa using hown)
          have HZ9 := Lib.hid (show z + 1 = m + (j + 1) by have := HZ.out; omega)
          clear hown hgrow hat hlt2 HBz HOE HZ
          go_wp2_with fail
          go_roundw
          case rel => exact ⟨j + 1, z + 1, _, cap2, rfl, hj1, HZ9, HO9, HB9⟩
          case measure => simp only [lenOf11]; omega
end Go.Proofs.Ytimilcjlogcfhaa
