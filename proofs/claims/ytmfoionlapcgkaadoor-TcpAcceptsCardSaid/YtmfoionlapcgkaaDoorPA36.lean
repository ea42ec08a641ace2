/- Contracts of the functions, part 36: RepLay, TcpPOp. -/
import Derived.Shelf.LaysM
import Derived.Shelf.Strings.Repeat
import Derived.Test.YtmfoionlapcgkaaDoorProg
import Derived.Deep.Cut
import Derived.Lib.Repeat
import Derived.Test.YtmfoionlapcgkaaDoorPA6
import Derived.Test.YtmfoionlapcgkaaDoorPA18
import Derived.Test.YtmfoionlapcgkaaDoorPA21
import Derived.Test.YtmfoionlapcgkaaDoorPA24
import Derived.Test.YtmfoionlapcgkaaDoorPA31
/- Contract of strings.Repeat laid at this seat, in plain words. -/
namespace Go.Proofs.YtmfoionlapcgkaaDoor
open Go.Shelf Go.RowKit Go.Lib
def lays105_ren : Go.Shelf.Ren := ⟨fun | 105 => 64 | 212 => 76 | 99 => 77 | 165 => 78 | 166 => 79 | 170 => 80 | 169 => 81 | 263 => 82 | 264 => 83 | 206 => 84 | 240 => 85 | 241 => 86 | 276 => 87 | 277 => 88 | n => n, fun | 9 => 9 | 3 => 3 | 4 => 4 | 20 => 20 | 0 => 0 | 46 => 92 | 109 => 95 | 5 => 5 | 72 => 100 | 76 => 104 | 51 => 28 | 146 => 110 | 53 => 22 | 148 => 112 | 70 => 98 | 37 => 48 | 75 => 103 | 127 => 114 | 164 => 115 | 80 => 107 | n => n, fun | n => n⟩
theorem lays105 : Go.Proofs.Lays.n105 Tryd.prog lays105_ren := {
  mixed := by kernel_rfl
  f99 := Tryd.func77.trans (congrArg some (by kernel_rfl))
  f105 := Tryd.func64.trans (congrArg some (by kernel_rfl))
  f165 := Tryd.func78.trans (congrArg some (by kernel_rfl))
  f166 := Tryd.func79.trans (congrArg some (by kernel_rfl))
  f169 := Tryd.func81.trans (congrArg some (by kernel_rfl))
  f170 := Tryd.func80.trans (congrArg some (by kernel_rfl))
  f206 := Tryd.func84.trans (congrArg some (by kernel_rfl))
  f212 := Tryd.func76.trans (congrArg some (by kernel_rfl))
  f240 := Tryd.func85.trans (congrArg some (by kernel_rfl))
  f241 := Tryd.func86.trans (congrArg some (by kernel_rfl))
  f263 := Tryd.func82.trans (congrArg some (by kernel_rfl))
  f264 := Tryd.func83.trans (congrArg some (by kernel_rfl))
  f276 := Tryd.func87.trans (congrArg some (by kernel_rfl))
  f277 := Tryd.func88.trans (congrArg some (by kernel_rfl))
  t0 := Tryd.underlying0
  a0 := Tryd.isAgg0
  z0 := Tryd.sizeOf0
  v0 := Tryd.zeroValue0
  t3 := Tryd.underlying3
  a3 := Tryd.isAgg3
  z3 := Tryd.sizeOf3
  v3 := Tryd.zeroValue3
  t4 := Tryd.underlying4
  a4 := Tryd.isAgg4
  z4 := Tryd.sizeOf4
  v4 := Tryd.zeroValue4
  t5 := Tryd.underlying5
  a5 := Tryd.isAgg5
  z5 := Tryd.sizeOf5
  v5 := Tryd.zeroValue5
  t9 := Tryd.underlying9
  a9 := Tryd.isAgg9
  z9 := Tryd.sizeOf9
  v9 := Tryd.zeroValue9
  t20 := Tryd.underlying20
  a20 := Tryd.isAgg20
  z20 := Tryd.sizeOf20
  v20 := Tryd.zeroValue20
  t37 := Tryd.underlying48
  a37 := Tryd.isAgg48
  z37 := Tryd.sizeOf48
  v37 := Tryd.zeroValue48
  t46 := Tryd.underlying92
  a46 := Tryd.isAgg92
  z46 := Tryd.sizeOf92
  v46 := Tryd.zeroValue92
  t51 := Tryd.underlying28
  a51 := Tryd.isAgg28
  z51 := Tryd.sizeOf28
  v51 := Tryd.zeroValue28
  t53 := Tryd.underlying22
  a53 := Tryd.isAgg22
  z53 := Tryd.sizeOf22
  v53 := Tryd.zeroValue22
  t70 := Tryd.underlying98
  a70 := Tryd.isAgg98
  z70 := Tryd.sizeOf98
  v70 := Tryd.zeroValue98
  t72 := Tryd.underlying100
  a72 := Tryd.isAgg100
  z72 := Tryd.sizeOf100
  v72 := Tryd.zeroValue100
  t75 := Tryd.underlying103
  a75 := Tryd.isAgg103
  z75 := Tryd.sizeOf103
  v75 := Tryd.zeroValue103
  t76 := Tryd.underlying104
  a76 := Tryd.isAgg104
  z76 := Tryd.sizeOf104
  v76 := Tryd.zeroValue104
  t109 := Tryd.underlying95
  a109 := Tryd.isAgg95
  z109 := Tryd.sizeOf95
  v109 := Tryd.zeroValue95
  t127 := Tryd.underlying114
  a127 := Tryd.isAgg114
  z127 := Tryd.sizeOf114
  v127 := Tryd.zeroValue114
  t146 := Tryd.underlying110
  a146 := Tryd.isAgg110
  z146 := Tryd.sizeOf110
  v146 := Tryd.zeroValue110
  t148 := Tryd.underlying112
  a148 := Tryd.isAgg112
  z148 := Tryd.sizeOf112
  v148 := Tryd.zeroValue112
  t164 := Tryd.underlying115
  a164 := Tryd.isAgg115
  z164 := Tryd.sizeOf115
  v164 := Tryd.zeroValue115 }
theorem Builder_Extra_105 : Builder.Extra Tryd.prog lays105_ren := {
  sizeBuilder := by kernel_rfl
  liesBuilder := by kernel_rfl
  t5 := Tryd.underlying5
  a5 := Tryd.isAgg5
  z5 := Tryd.sizeOf5
  v5 := Tryd.zeroValue5
  infoByte := by kernel_rfl
  cellsByte := by kernel_rfl
  sizeByte := by kernel_rfl
  neB5 := by decide }
theorem lib_strings_Repeat (s : ByteArray) (c : Nat) (w : World) (hc : c ≤ 9223372036854775807) (hlen : s.size * c ≤ 140737488355328) :
    Calls Tryd.prog 64 #[.string s, .int .i64 c] w fun e w' => e = .returned (.string ⟨(Lib.repeatL s.data.toList c).toArray⟩) ∧ Below w.heap.size w w' := Any.strings_Repeat lays105 Builder_Extra_105 s c w hc hlen
end Go.Proofs.YtmfoionlapcgkaaDoor

/- Contracts of the program of layer 14: optionsSize, optionBytes, inRange. -/
namespace Go.Proofs.YtmfoionlapcgkaaDoor
open Go.ChangeShapes Go.WideShapes Go.ChangeAt Go.RowKit
set_option linter.unusedVariables false
set_option maxRecDepth 100000

set_option maxHeartbeats 4000000 in
set_option maxRecDepth 20000 in
theorem psize14_any (A : Option Addr) (c : Nat) (l : List OpR) (w : World) (h : RowL EOpt w A l) (hl : l.length ≤ 1000) (hd : ∀ x ∈ l, x.dat.length ≤ 281474976710656) :
    Calls Tryd.prog 37 #[.slice A l.length c] w fun e w' => e = .returned (.int .i64 ((wrOs l).length : Nat)) ∧ Below w.heap.size w w' := by
  obtain ⟨n, hn⟩ : ∃ n, n = l.length := ⟨_, rfl⟩
  rw [← hn] at hl ⊢
  have HN := Lib.hid hn
  have HS := Lib.hid h
  have HD := Lib.hid hd
  clear hn h hd
  go_enter Tryd.func37, Tryd.ntmps37
  go_wp2_with fail
  go_loopw [3, 8] (fun s i wr => ∃ k t : Nat, i = .int .i64 (k : Int) ∧ s = .int .i64 (t : Int) ∧ k ≤ n ∧ t ≤ k * 281474976710658 ∧ Hid (t = (wrOs (l.take k)).length) ∧ Hid (Below w.heap.size w wr)) (fun _ i _ => n - (intOf i).toNat)
  case atStart => exact ⟨0, 0, rfl, rfl, Nat.zero_le _, by omega, Lib.hid (by simp [wrOs]), Lib.hid (Below.refl _ _)⟩
  case round =>
    obtain ⟨k, t, rfl, rfl, hk, ht, HT, HB⟩ := hrel
    by_cases hlt : k < n
    · have hki : (k : Int) < (n : Int) := by omega
      have hki0 : (0 : Int) ≤ (k : Int) := by omega
      have dlt : decide ((k : Int) < (n : Int)) = true := by simp; omega
      obtain ⟨x, hget⟩ : ∃ x, l[k]? = some x := ⟨l[k]'(by have := HN.out; omega), List.getElem?_eq_getElem _⟩
      obtain ⟨g, ob, rfl, hg⟩ := HS.out.shapeA (by have := HN.out; omega)
      obtain ⟨c0, c1⟩ := opt_at HS.out hget HB.out
      have hxd := HD.out x (List.mem_of_getElem? hget)
      obtain ⟨y, hy⟩ : ∃ y, y = x.dat.length := ⟨_, rfl⟩
      have hsz : (str x.dat).size = y := by rw [str_size, hy]
      obtain ⟨t1, ht1⟩ : ∃ t1, t1 = t + (2 + y) := ⟨_, rfl⟩
      have hmn : (t : Int) + (2 + (y : Int)) = (t1 : Int) := by omega
      have HT1 := Lib.hid (show t1 = (wrOs (l.take (k + 1))).length by rw [wrOs_next hget, List.length_append, wrO_len, ht1, HT.out, ← hy])
      rw [← hy] at hxd
      have ht41 : t1 ≤ (k + 1) * 281474976710658 := by omega
      have hkt : k * 281474976710658 ≤ 281474976710658000 := by omega
      have HBA := Lib.hid (HB.out.alloc HB.out.size (.cells #[.int .i64 x.kd, .string (str x.dat)] 51))
      generalize str x.dat = D at *
      generalize x.kd = kd at *
      clear hget hy ht1
      have ht9 : t ≤ 281474976710658000 := by omega
      go_wp2_with fail
      go_roundw
      case rel => exact ⟨k + 1, t1, by go_num, by first | rfl | simp [hmn] | (congr 1; omega), by omega, ht41, HT1, HBA⟩
      case measure => simp [intOf]; omega
    · obtain rfl : k = n := by omega
      have dlt : decide ((k : Int) < (k : Int)) = false := by simp
      have nlt : ¬ (k : Int) < (k : Int) := by omega
      have HT2 := Lib.hid (show t = (wrOs l).length by have := HT.out; rw [HN.out, List.take_length] at this; exact this)
      go_wp2_with fail
      go_ret
      exact ⟨by rw [← HT2.out]; rfl, HB.out⟩
theorem len_wrOsT (l : List OpR) : l.length ≤ (wrOs l).length := by
  induction l with
  | nil => exact Nat.zero_le _
  | cons a r ih => rw [wrOs_cons, List.length_append, wrO_len, List.length_cons]; omega
theorem repeat_zeroT (k : Nat) : Lib.repeatL [0] k = List.replicate k 0 := by
  have := Lib.repeatL_replicate 0 1 k
  simpa using this
set_option maxHeartbeats 8000000 in
set_option maxRecDepth 100000 in
theorem pbytes14_any (A : Option Addr) (c : Nat) (l : List OpR) (w : World) (h : RowL EOpt w A l) (hl : (wrOs l).length ≤ 40) (hk : okK l) :
    Calls Tryd.prog 38 #[.slice A l.length c] w fun e w' => e = .returned (.string (str (wrP l))) ∧ Below w.heap.size w w' := by
  obtain ⟨n, hn⟩ : ∃ n, n = l.length := ⟨_, rfl⟩
  rw [← hn]
  have HN := Lib.hid hn
  have HS := Lib.hid h
  have HL := Lib.hid hl
  have HK := Lib.hid hk
  have hn40 : n ≤ 40 := by rw [hn]; exact Nat.le_trans (len_wrOsT l) hl
  clear hn h hl hk
  go_enter Tryd.func38, Tryd.ntmps38
  go_wp2_with fail
  go_loopw [3, 9] (fun v3 v9 wr => ∃ (k : Nat) (D : ByteArray), v3 = .string D ∧ v9 = .int .i64 (k : Int) ∧ k ≤ n ∧ Hid (D = str (wrOs (l.take k))) ∧ Hid (Below w.heap.size w wr)) (fun _ v9 _ => n - (intOf v9).toNat)
  case atStart => exact ⟨0, ⟨#[]⟩, rfl, rfl, Nat.zero_le _, Lib.hid rfl, Lib.hid (Below.refl _ _)⟩
  case round =>
    obtain ⟨k, D, rfl, rfl, hk, HD, HB⟩ := hrel
    by_cases hlt : k < n
    · have hki : (k : Int) < (n : Int) := by omega
      have hki0 : (0 : Int) ≤ (k : Int) := by omega
      have dlt : decide ((k : Int) < (n : Int)) = true := by simp; omega
      obtain ⟨x, hget⟩ : ∃ x, l[k]? = some x := ⟨l[k]'(by have := HN.out; omega), List.getElem?_eq_getElem _⟩
      obtain ⟨g0, ob, rfl, hg0⟩ := HS.out.shapeA (by have := HN.out; omega)
      obtain ⟨c0, c1⟩ := opt_at HS.out hget HB.out
      obtain ⟨hx1, hx2⟩ := HK.out x (List.mem_of_getElem? hget)
      have htk := wrOs_take l (k + 1)
      rw [wrOs_next hget, List.length_append, wrO_len] at htk
      have hy40 : (wrOs (l.take k)).length + (2 + x.dat.length) ≤ 40 := by have h1 := HL.out; omega
      obtain ⟨a, ha⟩ : ∃ a : Nat, x.kd = (a : Int) := ⟨x.kd.toNat, by omega⟩
      obtain ⟨b, hb⟩ : ∃ b, b = 2 + x.dat.length := ⟨_, rfl⟩
      have ha255 : a < 256 := by omega
      have hb255 : b < 256 := by omega
      obtain ⟨T1, hT1⟩ : ∃ T, T = str (beL 1 a) := ⟨_, rfl⟩
      obtain ⟨T2, hT2⟩ : ∃ T, T = str (beL 1 b) := ⟨_, rfl⟩
      obtain ⟨E, hE⟩ : ∃ E, E = str x.dat := ⟨_, rfl⟩
      have s1 : T1.size = 1 := by rw [hT1, str_size, beL_len]
      have s2 : T2.size = 1 := by rw [hT2, str_size, beL_len]
      have s3 : E.size = x.dat.length := by rw [hE, str_size]
      have s4 : D.size ≤ 40 := by rw [HD.out, str_size]; omega
      have s5 : E.size ≤ 40 := by omega
      have hbi : (2 : Int) + (E.size : Int) = (b : Int) := by omega
      have HP1 := Lib.hid (fun (W : World) => show Calls Tryd.prog 39 #[.int .i64 (a : Int), .int .i64 1] W fun e w' => e = .returned (.string T1) ∧ Below W.heap.size W w' from by rw [hT1]; exact pputB_any 1 a (a : Int) 1 rfl rfl (by decide) (by decide) (by omega) (by omega) W)
      have HP2 := Lib.hid (fun (W : World) => show Calls Tryd.prog 39 #[.int .i64 (b : Int), .int .i64 1] W fun e w' => e = .returned (.string T2) ∧ Below W.heap.size W w' from by rw [hT2]; exact pputB_any 1 b (b : Int) 1 rfl rfl (by decide) (by decide) (by omega) (by omega) W)
      have HNX := Lib.hid (show D ++ (T1 ++ T2 ++ E) = str (wrOs (l.take (k + 1))) from by
        rw [wrOs_next hget, HD.out, hT1, hT2, hE]
        unfold wrO
        rw [ha, ← hb, Int.toNat_natCast]
        have e1 : ∀ z : Nat, beL 1 z = [UInt8.ofNat z] := fun z => by simp only [beL, leL, List.reverse_cons, List.reverse_nil, List.nil_append]; exact congrArg (· :: []) (UInt8.toNat_inj.1 (by simp))
        rw [e1, e1]
        simp only [str_append, List.cons_append, List.nil_append])
      have r0 : (9223372036854775807 < T1.size + T2.size) = False := by simp only [eq_iff_iff, iff_false]; omega
      have r1 : (9223372036854775807 < T1.size + T2.size + E.size) = False := by simp only [eq_iff_iff, iff_false]; omega
      have r1a : (9223372036854775807 < (T1 ++ T2).size + E.size) = False := by simp only [eq_iff_iff, iff_false, ByteArray.size_append]; omega
      have r2 : (9223372036854775807 < D.size + (T1.size + T2.size + E.size)) = False := by simp only [eq_iff_iff, iff_false]; omega
      have r2a : (9223372036854775807 < D.size + (T1 ++ T2 ++ E).size) = False := by simp only [eq_iff_iff, iff_false, ByteArray.size_append]; omega
      have r2b : (9223372036854775807 < D.size + (T1 ++ T2 ++ E).size) = False := by simp only [eq_iff_iff, iff_false, ByteArray.size_append]; omega
      rw [ha] at c0
      rw [← hE] at c1
      obtain ⟨W1, hW1⟩ : ∃ W, W = wr.alloc (.cells #[.int .i64 (a : Int), .string E] 51) := ⟨_, rfl⟩
      obtain ⟨g, hg⟩ : ∃ g, g = wr.heap.size := ⟨_, rfl⟩
      have HX := Lib.hid (show Cells W1 g 51 #[.int .i64 (a : Int), .string E] by rw [hW1, hg]; exact heap_alloc_new wr _)
      have HB1 := Lib.hid (show Below w.heap.size w W1 by rw [hW1]; exact HB.out.alloc HB.out.size _)
      have HV := Lib.hid (fun (W : World) (hb : Below W1.heap.size W1 W) (i : Nat) (v : Value) (hv : (#[.int .i64 (a : Int), .string E] : Array Value)[i]? = some v) => show W.cell? ⟨g, i, none⟩ = some v from box_cell HX.out hb i v hv)
      have HBX := Lib.hid (Below.refl W1.heap.size W1)
      clear hget htk hx1 hx2 ha hb hT1 hT2 hE hy40 s1 s2 s3 s4 s5
      go_upto_region 5 with fail
      rw [← hg, ← hW1]
      clear hg hW1 HX c0 c1
      refine wp_region_pick (fun w' => Below W1.heap.size W1 w') (by kernel_rfl) (by kernel_rfl) (Below.refl _ _) ⟨rfl, rfl, rfl, Nat.le_refl _, fun _ _ => rfl⟩ (fun pw hp hq => ?_)
      have y0 : ∀ u, (pw u).cell? ⟨g, 0, none⟩ = some (Value.int .i64 (a : Int)) := fun u => HV.out _ (HBX.out.trans ((hp u).mono HBX.out.size)) 0 _ rfl
      have y1 : ∀ u, (pw u).cell? ⟨g, 1, none⟩ = some (Value.string E) := fun u => HV.out _ (HBX.out.trans ((hp u).mono HBX.out.size)) 1 _ rfl
      have HP := Lib.hid hp
      have HQ := Lib.hid hq
      clear hp hq
      repeat (go_big_quiet_step ((first | with_reducible exact Calls.pick_of HQ.out (fun W' hb => (HP.out _).trans (hb.mono (HP.out _).size)) (HP1.out _) | with_reducible exact Calls.pick_of HQ.out (fun W' hb => (HP.out _).trans (hb.mono (HP.out _).size)) (HP2.out _))))
      refine wpQuiet_nil ?_
      rintro _ ⟨u, rfl⟩
      have HBY := Lib.hid (HBX.out.trans ((HP.out u).mono HBX.out.size))
      generalize pw u = w6 at *
      clear HP HQ y0 y1 HBX HV HP1 HP2
      have HB6 := Lib.hid (HB1.out.trans (HBY.out.mono HB1.out.size))
      clear HB1 HBY HB
      go_wp2_with fail
      go_roundw
      case rel => exact ⟨k + 1, _, rfl, by go_num, by omega, HNX, HB6⟩
      case measure => simp [intOf]; omega
    · obtain rfl : k = n := by omega
      have dlt : decide ((k : Int) < (k : Int)) = false := by simp
      have nlt : ¬ (k : Int) < (k : Int) := by omega
      have HD2 := Lib.hid (show D = str (wrOs l) by have := HD.out; rwa [HN.out, List.take_length] at this)
      obtain ⟨z, hz⟩ : ∃ z, z = (wrOs l).length := ⟨_, rfl⟩
      have hDz : D.size = z := by rw [HD2.out, str_size, hz]
      have hz40 : z ≤ 40 := by rw [hz]; exact HL.out
      obtain ⟨p1, hp1⟩ : ∃ p, p = z % 4 := ⟨_, rfl⟩
      obtain ⟨p2, hp2⟩ : ∃ p, p = 4 - p1 := ⟨_, rfl⟩
      obtain ⟨p3, hp3⟩ : ∃ p, p = p2 % 4 := ⟨_, rfl⟩
      have t1 : (z : Int).tmod 4 = (p1 : Int) := by rw [Int.tmod_eq_emod_of_nonneg (by omega)]; omega
      have t1' : (z : Int) % 4 = (p1 : Int) := by omega
      have t2 : (4 : Int) - (p1 : Int) = (p2 : Int) := by omega
      have t3 : (p2 : Int).tmod 4 = (p3 : Int) := by rw [Int.tmod_eq_emod_of_nonneg (by omega)]; omega
      have t3' : (p2 : Int) % 4 = (p3 : Int) := by omega
      have hp34 : p3 ≤ 3 := by omega
      have hp24 : p2 ≤ 4 := by omega
      have hp14 : p1 ≤ 3 := by omega
      obtain ⟨Q, hQ⟩ : ∃ Q, Q = str (List.replicate p3 0) := ⟨_, rfl⟩
      have HRP := Lib.hid (fun (W : World) => show Calls Tryd.prog 64 #[.string ⟨#[0]⟩, .int .i64 (p3 : Int)] W fun e w' => e = .returned (.string Q) ∧ Below W.heap.size W w' from by
        have := lib_strings_Repeat ⟨#[0]⟩ p3 W (by omega) (by show 1 * p3 ≤ _; omega)
        have hrp : (⟨(Lib.repeatL (⟨#[0]⟩ : ByteArray).data.toList p3).toArray⟩ : ByteArray) = Q := by
          show (⟨(Lib.repeatL [0] p3).toArray⟩ : ByteArray) = _
          rw [repeat_zeroT, hQ]; rfl
        rwa [hrp] at this)
      have hQs : Q.size = p3 := by rw [hQ, str_size, List.length_replicate]
      have r0 : (9223372036854775807 < D.size + Q.size) = False := by simp only [eq_iff_iff, iff_false]; omega
      have HFI := Lib.hid (show D ++ Q = str (wrP l) from by
        rw [HD2.out, hQ, str_append]
        unfold wrP padN
        rw [← hz, hp3, hp2, hp1])
      clear hz hQ hp1 hp2 hp3 hQs
      have r0' : (9223372036854775807 < z + Q.size) = False := by rw [hDz] at r0; exact r0
      go_wp2_with fail
      refine (HRP.out _).mono ?_
      rintro e w2 ⟨rfl, hb2⟩
      have HB2 := Lib.hid (HB.out.trans (hb2.mono HB.out.size))
      clear hb2 HB
      go_wp2_with fail
      go_ret
      exact ⟨by rw [← HFI.out]; rfl, HB2.out⟩
set_option maxHeartbeats 8000000 in
set_option maxRecDepth 100000 in
theorem prange14_any (src dst fl win urg : Int) (seq ack : Nat) (l : List OpR) (A : Option Addr) (c : Nat) (D : ByteArray) (R : Bool) (w : World) (h : RowL EOpt w A l) (hl : l.length ≤ 1000000)
    (hR : R = true ↔ ¬ (¬ wrd src ∨ ¬ wrd dst ∨ ¬ wrd win ∨ ¬ wrd urg ∨ (fl < 0 ∨ 63 < fl) ∨ ¬ okK l)) :
    Calls Tryd.prog 36 #[.agg #[.int .i64 src, .int .i64 dst, .int .u32 (seq : Int), .int .u32 (ack : Int), .int .i64 fl, .int .i64 win, .int .i64 urg, .slice A l.length c, .string D]] w fun e w' => e = .returned (.bool R) ∧ Below w.heap.size w w' := by
  obtain ⟨n, hn⟩ : ∃ n, n = l.length := ⟨_, rfl⟩
  rw [← hn] at hl ⊢
  have HN := Lib.hid hn
  have HS := Lib.hid h
  have HR := Lib.hid hR
  clear hn h hR
  have HU := Lib.hid (fun (n l : Int) (q : Bool) (hq : decide (0 ≤ n ∧ n ≤ l) = q) (W : World) => show Calls Tryd.prog 63 #[.int .i64 n, .int .i64 l] W fun e w' => e = .returned (.bool q) ∧ W = w' by rw [← hq]; exact pupto14_any n l W)
  obtain ⟨q1, hq1⟩ : ∃ q : Bool, decide (0 ≤ src ∧ src ≤ 65535) = q := ⟨_, rfl⟩
  have Hq1 := Lib.hid hq1
  clear hq1
  obtain ⟨q2, hq2⟩ : ∃ q : Bool, decide (0 ≤ dst ∧ dst ≤ 65535) = q := ⟨_, rfl⟩
  have Hq2 := Lib.hid hq2
  clear hq2
  obtain ⟨q3, hq3⟩ : ∃ q : Bool, decide (0 ≤ fl ∧ fl ≤ 63) = q := ⟨_, rfl⟩
  have Hq3 := Lib.hid hq3
  clear hq3
  obtain ⟨q4, hq4⟩ : ∃ q : Bool, decide (0 ≤ win ∧ win ≤ 65535) = q := ⟨_, rfl⟩
  have Hq4 := Lib.hid hq4
  clear hq4
  obtain ⟨q5, hq5⟩ : ∃ q : Bool, decide (0 ≤ urg ∧ urg ≤ 65535) = q := ⟨_, rfl⟩
  have Hq5 := Lib.hid hq5
  clear hq5
  have HFT := Lib.hid (show (q1 && q2 && q3 && q4 && q5) = true → okK l → R = true from by
    intro hq ho
    rw [HR.out]
    simp only [Bool.and_eq_true] at hq
    obtain ⟨⟨⟨⟨a1, a2⟩, a3⟩, a4⟩, a5⟩ := hq
    have b1 := Hq1.out
    have b2 := Hq2.out
    have b3 := Hq3.out
    have b4 := Hq4.out
    have b5 := Hq5.out
    rw [a1, decide_eq_true_iff] at b1
    rw [a2, decide_eq_true_iff] at b2
    rw [a3, decide_eq_true_iff] at b3
    rw [a4, decide_eq_true_iff] at b4
    rw [a5, decide_eq_true_iff] at b5
    unfold wrd
    rintro (g | g | g | g | g | g)
    · exact g b1
    · exact g b2
    · exact g b4
    · exact g b5
    · omega
    · exact g ho)
  have HFF := Lib.hid (show (q1 && q2 && q3 && q4 && q5) = false → R = false from by
    intro hq
    rw [← Bool.not_eq_true]
    intro hr
    have g := HR.out.1 hr
    unfold wrd at g
    simp only [not_or, Classical.not_not] at g
    obtain ⟨g1, g2, g4, g5, g3, _⟩ := g
    have b1 := Hq1.out
    have b2 := Hq2.out
    have b3 := Hq3.out
    have b4 := Hq4.out
    have b5 := Hq5.out
    rw [decide_eq_true g1] at b1
    rw [decide_eq_true g2] at b2
    rw [decide_eq_true (show 0 ≤ fl ∧ fl ≤ 63 by omega)] at b3
    rw [decide_eq_true g4] at b4
    rw [decide_eq_true g5] at b5
    rw [← b1, ← b2, ← b3, ← b4, ← b5] at hq
    cases hq)
  obtain ⟨W1, hW1⟩ : ∃ W, W = w.alloc (.cells #[.int .i64 src, .int .i64 dst, .int .u32 (seq : Int), .int .u32 (ack : Int), .int .i64 fl, .int .i64 win, .int .i64 urg, .slice A n c, .string D] 31) := ⟨_, rfl⟩
  obtain ⟨g, hg⟩ : ∃ g, g = w.heap.size := ⟨_, rfl⟩
  have HX := Lib.hid (show Cells W1 g 31 #[.int .i64 src, .int .i64 dst, .int .u32 (seq : Int), .int .u32 (ack : Int), .int .i64 fl, .int .i64 win, .int .i64 urg, .slice A n c, .string D] by rw [hW1, hg]; exact heap_alloc_new w _)
  have HB1 := Lib.hid (show Below w.heap.size w W1 by rw [hW1]; exact below_alloc6 w _)
  have HV := Lib.hid (fun (W : World) (hb : Below W1.heap.size W1 W) (i : Nat) (v : Value) (hv : (#[.int .i64 src, .int .i64 dst, .int .u32 (seq : Int), .int .u32 (ack : Int), .int .i64 fl, .int .i64 win, .int .i64 urg, .slice A n c, .string D] : Array Value)[i]? = some v) => show W.cell? ⟨g, i, none⟩ = some v from box_cell HX.out hb i v hv)
  have HW := Lib.hid (fun (W : World) (hb : Below W1.heap.size W1 W) => HB1.out.trans (hb.mono HB1.out.size))
  have x9 := HV.out W1 (Below.refl _ _) 7 (.slice A n c) rfl
  go_enter Tryd.func36, Tryd.ntmps36
  go_upto_region 1 with fail
  rw [← hW1, ← hg]
  clear hW1 hg
  go_wp2_with fail
  go_loopw [8] (fun i wr => ∃ k : Nat, i = .int .i64 (k : Int) ∧ k ≤ n ∧ Hid (okK (l.take k)) ∧ Hid (Below W1.heap.size W1 wr)) (fun i _ => n - (intOf i).toNat)
  case atStart => exact ⟨0, rfl, Nat.zero_le _, Lib.hid (fun x hx => by simp at hx), Lib.hid (Below.refl _ _)⟩
  case round =>
    obtain ⟨k, rfl, hk, HK, HB⟩ := hrel
    by_cases hlt : k < n
    · have hki : (k : Int) < (n : Int) := by omega
      have hki0 : (0 : Int) ≤ (k : Int) := by omega
      have dlt : decide ((k : Int) < (n : Int)) = true := by simp; omega
      obtain ⟨x, hget⟩ : ∃ x, l[k]? = some x := ⟨l[k]'(by have := HN.out; omega), List.getElem?_eq_getElem _⟩
      obtain ⟨ga, ob, rfl, hga⟩ := HS.out.shapeA (by have := HN.out; omega)
      obtain ⟨c0, c1⟩ := opt_at HS.out hget (HW.out _ HB.out)
      have hmem := List.mem_of_getElem? hget
      have HBA := Lib.hid (HB.out.alloc HB.out.size (.cells #[.int .i64 x.kd, .string (str x.dat)] 51))
      by_cases h1 : x.kd < 2
      · have d1 : decide (x.kd < 2) = true := by simp; omega
        have HF := Lib.hid (show R = false by rw [← Bool.not_eq_true]; intro hh; exact HR.out.1 hh (.inr (.inr (.inr (.inr (.inr fun ho => by have := ho x hmem; omega))))))
        clear hget hmem
        go_wp2_with fail
        go_ret
        exact ⟨by rw [HF.out]; rfl, HW.out _ HBA.out⟩
      · have d1 : decide (x.kd < 2) = false := by simp; omega
        by_cases h2 : 255 < x.kd
        · have d2 : decide (255 < x.kd) = true := by simp; omega
          have HF := Lib.hid (show R = false by rw [← Bool.not_eq_true]; intro hh; exact HR.out.1 hh (.inr (.inr (.inr (.inr (.inr fun ho => by have := ho x hmem; omega))))))
          clear hget hmem
          go_wp2_with fail
          go_ret
          exact ⟨by rw [HF.out]; rfl, HW.out _ HBA.out⟩
        · have d2 : decide (255 < x.kd) = false := by simp; omega
          have HK1 := Lib.hid (okK_next HK.out hget (by omega) (by omega))
          clear hget hmem
          go_wp2_with fail
          go_roundw
          case rel => exact ⟨k + 1, by go_num, by omega, HK1, HBA⟩
          case measure => simp [intOf]; omega
    · obtain rfl : k = n := by omega
      have dlt : decide ((k : Int) < (k : Int)) = false := by simp
      have nlt : ¬ (k : Int) < (k : Int) := by omega
      have HOK := Lib.hid (show okK l by
        have := HK.out
        rwa [HN.out, List.take_length] at this)
      have y0 := HV.out wr HB.out 0 (.int .i64 src) rfl
      have y1 := HV.out wr HB.out 1 (.int .i64 dst) rfl
      have y4 := HV.out wr HB.out 4 (.int .i64 fl) rfl
      have y5 := HV.out wr HB.out 5 (.int .i64 win) rfl
      have y6 := HV.out wr HB.out 6 (.int .i64 urg) rfl
      go_wp2_with fail
      refine (HU.out src 65535 q1 Hq1.out _).mono ?_
      rintro e w2 ⟨rfl, rfl⟩
      cases q1
      · have HF := Lib.hid (HFF.out (by simp))
        go_wp2_with fail
        go_ret
        exact ⟨by rw [HF.out]; rfl, HW.out _ HB.out⟩
      · go_wp2_with fail
        refine (HU.out dst 65535 q2 Hq2.out _).mono ?_
        rintro e w2 ⟨rfl, rfl⟩
        cases q2
        · have HF := Lib.hid (HFF.out (by simp))
          go_wp2_with fail
          go_ret
          exact ⟨by rw [HF.out]; rfl, HW.out _ HB.out⟩
        · go_wp2_with fail
          refine (HU.out fl 63 q3 Hq3.out _).mono ?_
          rintro e w2 ⟨rfl, rfl⟩
          cases q3
          · have HF := Lib.hid (HFF.out (by simp))
            go_wp2_with fail
            go_ret
            exact ⟨by rw [HF.out]; rfl, HW.out _ HB.out⟩
          · go_wp2_with fail
            refine (HU.out win 65535 q4 Hq4.out _).mono ?_
            rintro e w2 ⟨rfl, rfl⟩
            cases q4
            · have HF := Lib.hid (HFF.out (by simp))
              go_wp2_with fail
              go_ret
              exact ⟨by rw [HF.out]; rfl, HW.out _ HB.out⟩
            · go_wp2_with fail
              refine (HU.out urg 65535 q5 Hq5.out _).mono ?_
              rintro e w2 ⟨rfl, rfl⟩
              cases q5
              · have HF := Lib.hid (HFF.out (by simp))
                go_wp2_with fail
                go_ret
                exact ⟨by rw [HF.out]; rfl, HW.out _ HB.out⟩
              · have HF := Lib.hid (HFT.out (by rfl) HOK.out)
                go_wp2_with fail
                go_ret
                exact ⟨by rw [HF.out]; rfl, HW.out _ HB.out⟩
end Go.Proofs.YtmfoionlapcgkaaDoor
